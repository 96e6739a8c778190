/- Check bytes in the program: divide, bigEnd, Check. -/
import Derived.Test.YtmckgdjipkkklaaDoorFieldW
import Derived.Test.YtmckgdjipkkklaaDoorBss
import Derived.Lib.LaidTab
namespace Go.Proofs.YtmckgdjipkkklaaDoor
set_option linter.unusedVariables false
set_option linter.unusedSimpArgs false
open Go.RowKit

/-- The two tables lie as they were laid. -/
def Tabs (w : World) : Prop := 1 < w.heap.size ∧ ∀ i, i < 16 → w.cell? ⟨0, i, none⟩ = some (.int .u32 ((lowT.getD i 0 : Nat) : Int)) ∧ w.cell? ⟨1, i, none⟩ = some (.int .u32 ((highT.getD i 0 : Nat) : Int))
theorem Tabs.below {w w' : World} (h : Tabs w) (k : Below w.heap.size w w') : Tabs w' := by
  refine ⟨Nat.lt_of_lt_of_le h.1 k.size, fun i hi => ⟨?_, ?_⟩⟩
  · rw [k.cell (p := ⟨0, i, none⟩) (Nat.lt_of_le_of_lt (Nat.zero_le _) h.1)]; exact (h.2 i hi).1
  · rw [k.cell (p := ⟨1, i, none⟩) h.1]; exact (h.2 i hi).2
theorem Tabs.dr {w w' : World} (h : Tabs w) (k : Dr w w') : Tabs w' := h.below (k.below _)
/-- Bytes as numbers. -/
def nl (xs : List Int) : List Nat := xs.map Int.toNat
theorem nl_rn {xs : List Int} (h : Ran xs) : Rn (nl xs) := by
  intro x hx
  obtain ⟨y, hy, rfl⟩ := List.mem_map.1 hx
  have := h y hy
  omega
theorem nl_length (xs : List Int) : (nl xs).length = xs.length := by simp [nl]
theorem nl_append (xs ys : List Int) : nl (xs ++ ys) = nl xs ++ nl ys := by simp [nl]
theorem nl_drop {xs : List Int} {k : Nat} {y : Nat} (h : xs[k]? = some (y : Int)) : (nl xs).drop k = y :: (nl xs).drop (k + 1) := by
  obtain ⟨h1, h2⟩ := List.getElem?_eq_some_iff.1 h
  have h3 : k < (nl xs).length := by rw [nl_length]; exact h1
  rw [List.drop_eq_getElem_cons h3]
  congr 1
  simp [nl, h2]

theorem arr70 : Tryd.prog.underlying 70 = some (.array (Tryd.prog.arrayLen 70) (Tryd.prog.elem 70)) := by kernel_rfl
theorem arrLen70 : Tryd.prog.arrayLen 70 = 16 := by kernel_rfl
theorem elem70 : Tryd.prog.elem 70 = 62 := by kernel_rfl
theorem idx70 (b g : Nat) (h : g < 16) (W : World) : (Instr.indexAt 70 (.pointer (some ⟨b, 0, none⟩)) (.int .u8 (g : Int))).run Tryd.prog W = .ok (.pointer (some ⟨b, g, none⟩)) W := by
  rw [run_indexAt_array W 70 ⟨b, 0, none⟩ .u8 g arr70, elem70, Tryd.sizeOf62, arrLen70, if_pos (by omega)]
  simp [Result.andThen, Addr.add]
  omega

set_option maxHeartbeats 400000 in
theorem divide_any (r : Nat) (A : Option Addr) (n c : Nat) (xs : List Int) (w : World) (hr : r < 4294967296) (hx : Bs w A n xs) (hn : n ≤ maxLen) (ht : Tabs w) :
    Calls Tryd.prog 38 #[.int .u32 (r : Int), .slice A n c] w fun e w' => e = .returned (.int .u32 (chkF r (nl xs) : Nat)) ∧ Dr w w' := by
  unfold maxLen at hn
  have HL := Lib.hid hx.len
  have hran := nl_rn hx.2
  go_enter Tryd.func38, Tryd.ntmps38
  go_wp2
  go_loopw [0, 10] (fun u i wr => ∃ s k q : Nat, k ≤ n ∧ s < 4294967296 ∧ u = .int .u32 s ∧ i = .int .i64 k ∧ wr = w.drewN q ∧ Hid (chkF s ((nl xs).drop k) = chkF r (nl xs))) (fun _ i _ => n - (intOf i).toNat)
  case atStart => exact ⟨r, 0, 0, Nat.zero_le _, hr, rfl, rfl, rfl, rfl⟩
  case round =>
    obtain ⟨s, k, q, hk, hs, rfl, rfl, rfl, HK⟩ := hrel
    by_cases hlt : k < n
    · obtain ⟨b, off, x, rfl, hb, hx0, hx1, hcx, HX⟩ := hx.at_ hlt
      obtain ⟨y, rfl⟩ := Int.eq_ofNat_of_zero_le hx0
      have hcx' : (w.drewN q).cell? ⟨b, off + k, none⟩ = some (.int .u8 (y : Int)) := hcx
      have HS := Lib.hid (show chkF (stepW s y) ((nl xs).drop (k + 1)) = chkF r (nl xs) by rw [← HK.out, nl_drop HX.out]; rfl)
      have hst : stepW s y < 4294967296 := stepW_lt hs (by omega)
      have hfl : y ^^^ s / 16777216 < 256 := xor_lt _ _ (by omega) (by omega)
      have hxf := xor_u8 y (s / 16777216) (by omega) (by omega)
      have htl := lowOf_lt hfl
      obtain ⟨f, hf⟩ : ∃ f, f = y ^^^ s / 16777216 := ⟨_, rfl⟩
      have hstw : stepW s y = (s * 256 % 4294967296 ^^^ lowOf f) ^^^ highOf f := by rw [hf]; rfl
      rw [← hf] at hfl hxf htl
      obtain ⟨lo, hlo⟩ : ∃ lo, lo = lowOf f := ⟨_, rfl⟩
      obtain ⟨hi, hhi⟩ : ∃ hi, hi = highOf f := ⟨_, rfl⟩
      rw [← hlo, ← hhi] at htl hstw
      have hand := and15 f hfl
      have hdiv : (f : Int) / 16 = ((f / 16 : Nat) : Int) := by simp
      have hc0 : w.cell? ⟨0, f % 16, none⟩ = some (.int .u32 (lo : Int)) := by rw [hlo]; exact (ht.2 (f % 16) (by omega)).1
      have hc1 : w.cell? ⟨1, f / 16, none⟩ = some (.int .u32 (hi : Int)) := by rw [hhi]; exact (ht.2 (f / 16) (by omega)).2
      have hg : f % 16 < 16 := by omega
      have hh : f / 16 < 16 := by omega
      generalize f % 16 = g at hand hc0 hg
      generalize f / 16 = h at hdiv hc1 hh
      obtain ⟨sh, hsh⟩ : ∃ sh, sh = s * 256 % 4294967296 := ⟨_, rfl⟩
      rw [← hsh] at hstw
      have hshl : sh < 4294967296 := by omega
      have hx1' := xor_u32 sh lo hshl htl.1
      have hx2' := xor_u32 (sh ^^^ lo) hi (xor_lt32 hshl htl.1) htl.2
      have hw1 : IntKind.u32.wrap ((s : Int) * 256) = (sh : Int) := by
        have : IntKind.u32.wrap ((s : Int) * 256) = (s : Int) * 256 % 4294967296 := by simp [IntKind.wrap, IntKind.bits, IntKind.signed]
        rw [this]; omega
      have hw2 : (s : Int) * 256 % 4294967296 = (sh : Int) := by omega
      have hw4 : (s : Int) / 16777216 = ((s / 16777216 : Nat) : Int) := by omega
      have htp : s / 16777216 < 256 := by omega
      have HW := Lib.hid hstw
      rw [hstw] at hst
      clear hstw hf hlo hhi hsh HK
      generalize s / 16777216 = tp at hw4 htp hxf
      have hw3 : IntKind.u8.wrap (tp : Int) = (tp : Int) := by rw [IntKind.wrap_u8]; omega
      go_wp2
      have hc0' : (w.drewN q).cell? ⟨0, g, none⟩ = some (.int .u32 (lo : Int)) := hc0
      have hc1' : (w.drewN q).cell? ⟨1, h, none⟩ = some (.int .u32 (hi : Int)) := hc1
      have hi0 := fun W => idx70 0 g hg W
      have hi1 := fun W => idx70 1 h hh W
      go_quiet (fail)
      go_wp2
      go_roundw
      case rel => exact ⟨_, k + 1, _, by omega, hst, rfl, by go_num, rfl, by rw [← HW.out]; exact HS⟩
      case measure => simp [intOf]; omega
    · have HE := Lib.hid (show s = chkF r (nl xs) by
        have := HK.out
        rwa [List.drop_eq_nil_of_le (by rw [nl_length, HL.out]; omega)] at this)
      clear HK
      go_wp2
      go_ret
      exact ⟨ret_int (by rw [HE.out]), (Dr.refl w).n _⟩

/-- Four bytes as an array. -/
def a4 (b0 b1 b2 b3 : Nat) : Value := .agg #[.int .u8 (b0 : Int), .int .u8 (b1 : Int), .int .u8 (b2 : Int), .int .u8 (b3 : Int)]
/-- It returns the four bytes. -/
def Four (l : List Nat) (w : World) (e : Ending) (w' : World) : Prop := ∃ b0 b1 b2 b3 : Nat, e = .returned (a4 b0 b1 b2 b3) ∧ Hid (l = [b0, b1, b2, b3]) ∧ (b0 < 256 ∧ b1 < 256 ∧ b2 < 256 ∧ b3 < 256) ∧ Below w.heap.size w w'

theorem bigEnd_any (r : Nat) (w : World) (hr : r < 4294967296) : Calls Tryd.prog 39 #[.int .u32 (r : Int)] w (Four (w4 r) w) := by
  obtain ⟨b0, h0⟩ : ∃ b0 : Nat, b0 = r / 16777216 % 256 := ⟨_, rfl⟩
  obtain ⟨b1, h1⟩ : ∃ b1 : Nat, b1 = r / 65536 % 256 := ⟨_, rfl⟩
  obtain ⟨b2, h2⟩ : ∃ b2 : Nat, b2 = r / 256 % 256 := ⟨_, rfl⟩
  obtain ⟨b3, h3⟩ : ∃ b3 : Nat, b3 = r % 256 := ⟨_, rfl⟩
  have H := Lib.hid (show w4 r = [b0, b1, b2, b3] by rw [h0, h1, h2, h3]; rfl)
  have HL := Lib.hid (show b0 < 256 ∧ b1 < 256 ∧ b2 < 256 ∧ b3 < 256 by omega)
  have e0 : (r : Int) / 16777216 = (b0 : Int) := by omega
  have e1 : (r : Int) / 65536 % 256 = (b1 : Int) := by omega
  have e2 : (r : Int) / 256 % 256 = (b2 : Int) := by omega
  have e3 : (r : Int) % 256 = (b3 : Int) := by omega
  have hb0 : b0 < 256 := by omega
  clear h0 h1 h2 h3
  go_enter Tryd.func39, Tryd.ntmps39
  go_wp2
  refine bodyPost_ret (v := a4 b0 b1 b2 b3) (by simp [a4, results, Tryd.results39, go_sem]) rfl ⟨b0, b1, b2, b3, rfl, H, HL.out, (Below.refl _ _).alloc (Nat.le_refl _) _⟩

theorem nl_flat_take {xss : List (List Int)} {k : Nat} {xs : List Int} (h : xss[k]? = some xs) : nl (xss.take (k + 1)).flatten = nl (xss.take k).flatten ++ nl xs := by
  obtain ⟨hk, e⟩ := List.getElem?_eq_some_iff.1 h
  rw [List.take_succ_eq_append_getElem hk, e, List.flatten_append, nl_append]
  simp
theorem flat_ran {xss : List (List Int)} (h : ∀ xs ∈ xss, Ran xs) : Ran xss.flatten := by
  intro x hx
  obtain ⟨xs, h1, h2⟩ := List.mem_flatten.1 hx
  exact h xs h1 x h2

set_option maxHeartbeats 1000000 in
theorem check_any (L : Option Addr) (m d : Nat) (xss : List (List Int)) (w : World) (hl : Bss w L m xss) (hm : m ≤ maxLen) (hs : ∀ xs ∈ xss, xs.length ≤ maxLen) (ht : Tabs w) :
    Calls Tryd.prog 17 #[.slice L m d] w (Four (w4 (chk (nl xss.flatten))) w) := by
  unfold maxLen at hm
  have HM := Lib.hid hl.len
  have HS := Lib.hid hs; clear hs
  have hb0 := below_alloc w (.cells #[.int .u8 0, .int .u8 0, .int .u8 0, .int .u8 0] 30)
  have hl0 := hl.keep hb0
  have ht0 := ht.below hb0
  have hlt : chk (nl xss.flatten) < 4294967296 := chk_lt (nl_rn (flat_ran hl.ran))
  have HR := Lib.hid (fun k => nl_rn (flat_ran (xss := xss.take k) fun xs hx => hl.ran xs (List.mem_of_mem_take hx)))
  generalize hw0 : w.alloc (.cells #[.int .u8 0, .int .u8 0, .int .u8 0, .int .u8 0] 30) = w0 at *
  have HW0 := Lib.hid hw0; clear hw0
  go_enter Tryd.func17, Tryd.ntmps17
  go_wp2
  rw [HW0.out]
  go_loopw [3, 8] (fun u i wr => ∃ s k q : Nat, k ≤ m ∧ s < 4294967296 ∧ u = .int .u32 s ∧ i = .int .i64 k ∧ wr = w0.drewN q ∧ Hid (s = chk (nl (xss.take k).flatten))) (fun _ i _ => m - (intOf i).toNat)
  case atStart => exact ⟨0, 0, 0, Nat.zero_le _, by omega, rfl, rfl, rfl, by simp [chk, nl]; rfl⟩
  case round =>
    obtain ⟨s, k, q, hk, hs, rfl, rfl, rfl, HK⟩ := hrel
    by_cases hkm : k < m
    · obtain ⟨b, off, A', n', c', xs, rfl, hb, hcell, hbs, hnc, HX⟩ := hl0.at_ hkm
      have hcell' : (w0.drewN q).cell? ⟨b, off + k, none⟩ = some (.slice A' n' c') := hcell
      have hn' : n' ≤ maxLen := by rw [← hbs.len]; exact HS.out _ (List.mem_of_getElem? HX.out)
      have hbs' : Bs (w0.drewN q) A' n' xs := hbs.dr ((Dr.refl _).n q)
      have ht' : Tabs (w0.drewN q) := ht0.dr ((Dr.refl _).n q)
      have HN := Lib.hid (show chkF s (nl xs) = chk (nl (xss.take (k + 1)).flatten) by rw [nl_flat_take HX.out, HK.out]; unfold chk; rw [chkF_append])
      have hlt2 : chkF s (nl xs) < 4294967296 := by rw [HN.out]; exact chk_lt (HR.out _)
      clear HK
      go_wp2_with fail
      refine (divide_any s A' n' c' xs _ hs hbs' hn' ht').mono ?_
      rintro e w' ⟨rfl, q2, rfl⟩
      go_wp2
      go_roundw
      case rel => exact ⟨_, k + 1, q + q2, by omega, hlt2, rfl, by go_num, rfl, HN⟩
      case measure => simp [intOf]; omega
    · have HE := Lib.hid (show s = chk (nl xss.flatten) by rw [HK.out, List.take_of_length_le (by rw [HM.out]; omega)])
      clear HK
      go_wp2_with fail
      refine (bigEnd_any s _ hs).mono ?_
      rintro e w' ⟨b0, b1, b2, b3, rfl, H4, h4, hb4⟩
      have hsz : w.heap.size < w0.heap.size := by rw [← HW0.out]; simp
      have hc0 : ∀ i, i < 4 → w0.cell? ⟨w.heap.size, i, none⟩ = some (.int .u8 0) := by
        intro i hi
        rw [← HW0.out]
        match i, hi with
        | 0, _ => simp
        | 1, _ => simp
        | 2, _ => simp
        | 3, _ => simp
      have hf0 : ∀ i, w0.frozen? ⟨w.heap.size, i, none⟩ = false := by intro i; rw [← HW0.out]; simp
      have hb4' : Below w0.heap.size w0 w' := ((Dr.refl w0).n q).below _ |>.trans hb4
      have hbw : Below w.heap.size w w' := hb0.trans (hb4'.mono (Nat.le_of_lt hsz))
      obtain ⟨hcc, hff⟩ : (∀ i, i < 4 → w'.cell? ⟨w.heap.size, i, none⟩ = some (.int .u8 0)) ∧ (∀ i, w'.frozen? ⟨w.heap.size, i, none⟩ = false) :=
        ⟨fun i hi => (hb4'.cell (p := ⟨w.heap.size, i, none⟩) hsz).trans (hc0 i hi), fun i => (hb4'.frozen (p := ⟨w.heap.size, i, none⟩) hsz).trans (hf0 i)⟩
      have c0 := hcc 0 (by omega)
      have c1 := hcc 1 (by omega)
      have c2 := hcc 2 (by omega)
      have c3 := hcc 3 (by omega)
      have f0 := hff 0
      have f1 := hff 1
      have f2 := hff 2
      have f3 := hff 3
      clear hc0 hf0 hcc hff hb4 hb4' hl0 ht0 hb0 hl ht
      unfold a4
      go_wp2
      refine bodyPost_ret (v := a4 b0 b1 b2 b3) (by simp [a4, results, Tryd.results17, go_sem, c0, c1, c2, c3]) rfl ⟨b0, b1, b2, b3, rfl, by rw [← HE.out]; exact H4, h4, ?_⟩
      exact (((hbw.setCell (by simp) _).setCell (by simp) _).setCell (by simp) _).setCell (by simp) _
end Go.Proofs.YtmckgdjipkkklaaDoor
