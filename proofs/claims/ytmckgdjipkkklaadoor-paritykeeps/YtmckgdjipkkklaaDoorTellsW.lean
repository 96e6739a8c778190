/- ParityTells: the walk. -/
import Derived.Test.YtmckgdjipkkklaaDoorAwake
import Derived.Deep.RegionLaw
namespace Go.Proofs.YtmckgdjipkkklaaDoor
set_option linter.unusedVariables false
set_option linter.unusedSimpArgs false
open Go.RowKit

theorem sliceArr30 (g : Nat) (W : World) : (Instr.sliceAt 30 (.pointer (some ⟨g, 0, none⟩)) none none none).run Tryd.prog W = .ok (.slice (some ⟨g, 0, none⟩) 4 4) W := by
  have h1 : Tryd.prog.underlying 30 = some (.array (Tryd.prog.arrayLen 30) (Tryd.prog.elem 30)) := by kernel_rfl
  have h2 : Tryd.prog.arrayLen 30 = 4 := by kernel_rfl
  have h3 : Tryd.prog.elem 30 = 5 := by kernel_rfl
  rw [run_sliceAt_array_all (P := Tryd.prog) W 30 ⟨g, 0, none⟩ h1, h3, Tryd.sizeOf5, h2]
  simp [slicedAt, Result.andThen, Addr.add]

theorem below_undrew {w w' : World} (h : Below w.drew.heap.size w.drew w') : Below w.heap.size w w' := ⟨h.os, h.tape, h.output, h.size, h.block⟩
/-- Four bytes in a block. -/
theorem rd_four (w : World) (b0 b1 b2 b3 : Nat) : Rd (w.alloc (.cells #[.int .u8 (b0 : Int), .int .u8 (b1 : Int), .int .u8 (b2 : Int), .int .u8 (b3 : Int)] 30)) (some ⟨w.heap.size, 0, none⟩) 4 (By [(b0 : Int), (b1 : Int), (b2 : Int), (b3 : Int)]) :=
  Rd.of_block (cs := #[.int .u8 (b0 : Int), .int .u8 (b1 : Int), .int .u8 (b2 : Int), .int .u8 (b3 : Int)]) (heap_alloc_new w _) rfl

/-- Changes: a place and what is added there. -/
def Chs (w : World) (B : Option Addr) (l : Nat) (cs : List (Int × Nat)) : Prop :=
  cs.length = l ∧ (0 < l → ∃ b off, B = some ⟨b, off, none⟩ ∧ b < w.heap.size ∧ ∀ (k : Nat) (x : Int × Nat), cs[k]? = some x →
    w.cell? ⟨b, off + k * 2, none⟩ = some (.int .i64 x.1) ∧ w.cell? ⟨b, off + k * 2 + 1, none⟩ = some (.int .u8 (x.2 : Int)) ∧ x.2 < 256)
theorem Chs.keep {w w' : World} {B : Option Addr} {l : Nat} {cs : List (Int × Nat)} (h : Chs w B l cs) (hb : Below w.heap.size w w') : Chs w' B l cs := by
  refine ⟨h.1, fun hn => ?_⟩
  obtain ⟨b, off, hA, hlt, hc⟩ := h.2 hn
  refine ⟨b, off, hA, Nat.lt_of_lt_of_le hlt hb.size, fun k x hx => ?_⟩
  obtain ⟨h0, h1, h2⟩ := hc k x hx
  exact ⟨(hb.cell (p := ⟨b, off + k * 2, none⟩) hlt).trans h0, (hb.cell (p := ⟨b, off + k * 2 + 1, none⟩) hlt).trans h1, h2⟩
theorem Chs.short {w : World} {B : Option Addr} {l m : Nat} {cs : List (Int × Nat)} (h : Chs w B l cs) (hm : m ≤ l) : Chs w B m (cs.take m) := by
  refine ⟨by rw [List.length_take, h.1]; omega, fun hp => ?_⟩
  obtain ⟨b, off, hA, hlt, hc⟩ := h.2 (by omega)
  refine ⟨b, off, hA, hlt, fun k x hx => hc k x ?_⟩
  have hi : k < m := by
    have := (List.getElem?_eq_some_iff.1 hx).1
    rw [List.length_take] at this; omega
  rwa [List.getElem?_take, if_pos hi] at hx
theorem Chs.at_ {w : World} {B : Option Addr} {l k : Nat} {cs : List (Int × Nat)} (h : Chs w B l cs) (hk : k < l) : ∃ (b off : Nat) (at' : Int) (y : Nat), B = some ⟨b, off, none⟩ ∧ b < w.heap.size ∧
    w.cell? ⟨b, off + k * 2, none⟩ = some (.int .i64 at') ∧ w.cell? ⟨b, off + k * 2 + 1, none⟩ = some (.int .u8 (y : Int)) ∧ y < 256 := by
  obtain ⟨b, off, hA, hlt, hc⟩ := h.2 (by omega)
  have hx : cs[k]? = some (cs[k]'(by have := h.1; omega)) := List.getElem?_eq_getElem _
  obtain ⟨h0, h1, h2⟩ := hc k _ hx
  exact ⟨b, off, _, _, hA, hlt, h0, h1, h2⟩
theorem elem37 : Tryd.prog.underlying 37 = some (.slice (Tryd.prog.elem 37)) := by kernel_rfl
theorem elem37' : Tryd.prog.elem 37 = 39 := by kernel_rfl
theorem slice37 (B : Option Addr) (n c : Nat) (h1 : 4 ≤ c) (N : Nat) (hN : N = 4) (W : World) :
    (Instr.slice 37 (.slice B n c) none (some (.int .i64 4)) none).run Tryd.prog W = .ok (.slice B N c) W := by
  subst hN
  rw [run_slice_h (P := Tryd.prog) W 37 B n c elem37 .i64 4 (by omega) (by omega), elem37', Tryd.sizeOf39]
  simp only [sliced, Result.andThen, Nat.zero_mul, add_zero', ite_self]; rfl
/-- A row of the call's own, one byte changed. -/
theorem nl_set {us : List Int} (j y : Nat) : nl (us.set j (y : Int)) = (nl us).set j y := by simp [nl, List.map_set]
theorem ran_set {us : List Int} (h : Ran us) (j y : Nat) (hy : y < 256) : Ran (us.set j (y : Int)) := by
  intro x hx
  rcases List.mem_or_eq_of_mem_set hx with h1 | h1
  · exact h x h1
  · subst h1; omega
theorem By_set (us : List Int) (j : Nat) (x : Int) : By (us.set j x) = (By us).set j (.int .u8 x) := by simp [By, List.map_set]
theorem nl_inj {us zs : List Int} (h1 : Ran us) (h2 : Ran zs) : nl us = nl zs ↔ us = zs := by
  constructor
  · intro h
    have e : ∀ l : List Int, Ran l → (nl l).map Int.ofNat = l := by
      intro l hl
      unfold nl
      rw [List.map_map]
      conv => rhs; rw [← List.map_id l]
      refine List.map_congr_left fun x hx => ?_
      have := hl x hx
      simp; omega
    rw [← e us h1, ← e zs h2, h]
  · intro h; rw [h]
/-- The remainder that isn't below nought, as a place. -/
theorem tmod_place (x : Int) (n : Nat) (hn : 0 < n) : ∃ j : Nat, j < n ∧ (x.tmod (n : Int) = (j : Int) ∨ (x.tmod (n : Int) = (j : Int) - (n : Int) ∧ x.tmod (n : Int) < 0)) := by
  have h1 := Int.tmod_lt_of_pos x (show (0 : Int) < (n : Int) by omega)
  have h2 : -(n : Int) < x.tmod (n : Int) := by
    have := Int.tmod_lt_of_pos (-x) (show (0 : Int) < (n : Int) by omega)
    rw [Int.neg_tmod] at this
    omega
  by_cases h : 0 ≤ x.tmod (n : Int)
  · exact ⟨(x.tmod (n : Int)).toNat, by omega, .inl (by omega)⟩
  · exact ⟨(x.tmod (n : Int) + n).toNat, by omega, .inr ⟨by omega, by omega⟩⟩

set_option maxHeartbeats 2000000 in
theorem tells_walk (A B : Option Addr) (n c l d : Nat) (xs : List Int) (cs : List (Int × Nat)) (w : World) (hx : Bs w A n xs) (hn : n ≤ maxLen) (hc : n ≤ c) (hcs : Chs w B l cs) (hld : l ≤ d) (hlm : d ≤ maxLen) (ht : Tabs w) :
    Calls Tryd.prog 6 #[.slice A n c, .slice B l d] w fun e w' => e = .returned (.bool true) ∧ Below w.heap.size w w' := by
  obtain ⟨i0, hi, hz0, hz1, hz2⟩ := info_parts info5
  go_enter Tryd.func6, Tryd.ntmps6
  go_wp2_with fail
  refine (awake_any _ ht).mono ?_
  rintro e w1 ⟨rfl, hb1⟩
  have hx1 := hx.keep hb1
  have hcs1 := hcs.keep hb1
  have ht1 := ht.below hb1
  have hs1 := hb1.size
  clear hx ht hcs
  go_wp2_with fail
  refine (cut_any A n c 251 xs _ hx1 hn hc (by omega)).mono ?_
  rintro e w' ⟨m, rfl, HM, hx2, rfl⟩
  have hm : m ≤ 251 := by have := HM.out; omega
  have hmc : m ≤ c := by have := HM.out; omega
  generalize xs.take 251 = ys at *
  clear hx1 HM
  have hone := Bss.one (t := 28) hx2 hmc
  have hbA := below_alloc w1 (.cells #[.slice A m c] 28)
  have HS : Hid (∀ zs ∈ [ys], zs.length ≤ maxLen) := by
    intro zs hzs
    obtain rfl : zs = ys := by simpa using hzs
    rw [hx2.len]; unfold maxLen; omega
  go_wp2_with fail
  refine (check_any _ 1 1 [ys] _ hone (by unfold maxLen; omega) HS.out (ht1.below hbA)).mono ?_
  rintro e w2 ⟨b0, b1, b2, b3, rfl, H4, l4, hb2⟩
  have hb12 := hbA.trans (hb2.mono (by simp))
  have hx3 := hx2.keep hb12
  have hcs3 := hcs1.keep hb12
  have ht3 := ht1.below hb12
  have hbw := hb1.trans (hb12.mono hs1)
  have hs2 := hbw.size
  clear hone hbA hb2 hb12 hx2 ht1 hb1 hs1 HS hcs1
  unfold a4
  have hbB := below_alloc w2 (.cells #[.int .u8 (b0 : Int), .int .u8 (b1 : Int), .int .u8 (b2 : Int), .int .u8 (b3 : Int)] 30)
  have hr3 := rd_four w2 b0 b1 b2 b3
  have hs3 : w2.heap.size < (w2.alloc (.cells #[.int .u8 (b0 : Int), .int .u8 (b1 : Int), .int .u8 (b2 : Int), .int .u8 (b3 : Int)] 30)).heap.size := by simp
  have hsl := sliceArr30 w2.heap.size
  go_wp2
  generalize w2.alloc (.cells #[.int .u8 (b0 : Int), .int .u8 (b1 : Int), .int .u8 (b2 : Int), .int .u8 (b3 : Int)] 30) = w3 at *
  have hx4 := hx3.keep hbB
  have hcs4 := hcs3.keep hbB
  have ht4 := ht3.below hbB
  have hbw3 := hbw.trans (hbB.mono hs2)
  have hs4 := hbw3.size
  have HT3 := Lib.hid ht4.1
  have HB3 : Hid (∀ (b off : Nat), B = some ⟨b, off, none⟩ → 0 < l → b < w3.heap.size) := by
    intro b off he hl0
    obtain ⟨b', off', he', hlt, _⟩ := hcs4.2 hl0
    rw [he] at he'
    injection he' with he'
    injection he' with e1
    rw [e1]; exact hlt
  have hc1 : m + 4 ≤ maxLen := by unfold maxLen; omega
  have hc2 : (m + 4) * 1 ≤ 140737488355328 := by omega
  clear hx3 ht3 hbw hs2 hbB hcs3
  go_region_law (first | (refine step_append_rd rfl (.tmp 19) (.tmp 20) 28 rfl i0 (.int .u8 0) 1 Tryd.underlying28 hi hz0 hz1 hz2 rfl (by simp [Act.eval, Act.put]) ho4 (some ⟨w2.heap.size, 0, none⟩) 4 4 (By [(b0 : Int), (b1 : Int), (b2 : Int), (b3 : Int)]) (by simp [Act.eval, Act.put]) hr4 (By_one _) hc1 hc2 hc3 ?_; intro A5 c5 w5 ho5 hg5) | (go_simp; go_at_call 19; refine (copy_any A m c ys _ (hx4.dr (Dr.refl _).one) (by omega)).mono ?_; rintro e v4 ⟨A4, c4, rfl, ho4, hb4⟩; have hr4 := hr3.keep (below_undrew hb4); have hc3 : w3.heap.size ≤ v4.heap.size := hb4.size))
  -- BEHIND THE REGION
  have hb34 := below_undrew hb4
  have hb35 : Below w3.heap.size w3 w5 := hb34.trans (hg5.below hc3 (fun k hk => (ho4.lies k hk).1))
  have hx5 : Own w5 w3.heap.size 5 A5 (m + 4) c5 (By (ys ++ [(b0 : Int), (b1 : Int), (b2 : Int), (b3 : Int)])) := by rw [By_append]; exact ho5
  have hran5 : Ran (ys ++ [(b0 : Int), (b1 : Int), (b2 : Int), (b3 : Int)]) := hx4.2.append (ran_of (by simp; omega))
  have HG : Hid (goodL (nl (ys ++ [(b0 : Int), (b1 : Int), (b2 : Int), (b3 : Int)])) = true) := by
    have e1 : nl (ys ++ [(b0 : Int), (b1 : Int), (b2 : Int), (b3 : Int)]) = nl ys ++ w4 (chk (nl ys)) := by
      have := H4.out
      simp only [List.flatten_cons, List.flatten_nil, List.append_nil] at this
      rw [this, nl_append]; simp [nl]
    show _ = _
    rw [e1]
    exact goodL_app (nl_rn hx4.2)
  have HL : Hid ((ys ++ [(b0 : Int), (b1 : Int), (b2 : Int), (b3 : Int)]).length = m + 4) := by
    show _ = _
    rw [List.length_append, hx4.len]; rfl
  generalize ys ++ [(b0 : Int), (b1 : Int), (b2 : Int), (b3 : Int)] = zs at *
  have hcs5 := hcs4.keep hb35
  have ht5 := ht4.below hb35
  have hbw5 := hbw3.trans (hb35.mono hs4)
  have hs5 := hbw5.size
  have hs35 := hb35.size
  obtain ⟨g5, cap5, hv5, hg5lo, hg5lt⟩ := World.ownsRow.form hx5 (by omega)
  obtain rfl : A5 = some ⟨g5, 0, none⟩ := by injection hv5
  have HC5 : Hid (m + 4 ≤ c5) := hx5.cap
  clear hb34 hb35 ho5 hg5 hcs4 ht4 hbw3 hb4 ho4 hr4 hr3 hc3 hv5 H4 hx4 l4
  go_wp2_with fail
  refine (copy_any _ (m + 4) c5 zs _ (hx5.bs hran5) (by omega)).mono ?_
  rintro e w6 ⟨A6, c6, rfl, hx6, hb6⟩
  have hw6 : Own w6 w3.heap.size 5 (some ⟨g5, 0, none⟩) (m + 4) c5 (By zs) := hx5.below hb6 (fun k hk => (hx5.lies k hk).2)
  have hcs6 := hcs5.keep hb6
  have ht6 := ht5.below hb6
  have hbw6 := hbw5.trans (hb6.mono hs5)
  have hs6 := hbw6.size
  have hs56 := hb6.size
  clear hx5 hcs5 ht5 hbw5 hb6
  have htw3 : 1 < w3.heap.size := HT3.out
  by_cases hl4 : 4 < l
  · obtain ⟨L, hL⟩ : ∃ L : Nat, L = 4 := ⟨_, rfl⟩
    have hsl4 := slice37 B l d (by omega) L hL
    have hL4 : L ≤ 4 := by omega
    have hcsL := hcs6.short (m := L) (by omega)
    have HBB : Hid (∀ (b off : Nat), B = some ⟨b, off, none⟩ → ∀ {k : Nat}, k < L → b < w3.heap.size) := fun b off he k hk => HB3.out b off he (by omega)
    clear hcs6 hL
    generalize cs.take L = CS at *
    have hd4 : decide ((4 : Int) < (l : Int)) = true := by simp; omega
    go_wp2
    clear hd4 hsl4

    go_loopw [31] (fun i wr => ∃ (k : Nat) (us : List Int), i = .int .i64 k ∧ k ≤ L ∧ Own wr w3.heap.size 5 (some ⟨g5, 0, none⟩) (m + 4) c5 (By us) ∧ Ran us ∧ Hid (us.length = m + 4) ∧ Own wr w5.heap.size 5 A6 (m + 4) c6 (By zs) ∧ Chs wr B L CS ∧ Tabs wr ∧ Below w.heap.size w wr ∧ w6.heap.size ≤ wr.heap.size ∧ Hid (dif (nl us) (nl zs) ≤ k)) (fun i _ => L - (intOf i).toNat)
    case atStart => exact ⟨0, zs, rfl, Nat.zero_le _, hw6, hran5, HL, hx6, hcsL, ht6, hbw6, Nat.le_refl _, by rw [dif_self]; exact Nat.le_refl _⟩
    case round =>
      obtain ⟨k, us, rfl, hk, hwu, hru, HU, hwz, hch, htr, hbr, hsr, HD⟩ := hrel
      have hsr0 := hbr.size
      by_cases hlt : k < L
      · obtain ⟨b, off, at', y, rfl, hblt, hca, hcy, hy⟩ := hch.at_ hlt
        obtain ⟨j, hj, hjc⟩ := tmod_place at' (m + 4) (by omega)
        obtain ⟨u, hu, hu0, hu1⟩ : ∃ u : Nat, wr.cell? ⟨g5, j, none⟩ = some (.int .u8 (u : Int)) ∧ u < 256 ∧ Hid (us[j]? = some (u : Int)) := by
          have := (hwu.bs hru).nat_at (k := j) hj
          simpa using this
        have hgr : g5 < wr.heap.size := (hwu.lies g5 rfl).2
        have hxor := xor_u8 u y hu0 hy
        have hxl := xor_lt u y hu0 hy
        have hne5 : (m : Int) + 4 ≠ 0 := by omega
        have hca' : wr.cell? ⟨b, off + k * 2, none⟩ = some (.int .i64 at') := hca
        have hcy' : wr.cell? ⟨b, off + k * 2 + 1, none⟩ = some (.int .u8 (y : Int)) := hcy
        have e4 : ((m + 4 : Nat) : Int) = (m : Int) + 4 := by omega
        rw [e4] at hjc
        have hj' : (j : Int) < (m : Int) + 4 := by omega
        -- the world with the change laid, and the byte changed
        have hba := below_alloc wr (.cells #[.int .i64 at', .int .u8 (y : Int)] 39)
        have hcg : (wr.alloc (.cells #[.int .i64 at', .int .u8 (y : Int)] 39)).drew.cell? ⟨g5, j, none⟩ = some (.int .u8 (u : Int)) := (hba.cell (p := ⟨g5, j, none⟩) hgr).trans hu
        have hfg : (wr.alloc (.cells #[.int .i64 at', .int .u8 (y : Int)] 39)).drew.frozen? ⟨g5, j, none⟩ = false := (hba.frozen (p := ⟨g5, j, none⟩) hgr).trans (hwu.frozenAt j)
        have hcy2 : (wr.alloc (.cells #[.int .i64 at', .int .u8 (y : Int)] 39)).drew.cell? ⟨wr.heap.size, 1, none⟩ = some (.int .u8 (y : Int)) := by simp
        have hst := hwu.stored j (.int .u8 ((u ^^^ y : Nat) : Int))
        have HN1 : Hid (Own (((wr.setCell ⟨g5, j, none⟩ (.int .u8 ((u ^^^ y : Nat) : Int))).alloc (.cells #[.int .i64 at', .int .u8 (y : Int)] 39)).drew) w3.heap.size 5 (some ⟨g5, 0, none⟩) (m + 4) c5 (By (us.set j ((u ^^^ y : Nat) : Int)))) := by
          show Own _ _ _ _ _ _ _
          rw [By_set]; exact Own.alloc (w := wr.setCell ⟨g5, j, none⟩ (.int .u8 ((u ^^^ y : Nat) : Int))) hst.1 _
        have hbn : Below w3.heap.size wr (((wr.setCell ⟨g5, j, none⟩ (.int .u8 ((u ^^^ y : Nat) : Int))).alloc (.cells #[.int .i64 at', .int .u8 (y : Int)] 39)).drew) := (((Below.refl w3.heap.size wr).setCell (by exact hg5lo) _).alloc (by simp; omega) _).trans ((Dr.refl _).one.below _)
        have hne6 : blk A6 ≠ some g5 := by
          intro he
          have := (hwz.lies g5 he).1
          omega
        have HN2 : Hid (Own (((wr.setCell ⟨g5, j, none⟩ (.int .u8 ((u ^^^ y : Nat) : Int))).alloc (.cells #[.int .i64 at', .int .u8 (y : Int)] 39)).drew) w5.heap.size 5 A6 (m + 4) c6 (By zs)) := Own.alloc (w := wr.setCell ⟨g5, j, none⟩ (.int .u8 ((u ^^^ y : Nat) : Int))) (hwz.kept hst.2 (.inr hne6)) _
        have hb3 : b < w3.heap.size := HBB.out _ _ rfl hlt
        have HN3 : Hid (Chs (((wr.setCell ⟨g5, j, none⟩ (.int .u8 ((u ^^^ y : Nat) : Int))).alloc (.cells #[.int .i64 at', .int .u8 (y : Int)] 39)).drew) (some ⟨b, off, none⟩) L CS) := by
          refine ⟨hch.1, fun hn => ⟨b, off, rfl, Nat.lt_of_lt_of_le hblt hbn.size, fun i x hx => ?_⟩⟩
          obtain ⟨b', off', he, _, hc⟩ := hch.2 hn
          injection he with he
          injection he with e1 e2
          subst e1; subst e2
          obtain ⟨q0, q1, q2⟩ := hc i x hx
          exact ⟨(hbn.cell (p := ⟨b, off + i * 2, none⟩) hb3).trans q0, (hbn.cell (p := ⟨b, off + i * 2 + 1, none⟩) hb3).trans q1, q2⟩
        have hbw' : Below w.heap.size w (((wr.setCell ⟨g5, j, none⟩ (.int .u8 ((u ^^^ y : Nat) : Int))).alloc (.cells #[.int .i64 at', .int .u8 (y : Int)] 39)).drew) := hbr.trans (hbn.mono hs4)
        have HN4 : Hid (Tabs (((wr.setCell ⟨g5, j, none⟩ (.int .u8 ((u ^^^ y : Nat) : Int))).alloc (.cells #[.int .i64 at', .int .u8 (y : Int)] 39)).drew)) := by
          refine ⟨Nat.lt_of_lt_of_le htr.1 hbn.size, fun i hi' => ?_⟩
          have q := htr.2 i hi'
          have ht0 : 1 < w3.heap.size := htw3
          exact ⟨(hbn.cell (p := ⟨0, i, none⟩) (Nat.lt_of_le_of_lt (Nat.zero_le _) ht0)).trans q.1, (hbn.cell (p := ⟨1, i, none⟩) ht0).trans q.2⟩
        have HN5 := Lib.hid (show (us.set j ((u ^^^ y : Nat) : Int)).length = m + 4 by rw [List.length_set]; exact HU.out)
        have HN6 := Lib.hid (show dif (nl (us.set j ((u ^^^ y : Nat) : Int))) (nl zs) ≤ k + 1 by rw [nl_set]; exact Nat.le_trans (dif_set _ _ _ _) (by have := HD.out; omega))
        have hrn := ran_set hru j (u ^^^ y) hxl
        have hszn := hbn.size
        clear hst hwz hwu hch htr hbr hbn hba HD HU
        rcases hjc with hjc | ⟨hjc, hjn⟩
        · have hd0 : decide ((j : Int) < 0) = false := by simp
          go_wp2
          go_region
          go_wp2
          go_roundw
          case rel => exact ⟨k + 1, _, by go_num, by omega, HN1.out, hrn, HN5, HN2.out, HN3.out, HN4.out, hbw', by omega, HN6⟩
          case measure => simp [intOf]; omega
        · have hd0 : decide ((j : Int) - ((m : Int) + 4) < 0) = true := by simp; omega
          clear hjn
          have hj2 : (j : Int) - ((m : Int) + 4) + ((m : Int) + 4) = (j : Int) := by omega
          go_wp2
          go_region
          go_wp2
          go_roundw
          case rel => exact ⟨k + 1, _, by go_num, by omega, HN1.out, hrn, HN5, HN2.out, HN3.out, HN4.out, hbw', by omega, HN6⟩
          case measure => simp [intOf]; omega
      · have HE := Lib.hid (tells (u := nl us) (v := nl zs) (nl_rn hru) (nl_rn hran5) (by rw [nl_length, nl_length, HU.out, HL.out]) (by rw [nl_length, HL.out]; omega) (by have := HD.out; omega) HG.out)
        have HE2 := Lib.hid (show (cmpL us zs == 0) = goodL (nl us) by
          rw [HE.out, cmpL_eq_zero]
          exact decide_eq_decide.2 (nl_inj hru hran5).symm)
        have hmm : m + 4 ≤ maxLen := hc1
        have hcap5 : m + 4 ≤ c5 := HC5.out
        go_wp2_with fail
        refine (good_any _ (m + 4) c5 us _ (hwu.bs hru) hmm hcap5 htr).mono ?_
        rintro e w7 ⟨rfl, hb7⟩
        have hu7 := (hwu.bs hru).keep hb7
        have hz7 := (hwz.bs hran5).keep hb7
        have hbw7 := hbr.trans (hb7.mono hsr0)
        clear hwu hwz hch htr hbr hb7 HD HU HE
        go_wp2_with fail
        refine (equal_any _ _ (m + 4) (m + 4) c5 c6 us zs _ hu7 hz7 hmm hmm).mono ?_
        rintro e w8 ⟨rfl, hd8⟩
        rw [HE2.out]
        have hbw8 := hbw7.trans (hd8.below _)
        clear hu7 hz7 hbw7 hd8 HE2
        generalize goodL (nl us) = gg
        go_wp2
        go_ret
        exact ⟨by simp, hbw8⟩
  · obtain ⟨L, hL⟩ : ∃ L : Nat, L = l := ⟨_, rfl⟩
    subst hL
    have hL4 : L ≤ 4 := by omega
    have hcsL := hcs6
    have HBB : Hid (∀ (b off : Nat), B = some ⟨b, off, none⟩ → ∀ {k : Nat}, k < L → b < w3.heap.size) := fun b off he k hk => HB3.out b off he (by omega)
    clear hcs6
    generalize cs = CS at *
    have hd4 : decide ((4 : Int) < (L : Int)) = false := by simp; omega
    unfold maxLen at hlm
    go_wp2
    clear hd4

    go_loopw [31] (fun i wr => ∃ (k : Nat) (us : List Int), i = .int .i64 k ∧ k ≤ L ∧ Own wr w3.heap.size 5 (some ⟨g5, 0, none⟩) (m + 4) c5 (By us) ∧ Ran us ∧ Hid (us.length = m + 4) ∧ Own wr w5.heap.size 5 A6 (m + 4) c6 (By zs) ∧ Chs wr B L CS ∧ Tabs wr ∧ Below w.heap.size w wr ∧ w6.heap.size ≤ wr.heap.size ∧ Hid (dif (nl us) (nl zs) ≤ k)) (fun i _ => L - (intOf i).toNat)
    case atStart => exact ⟨0, zs, rfl, Nat.zero_le _, hw6, hran5, HL, hx6, hcsL, ht6, hbw6, Nat.le_refl _, by rw [dif_self]; exact Nat.le_refl _⟩
    case round =>
      obtain ⟨k, us, rfl, hk, hwu, hru, HU, hwz, hch, htr, hbr, hsr, HD⟩ := hrel
      have hsr0 := hbr.size
      by_cases hlt : k < L
      · obtain ⟨b, off, at', y, rfl, hblt, hca, hcy, hy⟩ := hch.at_ hlt
        obtain ⟨j, hj, hjc⟩ := tmod_place at' (m + 4) (by omega)
        obtain ⟨u, hu, hu0, hu1⟩ : ∃ u : Nat, wr.cell? ⟨g5, j, none⟩ = some (.int .u8 (u : Int)) ∧ u < 256 ∧ Hid (us[j]? = some (u : Int)) := by
          have := (hwu.bs hru).nat_at (k := j) hj
          simpa using this
        have hgr : g5 < wr.heap.size := (hwu.lies g5 rfl).2
        have hxor := xor_u8 u y hu0 hy
        have hxl := xor_lt u y hu0 hy
        have hne5 : (m : Int) + 4 ≠ 0 := by omega
        have hca' : wr.cell? ⟨b, off + k * 2, none⟩ = some (.int .i64 at') := hca
        have hcy' : wr.cell? ⟨b, off + k * 2 + 1, none⟩ = some (.int .u8 (y : Int)) := hcy
        have e4 : ((m + 4 : Nat) : Int) = (m : Int) + 4 := by omega
        rw [e4] at hjc
        have hj' : (j : Int) < (m : Int) + 4 := by omega
        -- the world with the change laid, and the byte changed
        have hba := below_alloc wr (.cells #[.int .i64 at', .int .u8 (y : Int)] 39)
        have hcg : (wr.alloc (.cells #[.int .i64 at', .int .u8 (y : Int)] 39)).drew.cell? ⟨g5, j, none⟩ = some (.int .u8 (u : Int)) := (hba.cell (p := ⟨g5, j, none⟩) hgr).trans hu
        have hfg : (wr.alloc (.cells #[.int .i64 at', .int .u8 (y : Int)] 39)).drew.frozen? ⟨g5, j, none⟩ = false := (hba.frozen (p := ⟨g5, j, none⟩) hgr).trans (hwu.frozenAt j)
        have hcy2 : (wr.alloc (.cells #[.int .i64 at', .int .u8 (y : Int)] 39)).drew.cell? ⟨wr.heap.size, 1, none⟩ = some (.int .u8 (y : Int)) := by simp
        have hst := hwu.stored j (.int .u8 ((u ^^^ y : Nat) : Int))
        have HN1 : Hid (Own (((wr.setCell ⟨g5, j, none⟩ (.int .u8 ((u ^^^ y : Nat) : Int))).alloc (.cells #[.int .i64 at', .int .u8 (y : Int)] 39)).drew) w3.heap.size 5 (some ⟨g5, 0, none⟩) (m + 4) c5 (By (us.set j ((u ^^^ y : Nat) : Int)))) := by
          show Own _ _ _ _ _ _ _
          rw [By_set]; exact Own.alloc (w := wr.setCell ⟨g5, j, none⟩ (.int .u8 ((u ^^^ y : Nat) : Int))) hst.1 _
        have hbn : Below w3.heap.size wr (((wr.setCell ⟨g5, j, none⟩ (.int .u8 ((u ^^^ y : Nat) : Int))).alloc (.cells #[.int .i64 at', .int .u8 (y : Int)] 39)).drew) := (((Below.refl w3.heap.size wr).setCell (by exact hg5lo) _).alloc (by simp; omega) _).trans ((Dr.refl _).one.below _)
        have hne6 : blk A6 ≠ some g5 := by
          intro he
          have := (hwz.lies g5 he).1
          omega
        have HN2 : Hid (Own (((wr.setCell ⟨g5, j, none⟩ (.int .u8 ((u ^^^ y : Nat) : Int))).alloc (.cells #[.int .i64 at', .int .u8 (y : Int)] 39)).drew) w5.heap.size 5 A6 (m + 4) c6 (By zs)) := Own.alloc (w := wr.setCell ⟨g5, j, none⟩ (.int .u8 ((u ^^^ y : Nat) : Int))) (hwz.kept hst.2 (.inr hne6)) _
        have hb3 : b < w3.heap.size := HBB.out _ _ rfl hlt
        have HN3 : Hid (Chs (((wr.setCell ⟨g5, j, none⟩ (.int .u8 ((u ^^^ y : Nat) : Int))).alloc (.cells #[.int .i64 at', .int .u8 (y : Int)] 39)).drew) (some ⟨b, off, none⟩) L CS) := by
          refine ⟨hch.1, fun hn => ⟨b, off, rfl, Nat.lt_of_lt_of_le hblt hbn.size, fun i x hx => ?_⟩⟩
          obtain ⟨b', off', he, _, hc⟩ := hch.2 hn
          injection he with he
          injection he with e1 e2
          subst e1; subst e2
          obtain ⟨q0, q1, q2⟩ := hc i x hx
          exact ⟨(hbn.cell (p := ⟨b, off + i * 2, none⟩) hb3).trans q0, (hbn.cell (p := ⟨b, off + i * 2 + 1, none⟩) hb3).trans q1, q2⟩
        have hbw' : Below w.heap.size w (((wr.setCell ⟨g5, j, none⟩ (.int .u8 ((u ^^^ y : Nat) : Int))).alloc (.cells #[.int .i64 at', .int .u8 (y : Int)] 39)).drew) := hbr.trans (hbn.mono hs4)
        have HN4 : Hid (Tabs (((wr.setCell ⟨g5, j, none⟩ (.int .u8 ((u ^^^ y : Nat) : Int))).alloc (.cells #[.int .i64 at', .int .u8 (y : Int)] 39)).drew)) := by
          refine ⟨Nat.lt_of_lt_of_le htr.1 hbn.size, fun i hi' => ?_⟩
          have q := htr.2 i hi'
          have ht0 : 1 < w3.heap.size := htw3
          exact ⟨(hbn.cell (p := ⟨0, i, none⟩) (Nat.lt_of_le_of_lt (Nat.zero_le _) ht0)).trans q.1, (hbn.cell (p := ⟨1, i, none⟩) ht0).trans q.2⟩
        have HN5 := Lib.hid (show (us.set j ((u ^^^ y : Nat) : Int)).length = m + 4 by rw [List.length_set]; exact HU.out)
        have HN6 := Lib.hid (show dif (nl (us.set j ((u ^^^ y : Nat) : Int))) (nl zs) ≤ k + 1 by rw [nl_set]; exact Nat.le_trans (dif_set _ _ _ _) (by have := HD.out; omega))
        have hrn := ran_set hru j (u ^^^ y) hxl
        have hszn := hbn.size
        clear hst hwz hwu hch htr hbr hbn hba HD HU
        rcases hjc with hjc | ⟨hjc, hjn⟩
        · have hd0 : decide ((j : Int) < 0) = false := by simp
          go_wp2
          go_region
          go_wp2
          go_roundw
          case rel => exact ⟨k + 1, _, by go_num, by omega, HN1.out, hrn, HN5, HN2.out, HN3.out, HN4.out, hbw', by omega, HN6⟩
          case measure => simp [intOf]; omega
        · have hd0 : decide ((j : Int) - ((m : Int) + 4) < 0) = true := by simp; omega
          clear hjn
          have hj2 : (j : Int) - ((m : Int) + 4) + ((m : Int) + 4) = (j : Int) := by omega
          go_wp2
          go_region
          go_wp2
          go_roundw
          case rel => exact ⟨k + 1, _, by go_num, by omega, HN1.out, hrn, HN5, HN2.out, HN3.out, HN4.out, hbw', by omega, HN6⟩
          case measure => simp [intOf]; omega
      · have HE := Lib.hid (tells (u := nl us) (v := nl zs) (nl_rn hru) (nl_rn hran5) (by rw [nl_length, nl_length, HU.out, HL.out]) (by rw [nl_length, HL.out]; omega) (by have := HD.out; omega) HG.out)
        have HE2 := Lib.hid (show (cmpL us zs == 0) = goodL (nl us) by
          rw [HE.out, cmpL_eq_zero]
          exact decide_eq_decide.2 (nl_inj hru hran5).symm)
        have hmm : m + 4 ≤ maxLen := hc1
        have hcap5 : m + 4 ≤ c5 := HC5.out
        go_wp2_with fail
        refine (good_any _ (m + 4) c5 us _ (hwu.bs hru) hmm hcap5 htr).mono ?_
        rintro e w7 ⟨rfl, hb7⟩
        have hu7 := (hwu.bs hru).keep hb7
        have hz7 := (hwz.bs hran5).keep hb7
        have hbw7 := hbr.trans (hb7.mono hsr0)
        clear hwu hwz hch htr hbr hb7 HD HU HE
        go_wp2_with fail
        refine (equal_any _ _ (m + 4) (m + 4) c5 c6 us zs _ hu7 hz7 hmm hmm).mono ?_
        rintro e w8 ⟨rfl, hd8⟩
        rw [HE2.out]
        have hbw8 := hbw7.trans (hd8.below _)
        clear hu7 hz7 hbw7 hd8 HE2
        generalize goodL (nl us) = gg
        go_wp2
        go_ret
        exact ⟨by simp, hbw8⟩
end Go.Proofs.YtmckgdjipkkklaaDoor
