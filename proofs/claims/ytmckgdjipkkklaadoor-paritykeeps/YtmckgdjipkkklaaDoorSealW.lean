/- Records in the program: appendCell, appendRecord, Sealed, Seal. -/
import Derived.Test.YtmckgdjipkkklaaDoorRecs
import Derived.Test.YtmckgdjipkkklaaDoorAddsW
namespace Go.Proofs.YtmckgdjipkkklaaDoor
set_option linter.unusedVariables false
set_option linter.unusedSimpArgs false
open Go.RowKit

/-- Numbers as the values of bytes. -/
def il (l : List Nat) : List Int := l.map Int.ofNat
theorem nl_il (l : List Nat) : nl (il l) = l := by
  unfold nl il
  rw [List.map_map]
  conv => rhs; rw [← List.map_id l]
  exact List.map_congr_left fun x _ => by simp
theorem il_nl {xs : List Int} (h : Ran xs) : il (nl xs) = xs := by
  unfold nl il
  rw [List.map_map]
  conv => rhs; rw [← List.map_id xs]
  refine List.map_congr_left fun x hx => ?_
  have := h x hx
  simp; omega
theorem il_append (a b : List Nat) : il (a ++ b) = il a ++ il b := by simp [il]
theorem il_length (a : List Nat) : (il a).length = a.length := by simp [il]
theorem il_ran {a : List Nat} (h : Rn a) : Ran (il a) := by
  intro x hx
  obtain ⟨y, hy, rfl⟩ := List.mem_map.1 hx
  have := h y hy
  show 0 ≤ ((y : Nat) : Int) ∧ ((y : Nat) : Int) ≤ 255
  omega
theorem il_take (a : List Nat) (k : Nat) : il (a.take k) = (il a).take k := by simp [il, List.map_take]
theorem nl_take (xs : List Int) (k : Nat) : nl (xs.take k) = (nl xs).take k := by simp [nl, List.map_take]
theorem nl_dropk (xs : List Int) (k : Nat) : nl (xs.drop k) = (nl xs).drop k := by simp [nl, List.map_drop]
theorem il_cellL {xs : List Int} (h : Ran xs) : il (cellL (nl xs)) = xs ++ il (w4 (chk (nl xs))) := by unfold cellL; rw [il_append, il_nl h]

/-- Reading goes on while another row grows. -/
theorem Rd.grown {w w' : World} {A B : Option Addr} {m : Nat} {vs : List Value} (h : Rd w B m vs) (hg : w.grownBy w' (blk A)) (hne : 0 < m → blk B ≠ blk A) : Rd w' B m vs := by
  refine ⟨h.1, fun hn => ?_⟩
  obtain ⟨b, off, rfl, hlt, hc⟩ := h.2 hn
  refine ⟨b, off, rfl, Nat.lt_of_lt_of_le hlt hg.size, fun j u hu => ?_⟩
  rw [World.cell?_of_block (a := ⟨b, off + j, none⟩) (hg.block b hlt (fun e => hne hn e))]
  exact hc j u hu
theorem Bs.grown {w w' : World} {A B : Option Addr} {m : Nat} {xs : List Int} (h : Bs w B m xs) (hg : w.grownBy w' (blk A)) (hne : 0 < m → blk B ≠ blk A) : Bs w' B m xs := ⟨h.1.grown hg hne, h.2⟩

/-- What appending some bytes leaves. -/
def AppPost (base : Nat) (A : Option Addr) (zs : List Int) (ys : List Nat) (w : World) (e : Ending) (w' : World) : Prop :=
  ∃ A' c' n', e = .returned (.slice A' n' c') ∧ n' = zs.length + ys.length ∧ Own w' base 5 A' n' c' (By (zs ++ il ys)) ∧ Grows w w' A A'

set_option maxHeartbeats 1000000 in
theorem appendCell_any (A B : Option Addr) (n c m d base : Nat) (zs xs : List Int) (w : World) (ho : Own w base 5 A n c (By zs)) (hb : base ≤ w.heap.size) (hx : Bs w B m xs) (hmd : m ≤ d) (hm : m ≤ 1048576) (hne : 0 < m → blk B ≠ blk A) (hn : n ≤ 140737480000000) (ht : Tabs w) :
    Calls Tryd.prog 48 #[.slice A n c, .slice B m d] w (AppPost base A zs (cellL (nl xs)) w) := by
  obtain ⟨i0, hi, hz0, hz1, hz2⟩ := info_parts info5
  have HL := Lib.hid hx.len
  have HRX := Lib.hid hx.2
  have hnz : zs.length = n := by have := ho.len; rwa [By_length] at this
  have HNZ := Lib.hid hnz; clear hnz
  have hone := Bss.one (t := 28) hx hmd
  have hbA := below_alloc w (.cells #[.slice B m d] 28)
  have HS : Hid (∀ ys ∈ [xs], ys.length ≤ maxLen) := by
    intro ys hys
    obtain rfl : ys = xs := by simpa using hys
    rw [HL.out]; unfold maxLen; omega
  go_enter Tryd.func48, Tryd.ntmps48
  go_wp2_with fail
  refine (check_any _ 1 1 [xs] _ hone (by unfold maxLen; omega) HS.out (ht.below hbA)).mono ?_
  rintro e w2 ⟨b0, b1, b2, b3, rfl, H4, l4', hb2⟩
  have hb12 := hbA.trans (hb2.mono (by simp))
  have ho2 : Own w2 base 5 A n c (By zs) := ho.below hb12 (fun k hk => (ho.lies k hk).2)
  have hx2 := hx.keep hb12
  have hs2 := hb12.size
  have hglt : ∀ k, blk A = some k → k < w2.heap.size := fun k hk => Nat.lt_of_lt_of_le (ho.lies k hk).2 hs2
  clear hone hbA hb2
  unfold a4
  have hbB := below_alloc w2 (.cells #[.int .u8 (b0 : Int), .int .u8 (b1 : Int), .int .u8 (b2 : Int), .int .u8 (b3 : Int)] 30)
  have hr3 := rd_four w2 b0 b1 b2 b3
  have hsl := sliceArr30 w2.heap.size
  have ho3 := ho2.alloc (.cells #[.int .u8 (b0 : Int), .int .u8 (b1 : Int), .int .u8 (b2 : Int), .int .u8 (b3 : Int)] 30)
  have hx3 := hx2.keep hbB
  have hb3 := hb12.trans (hbB.mono hs2)
  have hc3 : base ≤ (w2.alloc (.cells #[.int .u8 (b0 : Int), .int .u8 (b1 : Int), .int .u8 (b2 : Int), .int .u8 (b3 : Int)] 30)).heap.size := by simp; omega
  have hs3 : w2.heap.size < (w2.alloc (.cells #[.int .u8 (b0 : Int), .int .u8 (b1 : Int), .int .u8 (b2 : Int), .int .u8 (b3 : Int)] 30)).heap.size := by simp
  generalize hw3 : w2.alloc (.cells #[.int .u8 (b0 : Int), .int .u8 (b1 : Int), .int .u8 (b2 : Int), .int .u8 (b3 : Int)] 30) = w3 at *
  have HW3 := Lib.hid hw3; clear hw3
  have hneG : blk (some (⟨w2.heap.size, 0, none⟩ : Addr)) ≠ blk A := by
    intro e
    have := hglt w2.heap.size e.symm
    omega
  have HNG := Lib.hid hneG; clear hneG hglt
  clear hx hx2 ho ho2 hbB hb12 HS
  go_wp2_with (at_builtin; (try rw [HW3.out]); refine wpList_append_rd rfl _ _ 28 rfl i0 (.int .u8 0) 1 Tryd.underlying28 hi hz0 hz1 hz2 rfl rfl ho3 B m d (By xs) rfl hx3.1 (By_one _) ?c1 ?c2 ?c3 ?_)
  case c1 => unfold maxLen; omega
  case c2 => omega
  case c3 => exact hc3
  intro A5 c5 w5 ho5 hg5
  have hr5 := hr3.grown hg5.1 (fun _ => HNG.out)
  have hc5 : base ≤ w5.heap.size := Nat.le_trans hc3 hg5.size
  clear hr3 ho3 hx3
  go_wp2_with (at_builtin; refine wpList_append_rd rfl _ _ 28 rfl i0 (.int .u8 0) 1 Tryd.underlying28 hi hz0 hz1 hz2 rfl rfl ho5 (some ⟨w2.heap.size, 0, none⟩) 4 4 (By [(b0 : Int), (b1 : Int), (b2 : Int), (b3 : Int)]) rfl hr5 (By_one _) ?d1 ?d2 ?d3 ?_)
  case d1 => unfold maxLen; omega
  case d2 => omega
  case d3 => exact hc5
  intro A6 c6 w6 ho6 hg6
  have HG : Hid (Grows w w6 A A6) := Grows.pre hb3 (hg5.trans hg6)
  have HO : Hid (Own w6 base 5 A6 (n + m + 4) c6 (By (zs ++ il (cellL (nl xs))))) := by
    show Own _ _ _ _ _ _ _
    have e := H4.out
    simp only [List.flatten_cons, List.flatten_nil, List.append_nil] at e
    rw [il_cellL HRX.out, e, By_append, By_append, ← List.append_assoc]
    simpa [il] using ho6
  clear ho5 ho6 hg5 hg6 hr5 hb3
  go_wp2
  go_ret
  refine ⟨A6, c6, n + m + 4, rfl, ?_, HO.out, HG.out⟩
  rw [cellL_length, nl_length, HNZ.out, HL.out]; omega

theorem slice_l28' (b off n c l : Nat) (hl : l ≤ n) (hn : n ≤ c) : ∃ off', (∀ W, (Instr.slice 28 (.slice (some ⟨b, off, none⟩) n c) (some (.int .i64 (l : Int))) none none).run Tryd.prog W = .ok (.slice (some ⟨b, off', none⟩) (n - l) (c - l)) W) ∧ (l < n → off' = off + l) := by
  by_cases h : l < c
  · exact ⟨off + l, fun W => slice_l28 b off n c l hl h W, fun _ => rfl⟩
  · refine ⟨off, fun W => ?_, fun h' => by omega⟩
    rw [run_slice_l (P := Tryd.prog) W 28 (some ⟨b, off, none⟩) n c elem28 .i64 l (by omega) (by omega), elem28', Tryd.sizeOf5]
    simp only [sliced, Result.andThen, Int.toNat_natCast, Nat.mul_one, Option.map_some]
    rw [if_pos (by omega)]
theorem Tabs.belowB {w w' : World} {B : Nat} (h : Tabs w) (k : Below B w w') (hB : 1 < B) : Tabs w' := by
  refine ⟨Nat.lt_of_lt_of_le h.1 k.size, fun i hi => ⟨?_, ?_⟩⟩
  · rw [k.cell (p := ⟨0, i, none⟩) (Nat.lt_of_le_of_lt (Nat.zero_le _) hB)]; exact (h.2 i hi).1
  · rw [k.cell (p := ⟨1, i, none⟩) hB]; exact (h.2 i hi).2
theorem Tabs.grows {w w' : World} {A A' : Option Addr} {base : Nat} (h : Tabs w) (hg : Grows w w' A A') (hb : base ≤ w.heap.size) (hl : ∀ k, blk A = some k → base ≤ k) (h1 : 1 < base) : Tabs w' := h.belowB (hg.below hb hl) h1
theorem sealedN_le {n : Nat} (h : n ≤ 1048576) : sealedN n ≤ 1100000 := by unfold sealedN; omega

set_option maxHeartbeats 2000000 in
theorem appendRecord_any (A B : Option Addr) (n c m d base : Nat) (zs xs : List Int) (w : World) (ho : Own w base 5 A n c (By zs)) (hb : base ≤ w.heap.size) (hb1 : 1 < base) (hx : Bs w B m xs) (hmd : m ≤ d) (hm : m ≤ 1048576) (hne : 0 < m → blk B ≠ blk A) (hn : n ≤ 140737470000000) (ht : Tabs w) :
    Calls Tryd.prog 43 #[.slice A n c, .slice B m d] w (AppPost base A zs (recL (nl xs)) w) := by
  have HL := Lib.hid hx.len
  have HRX := Lib.hid hx.2
  have hnz : zs.length = n := by have := ho.len; rwa [By_length] at this
  have hw1 : IntKind.u32.wrap (m : Int) = (m : Int) := by
    have : IntKind.u32.wrap (m : Int) = (m : Int) % 4294967296 := by simp [IntKind.wrap, IntKind.bits, IntKind.signed]
    rw [this]; omega
  have hw2 : (m : Int) % 4294967296 = (m : Int) := by omega
  have HNZ := Lib.hid hnz; clear hnz
  have hlies := ho.lies
  go_enter Tryd.func43, Tryd.ntmps43
  go_wp2_with fail
  refine (bigEnd_any m _ (by omega)).mono ?_
  rintro e w2 ⟨b0, b1, b2, b3, rfl, H4, l4', hb2⟩
  have hs2 := hb2.size
  have ho2 : Own w2 base 5 A n c (By zs) := ho.below hb2 (fun k hk => (ho.lies k hk).2)
  have hglt : ∀ k, blk A = some k → k < w2.heap.size := fun k hk => Nat.lt_of_lt_of_le (ho.lies k hk).2 hs2
  clear hw1 hw2
  unfold a4
  have hbB := below_alloc w2 (.cells #[.int .u8 (b0 : Int), .int .u8 (b1 : Int), .int .u8 (b2 : Int), .int .u8 (b3 : Int)] 30)
  have hr3 : Bs (w2.alloc (.cells #[.int .u8 (b0 : Int), .int .u8 (b1 : Int), .int .u8 (b2 : Int), .int .u8 (b3 : Int)] 30)) (some ⟨w2.heap.size, 0, none⟩) 4 [(b0 : Int), (b1 : Int), (b2 : Int), (b3 : Int)] := ⟨rd_four w2 b0 b1 b2 b3, ran_of (by simp; omega)⟩
  have hsl := sliceArr30 w2.heap.size
  have ho3 := ho2.alloc (.cells #[.int .u8 (b0 : Int), .int .u8 (b1 : Int), .int .u8 (b2 : Int), .int .u8 (b3 : Int)] 30)
  have hb3 := hb2.trans (hbB.mono hs2)
  have hneG : blk (some (⟨w2.heap.size, 0, none⟩ : Addr)) ≠ blk A := by
    intro e
    have := hglt w2.heap.size e.symm
    omega
  have HE : Hid (nl [(b0 : Int), (b1 : Int), (b2 : Int), (b3 : Int)] = w4 (nl xs).length) := by
    show _ = _
    rw [nl_length, HL.out, H4.out]; simp [nl]
  go_wp2_with fail
  generalize w2.alloc (.cells #[.int .u8 (b0 : Int), .int .u8 (b1 : Int), .int .u8 (b2 : Int), .int .u8 (b3 : Int)] 30) = w3 at *
  have hs3 := hb3.size
  refine (appendCell_any A _ n c 4 4 base zs _ _ ho3 (by omega) hr3 (Nat.le_refl _) (by omega) (fun _ => hneG) (by omega) (ht.below hb3)).mono ?_
  rintro e v4 ⟨A4, c4, n4, rfl, hn4, ho4, hg4⟩
  rw [HE.out] at hn4 ho4
  have hgw : Grows w v4 A A4 := Grows.pre hb3 hg4
  have hx4 : Bs v4 B m xs := (hx.keep hb3).grown hg4.1 hne
  have hn4' : n4 ≤ n + 8 := by rw [hn4, HNZ.out, cellL_length, w4_length]; exact Nat.le_refl _
  clear hr3 ho3 hb3 hg4 hbB hb2 ho2 ho hneG hsl hn4 hglt
  go_wp2
  go_loopw [0, 1] (fun v u wr => ∃ (A1 B1 : Option Addr) (n1 c1 m1 d1 j : Nat) (dn : List Nat), v = .slice A1 n1 c1 ∧ u = .slice B1 m1 d1 ∧ m1 ≤ m ∧ m1 ≤ d1 ∧ Bs wr B1 m1 (xs.drop j) ∧ (0 < m1 → ∃ b off, B1 = some ⟨b, off, none⟩ ∧ b < w.heap.size ∧ some b ≠ blk A) ∧ Own wr base 5 A1 n1 c1 (By (zs ++ il dn)) ∧ Hid (dn ++ cellsL (nl (xs.drop j)) = recL (nl xs)) ∧ Grows w wr A A1 ∧ n1 ≤ n + 1100000) (fun _ u _ => lenV u)
  case atStart =>
    refine ⟨A4, B, n4, c4, m, d, 0, cellL (w4 (nl xs).length), rfl, rfl, Nat.le_refl _, hmd, hx4, fun h0 => ?_, ho4, rfl, hgw, by omega⟩
    obtain ⟨b, off, rfl, _, _⟩ := hx.1.2 h0
    exact ⟨b, off, rfl, hx.blt h0, hne h0⟩
  case round =>
    obtain ⟨A1, B1, n1, c1, m1, d1, j, dn, rfl, rfl, hm1, hmd1, hx1, hB1, ho1, HD, hg1, hn1⟩ := hrel
    by_cases h0 : m1 = 0
    · subst h0
      have hdn : dn = recL (nl xs) := by
        have := HD.out
        rw [show nl (xs.drop j) = [] from by have := hx1.len; rw [List.eq_nil_of_length_eq_zero this]; rfl, cellsL_nil, List.append_nil] at this
        exact this
      subst hdn
      have hl1 := ho1.len
      rw [By_length, List.length_append, il_length] at hl1
      clear hx4 ho4 hgw hx1 hB1 HD
      have HL1 := Lib.hid hl1; clear hl1
      go_wp2
      go_ret
      exact ⟨A1, c1, n1, rfl, HL1.out.symm, ho1, hg1⟩
    · have hpos : 0 < m1 := by omega
      obtain ⟨b, off, rfl, hbw, hbA⟩ := hB1 hpos
      obtain ⟨s, hs⟩ : ∃ s, s = min m1 251 := ⟨_, rfl⟩
      have hsm : s ≤ m1 := by omega
      have hs251 : s ≤ 251 := by omega
      have hs0 : 0 < s := by omega
      have hslh := slice_h28 (some ⟨b, off, none⟩) m1 d1 s (by omega)
      obtain ⟨off', hsll, hoff⟩ := slice_l28' b off m1 d1 s hsm hmd1
      have hsg : w.heap.size ≤ wr.heap.size := hg1.size
      have hneb : blk (some (⟨b, off, none⟩ : Addr)) ≠ blk A1 := by
        intro e
        have e' : some b = blk A1 := e
        rcases hg1.2 with h | ⟨g, h, hge⟩
        · rw [h] at e'; exact hbA e'
        · rw [h] at e'
          injection e' with e'
          omega
      have hts := ht.grows hg1 hb (fun k hk => (hlies k hk).1) hb1
      have hx1s := hx1.first (m := s) hsm
      have HTK : Hid (nl ((xs.drop j).take s) = (nl (xs.drop j)).take 251) := by
        show _ = _
        rw [nl_take]
        have hlen : (nl (xs.drop j)).length = m1 := by rw [nl_length]; exact hx1.len
        rw [List.take_eq_take_iff]; omega
      have HDR : Hid (nl (xs.drop (j + s)) = (nl (xs.drop j)).drop 251) := by
        show _ = _
        rw [← List.drop_drop, nl_dropk]
        have hlen : (nl (xs.drop j)).length = m1 := by rw [nl_length]; exact hx1.len
        rcases Nat.lt_or_ge 251 m1 with h | h
        · rw [show s = 251 by omega]
        · rw [List.drop_eq_nil_of_le (by omega), List.drop_eq_nil_of_le (by omega)]
      have HNE : Hid (nl (xs.drop j) ≠ []) := by
        intro e
        have : (nl (xs.drop j)).length = m1 := by rw [nl_length]; exact hx1.len
        rw [e] at this; simp at this; omega
      have HXR : Hid (Bs wr (some ⟨b, off', none⟩) (m1 - s) (xs.drop (j + s))) := by
        show Bs _ _ _ _
        rw [← List.drop_drop]
        rcases Nat.lt_or_ge s m1 with h | h
        · rw [hoff h]; exact hx1.rest hsm
        · have e1 : m1 - s = 0 := by omega
          have e2 : (xs.drop j).drop s = [] := List.drop_eq_nil_of_le (by rw [hx1.len]; omega)
          rw [e1, e2]; exact Bs.nil_
      have HDD : Hid ((dn ++ cellL ((nl (xs.drop j)).take 251)) ++ cellsL (nl (xs.drop (j + s))) = recL (nl xs)) := by
        show _ = _
        rw [HDR.out, List.append_assoc, ← cellsL_step HNE.out]; exact HD.out
      have hdl : n1 + (s + 4) ≤ n + 1100000 := by
        have e := congrArg List.length HDD.out
        rw [recL_length, nl_length, HL.out] at e
        have e2 := ho1.len
        rw [By_length, List.length_append, il_length, HNZ.out] at e2
        have e3 := sealedN_le hm
        have e4 : ((nl (xs.drop j)).take 251).length = s := by rw [List.length_take, nl_length, hx1.len]; omega
        simp only [List.length_append, cellL_length, e4] at e
        omega
      have hwrb : base ≤ wr.heap.size := by omega
      clear hoff hx1 HD hx4 ho4 hgw
      have HS := Lib.hid hs
      have hcase : (m1 < 251 ∧ s = m1) ∨ (m1 = 251 ∧ s = m1) ∨ (251 < m1 ∧ s = 251) := by omega
      clear hs
      rcases hcase with ⟨hq, hs⟩ | ⟨hq, hs⟩ | ⟨hq, hs⟩
      · have hslh2 : ∀ W, (Instr.slice 28 (.slice (some ⟨b, off, none⟩) m1 d1) none (some (.int .i64 (m1 : Int))) none).run Tryd.prog W = .ok (.slice (some ⟨b, off, none⟩) s d1) W := fun W => by have := hslh W; rwa [show ((s : Nat) : Int) = (m1 : Int) by omega] at this
        have hsll2 : ∀ W, (Instr.slice 28 (.slice (some ⟨b, off, none⟩) m1 d1) (some (.int .i64 (m1 : Int))) none none).run Tryd.prog W = .ok (.slice (some ⟨b, off', none⟩) (m1 - s) (d1 - s)) W := fun W => by have := hsll W; rwa [show ((s : Nat) : Int) = (m1 : Int) by omega] at this
        have hq1 : (m1 : Int) < 251 := by omega
        have hq2 : ¬ (251 : Int) < (m1 : Int) := by omega
        clear hs hslh hsll hq
        go_wp2_with fail
        refine (appendCell_any A1 _ n1 c1 s d1 base (zs ++ il dn) _ _ ho1 hwrb hx1s (by omega) (by omega) (fun _ => hneb) (by omega) hts).mono ?_
        rintro e v5 ⟨A5, c5, n5, rfl, hn5, ho5, hg5⟩
        rw [HTK.out] at hn5 ho5
        have hn5' : n5 ≤ n1 + (s + 4) := by
          have e2 := ho1.len
          rw [By_length] at e2
          rw [hn5, e2, cellL_length, ← HTK.out, nl_length, hx1s.len]; exact Nat.le_refl _
        have hx5 := HXR.out.grown hg5.1 (fun _ => hneb)
        have hgw5 := hg1.trans hg5
        have HO5 : Hid (Own v5 base 5 A5 n5 c5 (By (zs ++ il (dn ++ cellL ((nl (xs.drop j)).take 251))))) := by
          show Own _ _ _ _ _ _ _
          rw [il_append, ← List.append_assoc]; exact ho5
        clear hn5 ho5 hg5 ho1 hg1 hx1s HXR hts HTK HDR HNE
        go_wp2
        go_roundw
        case rel => exact ⟨A5, _, n5, c5, m1 - s, d1 - s, j + s, _, rfl, rfl, by omega, by omega, hx5, fun _ => ⟨b, off', rfl, hbw, hbA⟩, HO5.out, HDD, hgw5, by omega⟩
        case measure => simp [lenV]; omega
      · have hslh2 : ∀ W, (Instr.slice 28 (.slice (some ⟨b, off, none⟩) m1 d1) none (some (.int .i64 251)) none).run Tryd.prog W = .ok (.slice (some ⟨b, off, none⟩) s d1) W := fun W => by have := hslh W; rwa [show ((s : Nat) : Int) = 251 by omega] at this
        have hsll2 : ∀ W, (Instr.slice 28 (.slice (some ⟨b, off, none⟩) m1 d1) (some (.int .i64 251)) none none).run Tryd.prog W = .ok (.slice (some ⟨b, off', none⟩) (m1 - s) (d1 - s)) W := fun W => by have := hsll W; rwa [show ((s : Nat) : Int) = 251 by omega] at this
        have hslh3 : ∀ W, (Instr.slice 28 (.slice (some ⟨b, off, none⟩) m1 d1) none (some (.int .i64 (m1 : Int))) none).run Tryd.prog W = .ok (.slice (some ⟨b, off, none⟩) s d1) W := fun W => by have := hslh W; rwa [show ((s : Nat) : Int) = (m1 : Int) by omega] at this
        have hsll3 : ∀ W, (Instr.slice 28 (.slice (some ⟨b, off, none⟩) m1 d1) (some (.int .i64 (m1 : Int))) none none).run Tryd.prog W = .ok (.slice (some ⟨b, off', none⟩) (m1 - s) (d1 - s)) W := fun W => by have := hsll W; rwa [show ((s : Nat) : Int) = (m1 : Int) by omega] at this
        have hq1 : ¬ (m1 : Int) < 251 := by omega
        have hq2 : ¬ (251 : Int) < (m1 : Int) := by omega
        clear hs hslh hsll hq
        go_wp2_with fail
        refine (appendCell_any A1 _ n1 c1 s d1 base (zs ++ il dn) _ _ ho1 hwrb hx1s (by omega) (by omega) (fun _ => hneb) (by omega) hts).mono ?_
        rintro e v5 ⟨A5, c5, n5, rfl, hn5, ho5, hg5⟩
        rw [HTK.out] at hn5 ho5
        have hn5' : n5 ≤ n1 + (s + 4) := by
          have e2 := ho1.len
          rw [By_length] at e2
          rw [hn5, e2, cellL_length, ← HTK.out, nl_length, hx1s.len]; exact Nat.le_refl _
        have hx5 := HXR.out.grown hg5.1 (fun _ => hneb)
        have hgw5 := hg1.trans hg5
        have HO5 : Hid (Own v5 base 5 A5 n5 c5 (By (zs ++ il (dn ++ cellL ((nl (xs.drop j)).take 251))))) := by
          show Own _ _ _ _ _ _ _
          rw [il_append, ← List.append_assoc]; exact ho5
        clear hn5 ho5 hg5 ho1 hg1 hx1s HXR hts HTK HDR HNE
        go_wp2
        go_roundw
        case rel => exact ⟨A5, _, n5, c5, m1 - s, d1 - s, j + s, _, rfl, rfl, by omega, by omega, hx5, fun _ => ⟨b, off', rfl, hbw, hbA⟩, HO5.out, HDD, hgw5, by omega⟩
        case measure => simp [lenV]; omega
      · have hslh2 : ∀ W, (Instr.slice 28 (.slice (some ⟨b, off, none⟩) m1 d1) none (some (.int .i64 251)) none).run Tryd.prog W = .ok (.slice (some ⟨b, off, none⟩) s d1) W := fun W => by have := hslh W; rwa [show ((s : Nat) : Int) = 251 by omega] at this
        have hsll2 : ∀ W, (Instr.slice 28 (.slice (some ⟨b, off, none⟩) m1 d1) (some (.int .i64 251)) none none).run Tryd.prog W = .ok (.slice (some ⟨b, off', none⟩) (m1 - s) (d1 - s)) W := fun W => by have := hsll W; rwa [show ((s : Nat) : Int) = 251 by omega] at this
        have hq1 : ¬ (m1 : Int) < 251 := by omega
        have hq2 : (251 : Int) < (m1 : Int) := by omega
        clear hs hslh hsll hq
        go_wp2_with fail
        refine (appendCell_any A1 _ n1 c1 s d1 base (zs ++ il dn) _ _ ho1 hwrb hx1s (by omega) (by omega) (fun _ => hneb) (by omega) hts).mono ?_
        rintro e v5 ⟨A5, c5, n5, rfl, hn5, ho5, hg5⟩
        rw [HTK.out] at hn5 ho5
        have hn5' : n5 ≤ n1 + (s + 4) := by
          have e2 := ho1.len
          rw [By_length] at e2
          rw [hn5, e2, cellL_length, ← HTK.out, nl_length, hx1s.len]; exact Nat.le_refl _
        have hx5 := HXR.out.grown hg5.1 (fun _ => hneb)
        have hgw5 := hg1.trans hg5
        have HO5 : Hid (Own v5 base 5 A5 n5 c5 (By (zs ++ il (dn ++ cellL ((nl (xs.drop j)).take 251))))) := by
          show Own _ _ _ _ _ _ _
          rw [il_append, ← List.append_assoc]; exact ho5
        clear hn5 ho5 hg5 ho1 hg1 hx1s HXR hts HTK HDR HNE
        go_wp2
        go_roundw
        case rel => exact ⟨A5, _, n5, c5, m1 - s, d1 - s, j + s, _, rfl, rfl, by omega, by omega, hx5, fun _ => ⟨b, off', rfl, hbw, hbA⟩, HO5.out, HDD, hgw5, by omega⟩
        case measure => simp [lenV]; omega

theorem sealed_any (n : Nat) (hn : n ≤ 1048576) (w : World) : Calls Tryd.prog 26 #[.int .i64 (n : Int)] w fun e w' => e = .returned (.int .i64 (sealedN n : Nat)) ∧ w = w' := by
  have hd : decide ((1048576 : Int) < (n : Int)) = false := by simp; omega
  have hd0 : decide ((n : Int) < 0) = false := by simp
  have HN := Lib.hid (show (8 : Int) + (n : Int) + ((n : Int) + 251 - 1) / 251 * 4 = ((sealedN n : Nat) : Int) by unfold sealedN; omega)
  have HN' := Lib.hid (show (8 : Int) + (n : Int) + ((n : Int) + 250) / 251 * 4 = ((sealedN n : Nat) : Int) by unfold sealedN; omega)
  go_enter Tryd.func26, Tryd.ntmps26
  go_wp2
  go_ret
  exact ⟨by first | exact ret_int HN.out | exact ret_int HN'.out, rfl⟩
theorem sealed_out (n : Int) (hn : n < 0 ∨ 1048576 < n) (w : World) : Calls Tryd.prog 26 #[.int .i64 n] w fun e w' => e = .returned (.int .i64 0) ∧ w = w' := by
  rcases hn with h | h
  · have hd0 : decide (n < 0) = true := by simpa using h
    go_enter Tryd.func26, Tryd.ntmps26
    go_wp2
    go_ret
    exact ⟨rfl, rfl⟩
  · have hd0 : decide (n < 0) = false := by simp; omega
    have hd1 : decide ((1048576 : Int) < n) = true := by simpa using h
    go_enter Tryd.func26, Tryd.ntmps26
    go_wp2
    go_ret
    exact ⟨rfl, rfl⟩

/-- An empty row with room. -/
theorem Own.room {w : World} {base g S : Nat} {e : TypeId} {cs : Array Value} (h : w.heap[g]? = some (.cells cs e (0, 0))) (hb : base ≤ g) (hn : cs.size = S) (hm : S ≤ maxLen) : Own w base e (some ⟨g, 0, none⟩) 0 S [] :=
  ⟨by simp, .inr ⟨g, S, cs, rfl, hb, h, Nat.zero_le _, hm, by simpa using hn, by simp⟩⟩
theorem run_make_room (i : TypeInfo) (hi : Tryd.prog.info? 5 = some i) (hz : i.zero = some (.int .u8 0)) (hsize : i.size = 1) (hby : i.bytes = 1) (S : Nat) (hb : S ≤ 281474976710656) (w : World) :
    (Instr.makeSlice 28 (.int .i64 0) (.int .i64 (S : Int))).run Tryd.prog w = .ok (.slice (some ⟨w.heap.size, 0, none⟩) 0 S) (w.alloc (.cells (zerA S) 5)) := by
  rw [run_make w 28 5 i _ Tryd.underlying28 hi hz .i64 .i64 0 (S : Int) (by omega) (by omega) (by rw [hby]; omega) (by omega)]
  have e1 : madeCells (Value.cells (.int .u8 0)) (((S : Int)).toNat * i.size) = zerA S := by
    rw [hsize, Nat.mul_one, Int.toNat_natCast]
    apply Array.toList_inj.1
    show (madeCells #[.int .u8 0] S).toList = _
    rw [toList_madeCells_one]; rfl
  rw [e1, Int.toNat_natCast]; rfl

/-- A record in memory of its own. -/
theorem seal_any (B : Option Addr) (m d : Nat) (xs : List Int) (w : World) (hx : Bs w B m xs) (hmd : m ≤ d) (hm : m ≤ 1048576) (ht : Tabs w) :
    Calls Tryd.prog 24 #[.slice B m d] w fun e w' => ∃ A' c' n', e = .returned (.tuple #[.slice A' n' c', .int .i64 0]) ∧ n' = sealedN m ∧ Own w' w.heap.size 5 A' n' c' (By (il (recL (nl xs)))) ∧ Below w.heap.size w w' := by
  obtain ⟨i0, hi, hz0, hz1, hz2⟩ := info_parts info5
  have HL := Lib.hid hx.len
  have hS := sealedN_le hm
  have hmk := fun W => run_make_room i0 hi hz0 hz1 hz2 (sealedN m) (by omega) W
  have hd : decide ((1048576 : Int) < (m : Int)) = false := by simp; omega
  have hb0 := below_alloc w (.cells (zerA (sealedN m)) 5)
  have ho0 : Own (w.alloc (.cells (zerA (sealedN m)) 5)) w.heap.size 5 (some ⟨w.heap.size, 0, none⟩) 0 (sealedN m) (By []) := Own.room (heap_alloc_new w _) (Nat.le_refl _) (by simp [zerA, zer]) (by unfold maxLen; omega)
  have hx0 := hx.keep hb0
  have ht0 := ht.below hb0
  have hneb : 0 < m → blk B ≠ blk (some (⟨w.heap.size, 0, none⟩ : Addr)) := by
    intro h0 e
    obtain ⟨b, off, rfl, hlt, _⟩ := hx.1.2 h0
    have : b = w.heap.size := by injection e
    omega
  have h1 := ht.1
  go_enter Tryd.func24, Tryd.ntmps24
  go_wp2_with fail
  refine (sealed_any m hm _).mono ?_
  rintro e w' ⟨rfl, rfl⟩
  go_wp2_with fail
  refine (appendRecord_any _ B 0 (sealedN m) m d w.heap.size [] xs _ ho0 (by simp) h1 hx0 hmd hm hneb (by omega) ht0).mono ?_
  rintro e w2 ⟨A2, c2, n2, rfl, hn2, ho2, hg2⟩
  have hb2 : Below w.heap.size w w2 := hb0.trans (hg2.below (by simp) (fun k hk => (ho0.lies k hk).1))
  have HN2 := Lib.hid (show n2 = sealedN m by rw [hn2, recL_length, nl_length, HL.out]; simp)
  have HO2 := Lib.hid ho2
  clear hn2 ho2 hg2 ho0 hmk
  go_wp2
  go_ret2
  exact ⟨A2, c2, n2, rfl, HN2.out, by simpa using HO2.out, hb2⟩
end Go.Proofs.YtmckgdjipkkklaaDoor
