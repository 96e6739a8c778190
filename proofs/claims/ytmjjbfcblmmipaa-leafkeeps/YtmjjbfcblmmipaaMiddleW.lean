/- leaf.middle. -/
import Derived.Test.YtmjjbfcblmmipaaRSplit2
import Derived.Test.YtmjjbfcblmmipaaSplitM
namespace Go.Proofs.Ytmjjbfcblmmipaa
set_option linter.unusedVariables false
set_option linter.unusedSimpArgs false
open Go.RowKit

/-- Only these two blocks, and what is new, have turned. -/
structure On2 (g1 g2 : Nat) (w w' : World) : Prop where
  os : w'.os = w.os
  tape : w'.tape = w.tape
  output : w'.output = w.output
  size : w.heap.size ≤ w'.heap.size
  block : ∀ i, i < w.heap.size → i ≠ g1 → i ≠ g2 → w'.heap[i]? = w.heap[i]?
theorem On2.refl (g1 g2 : Nat) (w : World) : On2 g1 g2 w w := ⟨rfl, rfl, rfl, Nat.le_refl _, fun _ _ _ _ => rfl⟩
theorem On2.trans {g1 g2 : Nat} {w w1 w2 : World} (h : On2 g1 g2 w w1) (k : On2 g1 g2 w1 w2) : On2 g1 g2 w w2 :=
  ⟨k.os.trans h.os, k.tape.trans h.tape, k.output.trans h.output, Nat.le_trans h.size k.size, fun i hi h1 h2 => (k.block i (Nat.lt_of_lt_of_le hi h.size) h1 h2).trans (h.block i hi h1 h2)⟩
theorem On2.left {g1 g2 : Nat} {w w' : World} (h : Onl g1 w w') : On2 g1 g2 w w' :=
  ⟨h.os, h.tape, h.output, h.size, fun i hi h1 _ => h.block i hi (fun e => h1 (by injection e))⟩
theorem On2.right {g1 g2 : Nat} {w w' : World} (h : Onl g2 w w') : On2 g1 g2 w w' :=
  ⟨h.os, h.tape, h.output, h.size, fun i hi _ h2 => h.block i hi (fun e => h2 (by injection e))⟩
theorem On2.below {g1 g2 B : Nat} {w w' : World} (h : On2 g1 g2 w w') (h1 : B ≤ g1) (h2 : B ≤ g2) (hB : B ≤ w.heap.size) : Below B w w' :=
  ⟨h.os, h.tape, h.output, h.size, fun i hi => h.block i (by omega) (by omega) (by omega)⟩
theorem On2.dr {g1 g2 : Nat} {w w' : World} (h : Dr w w') : On2 g1 g2 w w' := by
  have := h.below w.heap.size
  exact ⟨this.os, this.tape, this.output, this.size, fun i hi _ _ => this.block i hi⟩

/-- What the closure makes of the best place so far. -/
def bestP (b l k g : Nat) : Nat × Nat := if b = 0 ∨ g < l then (k, g) else (b, l)

set_option maxRecDepth 100000 in
set_option maxHeartbeats 4000000 in
theorem mid_any (lf : Bool) (AK : Option Addr) (nK cK : Nat) (AV : Option Addr) (nV cV : Nat) (AD : Option Addr) (nD cD : Nat) (ks : List (List Int)) (k S b l f c g gw gn gb gl : Nat) (xs : List Int) (w : World) (hx : Bss w AK nK ks) (hxk : ks[k]? = some xs)
    (hW : w.heap[gw]? = some (.cells #[.int .i64 (S : Int)] 3 (0, 0))) (hN : w.heap[gn]? = some (.cells (ndV lf AK nK cK AV nV cV AD nD cD) 70 (0, 0))) (hB : w.heap[gb]? = some (.cells #[.int .i64 (b : Int)] 3 (0, 0))) (hL : w.heap[gl]? = some (.cells #[.int .i64 (l : Int)] 3 (0, 0)))
    (hne : gb ≠ gl) (hk : k < nK) (bN : nK ≤ 1048576) (bS : S ≤ 1000000000000000000) (hS : S + 3 = f + c + (if lf then 0 else 1 + xs.length)) (hg : max f c = g) :
    Calls Try.prog 133 #[.int .i64 (k : Int), .int .i64 (f : Int), .pointer (some ⟨gw, 0, none⟩), .pointer (some ⟨gn, 0, none⟩), .pointer (some ⟨gb, 0, none⟩), .pointer (some ⟨gl, 0, none⟩)] w fun e w' => e = .returned (.tuple #[]) ∧
      w'.heap[gb]? = some (.cells #[.int .i64 (((bestP b l k g).1 : Nat) : Int)] 3 (0, 0)) ∧ w'.heap[gl]? = some (.cells #[.int .i64 (((bestP b l k g).2 : Nat) : Int)] 3 (0, 0)) ∧ On2 gb gl w w' := by
  have HB := Lib.hid hB; have HL := Lib.hid hL
  obtain ⟨bb, off, A', n', c', ys, hA, hbl, hcl, hxs, hnc, HXK⟩ := hx.at_ hk
  obtain rfl : ys = xs := by have := HXK.out; rw [hxk] at this; injection this with this; exact this.symm
  have hnl := hxs.len
  rw [hnl] at hS
  have qw := rc_cell 0 (.int .i64 (S : Int)) hW rfl
  have q0 := rc_cell 0 (.bool lf) hN rfl; have q1 := rc_cell 1 (.slice AK nK cK) hN rfl
  have qb := rc_cell 0 (.int .i64 (b : Int)) hB rfl; have ql := rc_cell 0 (.int .i64 (l : Int)) hL rfl
  have fb := two_frozen (i := 0) hB; have fl := two_frozen (i := 0) hL
  have z0 : (0 : Int) ≤ (k : Int) := by omega
  have z1 : (k : Int) < (nK : Int) := by omega
  rw [hA] at q1
  have hB2 := rc_set (cs' := #[.int .i64 (k : Int)]) 0 (.int .i64 (k : Int)) hB rfl
  have hO1 := onl_set w gb 0 (.int .i64 (k : Int))
  have hL2 := (hO1.block gl (lt_of_heap hL) (by intro e; injection e with e; exact hne e.symm)).trans hL
  have hL3 := rc_set (cs' := #[.int .i64 (g : Int)]) 0 (.int .i64 (g : Int)) hL2 rfl
  have hO2 := onl_set (w.setCell ⟨gb, 0, none⟩ (.int .i64 (k : Int))) gl 0 (.int .i64 (g : Int))
  have hB3 := (hO2.block gb (lt_of_heap hB2) (by intro e; injection e with e; exact hne e)).trans hB2
  have ql2 := rc_cell 0 (.int .i64 (l : Int)) hL2 rfl
  have fl2 := two_frozen (i := 0) hL2
  have HO := Lib.hid ((On2.left (g2 := gl) hO1).trans (On2.right (g1 := gb) hO2))
  have HB3 := Lib.hid hB3; have HL3 := Lib.hid hL3
  have HG := Lib.hid hg
  clear hx hxk hW hN hB hL hA hxs hnc hnl hB2 hO1 hL2 hL3 hO2 hB3
  cases lf with
  | true =>
    simp only [if_true, Nat.add_zero] at hS
    have e1 : (S : Int) + 3 - (f : Int) = (c : Int) := by omega
    have hmx : max (f : Int) (c : Int) = (g : Int) := by omega
    have hw1 : IntKind.i64.wrap ((S : Int) + 3) = (S : Int) + 3 := IntWalk.i64_in _ (by omega)
    have hw2 : IntKind.i64.wrap ((S : Int) + 3 - (f : Int)) = (c : Int) := by rw [e1]; exact IntWalk.i64_in _ (by omega)
    clear hS e1 hg
    by_cases hb0 : b = 0
    · have d1 : ((b : Int) == 0) = true := by rw [hb0]; rfl
      have HP : Hid (bestP b l k g = (k, g)) := Lib.hid (by unfold bestP; rw [if_pos (by omega)])
      clear hb0
      go_enter Try.func133, Try.ntmps133
      go_wp2
      go_end0
      exact ⟨rfl, by rw [HP.out]; exact HB3.out, by rw [HP.out]; exact HL3.out, HO.out⟩
    · have d1 : ((b : Int) == 0) = false := by rw [beq_eq_false_iff_ne]; omega
      by_cases hgl : g < l
      · have d2 : decide (g < l) = true := by simp [hgl]
        have d3 : decide ((g : Int) < (l : Int)) = true := by simp [hgl]
        have HP : Hid (bestP b l k g = (k, g)) := Lib.hid (by unfold bestP; rw [if_pos (by omega)])
        clear hb0 hgl
        go_enter Try.func133, Try.ntmps133
        go_wp2
        go_end0
        exact ⟨rfl, by rw [HP.out]; exact HB3.out, by rw [HP.out]; exact HL3.out, HO.out⟩
      · have d2 : decide (g < l) = false := by simp [hgl]
        have d3 : decide ((g : Int) < (l : Int)) = false := by simp [hgl]
        have HP : Hid (bestP b l k g = (b, l)) := Lib.hid (by unfold bestP; rw [if_neg (by omega)])
        clear hb0 hgl
        go_enter Try.func133, Try.ntmps133
        go_wp2
        go_end0
        exact ⟨rfl, by rw [HP.out]; exact HB.out, by rw [HP.out]; exact HL.out, On2.refl _ _ _⟩
  | false =>
    simp only [Bool.false_eq_true, if_false] at hS
    obtain ⟨r, HRR⟩ : ∃ r : Nat, Hid (c + (1 + n') = r) := ⟨_, rfl⟩
    have hr := HRR.out
    have e1 : (S : Int) + 3 - (f : Int) = (r : Int) := by omega
    have e2 : (r : Int) - (1 + (n' : Int)) = (c : Int) := by omega
    have hmx : max (f : Int) (c : Int) = (g : Int) := by omega
    have hw1 : IntKind.i64.wrap ((S : Int) + 3) = (S : Int) + 3 := IntWalk.i64_in _ (by omega)
    have hw2 : IntKind.i64.wrap ((S : Int) + 3 - (f : Int)) = (r : Int) := by rw [e1]; exact IntWalk.i64_in _ (by omega)
    have hw3 : IntKind.i64.wrap (1 + (n' : Int)) = 1 + (n' : Int) := IntWalk.i64_in _ (by omega)
    have hw4 : IntKind.i64.wrap ((r : Int) - (1 + (n' : Int))) = (c : Int) := by rw [e2]; exact IntWalk.i64_in _ (by omega)
    clear hS e1 e2 hg hr
    by_cases hb0 : b = 0
    · have d1 : ((b : Int) == 0) = true := by rw [hb0]; rfl
      have HP : Hid (bestP b l k g = (k, g)) := Lib.hid (by unfold bestP; rw [if_pos (by omega)])
      clear hb0
      go_enter Try.func133, Try.ntmps133
      go_wp2
      go_end0
      exact ⟨rfl, by rw [HP.out]; exact HB3.out, by rw [HP.out]; exact HL3.out, HO.out⟩
    · have d1 : ((b : Int) == 0) = false := by rw [beq_eq_false_iff_ne]; omega
      by_cases hgl : g < l
      · have d2 : decide (g < l) = true := by simp [hgl]
        have d3 : decide ((g : Int) < (l : Int)) = true := by simp [hgl]
        have HP : Hid (bestP b l k g = (k, g)) := Lib.hid (by unfold bestP; rw [if_pos (by omega)])
        clear hb0 hgl
        go_enter Try.func133, Try.ntmps133
        go_wp2
        go_end0
        exact ⟨rfl, by rw [HP.out]; exact HB3.out, by rw [HP.out]; exact HL3.out, HO.out⟩
      · have d2 : decide (g < l) = false := by simp [hgl]
        have d3 : decide ((g : Int) < (l : Int)) = false := by simp [hgl]
        have HP : Hid (bestP b l k g = (b, l)) := Lib.hid (by unfold bestP; rw [if_neg (by omega)])
        clear hb0 hgl
        go_enter Try.func133, Try.ntmps133
        go_wp2
        go_end0
        exact ⟨rfl, by rw [HP.out]; exact HB.out, by rw [HP.out]; exact HL.out, On2.refl _ _ _⟩
end Go.Proofs.Ytmjjbfcblmmipaa
namespace Go.Proofs.Ytmjjbfcblmmipaa
set_option linter.unusedVariables false
set_option linter.unusedSimpArgs false
open Go.RowKit

/-- The best place and its size, behind so many places. -/
def stN (F : Nat → Nat) : Nat → Nat × Nat
  | 0 => (0, 0)
  | k + 1 => (bestN F k, F (bestN F k))
theorem stN_step (F : Nat → Nat) (k : Nat) : bestP (stN F k).1 (stN F k).2 (k + 1) (F (k + 1)) = stN F (k + 1) := by
  cases k with
  | zero => simp [stN, bestP, bestN]
  | succ k =>
    have h := (bestN_in F k).1
    have h2 : ¬ bestN F k = 0 := by omega
    simp only [stN, bestP, h2, false_or, bestN]
    split <;> rfl
theorem cut_leaf (ks vs : List (List Int)) (nD k : Nat) : sizeN true ks vs nD + 3 = frN true ks vs k + bkN true ks vs nD k := by
  have h1 := szW_cut 1 ks k; have h2 := szW_cut 2 vs k
  simp only [sizeN, frN, bkN, if_true]; omega
theorem cut_fork (ks vs : List (List Int)) (nD k : Nat) (x : List Int) (hx : ks[k]? = some x) (hD : k + 1 ≤ nD) : sizeN false ks vs nD + 3 = frN false ks vs k + bkN false ks vs nD k + (1 + x.length) := by
  have h1 := szW_cut 1 ks (k + 1); have h2 := szW_take (d := 1) hx
  simp only [sizeN, frN, bkN, Bool.false_eq_true, if_false]; omega
theorem fr_leaf (ks vs : List (List Int)) (k : Nat) (x y : List Int) (hx : ks[k]? = some x) (hy : vs[k]? = some y) : frN true ks vs (k + 1) = frN true ks vs k + (1 + x.length) + (2 + y.length) := by
  have h1 := szW_take (d := 1) hx; have h2 := szW_take (d := 2) hy
  simp only [sizeN, frN, if_true]; omega
theorem fr_fork (ks vs : List (List Int)) (k : Nat) (x : List Int) (hx : ks[k]? = some x) : frN false ks vs (k + 1) = frN false ks vs k + (1 + x.length) + 2 := by
  have h1 := szW_take (d := 1) hx
  simp only [sizeN, frN, Bool.false_eq_true, if_false]; omega
theorem fr_le (lf : Bool) (ks vs : List (List Int)) (k : Nat) (sK : szW 1 ks ≤ 100000000000000000) (sV : szW 2 vs ≤ 100000000000000000) (hk : k ≤ 100000) : frN lf ks vs k ≤ 300000000000000000 := by
  have h1 := szW_le 1 ks k; have h2 := szW_le 2 vs k
  cases lf <;> simp [sizeN, frN] <;> omega
set_option maxRecDepth 100000 in
set_option maxHeartbeats 4000000 in
theorem frontsL_any (AK : Option Addr) (nK cK : Nat) (AV : Option Addr) (nV cV : Nat) (AD : Option Addr) (nD cD : Nat) (ks vs : List (List Int)) (S gw gn gb gl : Nat) (w0 w : World) (hx : Bss w0 AK nK ks) (hy : Bss w0 AV nV vs) (hb : Below w0.heap.size w0 w)
    (hW : w.heap[gw]? = some (.cells #[.int .i64 (S : Int)] 3 (0, 0))) (hN : w.heap[gn]? = some (.cells (ndV true AK nK cK AV nV cV AD nD cD) 70 (0, 0))) (hB : w.heap[gb]? = some (.cells #[.int .i64 0] 3 (0, 0))) (hL : w.heap[gl]? = some (.cells #[.int .i64 0] 3 (0, 0)))
    (hne : gb ≠ gl) (hwb : gw ≠ gb) (hwl : gw ≠ gl) (hnb : gn ≠ gb) (hnl : gn ≠ gl) (b1 : w0.heap.size ≤ gb) (b2 : w0.heap.size ≤ gl) (hS : S = sizeN true ks vs nD) (hn : 2 ≤ nK) (hV : nV = nK) (hD : nD = 0) (bK : nK ≤ 100000)
    (sK : szW 1 ks ≤ 100000000000000000) (sV : szW 2 vs ≤ 100000000000000000) :
    Calls Try.prog 132 #[.agg (ndV true AK nK cK AV nV cV AD nD cD), (.func (.func 133) #[] #[.pointer (some ⟨gw, 0, none⟩), .pointer (some ⟨gn, 0, none⟩), .pointer (some ⟨gb, 0, none⟩), .pointer (some ⟨gl, 0, none⟩)])] w fun e w' => e = .returned (.tuple #[]) ∧ w'.heap[gb]? = some (.cells #[.int .i64 ((bestN (gtr true ks vs nD) (nK - 2) : Nat) : Int)] 3 (0, 0)) ∧ Below w0.heap.size w0 w' := by
  have hb1 := below_alloc w (.cells (ndV true AK nK cK AV nV cV AD nD cD) 70)
  have BX := Lib.hid (heap_alloc_new w (.cells (ndV true AK nK cK AV nV cV AD nD cD) 70))
  have HW := Lib.hid ((hb1.block gw (lt_of_heap hW)).trans hW); have lW := lt_of_heap hW
  have HN := Lib.hid ((hb1.block gn (lt_of_heap hN)).trans hN); have lN := lt_of_heap hN
  have HB := Lib.hid ((hb1.block gb (lt_of_heap hB)).trans hB); have lB := lt_of_heap hB
  have HL := Lib.hid ((hb1.block gl (lt_of_heap hL)).trans hL); have lL := lt_of_heap hL
  have HX := Lib.hid hx; have HY := Lib.hid hy; have HLK := Lib.hid hx.len; have HLV := Lib.hid hy.len
  have HBY := Lib.hid (hb.trans (hb1.mono hb.size)); have hsz := hb.size
  have hgs : (w.alloc (.cells (ndV true AK nK cK AV nV cV AD nD cD) 70)).heap.size = w.heap.size + 1 := by simp
  have HSS := Lib.hid hS; have HKD := Lib.hid hD
  have HVD := Lib.hid hV; clear hx hy hb hb1 hW hN hB hL hS
  have q0 := rc_cell 0 (.bool true) BX.out rfl; have q1 := rc_cell 1 (.slice AK nK cK) BX.out rfl; have q2 := rc_cell 2 (.slice AV nV cV) BX.out rfl; have q3 := rc_cell 3 (.slice AD nD cD) BX.out rfl
  obtain ⟨m, HM⟩ : ∃ m : Nat, Hid (nK - 1 = m) := ⟨_, rfl⟩
  have hm := HM.out
  have e1 : (nK : Int) - 1 = (m : Int) := by omega
  have hw1 : IntKind.i64.wrap ((nK : Int) - 1) = (m : Int) := by rw [e1]; exact IntWalk.i64_in _ (by omega)
  clear e1 hD hV
  go_enter Try.func132, Try.ntmps132
  go_wp2_with fail
  clear q0 q1 q2 q3
  generalize w.alloc (.cells (ndV true AK nK cK AV nV cV AD nD cD) 70) = y at *
  go_loopw [5, 27] (fun fv iv wr => ∃ kk : Nat, fv = .int .i64 ((frN true ks vs kk : Nat) : Int) ∧ iv = .int .i64 (kk : Int) ∧ kk ≤ m ∧ Hid (wr.heap[gb]? = some (.cells #[.int .i64 (((stN (gtr true ks vs nD) kk).1 : Nat) : Int)] 3 (0, 0))) ∧ Hid (wr.heap[gl]? = some (.cells #[.int .i64 (((stN (gtr true ks vs nD) kk).2 : Nat) : Int)] 3 (0, 0))) ∧ Hid (On2 gb gl y wr)) (fun _ iv _ => m - (intOf iv).toNat)
  case atStart => exact ⟨0, by first | rfl | simp [frN, sizeN, szW], rfl, Nat.zero_le _, HB, HL, Lib.hid (On2.refl _ _ _)⟩
  case round =>
    obtain ⟨kk, rfl, rfl, hk, HBR, HLR, HOR⟩ := hrel
    have BXr := Lib.hid ((HOR.out.block w.heap.size (by omega) (by omega) (by omega)).trans BX.out)
    have HWr := Lib.hid ((HOR.out.block gw (by omega) hwb hwl).trans HW.out)
    have HNr := Lib.hid ((HOR.out.block gn (by omega) hnb hnl).trans HN.out)
    have HBL := Lib.hid (HBY.out.trans (HOR.out.below b1 b2 (by omega)))
    by_cases hlt : kk < m
    · have q0 := rc_cell 0 (.bool true) BXr.out rfl; have q1 := rc_cell 1 (.slice AK nK cK) BXr.out rfl; have q2 := rc_cell 2 (.slice AV nV cV) BXr.out rfl; have q3 := rc_cell 3 (.slice AD nD cD) BXr.out rfl
      have hkK : kk < nK := by have := HM.out; omega
      have hkK1 : kk + 1 < nK := by have := HM.out; omega
      obtain ⟨b, off, A1, n1, c1, xs, hA, hbl, hcl, hxs, hnc, HXK⟩ := (HX.out.keep HBL.out).at_ hkK
      obtain ⟨x2, HX2⟩ : ∃ x2, Hid (ks[kk + 1]? = some x2) := ⟨_, List.getElem?_eq_getElem (by rw [HLK.out]; exact hkK1)⟩
      have HNL := Lib.hid hxs.len
      rw [hA] at q1
      have HFB := Lib.hid (fr_le true ks vs kk sK sV (by omega)); have HFB2 := Lib.hid (fr_le true ks vs (kk + 1) sK sV (by omega))
      obtain ⟨f, HF⟩ : ∃ f : Nat, Hid (frN true ks vs kk = f) := ⟨_, rfl⟩
      obtain ⟨f2, HF2⟩ : ∃ f2 : Nat, Hid (frN true ks vs (kk + 1) = f2) := ⟨_, rfl⟩
      have f0 := HFB.out; have f02 := HFB2.out; rw [HF.out] at f0; rw [HF2.out] at f02; rw [HF.out]
      have z0 : (0 : Int) ≤ (kk : Int) := by omega
      have z1 : (kk : Int) < (nK : Int) := by omega
      have hvK : kk < nV := by rw [HVD.out]; exact hkK
      obtain ⟨b', off', A2, n2, c2, ys, hA2, hbl2, hcl2, hys, hnc2, HYK⟩ := (HY.out.keep HBL.out).at_ hvK
      have HNL2 := Lib.hid hys.len
      rw [hA2] at q2
      have z2 : (kk : Int) < (nV : Int) := by omega
      have d1 : decide ((kk : Int) < (nV : Int)) = true := by simp; omega
      have hst := fr_leaf ks vs kk xs ys HXK.out HYK.out
      rw [HF.out, HF2.out, HNL.out, HNL2.out] at hst
      have w1 : IntKind.i64.wrap ((f : Int) + (1 + (n1 : Int))) = (f : Int) + (1 + (n1 : Int)) := IntWalk.i64_in _ (by omega)
      have w2 : IntKind.i64.wrap ((f : Int) + (1 + (n1 : Int)) + (2 + (n2 : Int))) = (f2 : Int) := by rw [show (f : Int) + (1 + (n1 : Int)) + (2 + (n2 : Int)) = (f2 : Int) by omega]; exact IntWalk.i64_in _ (by omega)
      have w3 : IntKind.i64.wrap (1 + (n1 : Int)) = 1 + (n1 : Int) := IntWalk.i64_in _ (by omega)
      have w4 : IntKind.i64.wrap (2 + (n2 : Int)) = 2 + (n2 : Int) := IntWalk.i64_in _ (by omega)
      clear hA hA2 hxs hys hnc hnc2 hst f0
      have HC : Hid (S + 3 = f2 + bkN true ks vs nD (kk + 1) + (if true then 0 else 1 + x2.length)) := Lib.hid (by rw [HSS.out, ← HF2.out]; exact cut_leaf ks vs nD (kk + 1))
      have HG : Hid (max f2 (bkN true ks vs nD (kk + 1)) = gtr true ks vs nD (kk + 1)) := Lib.hid (by unfold gtr; rw [HF2.out])
      have HSB : Hid (S ≤ 1000000000000000000) := Lib.hid (by rw [HSS.out]; unfold sizeN; rw [if_pos rfl]; omega)
      go_wp2_with fail
      refine (mid_any true AK nK cK AV nV cV AD nD cD ks (kk + 1) S (stN (gtr true ks vs nD) kk).1 (stN (gtr true ks vs nD) kk).2 f2 (bkN true ks vs nD (kk + 1)) (gtr true ks vs nD (kk + 1)) gw gn gb gl x2 _ (HX.out.keep HBL.out) HX2.out HWr.out HNr.out HBR.out HLR.out hne hkK1 (by omega) HSB.out HC.out HG.out).mono ?_
      rintro e w2 ⟨rfl, hB2, hL2, hO2⟩
      rw [stN_step] at hB2 hL2
      have HB2 := Lib.hid hB2; have HL2 := Lib.hid hL2; have HO2 := Lib.hid (HOR.out.trans hO2)
      clear hB2 hL2 hO2 q0 q1 q2 q3
      go_wp2
      go_roundw
      case rel => exact ⟨kk + 1, by rw [HF2.out]; first | done | rfl | go_num, by go_num, by omega, HB2, HL2, HO2⟩
      case measure => simp [intOf]; omega
    · obtain rfl : m = kk := by omega
      obtain ⟨j, rfl⟩ : ∃ j, m = j + 1 := ⟨m - 1, by have := HM.out; omega⟩
      have HJ : Hid (nK - 2 = j) := Lib.hid (by have := HM.out; omega)
      have HR : Hid (wr.heap[gb]? = some (.cells #[.int .i64 ((bestN (gtr true ks vs nD) (nK - 2) : Nat) : Int)] 3 (0, 0))) := Lib.hid (by rw [HJ.out]; exact HBR.out)
      go_wp2
      go_end0
      exact ⟨rfl, HR.out, HBL.out⟩
set_option maxRecDepth 100000 in
set_option maxHeartbeats 4000000 in
theorem frontsF_any (AK : Option Addr) (nK cK : Nat) (AV : Option Addr) (nV cV : Nat) (AD : Option Addr) (nD cD : Nat) (ks vs : List (List Int)) (S gw gn gb gl : Nat) (w0 w : World) (hx : Bss w0 AK nK ks) (hy : Bss w0 AV nV vs) (hb : Below w0.heap.size w0 w)
    (hW : w.heap[gw]? = some (.cells #[.int .i64 (S : Int)] 3 (0, 0))) (hN : w.heap[gn]? = some (.cells (ndV false AK nK cK AV nV cV AD nD cD) 70 (0, 0))) (hB : w.heap[gb]? = some (.cells #[.int .i64 0] 3 (0, 0))) (hL : w.heap[gl]? = some (.cells #[.int .i64 0] 3 (0, 0)))
    (hne : gb ≠ gl) (hwb : gw ≠ gb) (hwl : gw ≠ gl) (hnb : gn ≠ gb) (hnl : gn ≠ gl) (b1 : w0.heap.size ≤ gb) (b2 : w0.heap.size ≤ gl) (hS : S = sizeN false ks vs nD) (hn : 3 ≤ nK) (hV : nV = 0) (hD : nD = nK + 1) (bK : nK ≤ 100000)
    (sK : szW 1 ks ≤ 100000000000000000) (sV : szW 2 vs ≤ 100000000000000000) :
    Calls Try.prog 132 #[.agg (ndV false AK nK cK AV nV cV AD nD cD), (.func (.func 133) #[] #[.pointer (some ⟨gw, 0, none⟩), .pointer (some ⟨gn, 0, none⟩), .pointer (some ⟨gb, 0, none⟩), .pointer (some ⟨gl, 0, none⟩)])] w fun e w' => e = .returned (.tuple #[]) ∧ w'.heap[gb]? = some (.cells #[.int .i64 ((bestN (gtr false ks vs nD) (nK - 3) : Nat) : Int)] 3 (0, 0)) ∧ Below w0.heap.size w0 w' := by
  have hb1 := below_alloc w (.cells (ndV false AK nK cK AV nV cV AD nD cD) 70)
  have BX := Lib.hid (heap_alloc_new w (.cells (ndV false AK nK cK AV nV cV AD nD cD) 70))
  have HW := Lib.hid ((hb1.block gw (lt_of_heap hW)).trans hW); have lW := lt_of_heap hW
  have HN := Lib.hid ((hb1.block gn (lt_of_heap hN)).trans hN); have lN := lt_of_heap hN
  have HB := Lib.hid ((hb1.block gb (lt_of_heap hB)).trans hB); have lB := lt_of_heap hB
  have HL := Lib.hid ((hb1.block gl (lt_of_heap hL)).trans hL); have lL := lt_of_heap hL
  have HX := Lib.hid hx; have HY := Lib.hid hy; have HLK := Lib.hid hx.len; have HLV := Lib.hid hy.len
  have HBY := Lib.hid (hb.trans (hb1.mono hb.size)); have hsz := hb.size
  have hgs : (w.alloc (.cells (ndV false AK nK cK AV nV cV AD nD cD) 70)).heap.size = w.heap.size + 1 := by simp
  have HSS := Lib.hid hS; have HKD := Lib.hid hD
  have HVD := Lib.hid hV; clear hx hy hb hb1 hW hN hB hL hS
  have q0 := rc_cell 0 (.bool false) BX.out rfl; have q1 := rc_cell 1 (.slice AK nK cK) BX.out rfl; have q2 := rc_cell 2 (.slice AV nV cV) BX.out rfl; have q3 := rc_cell 3 (.slice AD nD cD) BX.out rfl
  have hmn : min (1 : Int) (nD : Int) = 1 := by omega
  obtain ⟨m, HM⟩ : ∃ m : Nat, Hid (nK - 2 = m) := ⟨_, rfl⟩
  have hm := HM.out
  have e1 : (nK : Int) - 1 = ((m + 1 : Nat) : Int) := by omega
  have hw1 : IntKind.i64.wrap ((nK : Int) - 1) = ((m + 1 : Nat) : Int) := by rw [e1]; exact IntWalk.i64_in _ (by omega)
  have hw2 : IntKind.i64.wrap (((m + 1 : Nat) : Int) - 1) = (m : Int) := by rw [show (((m + 1 : Nat) : Int)) - 1 = (m : Int) by omega]; exact IntWalk.i64_in _ (by omega)
  have hw3 : IntKind.i64.wrap (((m : Int) + 1) - 1) = (m : Int) := by rw [show ((m : Int) + 1) - 1 = (m : Int) by omega]; exact IntWalk.i64_in _ (by omega)
  clear e1 hD hV
  go_enter Try.func132, Try.ntmps132
  go_wp2_with fail
  clear q0 q1 q2 q3 hmn
  generalize w.alloc (.cells (ndV false AK nK cK AV nV cV AD nD cD) 70) = y at *
  go_loopw [5, 27] (fun fv iv wr => ∃ kk : Nat, fv = .int .i64 ((frN false ks vs kk : Nat) : Int) ∧ iv = .int .i64 (kk : Int) ∧ kk ≤ m ∧ Hid (wr.heap[gb]? = some (.cells #[.int .i64 (((stN (gtr false ks vs nD) kk).1 : Nat) : Int)] 3 (0, 0))) ∧ Hid (wr.heap[gl]? = some (.cells #[.int .i64 (((stN (gtr false ks vs nD) kk).2 : Nat) : Int)] 3 (0, 0))) ∧ Hid (On2 gb gl y wr)) (fun _ iv _ => m - (intOf iv).toNat)
  case atStart => exact ⟨0, by first | rfl | simp [frN, sizeN, szW], rfl, Nat.zero_le _, HB, HL, Lib.hid (On2.refl _ _ _)⟩
  case round =>
    obtain ⟨kk, rfl, rfl, hk, HBR, HLR, HOR⟩ := hrel
    have BXr := Lib.hid ((HOR.out.block w.heap.size (by omega) (by omega) (by omega)).trans BX.out)
    have HWr := Lib.hid ((HOR.out.block gw (by omega) hwb hwl).trans HW.out)
    have HNr := Lib.hid ((HOR.out.block gn (by omega) hnb hnl).trans HN.out)
    have HBL := Lib.hid (HBY.out.trans (HOR.out.below b1 b2 (by omega)))
    by_cases hlt : kk < m
    · have q0 := rc_cell 0 (.bool false) BXr.out rfl; have q1 := rc_cell 1 (.slice AK nK cK) BXr.out rfl; have q2 := rc_cell 2 (.slice AV nV cV) BXr.out rfl; have q3 := rc_cell 3 (.slice AD nD cD) BXr.out rfl
      have hkK : kk < nK := by have := HM.out; omega
      have hkK1 : kk + 1 < nK := by have := HM.out; omega
      obtain ⟨b, off, A1, n1, c1, xs, hA, hbl, hcl, hxs, hnc, HXK⟩ := (HX.out.keep HBL.out).at_ hkK
      obtain ⟨x2, HX2⟩ : ∃ x2, Hid (ks[kk + 1]? = some x2) := ⟨_, List.getElem?_eq_getElem (by rw [HLK.out]; exact hkK1)⟩
      have HNL := Lib.hid hxs.len
      rw [hA] at q1
      have HFB := Lib.hid (fr_le false ks vs kk sK sV (by omega)); have HFB2 := Lib.hid (fr_le false ks vs (kk + 1) sK sV (by omega))
      obtain ⟨f, HF⟩ : ∃ f : Nat, Hid (frN false ks vs kk = f) := ⟨_, rfl⟩
      obtain ⟨f2, HF2⟩ : ∃ f2 : Nat, Hid (frN false ks vs (kk + 1) = f2) := ⟨_, rfl⟩
      have f0 := HFB.out; have f02 := HFB2.out; rw [HF.out] at f0; rw [HF2.out] at f02; rw [HF.out]
      have z0 : (0 : Int) ≤ (kk : Int) := by omega
      have z1 : (kk : Int) < (nK : Int) := by omega
      have d1 : decide ((kk : Int) + 1 < (nD : Int)) = true := by have := HKD.out; simp; omega
      have w5 : IntKind.i64.wrap ((kk : Int) + 1) = (kk : Int) + 1 := IntWalk.i64_in _ (by omega)
      have hst := fr_fork ks vs kk xs HXK.out
      rw [HF.out, HF2.out, HNL.out] at hst
      have w1 : IntKind.i64.wrap ((f : Int) + (1 + (n1 : Int))) = (f : Int) + (1 + (n1 : Int)) := IntWalk.i64_in _ (by omega)
      have w2 : IntKind.i64.wrap ((f : Int) + (1 + (n1 : Int)) + 2) = (f2 : Int) := by rw [show (f : Int) + (1 + (n1 : Int)) + 2 = (f2 : Int) by omega]; exact IntWalk.i64_in _ (by omega)
      have w3 : IntKind.i64.wrap (1 + (n1 : Int)) = 1 + (n1 : Int) := IntWalk.i64_in _ (by omega)
      clear hA hxs hnc hst f0
      have HC : Hid (S + 3 = f2 + bkN false ks vs nD (kk + 1) + (if false then 0 else 1 + x2.length)) := Lib.hid (by rw [HSS.out, ← HF2.out]; exact cut_fork ks vs nD (kk + 1) x2 HX2.out (by have := HKD.out; omega))
      have HG : Hid (max f2 (bkN false ks vs nD (kk + 1)) = gtr false ks vs nD (kk + 1)) := Lib.hid (by unfold gtr; rw [HF2.out])
      have HSB : Hid (S ≤ 1000000000000000000) := Lib.hid (by rw [HSS.out]; unfold sizeN; rw [if_neg (by simp)]; have := HKD.out; omega)
      go_wp2_with fail
      refine (mid_any false AK nK cK AV nV cV AD nD cD ks (kk + 1) S (stN (gtr false ks vs nD) kk).1 (stN (gtr false ks vs nD) kk).2 f2 (bkN false ks vs nD (kk + 1)) (gtr false ks vs nD (kk + 1)) gw gn gb gl x2 _ (HX.out.keep HBL.out) HX2.out HWr.out HNr.out HBR.out HLR.out hne hkK1 (by omega) HSB.out HC.out HG.out).mono ?_
      rintro e w2 ⟨rfl, hB2, hL2, hO2⟩
      rw [stN_step] at hB2 hL2
      have HB2 := Lib.hid hB2; have HL2 := Lib.hid hL2; have HO2 := Lib.hid (HOR.out.trans hO2)
      clear hB2 hL2 hO2 q0 q1 q2 q3
      go_wp2
      go_roundw
      case rel => exact ⟨kk + 1, by rw [HF2.out]; first | done | rfl | go_num, by go_num, by omega, HB2, HL2, HO2⟩
      case measure => simp [intOf]; omega
    · obtain rfl : m = kk := by omega
      obtain ⟨j, rfl⟩ : ∃ j, m = j + 1 := ⟨m - 1, by have := HM.out; omega⟩
      have HJ : Hid (nK - 3 = j) := Lib.hid (by have := HM.out; omega)
      have HR : Hid (wr.heap[gb]? = some (.cells #[.int .i64 ((bestN (gtr false ks vs nD) (nK - 3) : Nat) : Int)] 3 (0, 0))) := Lib.hid (by rw [HJ.out]; exact HBR.out)
      go_wp2
      go_end0
      exact ⟨rfl, HR.out, HBL.out⟩
end Go.Proofs.Ytmjjbfcblmmipaa
namespace Go.Proofs.Ytmjjbfcblmmipaa
set_option linter.unusedVariables false
set_option linter.unusedSimpArgs false
open Go.RowKit
theorem alloc3 (x : World) (c1 c2 c3 : Array Value) (t : TypeId) :
    (((x.alloc (.cells c1 t)).alloc (.cells c2 t)).alloc (.cells c3 t)).heap[x.heap.size]? = some (.cells c1 t (0, 0)) ∧ (((x.alloc (.cells c1 t)).alloc (.cells c2 t)).alloc (.cells c3 t)).heap[x.heap.size + 1]? = some (.cells c2 t (0, 0)) ∧
      (((x.alloc (.cells c1 t)).alloc (.cells c2 t)).alloc (.cells c3 t)).heap[x.heap.size + 1 + 1]? = some (.cells c3 t (0, 0)) ∧ Below x.heap.size x (((x.alloc (.cells c1 t)).alloc (.cells c2 t)).alloc (.cells c3 t)) := by
  have b1 := below_alloc x (.cells c1 t)
  have b2 := below_alloc (x.alloc (.cells c1 t)) (.cells c2 t)
  have b3 := below_alloc ((x.alloc (.cells c1 t)).alloc (.cells c2 t)) (.cells c3 t)
  have s1 : (x.alloc (.cells c1 t)).heap.size = x.heap.size + 1 := by simp
  have s2 : ((x.alloc (.cells c1 t)).alloc (.cells c2 t)).heap.size = x.heap.size + 2 := by simp
  have n1 := heap_alloc_new x (.cells c1 t)
  have n2 := heap_alloc_new (x.alloc (.cells c1 t)) (.cells c2 t)
  have n3 := heap_alloc_new ((x.alloc (.cells c1 t)).alloc (.cells c2 t)) (.cells c3 t)
  rw [s1] at n2
  rw [s2] at n3
  exact ⟨(b3.block _ (by omega)).trans ((b2.block _ (by omega)).trans n1), (b3.block _ (by omega)).trans n2, n3, b1.trans ((b2.mono (by omega)).trans (b3.mono (by omega)))⟩
set_option maxRecDepth 100000 in
set_option maxHeartbeats 4000000 in
theorem middleL_any (AK : Option Addr) (nK cK : Nat) (AV : Option Addr) (nV cV : Nat) (AD : Option Addr) (nD cD : Nat) (ks vs : List (List Int)) (w : World) (hx : Bss w AK nK ks) (hy : Bss w AV nV vs)
    (hn : 2 ≤ nK) (hV : nV = nK) (hD : nD = 0) (bK : nK ≤ 100000) (sK : szW 1 ks ≤ 100000000000000000) (sV : szW 2 vs ≤ 100000000000000000) :
    Calls Try.prog 96 #[.agg (ndV true AK nK cK AV nV cV AD nD cD)] w fun e w' => e = .returned (.int .i64 ((bestN (gtr true ks vs nD) (nK - 2) : Nat) : Int)) ∧ Below w.heap.size w w' := by
  have HX := Lib.hid hx; have HY := Lib.hid hy
  have HB := Lib.hid (below_alloc w (.cells (ndV true AK nK cK AV nV cV AD nD cD) 70))
  have BX := Lib.hid (heap_alloc_new w (.cells (ndV true AK nK cK AV nV cV AD nD cD) 70))
  have hgs : (w.alloc (.cells (ndV true AK nK cK AV nV cV AD nD cD) 70)).heap.size = w.heap.size + 1 := by simp
  have q0 := rc_cell 0 (.bool true) BX.out rfl; have q1 := rc_cell 1 (.slice AK nK cK) BX.out rfl; have q2 := rc_cell 2 (.slice AV nV cV) BX.out rfl; have q3 := rc_cell 3 (.slice AD nD cD) BX.out rfl
  have bV : nV ≤ 100000 := by omega
  have bD : nD ≤ 100001 := by omega
  have HVD := Lib.hid hV; have HDD := Lib.hid hD
  clear hx hy hV hD
  go_enter Try.func96, Try.ntmps96
  go_wp2_with fail
  clear q0 q1 q2 q3
  generalize w.alloc (.cells (ndV true AK nK cK AV nV cV AD nD cD) 70) = y at *
  refine (size_any true AK nK cK AV nV cV AD nD cD ks vs y (HX.out.keep HB.out) (HY.out.keep HB.out) (by omega) (by omega) (by omega) sK sV).mono ?_
  rintro e x1 ⟨rfl, hb1⟩
  obtain ⟨S, HS⟩ : ∃ S : Nat, Hid (sizeN true ks vs nD = S) := ⟨_, rfl⟩
  rw [HS.out]
  have BX1 := Lib.hid ((hb1.block w.heap.size (by omega)).trans BX.out)
  have HB1 := Lib.hid (HB.out.trans (hb1.mono HB.out.size))
  have hs1 := hb1.size
  rw [hgs] at hs1
  clear hb1 hgs
  have q0 := rc_cell 0 (.bool true) BX1.out rfl; have q1 := rc_cell 1 (.slice AK nK cK) BX1.out rfl; have q2 := rc_cell 2 (.slice AV nV cV) BX1.out rfl; have q3 := rc_cell 3 (.slice AD nD cD) BX1.out rfl
  have A3 := Lib.hid (alloc3 x1 #[.int .i64 (S : Int)] #[.int .i64 0] #[.int .i64 0] 3)
  have BX3 := Lib.hid ((A3.out.2.2.2.block w.heap.size (by omega)).trans BX1.out)
  have HB3 := Lib.hid (HB1.out.trans (A3.out.2.2.2.mono HB1.out.size))
  have q0w := rc_cell 0 (.bool true) BX3.out rfl; have q1w := rc_cell 1 (.slice AK nK cK) BX3.out rfl; have q2w := rc_cell 2 (.slice AV nV cV) BX3.out rfl; have q3w := rc_cell 3 (.slice AD nD cD) BX3.out rfl
  go_wp2_with fail
  clear q0 q1 q2 q3 q0w q1w q2w q3w
  generalize (((x1.alloc (.cells #[.int .i64 (S : Int)] 3)).alloc (.cells #[.int .i64 0] 3)).alloc (.cells #[.int .i64 0] 3)) = z at *
  refine (frontsL_any AK nK cK AV nV cV AD nD cD ks vs S x1.heap.size w.heap.size (x1.heap.size + 1) (x1.heap.size + 1 + 1) w z HX.out HY.out HB3.out A3.out.1 BX3.out A3.out.2.1 A3.out.2.2.1 (by omega) (by omega) (by omega) (by omega) (by omega) (by omega) (by omega) HS.out.symm hn HVD.out HDD.out bK sK sV).mono ?_
  rintro e x2 ⟨rfl, hB, hb2⟩
  have HB2 := Lib.hid hb2
  have p0 := rc_cell 0 (.int .i64 ((bestN (gtr true ks vs nD) (nK - 2) : Nat) : Int)) hB rfl
  clear hB hb2
  go_wp2
  go_ret
  exact ⟨rfl, HB2.out⟩
set_option maxRecDepth 100000 in
set_option maxHeartbeats 4000000 in
theorem middleF_any (AK : Option Addr) (nK cK : Nat) (AV : Option Addr) (nV cV : Nat) (AD : Option Addr) (nD cD : Nat) (ks vs : List (List Int)) (w : World) (hx : Bss w AK nK ks) (hy : Bss w AV nV vs)
    (hn : 3 ≤ nK) (hV : nV = 0) (hD : nD = nK + 1) (bK : nK ≤ 100000) (sK : szW 1 ks ≤ 100000000000000000) (sV : szW 2 vs ≤ 100000000000000000) :
    Calls Try.prog 96 #[.agg (ndV false AK nK cK AV nV cV AD nD cD)] w fun e w' => e = .returned (.int .i64 ((bestN (gtr false ks vs nD) (nK - 3) : Nat) : Int)) ∧ Below w.heap.size w w' := by
  have HX := Lib.hid hx; have HY := Lib.hid hy
  have HB := Lib.hid (below_alloc w (.cells (ndV false AK nK cK AV nV cV AD nD cD) 70))
  have BX := Lib.hid (heap_alloc_new w (.cells (ndV false AK nK cK AV nV cV AD nD cD) 70))
  have hgs : (w.alloc (.cells (ndV false AK nK cK AV nV cV AD nD cD) 70)).heap.size = w.heap.size + 1 := by simp
  have q0 := rc_cell 0 (.bool false) BX.out rfl; have q1 := rc_cell 1 (.slice AK nK cK) BX.out rfl; have q2 := rc_cell 2 (.slice AV nV cV) BX.out rfl; have q3 := rc_cell 3 (.slice AD nD cD) BX.out rfl
  have bV : nV ≤ 100000 := by omega
  have bD : nD ≤ 100001 := by omega
  have HVD := Lib.hid hV; have HDD := Lib.hid hD
  clear hx hy hV hD
  go_enter Try.func96, Try.ntmps96
  go_wp2_with fail
  clear q0 q1 q2 q3
  generalize w.alloc (.cells (ndV false AK nK cK AV nV cV AD nD cD) 70) = y at *
  refine (size_any false AK nK cK AV nV cV AD nD cD ks vs y (HX.out.keep HB.out) (HY.out.keep HB.out) (by omega) (by omega) (by omega) sK sV).mono ?_
  rintro e x1 ⟨rfl, hb1⟩
  obtain ⟨S, HS⟩ : ∃ S : Nat, Hid (sizeN false ks vs nD = S) := ⟨_, rfl⟩
  rw [HS.out]
  have BX1 := Lib.hid ((hb1.block w.heap.size (by omega)).trans BX.out)
  have HB1 := Lib.hid (HB.out.trans (hb1.mono HB.out.size))
  have hs1 := hb1.size
  rw [hgs] at hs1
  clear hb1 hgs
  have q0 := rc_cell 0 (.bool false) BX1.out rfl; have q1 := rc_cell 1 (.slice AK nK cK) BX1.out rfl; have q2 := rc_cell 2 (.slice AV nV cV) BX1.out rfl; have q3 := rc_cell 3 (.slice AD nD cD) BX1.out rfl
  have A3 := Lib.hid (alloc3 x1 #[.int .i64 (S : Int)] #[.int .i64 0] #[.int .i64 0] 3)
  have BX3 := Lib.hid ((A3.out.2.2.2.block w.heap.size (by omega)).trans BX1.out)
  have HB3 := Lib.hid (HB1.out.trans (A3.out.2.2.2.mono HB1.out.size))
  have q0w := rc_cell 0 (.bool false) BX3.out rfl; have q1w := rc_cell 1 (.slice AK nK cK) BX3.out rfl; have q2w := rc_cell 2 (.slice AV nV cV) BX3.out rfl; have q3w := rc_cell 3 (.slice AD nD cD) BX3.out rfl
  go_wp2_with fail
  clear q0 q1 q2 q3 q0w q1w q2w q3w
  generalize (((x1.alloc (.cells #[.int .i64 (S : Int)] 3)).alloc (.cells #[.int .i64 0] 3)).alloc (.cells #[.int .i64 0] 3)) = z at *
  refine (frontsF_any AK nK cK AV nV cV AD nD cD ks vs S x1.heap.size w.heap.size (x1.heap.size + 1) (x1.heap.size + 1 + 1) w z HX.out HY.out HB3.out A3.out.1 BX3.out A3.out.2.1 A3.out.2.2.1 (by omega) (by omega) (by omega) (by omega) (by omega) (by omega) (by omega) HS.out.symm hn HVD.out HDD.out bK sK sV).mono ?_
  rintro e x2 ⟨rfl, hB, hb2⟩
  have HB2 := Lib.hid hb2
  have p0 := rc_cell 0 (.int .i64 ((bestN (gtr false ks vs nD) (nK - 3) : Nat) : Int)) hB rfl
  clear hB hb2
  go_wp2
  go_ret
  exact ⟨rfl, HB2.out⟩
end Go.Proofs.Ytmjjbfcblmmipaa
