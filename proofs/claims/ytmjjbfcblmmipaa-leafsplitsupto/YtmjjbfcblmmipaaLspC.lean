/- LeafSplits: a node that is not in form. -/
import Derived.Test.YtmjjbfcblmmipaaLspM
namespace Go.Proofs.Ytmjjbfcblmmipaa
set_option linter.unusedVariables false
set_option linter.unusedSimpArgs false
open Go.RowKit

set_option maxRecDepth 100000 in
set_option maxHeartbeats 16000000 in
theorem lspC_any (lf : Bool) (AK : Option Addr) (nK cK : Nat) (AV : Option Addr) (nV cV : Nat) (AD : Option Addr) (nD cD : Nat) (ks vs ks0 vs0 : List (List Int)) (ds ds0 : List Int) (mK mV mD : Nat) (w : World)
    (e1 : min nK 200 = mK) (e2 : min nV 200 = mV) (e3 : min nD 201 = mD) (hx : Bss w AK mK ks) (hy : Bss w AV mV vs) (hz : Ins w AD mD ds) (hKc : nK ≤ cK) (hVc : nV ≤ cV) (hDc : nD ≤ cD) (bK : nK ≤ 1048576) (bV : nV ≤ 1048576) (bD : nD ≤ 1048576)
    (lK : ∀ xs ∈ ks, xs.length ≤ 1048576) (lV : ∀ xs ∈ vs, xs.length ≤ 1048576) (hc : chkN lf ks vs ds ≠ 0)  :
    Calls Try.prog 10 #[.agg (ndV lf AK nK cK AV nV cV AD nD cD)] w fun e w' => e = .returned (.bool true) ∧ Below w.heap.size w w' := by
  have HX := Lib.hid hx; have HY := Lib.hid hy; have HZ := Lib.hid hz; have HLK := Lib.hid hx.len; have HLV := Lib.hid hy.len; have HLD := Lib.hid hz.len
  have HE1 := Lib.hid e1; have HE2 := Lib.hid e2; have HE3 := Lib.hid e3; have HCK := Lib.hid hc; have hmK : mK ≤ 200 := by omega
  have hmV : mV ≤ 200 := by omega
  have hmD : mD ≤ 201 := by omega
  have k1 : mK ≤ cK := by omega
  have k2 : mV ≤ cV := by omega
  have k3 : mD ≤ cD := by omega
  have HMK := Lib.hid lK; have HMV := Lib.hid lV
  have HML : Hid (∀ xs ∈ ks, xs.length ≤ maxLen) := Lib.hid (fun x hx => Nat.le_trans (HMK.out x hx) (by unfold maxLen; omega))
  have HB := Lib.hid (below_alloc w (.cells (ndV lf AK nK cK AV nV cV AD nD cD) 66)); have BN := Lib.hid (heap_alloc_new w (.cells (ndV lf AK nK cK AV nV cV AD nD cD) 66))
  clear hx hy hz e1 e2 e3 hc lK lV
  go_enter Try.func10, Try.ntmps10
  go_wp2_with fail
  generalize w.alloc (.cells (ndV lf AK nK cK AV nV cV AD nD cD) 66) = y at *
  refine (awakeL_any y).mono ?_
  rintro e x1 ⟨rfl, hb1⟩
  have BN1 := Lib.hid ((hb1.block _ (lt_of_heap BN.out)).trans BN.out); have HB1 := Lib.hid (HB.out.trans (hb1.mono HB.out.size)); clear hb1
  have q0 := rc_cell 0 (.bool lf) BN1.out rfl; have q1 := rc_cell 1 (.slice AK nK cK) BN1.out rfl; have q2 := rc_cell 2 (.slice AV nV cV) BN1.out rfl; have q3 := rc_cell 3 (.slice AD nD cD) BN1.out rfl
  go_wp2_with fail
  clear q0 q1 q2 q3
  refine (few_is lf AK nK cK AV nV cV AD nD cD 200 _ (by omega) mK mV mD HE1.out HE2.out HE3.out x1 (by omega) hKc hVc hDc bK bV bD).mono ?_
  rintro e x2 ⟨rfl, hb2⟩
  have BN2 := Lib.hid ((hb2.block _ (lt_of_heap BN1.out)).trans BN1.out); have HB2 := Lib.hid (HB1.out.trans (hb2.mono HB1.out.size)); clear hb2
  have q0 := rc_cell 0 (.bool lf) BN2.out rfl; have q1 := rc_cell 1 (.slice AK nK cK) BN2.out rfl; have q2 := rc_cell 2 (.slice AV nV cV) BN2.out rfl; have q3 := rc_cell 3 (.slice AD nD cD) BN2.out rfl
  have t0 := two_frozen (i := 0) BN2.out; have t1 := two_frozen (i := 1) BN2.out; have t2 := two_frozen (i := 2) BN2.out; have t3 := two_frozen (i := 3) BN2.out
  have HS := Lib.hid (set4g x2 w.heap.size (.bool lf) (.slice AK mK cK) (.slice AV mV cV) (.slice AD mD cD) _ _ _ _ 66 BN2.out)
  have r0 := rc_cell 0 (.bool lf) HS.out.1 rfl; have r1 := rc_cell 1 (.slice AK mK cK) HS.out.1 rfl; have r2 := rc_cell 2 (.slice AV mV cV) HS.out.1 rfl; have r3 := rc_cell 3 (.slice AD mD cD) HS.out.1 rfl
  go_wp2_with fail
  clear q0 q1 q2 q3; clear t0 t1 t2 t3; clear r0 r1 r2 r3
  have BN3 := Lib.hid HS.out.1; have HB3 := Lib.hid (HB2.out.trans (HS.out.2.below (Nat.le_of_lt (lt_of_heap BN2.out))))
  clear HS
  generalize ((((x2.setCell ⟨w.heap.size, 0, none⟩ (.bool lf)).setCell ⟨w.heap.size, 1, none⟩ (.slice AK mK cK)).setCell ⟨w.heap.size, 2, none⟩ (.slice AV mV cV)).setCell ⟨w.heap.size, 3, none⟩ (.slice AD mD cD)) = x3 at *
  refine (rcheck_any lf AK mK cK AV mV cV AD mD cD ks vs ds x3 (HX.out.keep HB3.out) (HY.out.keep HB3.out) (HZ.out.keep HB3.out) (by omega) (by omega) (by omega) HML.out).mono ?_
  rintro e x4 ⟨rfl, hb4⟩
  obtain ⟨c, HC⟩ : ∃ c : Nat, Hid (chkN lf ks vs ds = c) := ⟨_, rfl⟩
  have hc0 : c ≠ 0 := by rw [← HC.out]; exact HCK.out
  have dc : ((c : Int) != 0) = true := by rw [bne_iff_ne]; omega
  have HBE := Lib.hid (HB3.out.trans (hb4.mono HB3.out.size))
  rw [HC.out]
  clear hb4 hc0
  go_wp2
  go_ret
  exact ⟨rfl, HBE.out⟩
end Go.Proofs.Ytmjjbfcblmmipaa
