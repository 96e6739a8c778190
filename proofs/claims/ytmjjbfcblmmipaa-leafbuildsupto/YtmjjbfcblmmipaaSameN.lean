/- The reference's Same of two nodes. -/
import Derived.Test.YtmjjbfcblmmipaaCheckRW
import Derived.Deep.QuietTactic
import Derived.BigQuiet
namespace Go.Proofs.Ytmjjbfcblmmipaa
set_option linter.unusedVariables false
set_option linter.unusedSimpArgs false
open Go.RowKit
theorem two_alloc (w : World) (o1 o2 : Obj) : Below w.heap.size w ((w.alloc o1).alloc o2) := (below_alloc w o1).trans ((below_alloc _ o2).mono (by simp))
set_option maxRecDepth 100000 in
set_option maxHeartbeats 4000000 in
theorem few_any (lf : Bool) (AK : Option Addr) (nK cK : Nat) (AV : Option Addr) (nV cV : Nat) (AD : Option Addr) (nD cD : Nat) (m : Nat) (w : World) (hm : m ≤ 100000) (hK : nK ≤ cK) (hV : nV ≤ cV) (hD : nD ≤ cD) (bK : nK ≤ 1048576) (bV : nV ≤ 1048576) (bD : nD ≤ 1048576) :
    Calls Try.prog 31 #[.agg (ndV lf AK nK cK AV nV cV AD nD cD), .int .i64 (m : Int)] w fun e w' => e = .returned (.agg (ndV lf AK (min nK m) cK AV (min nV m) cV AD (min nD (m + 1)) cD)) ∧ Below w.heap.size w w' := by
  have hw1 : IntKind.i64.wrap ((m : Int) + 1) = (m : Int) + 1 := IntWalk.i64_in _ (by omega)
  have HB := Lib.hid (below_alloc w (.cells (ndV lf AK nK cK AV nV cV AD nD cD) 66))
  have X0 := Lib.hid (heap_alloc_new w (.cells (ndV lf AK nK cK AV nV cV AD nD cD) 66))
  go_enter Try.func31, Try.ntmps31
  have q0 := rc_cell 0 (.bool lf) X0.out rfl; have q1 := rc_cell 1 (.slice AK nK cK) X0.out rfl; have q2 := rc_cell 2 (.slice AV nV cV) X0.out rfl; have q3 := rc_cell 3 (.slice AD nD cD) X0.out rfl
  by_cases g0 : m < nK
  · have hd0 : decide ((m : Int) < (nK : Int)) = true := by simp; omega
    have sl0 := slice62_h AK nK cK m (by omega)
    have ff0 := two_frozen (i := 1) X0.out
    have X1 := Lib.hid (rc_set (cs' := #[.bool lf, .slice AK m cK, .slice AV nV cV, .slice AD nD cD]) 1 (.slice AK m cK) X0.out rfl)
    have HB1 := Lib.hid (HB.out.trans ((onl_set _ w.heap.size 1 (.slice AK m cK)).below (Nat.le_of_lt (lt_of_heap X0.out))))
    have r10 := rc_cell 0 (.bool lf) X1.out rfl; have r11 := rc_cell 1 (.slice AK m cK) X1.out rfl; have r12 := rc_cell 2 (.slice AV nV cV) X1.out rfl; have r13 := rc_cell 3 (.slice AD nD cD) X1.out rfl
    by_cases g1 : m < nV
    · have hd1 : decide ((m : Int) < (nV : Int)) = true := by simp; omega
      have sl1 := slice62_h AV nV cV m (by omega)
      have ff1 := two_frozen (i := 2) X1.out
      have X2 := Lib.hid (rc_set (cs' := #[.bool lf, .slice AK m cK, .slice AV m cV, .slice AD nD cD]) 2 (.slice AV m cV) X1.out rfl)
      have HB2 := Lib.hid (HB1.out.trans ((onl_set _ w.heap.size 2 (.slice AV m cV)).below (Nat.le_of_lt (lt_of_heap X1.out))))
      have r20 := rc_cell 0 (.bool lf) X2.out rfl; have r21 := rc_cell 1 (.slice AK m cK) X2.out rfl; have r22 := rc_cell 2 (.slice AV m cV) X2.out rfl; have r23 := rc_cell 3 (.slice AD nD cD) X2.out rfl
      by_cases g2 : (m + 1) < nD
      · have hd2 : decide (((m : Int) + 1) < (nD : Int)) = true := by simp; omega
        have sl2 := slice27_h AD nD cD (m + 1) (by omega)
        rw [show (((m + 1 : Nat) : Int)) = (m : Int) + 1 by omega] at sl2
        have ff2 := two_frozen (i := 3) X2.out
        have X3 := Lib.hid (rc_set (cs' := #[.bool lf, .slice AK m cK, .slice AV m cV, .slice AD (m + 1) cD]) 3 (.slice AD (m + 1) cD) X2.out rfl)
        have HB3 := Lib.hid (HB2.out.trans ((onl_set _ w.heap.size 3 (.slice AD (m + 1) cD)).below (Nat.le_of_lt (lt_of_heap X2.out))))
        have r30 := rc_cell 0 (.bool lf) X3.out rfl; have r31 := rc_cell 1 (.slice AK m cK) X3.out rfl; have r32 := rc_cell 2 (.slice AV m cV) X3.out rfl; have r33 := rc_cell 3 (.slice AD (m + 1) cD) X3.out rfl
        go_wp2
        have E0 := rc_cell 0 (.bool lf) X3.out rfl; have E1 := rc_cell 1 (.slice AK m cK) X3.out rfl; have E2 := rc_cell 2 (.slice AV m cV) X3.out rfl; have E3 := rc_cell 3 (.slice AD (m + 1) cD) X3.out rfl
        have HV2 : Hid (ndV lf AK (min nK m) cK AV (min nV m) cV AD (min nD (m + 1)) cD = #[.bool lf, .slice AK m cK, .slice AV m cV, .slice AD (m + 1) cD]) := Lib.hid (by show _ = _; have e0 : min nK m = m := (by omega); have e1 : min nV m = m := (by omega); have e2 : min nD (m + 1) = (m + 1) := (by omega); rw [e0, e1, e2])
        refine bodyPost_ret (v := .agg #[.bool lf, .slice AK m cK, .slice AV m cV, .slice AD (m + 1) cD]) (by simp [results, Try.f31, go_sem, Try.isAgg66, Try.sizeOf66, E0, E1, E2, E3]) rfl ⟨by rw [HV2.out], two_alloc w _ _⟩
      · have hd2 : decide (((m : Int) + 1) < (nD : Int)) = false := by simp; omega
        go_wp2
        have E0 := rc_cell 0 (.bool lf) X2.out rfl; have E1 := rc_cell 1 (.slice AK m cK) X2.out rfl; have E2 := rc_cell 2 (.slice AV m cV) X2.out rfl; have E3 := rc_cell 3 (.slice AD nD cD) X2.out rfl
        have HV2 : Hid (ndV lf AK (min nK m) cK AV (min nV m) cV AD (min nD (m + 1)) cD = #[.bool lf, .slice AK m cK, .slice AV m cV, .slice AD nD cD]) := Lib.hid (by show _ = _; have e0 : min nK m = m := (by omega); have e1 : min nV m = m := (by omega); have e2 : min nD (m + 1) = nD := (by omega); rw [e0, e1, e2])
        refine bodyPost_ret (v := .agg #[.bool lf, .slice AK m cK, .slice AV m cV, .slice AD nD cD]) (by simp [results, Try.f31, go_sem, Try.isAgg66, Try.sizeOf66, E0, E1, E2, E3]) rfl ⟨by rw [HV2.out], two_alloc w _ _⟩
    · have hd1 : decide ((m : Int) < (nV : Int)) = false := by simp; omega
      by_cases g2 : (m + 1) < nD
      · have hd2 : decide (((m : Int) + 1) < (nD : Int)) = true := by simp; omega
        have sl2 := slice27_h AD nD cD (m + 1) (by omega)
        rw [show (((m + 1 : Nat) : Int)) = (m : Int) + 1 by omega] at sl2
        have ff2 := two_frozen (i := 3) X1.out
        have X2 := Lib.hid (rc_set (cs' := #[.bool lf, .slice AK m cK, .slice AV nV cV, .slice AD (m + 1) cD]) 3 (.slice AD (m + 1) cD) X1.out rfl)
        have HB2 := Lib.hid (HB1.out.trans ((onl_set _ w.heap.size 3 (.slice AD (m + 1) cD)).below (Nat.le_of_lt (lt_of_heap X1.out))))
        have r20 := rc_cell 0 (.bool lf) X2.out rfl; have r21 := rc_cell 1 (.slice AK m cK) X2.out rfl; have r22 := rc_cell 2 (.slice AV nV cV) X2.out rfl; have r23 := rc_cell 3 (.slice AD (m + 1) cD) X2.out rfl
        go_wp2
        have E0 := rc_cell 0 (.bool lf) X2.out rfl; have E1 := rc_cell 1 (.slice AK m cK) X2.out rfl; have E2 := rc_cell 2 (.slice AV nV cV) X2.out rfl; have E3 := rc_cell 3 (.slice AD (m + 1) cD) X2.out rfl
        have HV2 : Hid (ndV lf AK (min nK m) cK AV (min nV m) cV AD (min nD (m + 1)) cD = #[.bool lf, .slice AK m cK, .slice AV nV cV, .slice AD (m + 1) cD]) := Lib.hid (by show _ = _; have e0 : min nK m = m := (by omega); have e1 : min nV m = nV := (by omega); have e2 : min nD (m + 1) = (m + 1) := (by omega); rw [e0, e1, e2])
        refine bodyPost_ret (v := .agg #[.bool lf, .slice AK m cK, .slice AV nV cV, .slice AD (m + 1) cD]) (by simp [results, Try.f31, go_sem, Try.isAgg66, Try.sizeOf66, E0, E1, E2, E3]) rfl ⟨by rw [HV2.out], two_alloc w _ _⟩
      · have hd2 : decide (((m : Int) + 1) < (nD : Int)) = false := by simp; omega
        go_wp2
        have E0 := rc_cell 0 (.bool lf) X1.out rfl; have E1 := rc_cell 1 (.slice AK m cK) X1.out rfl; have E2 := rc_cell 2 (.slice AV nV cV) X1.out rfl; have E3 := rc_cell 3 (.slice AD nD cD) X1.out rfl
        have HV2 : Hid (ndV lf AK (min nK m) cK AV (min nV m) cV AD (min nD (m + 1)) cD = #[.bool lf, .slice AK m cK, .slice AV nV cV, .slice AD nD cD]) := Lib.hid (by show _ = _; have e0 : min nK m = m := (by omega); have e1 : min nV m = nV := (by omega); have e2 : min nD (m + 1) = nD := (by omega); rw [e0, e1, e2])
        refine bodyPost_ret (v := .agg #[.bool lf, .slice AK m cK, .slice AV nV cV, .slice AD nD cD]) (by simp [results, Try.f31, go_sem, Try.isAgg66, Try.sizeOf66, E0, E1, E2, E3]) rfl ⟨by rw [HV2.out], two_alloc w _ _⟩
  · have hd0 : decide ((m : Int) < (nK : Int)) = false := by simp; omega
    by_cases g1 : m < nV
    · have hd1 : decide ((m : Int) < (nV : Int)) = true := by simp; omega
      have sl1 := slice62_h AV nV cV m (by omega)
      have ff1 := two_frozen (i := 2) X0.out
      have X1 := Lib.hid (rc_set (cs' := #[.bool lf, .slice AK nK cK, .slice AV m cV, .slice AD nD cD]) 2 (.slice AV m cV) X0.out rfl)
      have HB1 := Lib.hid (HB.out.trans ((onl_set _ w.heap.size 2 (.slice AV m cV)).below (Nat.le_of_lt (lt_of_heap X0.out))))
      have r10 := rc_cell 0 (.bool lf) X1.out rfl; have r11 := rc_cell 1 (.slice AK nK cK) X1.out rfl; have r12 := rc_cell 2 (.slice AV m cV) X1.out rfl; have r13 := rc_cell 3 (.slice AD nD cD) X1.out rfl
      by_cases g2 : (m + 1) < nD
      · have hd2 : decide (((m : Int) + 1) < (nD : Int)) = true := by simp; omega
        have sl2 := slice27_h AD nD cD (m + 1) (by omega)
        rw [show (((m + 1 : Nat) : Int)) = (m : Int) + 1 by omega] at sl2
        have ff2 := two_frozen (i := 3) X1.out
        have X2 := Lib.hid (rc_set (cs' := #[.bool lf, .slice AK nK cK, .slice AV m cV, .slice AD (m + 1) cD]) 3 (.slice AD (m + 1) cD) X1.out rfl)
        have HB2 := Lib.hid (HB1.out.trans ((onl_set _ w.heap.size 3 (.slice AD (m + 1) cD)).below (Nat.le_of_lt (lt_of_heap X1.out))))
        have r20 := rc_cell 0 (.bool lf) X2.out rfl; have r21 := rc_cell 1 (.slice AK nK cK) X2.out rfl; have r22 := rc_cell 2 (.slice AV m cV) X2.out rfl; have r23 := rc_cell 3 (.slice AD (m + 1) cD) X2.out rfl
        go_wp2
        have E0 := rc_cell 0 (.bool lf) X2.out rfl; have E1 := rc_cell 1 (.slice AK nK cK) X2.out rfl; have E2 := rc_cell 2 (.slice AV m cV) X2.out rfl; have E3 := rc_cell 3 (.slice AD (m + 1) cD) X2.out rfl
        have HV2 : Hid (ndV lf AK (min nK m) cK AV (min nV m) cV AD (min nD (m + 1)) cD = #[.bool lf, .slice AK nK cK, .slice AV m cV, .slice AD (m + 1) cD]) := Lib.hid (by show _ = _; have e0 : min nK m = nK := (by omega); have e1 : min nV m = m := (by omega); have e2 : min nD (m + 1) = (m + 1) := (by omega); rw [e0, e1, e2])
        refine bodyPost_ret (v := .agg #[.bool lf, .slice AK nK cK, .slice AV m cV, .slice AD (m + 1) cD]) (by simp [results, Try.f31, go_sem, Try.isAgg66, Try.sizeOf66, E0, E1, E2, E3]) rfl ⟨by rw [HV2.out], two_alloc w _ _⟩
      · have hd2 : decide (((m : Int) + 1) < (nD : Int)) = false := by simp; omega
        go_wp2
        have E0 := rc_cell 0 (.bool lf) X1.out rfl; have E1 := rc_cell 1 (.slice AK nK cK) X1.out rfl; have E2 := rc_cell 2 (.slice AV m cV) X1.out rfl; have E3 := rc_cell 3 (.slice AD nD cD) X1.out rfl
        have HV2 : Hid (ndV lf AK (min nK m) cK AV (min nV m) cV AD (min nD (m + 1)) cD = #[.bool lf, .slice AK nK cK, .slice AV m cV, .slice AD nD cD]) := Lib.hid (by show _ = _; have e0 : min nK m = nK := (by omega); have e1 : min nV m = m := (by omega); have e2 : min nD (m + 1) = nD := (by omega); rw [e0, e1, e2])
        refine bodyPost_ret (v := .agg #[.bool lf, .slice AK nK cK, .slice AV m cV, .slice AD nD cD]) (by simp [results, Try.f31, go_sem, Try.isAgg66, Try.sizeOf66, E0, E1, E2, E3]) rfl ⟨by rw [HV2.out], two_alloc w _ _⟩
    · have hd1 : decide ((m : Int) < (nV : Int)) = false := by simp; omega
      by_cases g2 : (m + 1) < nD
      · have hd2 : decide (((m : Int) + 1) < (nD : Int)) = true := by simp; omega
        have sl2 := slice27_h AD nD cD (m + 1) (by omega)
        rw [show (((m + 1 : Nat) : Int)) = (m : Int) + 1 by omega] at sl2
        have ff2 := two_frozen (i := 3) X0.out
        have X1 := Lib.hid (rc_set (cs' := #[.bool lf, .slice AK nK cK, .slice AV nV cV, .slice AD (m + 1) cD]) 3 (.slice AD (m + 1) cD) X0.out rfl)
        have HB1 := Lib.hid (HB.out.trans ((onl_set _ w.heap.size 3 (.slice AD (m + 1) cD)).below (Nat.le_of_lt (lt_of_heap X0.out))))
        have r10 := rc_cell 0 (.bool lf) X1.out rfl; have r11 := rc_cell 1 (.slice AK nK cK) X1.out rfl; have r12 := rc_cell 2 (.slice AV nV cV) X1.out rfl; have r13 := rc_cell 3 (.slice AD (m + 1) cD) X1.out rfl
        go_wp2
        have E0 := rc_cell 0 (.bool lf) X1.out rfl; have E1 := rc_cell 1 (.slice AK nK cK) X1.out rfl; have E2 := rc_cell 2 (.slice AV nV cV) X1.out rfl; have E3 := rc_cell 3 (.slice AD (m + 1) cD) X1.out rfl
        have HV2 : Hid (ndV lf AK (min nK m) cK AV (min nV m) cV AD (min nD (m + 1)) cD = #[.bool lf, .slice AK nK cK, .slice AV nV cV, .slice AD (m + 1) cD]) := Lib.hid (by show _ = _; have e0 : min nK m = nK := (by omega); have e1 : min nV m = nV := (by omega); have e2 : min nD (m + 1) = (m + 1) := (by omega); rw [e0, e1, e2])
        refine bodyPost_ret (v := .agg #[.bool lf, .slice AK nK cK, .slice AV nV cV, .slice AD (m + 1) cD]) (by simp [results, Try.f31, go_sem, Try.isAgg66, Try.sizeOf66, E0, E1, E2, E3]) rfl ⟨by rw [HV2.out], two_alloc w _ _⟩
      · have hd2 : decide (((m : Int) + 1) < (nD : Int)) = false := by simp; omega
        go_wp2
        have E0 := rc_cell 0 (.bool lf) X0.out rfl; have E1 := rc_cell 1 (.slice AK nK cK) X0.out rfl; have E2 := rc_cell 2 (.slice AV nV cV) X0.out rfl; have E3 := rc_cell 3 (.slice AD nD cD) X0.out rfl
        have HV2 : Hid (ndV lf AK (min nK m) cK AV (min nV m) cV AD (min nD (m + 1)) cD = #[.bool lf, .slice AK nK cK, .slice AV nV cV, .slice AD nD cD]) := Lib.hid (by show _ = _; have e0 : min nK m = nK := (by omega); have e1 : min nV m = nV := (by omega); have e2 : min nD (m + 1) = nD := (by omega); rw [e0, e1, e2])
        refine bodyPost_ret (v := .agg #[.bool lf, .slice AK nK cK, .slice AV nV cV, .slice AD nD cD]) (by simp [results, Try.f31, go_sem, Try.isAgg66, Try.sizeOf66, E0, E1, E2, E3]) rfl ⟨by rw [HV2.out], two_alloc w _ _⟩
end Go.Proofs.Ytmjjbfcblmmipaa
namespace Go.Proofs.Ytmjjbfcblmmipaa
set_option linter.unusedVariables false
set_option linter.unusedSimpArgs false
open Go.RowKit
theorem equals_is (L M : Option Addr) (n m c d : Nat) (xss yss : List (List Int)) (v : Bool) (hv : decide (xss = yss) = v) (w : World) (hx : Bss w L n xss) (hy : Bss w M m yss) (hn : n ≤ maxLen) (hm : m ≤ maxLen) (hs : ∀ xs ∈ xss, xs.length ≤ maxLen) (ht : ∀ xs ∈ yss, xs.length ≤ maxLen) :
    Calls Try.prog 88 #[.slice L n c, .slice M m d] w fun e w' => e = .returned (.bool v) ∧ Dr w w' := by rw [← hv]; exact equals_any L M n m c d xss yss w hx hy hn hm hs ht
theorem Bss.n {w : World} {A : Option Addr} {n : Nat} {xss : List (List Int)} (h : Bss w A n xss) (q : Nat) : Bss (w.drewN q) A n xss := h.keep ((Dr.refl w).n q |>.below _)
theorem ints_step {a b : List Int} {k : Nat} {x : Int} (hx : a[k]? = some x) (hy : b[k]? = some x) (h : a.take k = b.take k) : a.take (k + 1) = b.take (k + 1) := by
  rw [List.take_add_one, List.take_add_one, hx, hy, h]
set_option maxRecDepth 100000 in
set_option maxHeartbeats 4000000 in
theorem rsame_any (la lb : Bool) (AK : Option Addr) (nK cK : Nat) (AV : Option Addr) (nV cV : Nat) (AD : Option Addr) (nD cD : Nat) (BK : Option Addr) (mK dK : Nat) (BV : Option Addr) (mV dV : Nat) (BD : Option Addr) (mD dD : Nat) (ks vs ls us : List (List Int)) (ds es : List Int) (w : World)
    (hx : Bss w AK nK ks) (hy : Bss w AV nV vs) (hz : Ins w AD nD ds) (hx' : Bss w BK mK ls) (hy' : Bss w BV mV us) (hz' : Ins w BD mD es)
    (bK : nK ≤ 1048576) (bV : nV ≤ 1048576) (bD : nD ≤ 1048576) (cK' : mK ≤ 1048576) (cV' : mV ≤ 1048576) (cD' : mD ≤ 1048576)
    (sK : ∀ xs ∈ ks, xs.length ≤ maxLen) (sV : ∀ xs ∈ vs, xs.length ≤ maxLen) (tK : ∀ xs ∈ ls, xs.length ≤ maxLen) (tV : ∀ xs ∈ us, xs.length ≤ maxLen) :
    Calls Try.prog 40 #[.agg (ndV la AK nK cK AV nV cV AD nD cD), .agg (ndV lb BK mK dK BV mV dV BD mD dD)] w fun e w' => e = .returned (.bool (decide (la = lb ∧ ks = ls ∧ vs = us ∧ ds = es))) ∧ Below w.heap.size w w' := by
  obtain ⟨v, hv⟩ : ∃ v, decide (la = lb ∧ ks = ls ∧ vs = us ∧ ds = es) = v := ⟨_, rfl⟩
  rw [hv]
  have HVR := Lib.hid hv
  clear hv
  have hb1 := below_alloc w (.cells (ndV la AK nK cK AV nV cV AD nD cD) 66)
  have hs1 : (w.alloc (.cells (ndV la AK nK cK AV nV cV AD nD cD) 66)).heap.size = w.heap.size + 1 := by simp
  have hb2 := below_alloc (w.alloc (.cells (ndV la AK nK cK AV nV cV AD nD cD) 66)) (.cells (ndV lb BK mK dK BV mV dV BD mD dD) 66)
  have hr2 := heap_alloc_new (w.alloc (.cells (ndV la AK nK cK AV nV cV AD nD cD) 66)) (.cells (ndV lb BK mK dK BV mV dV BD mD dD) 66)
  rw [hs1] at hr2
  have hB := hb1.trans (hb2.mono (by omega))
  have BA := Lib.hid ((hb2.block w.heap.size (by omega)).trans (heap_alloc_new w (.cells (ndV la AK nK cK AV nV cV AD nD cD) 66)))
  have BB := Lib.hid hr2
  have HB := Lib.hid hB
  have HK := Lib.hid (hx.keep hB); have HV := Lib.hid (hy.keep hB); have HD := Lib.hid (hz.keep hB)
  have JK := Lib.hid (hx'.keep hB); have JV := Lib.hid (hy'.keep hB); have JD := Lib.hid (hz'.keep hB)
  have ld := Lib.hid hz.len; have le := Lib.hid hz'.len
  have HSK := Lib.hid sK; have HSV := Lib.hid sV; have HTK := Lib.hid tK; have HTV := Lib.hid tV
  clear hx hy hz hx' hy' hz' hb1 hs1 hb2 hr2 hB sK sV tK tV
  by_cases h1 : la = lb
  · subst h1
    have e1 : (la != la) = false := by simp
    have a0 := rc_cell 0 (.bool la) BA.out rfl; have a1 := rc_cell 1 (.slice AK nK cK) BA.out rfl; have a2 := rc_cell 2 (.slice AV nV cV) BA.out rfl; have a3 := rc_cell 3 (.slice AD nD cD) BA.out rfl
    have b0 := rc_cell 0 (.bool la) BB.out rfl; have b1 := rc_cell 1 (.slice BK mK dK) BB.out rfl; have b2 := rc_cell 2 (.slice BV mV dV) BB.out rfl; have b3 := rc_cell 3 (.slice BD mD dD) BB.out rfl
    go_enter Try.func40, Try.ntmps40
    go_wp2_with fail
    clear a0 a1 a2 a3 b0 b1 b2 b3
    generalize ((w.alloc (.cells (ndV la AK nK cK AV nV cV AD nD cD) 66)).alloc (.cells (ndV la BK mK dK BV mV dV BD mD dD) 66)) = y at *
    by_cases h2 : ks = ls
    · have HE1 : Hid (decide (ks = ls) = true) := Lib.hid (by simp [h2])
      refine (equals_is AK BK nK mK cK dK ks ls true HE1.out _ HK.out JK.out (by unfold maxLen; omega) (by unfold maxLen; omega) HSK.out HTK.out).mono ?_
      rintro e w1 ⟨rfl, q1, rfl⟩
      have BA1 : Hid ((y.drewN q1).heap[w.heap.size]? = some (.cells (ndV la AK nK cK AV nV cV AD nD cD) 66 (0, 0))) := BA
      have BB1 : Hid ((y.drewN q1).heap[w.heap.size + 1]? = some (.cells (ndV la BK mK dK BV mV dV BD mD dD) 66 (0, 0))) := BB
      have a0 := rc_cell 0 (.bool la) BA1.out rfl; have a1 := rc_cell 1 (.slice AK nK cK) BA1.out rfl; have a2 := rc_cell 2 (.slice AV nV cV) BA1.out rfl; have a3 := rc_cell 3 (.slice AD nD cD) BA1.out rfl
      have b0 := rc_cell 0 (.bool la) BB1.out rfl; have b1 := rc_cell 1 (.slice BK mK dK) BB1.out rfl; have b2 := rc_cell 2 (.slice BV mV dV) BB1.out rfl; have b3 := rc_cell 3 (.slice BD mD dD) BB1.out rfl
      have HH2 := Lib.hid h2; clear h2
      go_wp2_with fail
      clear a0 a1 a2 a3 b0 b1 b2 b3
      by_cases h3 : vs = us
      · have HE2 : Hid (decide (vs = us) = true) := Lib.hid (by simp [h3])
        refine (equals_is AV BV nV mV cV dV vs us true HE2.out _ (HV.out.n q1) (JV.out.n q1) (by unfold maxLen; omega) (by unfold maxLen; omega) HSV.out HTV.out).mono ?_
        rintro e w2 ⟨rfl, q2, rfl⟩
        have BA2 : Hid ((y.drewN (q1 + q2)).heap[w.heap.size]? = some (.cells (ndV la AK nK cK AV nV cV AD nD cD) 66 (0, 0))) := BA
        have BB2 : Hid ((y.drewN (q1 + q2)).heap[w.heap.size + 1]? = some (.cells (ndV la BK mK dK BV mV dV BD mD dD) 66 (0, 0))) := BB
        have a0 := rc_cell 0 (.bool la) BA2.out rfl; have a1 := rc_cell 1 (.slice AK nK cK) BA2.out rfl; have a2 := rc_cell 2 (.slice AV nV cV) BA2.out rfl; have a3 := rc_cell 3 (.slice AD nD cD) BA2.out rfl
        have b0 := rc_cell 0 (.bool la) BB2.out rfl; have b1 := rc_cell 1 (.slice BK mK dK) BB2.out rfl; have b2 := rc_cell 2 (.slice BV mV dV) BB2.out rfl; have b3 := rc_cell 3 (.slice BD mD dD) BB2.out rfl
        have HH3 := Lib.hid h3; clear h3
        by_cases h4 : nD = mD
        · have d1 : ((nD : Int) != (mD : Int)) = false := by subst h4; simp
          have HH4 := Lib.hid h4; clear h4
          go_wp2_with fail
          clear a0 a1 a2 a3 b0 b1 b2 b3
          have BA3 := BA2; have BB3 := BB2; have HB3 := Lib.hid (HB.out.trans (((Dr.refl y).n (q1 + q2)).below _))
          have HD3 : Hid (Ins (y.drewN (q1 + q2)) AD nD ds) := Lib.hid (HD.out.keep (((Dr.refl y).n (q1 + q2)).below _)); have JD3 : Hid (Ins (y.drewN (q1 + q2)) BD mD es) := Lib.hid (JD.out.keep (((Dr.refl y).n (q1 + q2)).below _))
          clear BA1 BB1 BA2 BB2 BA BB HB HD JD
          generalize y.drewN (q1 + q2) = z at *
          go_loopw [5] (fun iv wr => ∃ kk q : Nat, iv = .int .i64 (kk : Int) ∧ wr = z.drewN q ∧ kk ≤ nD ∧ Hid (ds.take kk = es.take kk)) (fun iv _ => nD - (intOf iv).toNat)
          case atStart => exact ⟨0, 0, rfl, rfl, Nat.zero_le _, Lib.hid (by simp)⟩
          case round =>
            obtain ⟨kk, q, rfl, rfl, hk, HA⟩ := hrel
            have BAq : Hid ((z.drewN q).heap[w.heap.size]? = some (.cells (ndV la AK nK cK AV nV cV AD nD cD) 66 (0, 0))) := BA3
            have BBq : Hid ((z.drewN q).heap[w.heap.size + 1]? = some (.cells (ndV la BK mK dK BV mV dV BD mD dD) 66 (0, 0))) := BB3
            have q3q := rc_cell 3 (.slice AD nD cD) BAq.out rfl; have r3q := rc_cell 3 (.slice BD mD dD) BBq.out rfl
            have q3 := rc_cell 3 (.slice AD nD cD) BA3.out rfl; have r3 := rc_cell 3 (.slice BD mD dD) BB3.out rfl
            by_cases hlt : kk < nD
            · obtain ⟨b, off, x, hA, hbl, hx1, hx2, hcl, HXK⟩ := HD3.out.get hlt
              obtain ⟨b2, off2, x2, hA2, hbl2, hx3, hx4, hcl2, HYK⟩ := JD3.out.get (k := kk) (by rw [← HH4.out]; exact hlt)
              have z0 : (0 : Int) ≤ (kk : Int) := by omega
              have z1 : (kk : Int) < (nD : Int) := by omega
              have z2 : (kk : Int) < (mD : Int) := by rw [← HH4.out]; exact z1
              have hclq : (z.drewN q).cell? ⟨b, off + kk, none⟩ = some (.int .i64 x) := hcl
              have hclq2 : (z.drewN q).cell? ⟨b2, off2 + kk, none⟩ = some (.int .i64 x2) := hcl2
              rw [hA] at q3 q3q; rw [hA2] at r3 r3q; clear hA hA2 hx1 hx2 hx3 hx4
              by_cases g : x = x2
              · subst g
                have d1 : (x != x) = false := by simp
                have HA2 := Lib.hid (ints_step HXK.out HYK.out HA.out)
                go_wp2
                go_quiet (fail)
                go_wp2
                go_roundw
                case rel => exact ⟨kk + 1, _, by go_num, rfl, by omega, HA2⟩
                case measure => simp [intOf]; omega
              · have d1 : (x != x2) = true := by simp [g]
                have HR : Hid (v = false) := Lib.hid (by rw [← HVR.out, decide_eq_false_iff_not]; rintro ⟨_, _, _, h⟩; have h1 := HXK.out; have h2 := HYK.out; rw [h, h2] at h1; injection h1 with h1; exact g h1.symm)
                go_wp2
                go_quiet (fail)
                go_wp2
                go_ret
                exact ⟨ret_bool HR.out.symm, HB3.out.trans (((Dr.refl _).n _ |>.n _).below _)⟩
            · obtain rfl : nD = kk := by omega
              have HR : Hid (v = true) := Lib.hid (by rw [← HVR.out, decide_eq_true_eq]; refine ⟨by first | trivial | rfl, HH2.out, HH3.out, ?_⟩; have := HA.out; rw [List.take_of_length_le (by rw [ld.out]; exact Nat.le_refl _), List.take_of_length_le (by rw [le.out, ← HH4.out]; exact Nat.le_refl _)] at this; exact this)
              go_wp2
              go_ret
              exact ⟨ret_bool HR.out.symm, HB3.out.trans (((Dr.refl _).n _).below _)⟩
        · have d1 : ((nD : Int) != (mD : Int)) = true := by rw [bne_iff_ne]; omega
          have HR : Hid (v = false) := Lib.hid (by rw [← HVR.out, decide_eq_false_iff_not]; rintro ⟨_, _, _, h⟩; exact h4 (by rw [← ld.out, ← le.out, h]))
          clear h4
          go_wp2
          go_ret
          exact ⟨ret_bool HR.out.symm, (HB.out.trans (((Dr.refl y).n (q1 + q2)).below _))⟩
      · have HE2 : Hid (decide (vs = us) = false) := Lib.hid (by simp [h3])
        have HR : Hid (v = false) := Lib.hid (by rw [← HVR.out, decide_eq_false_iff_not]; rintro ⟨_, _, h, _⟩; exact h3 h)
        clear h3
        refine (equals_is AV BV nV mV cV dV vs us false HE2.out _ (HV.out.n q1) (JV.out.n q1) (by unfold maxLen; omega) (by unfold maxLen; omega) HSV.out HTV.out).mono ?_
        rintro e w2 ⟨rfl, q2, rfl⟩
        go_wp2
        go_ret
        exact ⟨ret_bool HR.out.symm, (HB.out.trans (((Dr.refl y).n (q1 + q2)).below _))⟩
    · have HE1 : Hid (decide (ks = ls) = false) := Lib.hid (by simp [h2])
      have HR : Hid (v = false) := Lib.hid (by rw [← HVR.out, decide_eq_false_iff_not]; rintro ⟨_, h, _, _⟩; exact h2 h)
      clear h2
      refine (equals_is AK BK nK mK cK dK ks ls false HE1.out _ HK.out JK.out (by unfold maxLen; omega) (by unfold maxLen; omega) HSK.out HTK.out).mono ?_
      rintro e w1 ⟨rfl, q1, rfl⟩
      go_wp2
      go_ret
      exact ⟨ret_bool HR.out.symm, (HB.out.trans ((Dr.refl _).n q1 |>.below _))⟩
  · have HR : Hid (v = false) := Lib.hid (by rw [← HVR.out, decide_eq_false_iff_not]; rintro ⟨h, _, _, _⟩; exact h1 h)
    cases la
    · cases lb
      · exact absurd rfl h1
      · clear h1
        have a0 := rc_cell 0 (.bool false) BA.out rfl; have b0 := rc_cell 0 (.bool true) BB.out rfl
        go_enter Try.func40, Try.ntmps40
        go_wp2
        go_ret
        exact ⟨ret_bool HR.out.symm, HB.out⟩
    · cases lb
      · clear h1
        have a0 := rc_cell 0 (.bool true) BA.out rfl; have b0 := rc_cell 0 (.bool false) BB.out rfl
        go_enter Try.func40, Try.ntmps40
        go_wp2
        go_ret
        exact ⟨ret_bool HR.out.symm, HB.out⟩
      · exact absurd rfl h1
end Go.Proofs.Ytmjjbfcblmmipaa
