/- The reference's With and Without. -/
import Derived.Test.YtmjjbfcblmmipaaWithM
import Derived.Test.YtmjjbfcblmmipaaLspM
namespace Go.Proofs.Ytmjjbfcblmmipaa
set_option linter.unusedVariables false
set_option linter.unusedSimpArgs false
open Go.RowKit
/-- The reference's state: the node's box, the result's, the two rows so far. -/
structure RN (w : World) (V : Array Value) (A : Option Addr) (n c : Nat) (us : List Value) (B : Option Addr) (m d : Nat) (vs : List Value) (W : World) : Prop where
  nd : W.heap[w.heap.size]? = some (.cells V 66 (0, 0))
  rs : W.heap[w.heap.size + 1]? = some (.cells ndZ 66 (0, 0))
  ok : Own W (w.heap.size + 2) 28 A n c us
  ov : Own W (w.heap.size + 2) 28 B m d vs
  ap : blk A = none ∨ blk A ≠ blk B
  hb : Below w.heap.size w W
section
variable {w W W' : World} {V : Array Value} {A B A' B' : Option Addr} {n c m d n' c' : Nat} {us vs us' : List Value}
theorem RN.sz (h : RN w V A n c us B m d vs W) : w.heap.size + 2 ≤ W.heap.size := by have := lt_of_heap h.rs; omega
theorem RN.keep (h : RN w V A n c us B m d vs W) (hb : Below W.heap.size W W') : RN w V A n c us B m d vs W' :=
  ⟨(hb.block _ (lt_of_heap h.nd)).trans h.nd, (hb.block _ (lt_of_heap h.rs)).trans h.rs, h.ok.below hb (fun k hk => (h.ok.lies k hk).2), h.ov.below hb (fun k hk => (h.ov.lies k hk).2), h.ap, h.hb.trans (hb.mono h.hb.size)⟩
theorem RN.k (h : RN w V A n c us B m d vs W) (hg : Grows W W' A A') (ho : Own W' (w.heap.size + 2) 28 A' n' c' us') : RN w V A' n' c' us' B m d vs W' := by
  have hs := h.sz
  have hb := (hg.below hs (fun k hk => (h.ok.lies k hk).1))
  exact ⟨(hb.block _ (by omega)).trans h.nd, (hb.block _ (by omega)).trans h.rs, ho, h.ov.kept hg.1 (dist_symm h.ap), grow_ap h.ap hg (fun k hk => (h.ov.lies k hk).2), h.hb.trans (hb.mono (by omega))⟩
theorem RN.v (h : RN w V A n c us B m d vs W) (hg : Grows W W' B B') (ho : Own W' (w.heap.size + 2) 28 B' n' c' us') : RN w V A n c us B' n' c' us' W' := by
  have hs := h.sz
  have hb := (hg.below hs (fun k hk => (h.ov.lies k hk).1))
  exact ⟨(hb.block _ (by omega)).trans h.nd, (hb.block _ (by omega)).trans h.rs, h.ok.kept hg.1 h.ap, ho, dist_symm (grow_ap (dist_symm h.ap) hg (fun k hk => (h.ok.lies k hk).2)), h.hb.trans (hb.mono (by omega))⟩
/-- An empty row is laid. -/
theorem own_empty (W : World) (base : Nat) (hb : base ≤ W.heap.size) : Own (W.alloc (.cells #[] 28)) base 28 (some ⟨W.heap.size, 0, none⟩) 0 0 [] :=
  Own.of_block (vs := []) (heap_alloc_new W _) hb rfl (Nat.zero_le _)
end
theorem rd_keepB {w w' : World} {A : Option Addr} {n : Nat} {vs : List Value} (h : Rd w A n vs) (hb : Below w.heap.size w w') : Rd w' A n vs := h.keep hb
set_option maxRecDepth 100000 in
set_option maxHeartbeats 8000000 in
theorem rwithNo_any (lf : Bool) (AK : Option Addr) (nK cK : Nat) (AV : Option Addr) (nV cV : Nat) (AD : Option Addr) (nD cD : Nat) (z : Int) (AQ : Option Addr) (nq cq : Nat) (AR : Option Addr) (nr cr : Nat) (hno : lf = false ∨ z < 0 ∨ (nK : Int) < z) (w : World) (bK : nK ≤ 99999) :
    Calls Try.prog 45 #[.agg (ndV lf AK nK cK AV nV cV AD nD cD), .int .i64 z, .slice AQ nq cq, .slice AR nr cr] w fun e w' => e = .returned (.agg (ndV lf AK nK cK AV nV cV AD nD cD)) ∧ Below w.heap.size w w' := by
  have hb1 := below_alloc w (.cells (ndV lf AK nK cK AV nV cV AD nD cD) 66)
  have hb2 := below_alloc (w.alloc (.cells (ndV lf AK nK cK AV nV cV AD nD cD) 66)) (.cells ndZ 66)
  have hsz : (w.alloc (.cells (ndV lf AK nK cK AV nV cV AD nD cD) 66)).heap.size = w.heap.size + 1 := by simp
  have n2 := heap_alloc_new (w.alloc (.cells (ndV lf AK nK cK AV nV cV AD nD cD) 66)) (.cells ndZ 66)
  rw [hsz] at n2
  have BX := Lib.hid ((hb2.block w.heap.size (by omega)).trans (heap_alloc_new w (.cells (ndV lf AK nK cK AV nV cV AD nD cD) 66)))
  have RS := Lib.hid n2; have HB := Lib.hid (hb1.trans (hb2.mono (by omega)))
  clear hb1 hb2 n2 hsz
  go_enter Try.func45, Try.ntmps45
  go_upto_region 1 with fail
  generalize (w.alloc (.cells (ndV lf AK nK cK AV nV cV AD nD cD) 66)).alloc (.cells ndZ 66) = y at *
  rcases hno with rfl | hno
  · have q0 := rc_cell 0 (.bool false) BX.out rfl; have q1 := rc_cell 1 (.slice AK nK cK) BX.out rfl; have q2 := rc_cell 2 (.slice AV nV cV) BX.out rfl; have q3 := rc_cell 3 (.slice AD nD cD) BX.out rfl
    have z0 := rc_cell 0 (.bool false) RS.out rfl; have fz0 := two_frozen (i := 0) RS.out
    have z1 := rc_cell 1 (.slice none 0 0) RS.out rfl; have fz1 := two_frozen (i := 1) RS.out
    have z2 := rc_cell 2 (.slice none 0 0) RS.out rfl; have fz2 := two_frozen (i := 2) RS.out
    have z3 := rc_cell 3 (.slice none 0 0) RS.out rfl; have fz3 := two_frozen (i := 3) RS.out
    have HZ2 := Lib.hid (set4r y (w.heap.size + 1) (.bool false) (.slice AK nK cK) (.slice AV nV cV) (.slice AD nD cD) RS.out)
    have HBE := Lib.hid (HB.out.trans ((HZ2.out.2.below (Nat.le_of_lt (lt_of_heap RS.out))).mono (by omega)))
    go_wp2_with fail
    clear q0 q1 q2 q3; clear z0 z1 z2 z3; clear fz0 fz1 fz2 fz3
    generalize ((((y.setCell ⟨w.heap.size + 1, 0, none⟩ (.bool false)).setCell ⟨w.heap.size + 1, 1, none⟩ (.slice AK nK cK)).setCell ⟨w.heap.size + 1, 2, none⟩ (.slice AV nV cV)).setCell ⟨w.heap.size + 1, 3, none⟩ (.slice AD nD cD)) = wz at *
    have e0 := rc_cell 0 (.bool false) HZ2.out.1 rfl; have e1 := rc_cell 1 (.slice AK nK cK) HZ2.out.1 rfl; have e2 := rc_cell 2 (.slice AV nV cV) HZ2.out.1 rfl; have e3 := rc_cell 3 (.slice AD nD cD) HZ2.out.1 rfl
    refine bodyPost_ret (v := .agg #[.bool false, .slice AK nK cK, .slice AV nV cV, .slice AD nD cD]) (by simp [results, Try.f45, go_sem, Try.isAgg66, Try.sizeOf66, e0, e1, e2, e3]) rfl ⟨rfl, HBE.out⟩
  cases lf with
  | false =>
    · have q0 := rc_cell 0 (.bool false) BX.out rfl; have q1 := rc_cell 1 (.slice AK nK cK) BX.out rfl; have q2 := rc_cell 2 (.slice AV nV cV) BX.out rfl; have q3 := rc_cell 3 (.slice AD nD cD) BX.out rfl
      have z0 := rc_cell 0 (.bool false) RS.out rfl; have fz0 := two_frozen (i := 0) RS.out
      have z1 := rc_cell 1 (.slice none 0 0) RS.out rfl; have fz1 := two_frozen (i := 1) RS.out
      have z2 := rc_cell 2 (.slice none 0 0) RS.out rfl; have fz2 := two_frozen (i := 2) RS.out
      have z3 := rc_cell 3 (.slice none 0 0) RS.out rfl; have fz3 := two_frozen (i := 3) RS.out
      have HZ2 := Lib.hid (set4r y (w.heap.size + 1) (.bool false) (.slice AK nK cK) (.slice AV nV cV) (.slice AD nD cD) RS.out)
      have HBE := Lib.hid (HB.out.trans ((HZ2.out.2.below (Nat.le_of_lt (lt_of_heap RS.out))).mono (by omega)))
      go_wp2_with fail
      clear q0 q1 q2 q3; clear z0 z1 z2 z3; clear fz0 fz1 fz2 fz3
      generalize ((((y.setCell ⟨w.heap.size + 1, 0, none⟩ (.bool false)).setCell ⟨w.heap.size + 1, 1, none⟩ (.slice AK nK cK)).setCell ⟨w.heap.size + 1, 2, none⟩ (.slice AV nV cV)).setCell ⟨w.heap.size + 1, 3, none⟩ (.slice AD nD cD)) = wz at *
      have e0 := rc_cell 0 (.bool false) HZ2.out.1 rfl; have e1 := rc_cell 1 (.slice AK nK cK) HZ2.out.1 rfl; have e2 := rc_cell 2 (.slice AV nV cV) HZ2.out.1 rfl; have e3 := rc_cell 3 (.slice AD nD cD) HZ2.out.1 rfl
      refine bodyPost_ret (v := .agg #[.bool false, .slice AK nK cK, .slice AV nV cV, .slice AD nD cD]) (by simp [results, Try.f45, go_sem, Try.isAgg66, Try.sizeOf66, e0, e1, e2, e3]) rfl ⟨rfl, HBE.out⟩
  | true =>
    rcases hno with hno | hno
    · have d1 : decide (z < 0) = true := by simpa using hno
      have q0 := rc_cell 0 (.bool true) BX.out rfl; have q1 := rc_cell 1 (.slice AK nK cK) BX.out rfl; have q2 := rc_cell 2 (.slice AV nV cV) BX.out rfl; have q3 := rc_cell 3 (.slice AD nD cD) BX.out rfl
      have z0 := rc_cell 0 (.bool false) RS.out rfl; have fz0 := two_frozen (i := 0) RS.out
      have z1 := rc_cell 1 (.slice none 0 0) RS.out rfl; have fz1 := two_frozen (i := 1) RS.out
      have z2 := rc_cell 2 (.slice none 0 0) RS.out rfl; have fz2 := two_frozen (i := 2) RS.out
      have z3 := rc_cell 3 (.slice none 0 0) RS.out rfl; have fz3 := two_frozen (i := 3) RS.out
      have HZ2 := Lib.hid (set4r y (w.heap.size + 1) (.bool true) (.slice AK nK cK) (.slice AV nV cV) (.slice AD nD cD) RS.out)
      have HBE := Lib.hid (HB.out.trans ((HZ2.out.2.below (Nat.le_of_lt (lt_of_heap RS.out))).mono (by omega)))
      go_wp2_with fail
      clear q0 q1 q2 q3; clear z0 z1 z2 z3; clear fz0 fz1 fz2 fz3
      generalize ((((y.setCell ⟨w.heap.size + 1, 0, none⟩ (.bool true)).setCell ⟨w.heap.size + 1, 1, none⟩ (.slice AK nK cK)).setCell ⟨w.heap.size + 1, 2, none⟩ (.slice AV nV cV)).setCell ⟨w.heap.size + 1, 3, none⟩ (.slice AD nD cD)) = wz at *
      have e0 := rc_cell 0 (.bool true) HZ2.out.1 rfl; have e1 := rc_cell 1 (.slice AK nK cK) HZ2.out.1 rfl; have e2 := rc_cell 2 (.slice AV nV cV) HZ2.out.1 rfl; have e3 := rc_cell 3 (.slice AD nD cD) HZ2.out.1 rfl
      refine bodyPost_ret (v := .agg #[.bool true, .slice AK nK cK, .slice AV nV cV, .slice AD nD cD]) (by simp [results, Try.f45, go_sem, Try.isAgg66, Try.sizeOf66, e0, e1, e2, e3]) rfl ⟨rfl, HBE.out⟩
    · have d0 : decide (z < 0) = false := by simp; omega
      have d1 : decide ((nK : Int) < z) = true := by simp; omega
      have q0 := rc_cell 0 (.bool true) BX.out rfl; have q1 := rc_cell 1 (.slice AK nK cK) BX.out rfl; have q2 := rc_cell 2 (.slice AV nV cV) BX.out rfl; have q3 := rc_cell 3 (.slice AD nD cD) BX.out rfl
      have z0 := rc_cell 0 (.bool false) RS.out rfl; have fz0 := two_frozen (i := 0) RS.out
      have z1 := rc_cell 1 (.slice none 0 0) RS.out rfl; have fz1 := two_frozen (i := 1) RS.out
      have z2 := rc_cell 2 (.slice none 0 0) RS.out rfl; have fz2 := two_frozen (i := 2) RS.out
      have z3 := rc_cell 3 (.slice none 0 0) RS.out rfl; have fz3 := two_frozen (i := 3) RS.out
      have HZ2 := Lib.hid (set4r y (w.heap.size + 1) (.bool true) (.slice AK nK cK) (.slice AV nV cV) (.slice AD nD cD) RS.out)
      have HBE := Lib.hid (HB.out.trans ((HZ2.out.2.below (Nat.le_of_lt (lt_of_heap RS.out))).mono (by omega)))
      go_wp2_with fail
      clear q0 q1 q2 q3; clear z0 z1 z2 z3; clear fz0 fz1 fz2 fz3
      generalize ((((y.setCell ⟨w.heap.size + 1, 0, none⟩ (.bool true)).setCell ⟨w.heap.size + 1, 1, none⟩ (.slice AK nK cK)).setCell ⟨w.heap.size + 1, 2, none⟩ (.slice AV nV cV)).setCell ⟨w.heap.size + 1, 3, none⟩ (.slice AD nD cD)) = wz at *
      have e0 := rc_cell 0 (.bool true) HZ2.out.1 rfl; have e1 := rc_cell 1 (.slice AK nK cK) HZ2.out.1 rfl; have e2 := rc_cell 2 (.slice AV nV cV) HZ2.out.1 rfl; have e3 := rc_cell 3 (.slice AD nD cD) HZ2.out.1 rfl
      refine bodyPost_ret (v := .agg #[.bool true, .slice AK nK cK, .slice AV nV cV, .slice AD nD cD]) (by simp [results, Try.f45, go_sem, Try.isAgg66, Try.sizeOf66, e0, e1, e2, e3]) rfl ⟨rfl, HBE.out⟩
set_option maxRecDepth 100000 in
set_option maxHeartbeats 8000000 in
theorem rwithoutNo_any (lf : Bool) (AK : Option Addr) (nK cK : Nat) (AV : Option Addr) (nV cV : Nat) (AD : Option Addr) (nD cD : Nat) (z : Int) (hno : lf = false ∨ z < 0 ∨ (nK : Int) ≤ z) (w : World) (bK : nK ≤ 99999) :
    Calls Try.prog 47 #[.agg (ndV lf AK nK cK AV nV cV AD nD cD), .int .i64 z] w fun e w' => e = .returned (.agg (ndV lf AK nK cK AV nV cV AD nD cD)) ∧ Below w.heap.size w w' := by
  have hb1 := below_alloc w (.cells (ndV lf AK nK cK AV nV cV AD nD cD) 66)
  have hb2 := below_alloc (w.alloc (.cells (ndV lf AK nK cK AV nV cV AD nD cD) 66)) (.cells ndZ 66)
  have hsz : (w.alloc (.cells (ndV lf AK nK cK AV nV cV AD nD cD) 66)).heap.size = w.heap.size + 1 := by simp
  have n2 := heap_alloc_new (w.alloc (.cells (ndV lf AK nK cK AV nV cV AD nD cD) 66)) (.cells ndZ 66)
  rw [hsz] at n2
  have BX := Lib.hid ((hb2.block w.heap.size (by omega)).trans (heap_alloc_new w (.cells (ndV lf AK nK cK AV nV cV AD nD cD) 66)))
  have RS := Lib.hid n2; have HB := Lib.hid (hb1.trans (hb2.mono (by omega)))
  clear hb1 hb2 n2 hsz
  go_enter Try.func47, Try.ntmps47
  go_upto_region 1 with fail
  generalize (w.alloc (.cells (ndV lf AK nK cK AV nV cV AD nD cD) 66)).alloc (.cells ndZ 66) = y at *
  rcases hno with rfl | hno
  · have q0 := rc_cell 0 (.bool false) BX.out rfl; have q1 := rc_cell 1 (.slice AK nK cK) BX.out rfl; have q2 := rc_cell 2 (.slice AV nV cV) BX.out rfl; have q3 := rc_cell 3 (.slice AD nD cD) BX.out rfl
    have z0 := rc_cell 0 (.bool false) RS.out rfl; have fz0 := two_frozen (i := 0) RS.out
    have z1 := rc_cell 1 (.slice none 0 0) RS.out rfl; have fz1 := two_frozen (i := 1) RS.out
    have z2 := rc_cell 2 (.slice none 0 0) RS.out rfl; have fz2 := two_frozen (i := 2) RS.out
    have z3 := rc_cell 3 (.slice none 0 0) RS.out rfl; have fz3 := two_frozen (i := 3) RS.out
    have HZ2 := Lib.hid (set4r y (w.heap.size + 1) (.bool false) (.slice AK nK cK) (.slice AV nV cV) (.slice AD nD cD) RS.out)
    have HBE := Lib.hid (HB.out.trans ((HZ2.out.2.below (Nat.le_of_lt (lt_of_heap RS.out))).mono (by omega)))
    go_wp2_with fail
    clear q0 q1 q2 q3; clear z0 z1 z2 z3; clear fz0 fz1 fz2 fz3
    generalize ((((y.setCell ⟨w.heap.size + 1, 0, none⟩ (.bool false)).setCell ⟨w.heap.size + 1, 1, none⟩ (.slice AK nK cK)).setCell ⟨w.heap.size + 1, 2, none⟩ (.slice AV nV cV)).setCell ⟨w.heap.size + 1, 3, none⟩ (.slice AD nD cD)) = wz at *
    have e0 := rc_cell 0 (.bool false) HZ2.out.1 rfl; have e1 := rc_cell 1 (.slice AK nK cK) HZ2.out.1 rfl; have e2 := rc_cell 2 (.slice AV nV cV) HZ2.out.1 rfl; have e3 := rc_cell 3 (.slice AD nD cD) HZ2.out.1 rfl
    refine bodyPost_ret (v := .agg #[.bool false, .slice AK nK cK, .slice AV nV cV, .slice AD nD cD]) (by simp [results, Try.f47, go_sem, Try.isAgg66, Try.sizeOf66, e0, e1, e2, e3]) rfl ⟨rfl, HBE.out⟩
  cases lf with
  | false =>
    · have q0 := rc_cell 0 (.bool false) BX.out rfl; have q1 := rc_cell 1 (.slice AK nK cK) BX.out rfl; have q2 := rc_cell 2 (.slice AV nV cV) BX.out rfl; have q3 := rc_cell 3 (.slice AD nD cD) BX.out rfl
      have z0 := rc_cell 0 (.bool false) RS.out rfl; have fz0 := two_frozen (i := 0) RS.out
      have z1 := rc_cell 1 (.slice none 0 0) RS.out rfl; have fz1 := two_frozen (i := 1) RS.out
      have z2 := rc_cell 2 (.slice none 0 0) RS.out rfl; have fz2 := two_frozen (i := 2) RS.out
      have z3 := rc_cell 3 (.slice none 0 0) RS.out rfl; have fz3 := two_frozen (i := 3) RS.out
      have HZ2 := Lib.hid (set4r y (w.heap.size + 1) (.bool false) (.slice AK nK cK) (.slice AV nV cV) (.slice AD nD cD) RS.out)
      have HBE := Lib.hid (HB.out.trans ((HZ2.out.2.below (Nat.le_of_lt (lt_of_heap RS.out))).mono (by omega)))
      go_wp2_with fail
      clear q0 q1 q2 q3; clear z0 z1 z2 z3; clear fz0 fz1 fz2 fz3
      generalize ((((y.setCell ⟨w.heap.size + 1, 0, none⟩ (.bool false)).setCell ⟨w.heap.size + 1, 1, none⟩ (.slice AK nK cK)).setCell ⟨w.heap.size + 1, 2, none⟩ (.slice AV nV cV)).setCell ⟨w.heap.size + 1, 3, none⟩ (.slice AD nD cD)) = wz at *
      have e0 := rc_cell 0 (.bool false) HZ2.out.1 rfl; have e1 := rc_cell 1 (.slice AK nK cK) HZ2.out.1 rfl; have e2 := rc_cell 2 (.slice AV nV cV) HZ2.out.1 rfl; have e3 := rc_cell 3 (.slice AD nD cD) HZ2.out.1 rfl
      refine bodyPost_ret (v := .agg #[.bool false, .slice AK nK cK, .slice AV nV cV, .slice AD nD cD]) (by simp [results, Try.f47, go_sem, Try.isAgg66, Try.sizeOf66, e0, e1, e2, e3]) rfl ⟨rfl, HBE.out⟩
  | true =>
    rcases hno with hno | hno
    · have d1 : decide (z < 0) = true := by simpa using hno
      have q0 := rc_cell 0 (.bool true) BX.out rfl; have q1 := rc_cell 1 (.slice AK nK cK) BX.out rfl; have q2 := rc_cell 2 (.slice AV nV cV) BX.out rfl; have q3 := rc_cell 3 (.slice AD nD cD) BX.out rfl
      have z0 := rc_cell 0 (.bool false) RS.out rfl; have fz0 := two_frozen (i := 0) RS.out
      have z1 := rc_cell 1 (.slice none 0 0) RS.out rfl; have fz1 := two_frozen (i := 1) RS.out
      have z2 := rc_cell 2 (.slice none 0 0) RS.out rfl; have fz2 := two_frozen (i := 2) RS.out
      have z3 := rc_cell 3 (.slice none 0 0) RS.out rfl; have fz3 := two_frozen (i := 3) RS.out
      have HZ2 := Lib.hid (set4r y (w.heap.size + 1) (.bool true) (.slice AK nK cK) (.slice AV nV cV) (.slice AD nD cD) RS.out)
      have HBE := Lib.hid (HB.out.trans ((HZ2.out.2.below (Nat.le_of_lt (lt_of_heap RS.out))).mono (by omega)))
      go_wp2_with fail
      clear q0 q1 q2 q3; clear z0 z1 z2 z3; clear fz0 fz1 fz2 fz3
      generalize ((((y.setCell ⟨w.heap.size + 1, 0, none⟩ (.bool true)).setCell ⟨w.heap.size + 1, 1, none⟩ (.slice AK nK cK)).setCell ⟨w.heap.size + 1, 2, none⟩ (.slice AV nV cV)).setCell ⟨w.heap.size + 1, 3, none⟩ (.slice AD nD cD)) = wz at *
      have e0 := rc_cell 0 (.bool true) HZ2.out.1 rfl; have e1 := rc_cell 1 (.slice AK nK cK) HZ2.out.1 rfl; have e2 := rc_cell 2 (.slice AV nV cV) HZ2.out.1 rfl; have e3 := rc_cell 3 (.slice AD nD cD) HZ2.out.1 rfl
      refine bodyPost_ret (v := .agg #[.bool true, .slice AK nK cK, .slice AV nV cV, .slice AD nD cD]) (by simp [results, Try.f47, go_sem, Try.isAgg66, Try.sizeOf66, e0, e1, e2, e3]) rfl ⟨rfl, HBE.out⟩
    · have d0 : decide (z < 0) = false := by simp; omega
      have d1 : decide ((nK : Int) ≤ z) = true := by simp; omega
      have q0 := rc_cell 0 (.bool true) BX.out rfl; have q1 := rc_cell 1 (.slice AK nK cK) BX.out rfl; have q2 := rc_cell 2 (.slice AV nV cV) BX.out rfl; have q3 := rc_cell 3 (.slice AD nD cD) BX.out rfl
      have z0 := rc_cell 0 (.bool false) RS.out rfl; have fz0 := two_frozen (i := 0) RS.out
      have z1 := rc_cell 1 (.slice none 0 0) RS.out rfl; have fz1 := two_frozen (i := 1) RS.out
      have z2 := rc_cell 2 (.slice none 0 0) RS.out rfl; have fz2 := two_frozen (i := 2) RS.out
      have z3 := rc_cell 3 (.slice none 0 0) RS.out rfl; have fz3 := two_frozen (i := 3) RS.out
      have HZ2 := Lib.hid (set4r y (w.heap.size + 1) (.bool true) (.slice AK nK cK) (.slice AV nV cV) (.slice AD nD cD) RS.out)
      have HBE := Lib.hid (HB.out.trans ((HZ2.out.2.below (Nat.le_of_lt (lt_of_heap RS.out))).mono (by omega)))
      go_wp2_with fail
      clear q0 q1 q2 q3; clear z0 z1 z2 z3; clear fz0 fz1 fz2 fz3
      generalize ((((y.setCell ⟨w.heap.size + 1, 0, none⟩ (.bool true)).setCell ⟨w.heap.size + 1, 1, none⟩ (.slice AK nK cK)).setCell ⟨w.heap.size + 1, 2, none⟩ (.slice AV nV cV)).setCell ⟨w.heap.size + 1, 3, none⟩ (.slice AD nD cD)) = wz at *
      have e0 := rc_cell 0 (.bool true) HZ2.out.1 rfl; have e1 := rc_cell 1 (.slice AK nK cK) HZ2.out.1 rfl; have e2 := rc_cell 2 (.slice AV nV cV) HZ2.out.1 rfl; have e3 := rc_cell 3 (.slice AD nD cD) HZ2.out.1 rfl
      refine bodyPost_ret (v := .agg #[.bool true, .slice AK nK cK, .slice AV nV cV, .slice AD nD cD]) (by simp [results, Try.f47, go_sem, Try.isAgg66, Try.sizeOf66, e0, e1, e2, e3]) rfl ⟨rfl, HBE.out⟩
set_option maxRecDepth 100000 in
set_option maxHeartbeats 16000000 in
theorem rwithOk_any (AK : Option Addr) (nK cK : Nat) (AV : Option Addr) (nV cV : Nat) (AD : Option Addr) (nD cD : Nat) (ks vs : List (List Int)) (i : Nat) (z : Int) (hzi : z = (i : Int)) (AQ : Option Addr) (cq : Nat) (key : List Int) (AR : Option Addr) (cr : Nat) (val : List Int) (w : World) (hx : Bss w AK nK ks) (hy : Bss w AV nV vs) (hq : Bs w AQ key.length key) (hr : Bs w AR val.length val) (hqc : key.length ≤ cq) (hrc : val.length ≤ cr) (hi : i ≤ nK) (hV : nV = nK) (hKc : nK ≤ cK) (hVc : nV ≤ cV) (bK : nK ≤ 99999) :
    Calls Try.prog 45 #[.agg (ndV true AK nK cK AV nV cV AD nD cD), .int .i64 z, .slice AQ key.length cq, .slice AR val.length cr] w fun e w' => ∃ A1 c1 A2 c2, e = .returned (.agg (ndV true A1 (nK + 1) c1 A2 (nV + 1) c2 none 0 0)) ∧ Bss w' A1 (nK + 1) (insL ks i key) ∧ Bss w' A2 (nV + 1) (insL vs i val) ∧ Below w.heap.size w w' := by
  obtain ⟨i0, hi0, hz0, hz1, hz2⟩ := info_parts info23
  subst hzi
  have hiV : i ≤ nV := by omega
  have bV : nV ≤ 99999 := by omega
  clear hV
  obtain ⟨us, hul, hur, hu1, HUE⟩ := hx.vals
  obtain ⟨ts, htl, htr, ht1, HTE⟩ := hy.vals
  have HLK := Lib.hid hx.len; have HLV := Lib.hid hy.len
  have HUL := Lib.hid hul; have HUR := Lib.hid hur; have HU1 := Lib.hid hu1; have HTL := Lib.hid htl; have HTR := Lib.hid htr; have HT1 := Lib.hid ht1
  have HQ := Lib.hid hq; have HR := Lib.hid hr
  have hqc' := hqc; have hrc' := hrc
  obtain ⟨nq, HNQ⟩ : ∃ nq, Hid (key.length = nq) := ⟨_, rfl⟩
  obtain ⟨nr, HNR⟩ : ∃ nr, Hid (val.length = nr) := ⟨_, rfl⟩
  rw [HNQ.out, HNR.out]
  clear hq hr hqc hrc
  clear hx hy hul hur hu1 htl htr ht1
  have hb1 := below_alloc w (.cells (ndV true AK nK cK AV nV cV AD nD cD) 66)
  have hb2 := below_alloc (w.alloc (.cells (ndV true AK nK cK AV nV cV AD nD cD) 66)) (.cells ndZ 66)
  have hsz : (w.alloc (.cells (ndV true AK nK cK AV nV cV AD nD cD) 66)).heap.size = w.heap.size + 1 := by simp
  have n2 := heap_alloc_new (w.alloc (.cells (ndV true AK nK cK AV nV cV AD nD cD) 66)) (.cells ndZ 66)
  rw [hsz] at n2
  have BX := Lib.hid ((hb2.block w.heap.size (by omega)).trans (heap_alloc_new w (.cells (ndV true AK nK cK AV nV cV AD nD cD) 66)))
  have RS := Lib.hid n2; have HB := Lib.hid (hb1.trans (hb2.mono (by omega)))
  clear hb1 hb2 n2 hsz
  go_enter Try.func45, Try.ntmps45
  go_upto_region 1 with fail
  generalize (w.alloc (.cells (ndV true AK nK cK AV nV cV AD nD cD) 66)).alloc (.cells ndZ 66) = y at *
  have d0 : decide ((i : Int) < 0) = false := by simp
  have d1 : decide ((nK : Int) < (i : Int)) = false := by simp; omega
  have d1n : decide (nK < i) = false := by simp; omega
  have sk1 := slice62_h AK nK cK i (by omega); have sv1 := slice62_h AV nV cV i (by omega)
  have sk2 := slice62_lo AK nK cK i hi; have sv2 := slice62_lo AV nV cV i hiV
  have q0 := rc_cell 0 (.bool true) BX.out rfl; have q1 := rc_cell 1 (.slice AK nK cK) BX.out rfl; have q2 := rc_cell 2 (.slice AV nV cV) BX.out rfl; have q3 := rc_cell 3 (.slice AD nD cD) BX.out rfl
  go_upto_region 3 with fail
  clear q0 q1 q2 q3
  have q0 := rc_cell 0 (.bool true) BX.out rfl; have q1 := rc_cell 1 (.slice AK nK cK) BX.out rfl; have q2 := rc_cell 2 (.slice AV nV cV) BX.out rfl; have q3 := rc_cell 3 (.slice AD nD cD) BX.out rfl
  have E1 : Hid (RN w #[.bool true, .slice AK nK cK, .slice AV nV cV, .slice AD nD cD] (some ⟨y.heap.size, 0, none⟩) 0 0 [] none 0 0 [] (y.alloc (.cells #[] 28))) := Lib.hid (by
    have hba := below_alloc y (.cells #[] 28)
    exact ⟨(hba.block _ (lt_of_heap BX.out)).trans BX.out, (hba.block _ (lt_of_heap RS.out)).trans RS.out, own_empty y _ (by have := lt_of_heap RS.out; omega), Own.nil_, dist_symm (.inl rfl), HB.out.trans (hba.mono HB.out.size)⟩)
  have r1 := rc_cell 1 (.slice AK nK cK) E1.out.nd rfl
  go_wp2_with (at_builtin; refine wpList_append_rd rfl _ _ 62 rfl i0 (.slice none 0 0) 24 Try.underlying62 hi0 hz0 hz1 hz2 rfl rfl E1.out.ok AK i cK (us.take i) rfl ((HUR.out.short (by omega)).keep E1.out.hb) (fun u hu => HU1.out u (List.mem_of_mem_take hu)) ?a1 ?a2 ?a3 ?_)
  case a1 => unfold maxLen; omega
  case a2 => omega
  case a3 => exact E1.out.sz
  intro P2 c2 w2 oE gE
  have T2 := Lib.hid (E1.out.k gE oE)
  clear oE gE
  clear r1 q0 q1 q2 q3 BX RS HB
  have K1 := Lib.hid (T2.out.keep (below_alloc w2 (.cells #[.slice AQ nq cq] 28)))
  go_wp2_with (at_builtin; refine wpList_append_rd rfl _ _ 62 rfl i0 (.slice none 0 0) 24 Try.underlying62 hi0 hz0 hz1 hz2 rfl rfl K1.out.ok (some ⟨w2.heap.size, 0, none⟩) 1 1 [.slice AQ nq cq] rfl (rd_oneV w2 (.slice AQ nq cq) 28) (one_slice _ _ _) ?a1 ?a2 ?a3 ?_)
  case a1 => unfold maxLen; omega
  case a2 => omega
  case a3 => exact K1.out.sz
  intro P3 c3 w3 oE gE
  have T3 := Lib.hid (K1.out.k gE oE)
  clear oE gE
  have E4 := Lib.hid (show RN w #[.bool true, .slice AK nK cK, .slice AV nV cV, .slice AD nD cD] _ _ _ _ (some ⟨w3.heap.size, 0, none⟩) 0 0 [] (w3.alloc (.cells #[] 28)) from by
    have h := T3.out.keep (below_alloc w3 (.cells #[] 28))
    exact ⟨h.nd, h.rs, h.ok, own_empty w3 _ T3.out.sz, dist_newN (fun k hk => (T3.out.ok.lies k hk).2) (fun k hk => (show w3.heap.size ≤ k from Nat.le_of_eq (by simpa [blk] using hk))), h.hb⟩)
  have r2 := rc_cell 2 (.slice AV nV cV) E4.out.nd rfl
  have r2' := rc_cell 2 (.slice AV nV cV) T3.out.nd rfl
  go_wp2_with (at_builtin; refine wpList_append_rd rfl _ _ 62 rfl i0 (.slice none 0 0) 24 Try.underlying62 hi0 hz0 hz1 hz2 rfl rfl E4.out.ov AV i cV (ts.take i) rfl ((HTR.out.short (by omega)).keep E4.out.hb) (fun u hu => HT1.out u (List.mem_of_mem_take hu)) ?a1 ?a2 ?a3 ?_)
  case a1 => unfold maxLen; omega
  case a2 => omega
  case a3 => exact E4.out.sz
  intro P5 c5 w5 oE gE
  have T5 := Lib.hid (E4.out.v gE oE)
  clear oE gE
  clear r2 r2'
  have K2 := Lib.hid (T5.out.keep (below_alloc w5 (.cells #[.slice AR nr cr] 28)))
  go_wp2_with (at_builtin; refine wpList_append_rd rfl _ _ 62 rfl i0 (.slice none 0 0) 24 Try.underlying62 hi0 hz0 hz1 hz2 rfl rfl K2.out.ov (some ⟨w5.heap.size, 0, none⟩) 1 1 [.slice AR nr cr] rfl (rd_oneV w5 (.slice AR nr cr) 28) (one_slice _ _ _) ?a1 ?a2 ?a3 ?_)
  case a1 => unfold maxLen; omega
  case a2 => omega
  case a3 => exact K2.out.sz
  intro P6 c6 w6 oE gE
  have T6 := Lib.hid (K2.out.v gE oE)
  clear oE gE
  go_upto_region 7 with fail
  have Td := Lib.hid (T6.out.keep ((Dr.refl w6).one.below _))
  refine wp_region_held_drew (S := fun w' => w'.cell? ⟨w.heap.size, 1, none⟩ = some (.slice AK nK cK) ∧ w'.cell? ⟨w.heap.size, 2, none⟩ = some (.slice AV nV cV) ∧ True) (by kernel_rfl) ⟨rc_cell 1 _ Td.out.nd rfl, rc_cell 2 _ Td.out.nd rfl, trivial⟩ (fun hH0 => ?_)
  generalize w6.drew = yd at *
  refine wpAnyH_take (i := 0) (oi := { dst := some 46, op := Op.move (Operand.tmp 9), type := 62, pos := _, after := #[], guard := none }) (v := ?vr1_0) rfl (by kernel_rfl) (by kernel_rfl) (by kernel_rfl) (fun _ _ _ h => h) (Or.inl ⟨by rfl, ?yr1_0⟩) hH0 ?rr1_0
  case yr1_0 => (intro w hSw; (try dsimp only at hSw); go_simp; try (with_reducible rfl))
  try simp only [Act.put, List.setIfInBounds_toArray, List.set_cons_zero, List.set_cons_succ]
  refine wpAnyH_take (i := 1) (oi := { dst := some 47, op := Op.fieldAddr 66 (Operand.tmp 4) 1, type := 0, pos := _, after := #[], guard := none }) (v := ?vr1_1) rfl (by kernel_rfl) (by kernel_rfl) (by kernel_rfl) (fun _ _ _ h => h) (Or.inl ⟨by rfl, ?yr1_1⟩) hH0 ?rr1_1
  case yr1_1 => (intro w hSw; (try dsimp only at hSw); go_simp; try (with_reducible rfl))
  try simp only [Act.put, List.setIfInBounds_toArray, List.set_cons_zero, List.set_cons_succ]
  refine wpAnyH_take (i := 2) (oi := { dst := some 48, op := Op.load 62 (Operand.tmp 47), type := 62, pos := _, after := #[{ on := 1, ground := Ground.data }], guard := none }) (v := ?vr1_2) rfl (by kernel_rfl) (by kernel_rfl) (by kernel_rfl) (fun _ _ _ h => h) (Or.inl ⟨by rfl, ?yr1_2⟩) hH0 ?rr1_2
  case yr1_2 => (intro w hSw; (try dsimp only at hSw); go_simp; try (with_reducible rfl))
  try simp only [Act.put, List.setIfInBounds_toArray, List.set_cons_zero, List.set_cons_succ]
  refine wpAnyH_take (i := 3) (oi := { dst := some 49, op := Op.move (Operand.tmp 1), type := 3, pos := _, after := #[], guard := none }) (v := ?vr1_3) rfl (by kernel_rfl) (by kernel_rfl) (by kernel_rfl) (fun _ _ _ h => h) (Or.inl ⟨by rfl, ?yr1_3⟩) hH0 ?rr1_3
  case yr1_3 => (intro w hSw; (try dsimp only at hSw); go_simp; try (with_reducible rfl))
  try simp only [Act.put, List.setIfInBounds_toArray, List.set_cons_zero, List.set_cons_succ]
  refine wpAnyH_take (i := 4) (oi := { dst := some 50, op := Op.slice 62 (Operand.tmp 48) (some (Operand.tmp 49)) none none, type := 62, pos := _, after := #[{ on := 2, ground := Ground.data }, { on := 3, ground := Ground.data }], guard := none }) (v := ?vr1_4) rfl (by kernel_rfl) (by kernel_rfl) (by kernel_rfl) (fun _ _ _ h => h) (Or.inl ⟨by rfl, ?yr1_4⟩) hH0 ?rr1_4
  case yr1_4 => (intro w hSw; (try dsimp only at hSw); go_simp; try (with_reducible rfl))
  try simp only [Act.put, List.setIfInBounds_toArray, List.set_cons_zero, List.set_cons_succ]
  refine wpAnyH_take (i := 6) (oi := { dst := some 52, op := Op.move (Operand.tmp 10), type := 62, pos := _, after := #[], guard := none }) (v := ?vr1_6) rfl (by kernel_rfl) (by kernel_rfl) (by kernel_rfl) (fun _ _ _ h => h) (Or.inl ⟨by rfl, ?yr1_6⟩) hH0 ?rr1_6
  case yr1_6 => (intro w hSw; (try dsimp only at hSw); go_simp; try (with_reducible rfl))
  try simp only [Act.put, List.setIfInBounds_toArray, List.set_cons_zero, List.set_cons_succ]
  refine wpAnyH_take (i := 7) (oi := { dst := some 53, op := Op.fieldAddr 66 (Operand.tmp 4) 2, type := 0, pos := _, after := #[], guard := none }) (v := ?vr1_7) rfl (by kernel_rfl) (by kernel_rfl) (by kernel_rfl) (fun _ _ _ h => h) (Or.inl ⟨by rfl, ?yr1_7⟩) hH0 ?rr1_7
  case yr1_7 => (intro w hSw; (try dsimp only at hSw); go_simp; try (with_reducible rfl))
  try simp only [Act.put, List.setIfInBounds_toArray, List.set_cons_zero, List.set_cons_succ]
  refine wpAnyH_take (i := 8) (oi := { dst := some 54, op := Op.load 62 (Operand.tmp 53), type := 62, pos := _, after := #[{ on := 7, ground := Ground.data }], guard := none }) (v := ?vr1_8) rfl (by kernel_rfl) (by kernel_rfl) (by kernel_rfl) (fun _ _ _ h => h) (Or.inl ⟨by rfl, ?yr1_8⟩) hH0 ?rr1_8
  case yr1_8 => (intro w hSw; (try dsimp only at hSw); go_simp; try (with_reducible rfl))
  try simp only [Act.put, List.setIfInBounds_toArray, List.set_cons_zero, List.set_cons_succ]
  refine wpAnyH_take (i := 9) (oi := { dst := some 55, op := Op.move (Operand.tmp 1), type := 3, pos := _, after := #[], guard := none }) (v := ?vr1_9) rfl (by kernel_rfl) (by kernel_rfl) (by kernel_rfl) (fun _ _ _ h => h) (Or.inl ⟨by rfl, ?yr1_9⟩) hH0 ?rr1_9
  case yr1_9 => (intro w hSw; (try dsimp only at hSw); go_simp; try (with_reducible rfl))
  try simp only [Act.put, List.setIfInBounds_toArray, List.set_cons_zero, List.set_cons_succ]
  refine wpAnyH_take (i := 10) (oi := { dst := some 56, op := Op.slice 62 (Operand.tmp 54) (some (Operand.tmp 55)) none none, type := 62, pos := _, after := #[{ on := 8, ground := Ground.data }, { on := 9, ground := Ground.data }], guard := none }) (v := ?vr1_10) rfl (by kernel_rfl) (by kernel_rfl) (by kernel_rfl) (fun _ _ _ h => h) (Or.inl ⟨by rfl, ?yr1_10⟩) hH0 ?rr1_10
  case yr1_10 => (intro w hSw; (try dsimp only at hSw); go_simp; try (with_reducible rfl))
  try simp only [Act.put, List.setIfInBounds_toArray, List.set_cons_zero, List.set_cons_succ]
  refine wpAnyH_ready (rs := [5]) (by kernel_rfl) (by simp) ?_
  refine (AllReadyH.cons (o := { dst := some 51, op := Op.call { callee := Callee.builtin Builtin.append, args := #[Operand.tmp 46, Operand.tmp 50], argTypes := #[62, 62] }, type := 62, pos := _, after := #[{ on := 0, ground := Ground.data }, { on := 4, ground := Ground.data }], guard := none }) rfl (fun K hK => ?_) AllReadyH.nil)
  have og2 := Td.out.ok
  refine step_append_rd rfl (.tmp 46) (.tmp 50) 62 rfl i0 (.slice none 0 0) 24 Try.underlying62 hi0 hz0 hz1 hz2 rfl (by simp [Act.eval, Act.put]) og2 (cutA AK cK i) (nK - i) (cK - i) (us.drop i) (by simp [Act.eval, Act.put]) (((HUR.out.cut (by omega) (by omega)).keep Td.out.hb)) (fun u hu => HU1.out u (List.mem_of_mem_drop hu)) (by unfold maxLen; omega) (by omega) Td.out.sz ?_
  intro Qk kk x2 oE gE
  rw [show (i + 1 + (nK - i)) = (nK + 1) by omega] at oE ⊢
  have T2 := Lib.hid (Td.out.k gE oE)
  clear oE gE og2
  refine hK.out _ _ ⟨rc_cell 1 _ T2.out.nd rfl, rc_cell 2 _ T2.out.nd rfl, trivial⟩ (fun hH2 => ?_)
  clear hK K
  try simp only [Act.put, List.setIfInBounds_toArray, List.set_cons_zero, List.set_cons_succ]
  refine wpAnyH_ready (rs := [11]) (by kernel_rfl) (by simp) ?_
  refine (AllReadyH.cons (o := { dst := some 57, op := Op.call { callee := Callee.builtin Builtin.append, args := #[Operand.tmp 52, Operand.tmp 56], argTypes := #[62, 62] }, type := 62, pos := _, after := #[{ on := 6, ground := Ground.data }, { on := 10, ground := Ground.data }, { on := 5, ground := Ground.chain }], guard := none }) rfl (fun K hK => ?_) AllReadyH.nil)
  have og4 := T2.out.ov
  refine step_append_rd rfl (.tmp 52) (.tmp 56) 62 rfl i0 (.slice none 0 0) 24 Try.underlying62 hi0 hz0 hz1 hz2 rfl (by simp [Act.eval, Act.put]) og4 (cutA AV cV i) (nV - i) (cV - i) (ts.drop i) (by simp [Act.eval, Act.put]) (((HTR.out.cut (by omega) (by omega)).keep T2.out.hb)) (fun u hu => HT1.out u (List.mem_of_mem_drop hu)) (by unfold maxLen; omega) (by omega) T2.out.sz ?_
  intro Qv kv x4 oE gE
  rw [show (i + 1 + (nV - i)) = (nV + 1) by omega] at oE ⊢
  have T4 := Lib.hid (T2.out.v gE oE)
  clear oE gE og4
  refine hK.out _ _ ⟨rc_cell 1 _ T4.out.nd rfl, rc_cell 2 _ T4.out.nd rfl, trivial⟩ (fun hH4 => ?_)
  clear hK K
  try simp only [Act.put, List.setIfInBounds_toArray, List.set_cons_zero, List.set_cons_succ]
  refine wpAnyH_take (i := 12) (oi := { dst := some 58, op := Op.build 66 #[(0, Operand.const (Value.bool true)), (1, Operand.tmp 51), (2, Operand.tmp 57)], type := 66, pos := _, after := #[{ on := 5, ground := Ground.data }, { on := 11, ground := Ground.data }], guard := none }) (v := ?vr5_12) rfl (by kernel_rfl) (by kernel_rfl) (by kernel_rfl) (fun _ _ _ h => h) (Or.inl ⟨by rfl, ?yr5_12⟩) hH4 ?rr5_12
  case yr5_12 => (intro w hSw; (try dsimp only at hSw); go_simp; try (with_reducible rfl))
  try simp only [Act.put, List.setIfInBounds_toArray, List.set_cons_zero, List.set_cons_succ]
  refine wpAnyH_ready (rs := [13]) (by kernel_rfl) (by simp) ?_
  refine (AllReadyH.cons (o := { dst := none, op := Op.store 66 (Operand.tmp 8) (Operand.tmp 58), type := 0, pos := _, after := #[{ on := 12, ground := Ground.data }, { on := 11, ground := Ground.chain }, { on := 0, ground := Ground.phase }, { on := 1, ground := Ground.phase }, { on := 2, ground := Ground.phase }, { on := 3, ground := Ground.phase }, { on := 4, ground := Ground.phase }, { on := 5, ground := Ground.phase }, { on := 6, ground := Ground.phase }, { on := 7, ground := Ground.phase }, { on := 8, ground := Ground.phase }, { on := 9, ground := Ground.phase }, { on := 10, ground := Ground.phase }, { on := 11, ground := Ground.phase }, { on := 12, ground := Ground.phase }], guard := none }) rfl (fun K hK => ?_) AllReadyH.nil)
  have z0 := rc_cell 0 (.bool false) T4.out.rs rfl; have fz0 := two_frozen (i := 0) T4.out.rs
  have z1 := rc_cell 1 (.slice none 0 0) T4.out.rs rfl; have fz1 := two_frozen (i := 1) T4.out.rs
  have z2 := rc_cell 2 (.slice none 0 0) T4.out.rs rfl; have fz2 := two_frozen (i := 2) T4.out.rs
  have z3 := rc_cell 3 (.slice none 0 0) T4.out.rs rfl; have fz3 := two_frozen (i := 3) T4.out.rs
  have HZ2 := Lib.hid (set4r x4 (w.heap.size + 1) (.bool true) (.slice Qk (nK + 1) kk) (.slice Qv (nV + 1) kv) (.slice none 0 0) T4.out.rs)
  have NDz := Lib.hid ((HZ2.out.2.block _ (lt_of_heap T4.out.nd) (by intro e; injection e with e; omega)).trans T4.out.nd)
  have ZK := Lib.hid (T4.out.ok.onl HZ2.out.2 (T4.out.ok.ne_blk T4.out.rs (by decide))); have ZV := Lib.hid (T4.out.ov.onl HZ2.out.2 (T4.out.ov.ne_blk T4.out.rs (by decide)))
  have HBE := Lib.hid (T4.out.hb.trans ((HZ2.out.2.below (Nat.le_of_lt (lt_of_heap T4.out.rs))).mono (by omega)))
  go_simp
  refine hK.out _ _ ⟨rc_cell 1 _ NDz.out rfl, rc_cell 2 _ NDz.out rfl, trivial⟩ (fun hH6 => ?_)
  clear hK K
  try simp only [Act.put, List.setIfInBounds_toArray, List.set_cons_zero, List.set_cons_succ]
  clear z0 z1 z2 z3; clear fz0 fz1 fz2 fz3
  generalize ((((x4.setCell ⟨w.heap.size + 1, 0, none⟩ (.bool true)).setCell ⟨w.heap.size + 1, 1, none⟩ (.slice Qk (nK + 1) kk)).setCell ⟨w.heap.size + 1, 2, none⟩ (.slice Qv (nV + 1) kv)).setCell ⟨w.heap.size + 1, 3, none⟩ (.slice none 0 0)) = wz at *
  refine wpAnyH_done (by kernel_rfl) ?_ _
  have ZN := HZ2.out.1
  have e0 := rc_cell 0 (.bool true) ZN rfl; have e1 := rc_cell 1 (.slice Qk (nK + 1) kk) ZN rfl; have e2 := rc_cell 2 (.slice Qv (nV + 1) kv) ZN rfl; have e3 := rc_cell 3 (.slice none 0 0) ZN rfl
  have LK : Hid ((us.take i ++ [Value.slice AQ nq cq]) ++ us.drop i = insL us i (.slice AQ key.length cq)) := Lib.hid (by rw [HNQ.out]; simp [insL]); have LV : Hid ((ts.take i ++ [Value.slice AR nr cr]) ++ ts.drop i = insL ts i (.slice AR val.length cr)) := Lib.hid (by rw [HNR.out]; simp [insL])
  rw [LK.out] at ZK; rw [LV.out] at ZV
  have FK := Lib.hid (bss_ins (m := 0) HLK.out HUL.out hi HUE.out HBE.out HQ.out hqc' ZK.out.rd); have FV := Lib.hid (bss_ins (m := 0) HLV.out HTL.out hiV HTE.out HBE.out HR.out hrc' ZV.out.rd)
  go_wp2
  refine bodyPost_ret (v := .agg #[.bool true, .slice Qk (nK + 1) kk, .slice Qv (nV + 1) kv, .slice none 0 0]) (by simp [results, Try.f45, go_sem, Try.isAgg66, Try.sizeOf66, e0, e1, e2, e3]) rfl ⟨Qk, kk, Qv, kv, rfl, FK.out, FV.out, HBE.out⟩
set_option maxRecDepth 100000 in
set_option maxHeartbeats 16000000 in
theorem rwithoutOk_any (AK : Option Addr) (nK cK : Nat) (AV : Option Addr) (nV cV : Nat) (AD : Option Addr) (nD cD : Nat) (ks vs : List (List Int)) (i : Nat) (z : Int) (hzi : z = (i : Int)) (w : World) (hx : Bss w AK nK ks) (hy : Bss w AV nV vs) (hi : i < nK) (hV : nV = nK) (hKc : nK ≤ cK) (hVc : nV ≤ cV) (bK : nK ≤ 99999) :
    Calls Try.prog 47 #[.agg (ndV true AK nK cK AV nV cV AD nD cD), .int .i64 z] w fun e w' => ∃ A1 c1 A2 c2, e = .returned (.agg (ndV true A1 (nK - 1) c1 A2 (nV - 1) c2 none 0 0)) ∧ Bss w' A1 (nK - 1) (delL ks i) ∧ Bss w' A2 (nV - 1) (delL vs i) ∧ Below w.heap.size w w' := by
  obtain ⟨i0, hi0, hz0, hz1, hz2⟩ := info_parts info23
  subst hzi
  have hiV : i < nV := by omega
  have bV : nV ≤ 99999 := by omega
  clear hV
  obtain ⟨us, hul, hur, hu1, HUE⟩ := hx.vals
  obtain ⟨ts, htl, htr, ht1, HTE⟩ := hy.vals
  have HLK := Lib.hid hx.len; have HLV := Lib.hid hy.len
  have HUL := Lib.hid hul; have HUR := Lib.hid hur; have HU1 := Lib.hid hu1; have HTL := Lib.hid htl; have HTR := Lib.hid htr; have HT1 := Lib.hid ht1
  clear hx hy hul hur hu1 htl htr ht1
  have hb1 := below_alloc w (.cells (ndV true AK nK cK AV nV cV AD nD cD) 66)
  have hb2 := below_alloc (w.alloc (.cells (ndV true AK nK cK AV nV cV AD nD cD) 66)) (.cells ndZ 66)
  have hsz : (w.alloc (.cells (ndV true AK nK cK AV nV cV AD nD cD) 66)).heap.size = w.heap.size + 1 := by simp
  have n2 := heap_alloc_new (w.alloc (.cells (ndV true AK nK cK AV nV cV AD nD cD) 66)) (.cells ndZ 66)
  rw [hsz] at n2
  have BX := Lib.hid ((hb2.block w.heap.size (by omega)).trans (heap_alloc_new w (.cells (ndV true AK nK cK AV nV cV AD nD cD) 66)))
  have RS := Lib.hid n2; have HB := Lib.hid (hb1.trans (hb2.mono (by omega)))
  clear hb1 hb2 n2 hsz
  go_enter Try.func47, Try.ntmps47
  go_upto_region 1 with fail
  generalize (w.alloc (.cells (ndV true AK nK cK AV nV cV AD nD cD) 66)).alloc (.cells ndZ 66) = y at *
  have d0 : decide ((i : Int) < 0) = false := by simp
  have d1 : decide ((nK : Int) ≤ (i : Int)) = false := by simp; omega
  have d1n : decide (nK ≤ i) = false := by simp; omega
  have hw : IntKind.i64.wrap ((i : Int) + 1) = (i : Int) + 1 := IntWalk.i64_in _ (by omega)
  have sk1 := slice62_h AK nK cK i (by omega); have sv1 := slice62_h AV nV cV i (by omega)
  have sk2 : ∀ W, (Instr.slice 62 (.slice AK nK cK) (some (.int .i64 ((i : Int) + 1))) none none).run Try.prog W = .ok (.slice (cutA AK cK (i + 1)) (nK - (i + 1)) (cK - (i + 1))) W := fun W => by have := slice62_lo AK nK cK (i + 1) (by omega) W; rwa [show (((i + 1 : Nat)) : Int) = (i : Int) + 1 by omega] at this
  have sv2 : ∀ W, (Instr.slice 62 (.slice AV nV cV) (some (.int .i64 ((i : Int) + 1))) none none).run Try.prog W = .ok (.slice (cutA AV cV (i + 1)) (nV - (i + 1)) (cV - (i + 1))) W := fun W => by have := slice62_lo AV nV cV (i + 1) (by omega) W; rwa [show (((i + 1 : Nat)) : Int) = (i : Int) + 1 by omega] at this
  have q0 := rc_cell 0 (.bool true) BX.out rfl; have q1 := rc_cell 1 (.slice AK nK cK) BX.out rfl; have q2 := rc_cell 2 (.slice AV nV cV) BX.out rfl; have q3 := rc_cell 3 (.slice AD nD cD) BX.out rfl
  go_upto_region 3 with fail
  clear q0 q1 q2 q3
  have q0 := rc_cell 0 (.bool true) BX.out rfl; have q1 := rc_cell 1 (.slice AK nK cK) BX.out rfl; have q2 := rc_cell 2 (.slice AV nV cV) BX.out rfl; have q3 := rc_cell 3 (.slice AD nD cD) BX.out rfl
  have E1 : Hid (RN w #[.bool true, .slice AK nK cK, .slice AV nV cV, .slice AD nD cD] (some ⟨y.heap.size, 0, none⟩) 0 0 [] none 0 0 [] (y.alloc (.cells #[] 28))) := Lib.hid (by
    have hba := below_alloc y (.cells #[] 28)
    exact ⟨(hba.block _ (lt_of_heap BX.out)).trans BX.out, (hba.block _ (lt_of_heap RS.out)).trans RS.out, own_empty y _ (by have := lt_of_heap RS.out; omega), Own.nil_, dist_symm (.inl rfl), HB.out.trans (hba.mono HB.out.size)⟩)
  have r1 := rc_cell 1 (.slice AK nK cK) E1.out.nd rfl
  go_wp2_with (at_builtin; refine wpList_append_rd rfl _ _ 62 rfl i0 (.slice none 0 0) 24 Try.underlying62 hi0 hz0 hz1 hz2 rfl rfl E1.out.ok AK i cK (us.take i) rfl ((HUR.out.short (by omega)).keep E1.out.hb) (fun u hu => HU1.out u (List.mem_of_mem_take hu)) ?a1 ?a2 ?a3 ?_)
  case a1 => unfold maxLen; omega
  case a2 => omega
  case a3 => exact E1.out.sz
  intro P2 c2 w2 oE gE
  have T2 := Lib.hid (E1.out.k gE oE)
  clear oE gE
  clear r1 q0 q1 q2 q3 BX RS HB
  have E3 := Lib.hid (show RN w #[.bool true, .slice AK nK cK, .slice AV nV cV, .slice AD nD cD] _ _ _ _ (some ⟨w2.heap.size, 0, none⟩) 0 0 [] (w2.alloc (.cells #[] 28)) from by
    have h := T2.out.keep (below_alloc w2 (.cells #[] 28))
    exact ⟨h.nd, h.rs, h.ok, own_empty w2 _ T2.out.sz, dist_newN (fun k hk => (T2.out.ok.lies k hk).2) (fun k hk => (show w2.heap.size ≤ k from Nat.le_of_eq (by simpa [blk] using hk))), h.hb⟩)
  have r2 := rc_cell 2 (.slice AV nV cV) E3.out.nd rfl
  have r2' := rc_cell 2 (.slice AV nV cV) T2.out.nd rfl
  go_wp2_with (at_builtin; refine wpList_append_rd rfl _ _ 62 rfl i0 (.slice none 0 0) 24 Try.underlying62 hi0 hz0 hz1 hz2 rfl rfl E3.out.ov AV i cV (ts.take i) rfl ((HTR.out.short (by omega)).keep E3.out.hb) (fun u hu => HT1.out u (List.mem_of_mem_take hu)) ?a1 ?a2 ?a3 ?_)
  case a1 => unfold maxLen; omega
  case a2 => omega
  case a3 => exact E3.out.sz
  intro P4 c4 w4 oE gE
  have T4 := Lib.hid (E3.out.v gE oE)
  clear oE gE
  clear r2 r2'
  go_upto_region 5 with fail
  have Td := Lib.hid (T4.out.keep ((Dr.refl w4).one.below _))
  refine wp_region_held_drew (S := fun w' => w'.cell? ⟨w.heap.size, 1, none⟩ = some (.slice AK nK cK) ∧ w'.cell? ⟨w.heap.size, 2, none⟩ = some (.slice AV nV cV) ∧ True) (by kernel_rfl) ⟨rc_cell 1 _ Td.out.nd rfl, rc_cell 2 _ Td.out.nd rfl, trivial⟩ (fun hH0 => ?_)
  generalize w4.drew = yd at *
  refine wpAnyH_take (i := 0) (oi := { dst := some 34, op := Op.move (Operand.tmp 5), type := 62, pos := _, after := #[], guard := none }) (v := ?vr1_0) rfl (by kernel_rfl) (by kernel_rfl) (by kernel_rfl) (fun _ _ _ h => h) (Or.inl ⟨by rfl, ?yr1_0⟩) hH0 ?rr1_0
  case yr1_0 => (intro w hSw; (try dsimp only at hSw); go_simp; try (with_reducible rfl))
  try simp only [Act.put, List.setIfInBounds_toArray, List.set_cons_zero, List.set_cons_succ]
  refine wpAnyH_take (i := 1) (oi := { dst := some 35, op := Op.fieldAddr 66 (Operand.tmp 2) 1, type := 0, pos := _, after := #[], guard := none }) (v := ?vr1_1) rfl (by kernel_rfl) (by kernel_rfl) (by kernel_rfl) (fun _ _ _ h => h) (Or.inl ⟨by rfl, ?yr1_1⟩) hH0 ?rr1_1
  case yr1_1 => (intro w hSw; (try dsimp only at hSw); go_simp; try (with_reducible rfl))
  try simp only [Act.put, List.setIfInBounds_toArray, List.set_cons_zero, List.set_cons_succ]
  refine wpAnyH_take (i := 2) (oi := { dst := some 36, op := Op.load 62 (Operand.tmp 35), type := 62, pos := _, after := #[{ on := 1, ground := Ground.data }], guard := none }) (v := ?vr1_2) rfl (by kernel_rfl) (by kernel_rfl) (by kernel_rfl) (fun _ _ _ h => h) (Or.inl ⟨by rfl, ?yr1_2⟩) hH0 ?rr1_2
  case yr1_2 => (intro w hSw; (try dsimp only at hSw); go_simp; try (with_reducible rfl))
  try simp only [Act.put, List.setIfInBounds_toArray, List.set_cons_zero, List.set_cons_succ]
  refine wpAnyH_take (i := 3) (oi := { dst := some 37, op := Op.move (Operand.tmp 1), type := 3, pos := _, after := #[], guard := none }) (v := ?vr1_3) rfl (by kernel_rfl) (by kernel_rfl) (by kernel_rfl) (fun _ _ _ h => h) (Or.inl ⟨by rfl, ?yr1_3⟩) hH0 ?rr1_3
  case yr1_3 => (intro w hSw; (try dsimp only at hSw); go_simp; try (with_reducible rfl))
  try simp only [Act.put, List.setIfInBounds_toArray, List.set_cons_zero, List.set_cons_succ]
  refine wpAnyH_take (i := 4) (oi := { dst := some 38, op := Op.binOp BinOp.add 3 (Operand.tmp 37) (Operand.const (Value.int IntKind.i64 1)) 3, type := 3, pos := _, after := #[{ on := 3, ground := Ground.data }], guard := none }) (v := ?vr1_4) rfl (by kernel_rfl) (by kernel_rfl) (by kernel_rfl) (fun _ _ _ h => h) (Or.inl ⟨by rfl, ?yr1_4⟩) hH0 ?rr1_4
  case yr1_4 => (intro w hSw; (try dsimp only at hSw); go_simp; try (with_reducible rfl))
  try simp only [Act.put, List.setIfInBounds_toArray, List.set_cons_zero, List.set_cons_succ]
  refine wpAnyH_take (i := 5) (oi := { dst := some 39, op := Op.slice 62 (Operand.tmp 36) (some (Operand.tmp 38)) none none, type := 62, pos := _, after := #[{ on := 2, ground := Ground.data }, { on := 4, ground := Ground.data }], guard := none }) (v := ?vr1_5) rfl (by kernel_rfl) (by kernel_rfl) (by kernel_rfl) (fun _ _ _ h => h) (Or.inl ⟨by rfl, ?yr1_5⟩) hH0 ?rr1_5
  case yr1_5 => (intro w hSw; (try dsimp only at hSw); go_simp; try (with_reducible rfl))
  try simp only [Act.put, List.setIfInBounds_toArray, List.set_cons_zero, List.set_cons_succ]
  refine wpAnyH_take (i := 7) (oi := { dst := some 41, op := Op.move (Operand.tmp 6), type := 62, pos := _, after := #[], guard := none }) (v := ?vr1_7) rfl (by kernel_rfl) (by kernel_rfl) (by kernel_rfl) (fun _ _ _ h => h) (Or.inl ⟨by rfl, ?yr1_7⟩) hH0 ?rr1_7
  case yr1_7 => (intro w hSw; (try dsimp only at hSw); go_simp; try (with_reducible rfl))
  try simp only [Act.put, List.setIfInBounds_toArray, List.set_cons_zero, List.set_cons_succ]
  refine wpAnyH_take (i := 8) (oi := { dst := some 42, op := Op.fieldAddr 66 (Operand.tmp 2) 2, type := 0, pos := _, after := #[], guard := none }) (v := ?vr1_8) rfl (by kernel_rfl) (by kernel_rfl) (by kernel_rfl) (fun _ _ _ h => h) (Or.inl ⟨by rfl, ?yr1_8⟩) hH0 ?rr1_8
  case yr1_8 => (intro w hSw; (try dsimp only at hSw); go_simp; try (with_reducible rfl))
  try simp only [Act.put, List.setIfInBounds_toArray, List.set_cons_zero, List.set_cons_succ]
  refine wpAnyH_take (i := 9) (oi := { dst := some 43, op := Op.load 62 (Operand.tmp 42), type := 62, pos := _, after := #[{ on := 8, ground := Ground.data }], guard := none }) (v := ?vr1_9) rfl (by kernel_rfl) (by kernel_rfl) (by kernel_rfl) (fun _ _ _ h => h) (Or.inl ⟨by rfl, ?yr1_9⟩) hH0 ?rr1_9
  case yr1_9 => (intro w hSw; (try dsimp only at hSw); go_simp; try (with_reducible rfl))
  try simp only [Act.put, List.setIfInBounds_toArray, List.set_cons_zero, List.set_cons_succ]
  refine wpAnyH_take (i := 10) (oi := { dst := some 44, op := Op.move (Operand.tmp 1), type := 3, pos := _, after := #[], guard := none }) (v := ?vr1_10) rfl (by kernel_rfl) (by kernel_rfl) (by kernel_rfl) (fun _ _ _ h => h) (Or.inl ⟨by rfl, ?yr1_10⟩) hH0 ?rr1_10
  case yr1_10 => (intro w hSw; (try dsimp only at hSw); go_simp; try (with_reducible rfl))
  try simp only [Act.put, List.setIfInBounds_toArray, List.set_cons_zero, List.set_cons_succ]
  refine wpAnyH_take (i := 11) (oi := { dst := some 45, op := Op.binOp BinOp.add 3 (Operand.tmp 44) (Operand.const (Value.int IntKind.i64 1)) 3, type := 3, pos := _, after := #[{ on := 10, ground := Ground.data }], guard := none }) (v := ?vr1_11) rfl (by kernel_rfl) (by kernel_rfl) (by kernel_rfl) (fun _ _ _ h => h) (Or.inl ⟨by rfl, ?yr1_11⟩) hH0 ?rr1_11
  case yr1_11 => (intro w hSw; (try dsimp only at hSw); go_simp; try (with_reducible rfl))
  try simp only [Act.put, List.setIfInBounds_toArray, List.set_cons_zero, List.set_cons_succ]
  refine wpAnyH_take (i := 12) (oi := { dst := some 46, op := Op.slice 62 (Operand.tmp 43) (some (Operand.tmp 45)) none none, type := 62, pos := _, after := #[{ on := 9, ground := Ground.data }, { on := 11, ground := Ground.data }], guard := none }) (v := ?vr1_12) rfl (by kernel_rfl) (by kernel_rfl) (by kernel_rfl) (fun _ _ _ h => h) (Or.inl ⟨by rfl, ?yr1_12⟩) hH0 ?rr1_12
  case yr1_12 => (intro w hSw; (try dsimp only at hSw); go_simp; try (with_reducible rfl))
  try simp only [Act.put, List.setIfInBounds_toArray, List.set_cons_zero, List.set_cons_succ]
  refine wpAnyH_ready (rs := [6]) (by kernel_rfl) (by simp) ?_
  refine (AllReadyH.cons (o := { dst := some 40, op := Op.call { callee := Callee.builtin Builtin.append, args := #[Operand.tmp 34, Operand.tmp 39], argTypes := #[62, 62] }, type := 62, pos := _, after := #[{ on := 0, ground := Ground.data }, { on := 5, ground := Ground.data }], guard := none }) rfl (fun K hK => ?_) AllReadyH.nil)
  have og2 := Td.out.ok
  refine step_append_rd rfl (.tmp 34) (.tmp 39) 62 rfl i0 (.slice none 0 0) 24 Try.underlying62 hi0 hz0 hz1 hz2 rfl (by simp [Act.eval, Act.put]) og2 (cutA AK cK (i + 1)) (nK - (i + 1)) (cK - (i + 1)) (us.drop (i + 1)) (by simp [Act.eval, Act.put]) (((HUR.out.cut (by omega) (by omega)).keep Td.out.hb)) (fun u hu => HU1.out u (List.mem_of_mem_drop hu)) (by unfold maxLen; omega) (by omega) Td.out.sz ?_
  intro Qk kk x2 oE gE
  rw [show (i + (nK - (i + 1))) = (nK - 1) by omega] at oE ⊢
  have T2 := Lib.hid (Td.out.k gE oE)
  clear oE gE og2
  refine hK.out _ _ ⟨rc_cell 1 _ T2.out.nd rfl, rc_cell 2 _ T2.out.nd rfl, trivial⟩ (fun hH2 => ?_)
  clear hK K
  try simp only [Act.put, List.setIfInBounds_toArray, List.set_cons_zero, List.set_cons_succ]
  refine wpAnyH_ready (rs := [13]) (by kernel_rfl) (by simp) ?_
  refine (AllReadyH.cons (o := { dst := some 47, op := Op.call { callee := Callee.builtin Builtin.append, args := #[Operand.tmp 41, Operand.tmp 46], argTypes := #[62, 62] }, type := 62, pos := _, after := #[{ on := 7, ground := Ground.data }, { on := 12, ground := Ground.data }, { on := 6, ground := Ground.chain }], guard := none }) rfl (fun K hK => ?_) AllReadyH.nil)
  have og4 := T2.out.ov
  refine step_append_rd rfl (.tmp 41) (.tmp 46) 62 rfl i0 (.slice none 0 0) 24 Try.underlying62 hi0 hz0 hz1 hz2 rfl (by simp [Act.eval, Act.put]) og4 (cutA AV cV (i + 1)) (nV - (i + 1)) (cV - (i + 1)) (ts.drop (i + 1)) (by simp [Act.eval, Act.put]) (((HTR.out.cut (by omega) (by omega)).keep T2.out.hb)) (fun u hu => HT1.out u (List.mem_of_mem_drop hu)) (by unfold maxLen; omega) (by omega) T2.out.sz ?_
  intro Qv kv x4 oE gE
  rw [show (i + (nV - (i + 1))) = (nV - 1) by omega] at oE ⊢
  have T4 := Lib.hid (T2.out.v gE oE)
  clear oE gE og4
  refine hK.out _ _ ⟨rc_cell 1 _ T4.out.nd rfl, rc_cell 2 _ T4.out.nd rfl, trivial⟩ (fun hH4 => ?_)
  clear hK K
  try simp only [Act.put, List.setIfInBounds_toArray, List.set_cons_zero, List.set_cons_succ]
  refine wpAnyH_take (i := 14) (oi := { dst := some 48, op := Op.build 66 #[(0, Operand.const (Value.bool true)), (1, Operand.tmp 40), (2, Operand.tmp 47)], type := 66, pos := _, after := #[{ on := 6, ground := Ground.data }, { on := 13, ground := Ground.data }], guard := none }) (v := ?vr5_14) rfl (by kernel_rfl) (by kernel_rfl) (by kernel_rfl) (fun _ _ _ h => h) (Or.inl ⟨by rfl, ?yr5_14⟩) hH4 ?rr5_14
  case yr5_14 => (intro w hSw; (try dsimp only at hSw); go_simp; try (with_reducible rfl))
  try simp only [Act.put, List.setIfInBounds_toArray, List.set_cons_zero, List.set_cons_succ]
  refine wpAnyH_ready (rs := [15]) (by kernel_rfl) (by simp) ?_
  refine (AllReadyH.cons (o := { dst := none, op := Op.store 66 (Operand.tmp 4) (Operand.tmp 48), type := 0, pos := _, after := #[{ on := 14, ground := Ground.data }, { on := 13, ground := Ground.chain }, { on := 0, ground := Ground.phase }, { on := 1, ground := Ground.phase }, { on := 2, ground := Ground.phase }, { on := 3, ground := Ground.phase }, { on := 4, ground := Ground.phase }, { on := 5, ground := Ground.phase }, { on := 6, ground := Ground.phase }, { on := 7, ground := Ground.phase }, { on := 8, ground := Ground.phase }, { on := 9, ground := Ground.phase }, { on := 10, ground := Ground.phase }, { on := 11, ground := Ground.phase }, { on := 12, ground := Ground.phase }, { on := 13, ground := Ground.phase }, { on := 14, ground := Ground.phase }], guard := none }) rfl (fun K hK => ?_) AllReadyH.nil)
  have z0 := rc_cell 0 (.bool false) T4.out.rs rfl; have fz0 := two_frozen (i := 0) T4.out.rs
  have z1 := rc_cell 1 (.slice none 0 0) T4.out.rs rfl; have fz1 := two_frozen (i := 1) T4.out.rs
  have z2 := rc_cell 2 (.slice none 0 0) T4.out.rs rfl; have fz2 := two_frozen (i := 2) T4.out.rs
  have z3 := rc_cell 3 (.slice none 0 0) T4.out.rs rfl; have fz3 := two_frozen (i := 3) T4.out.rs
  have HZ2 := Lib.hid (set4r x4 (w.heap.size + 1) (.bool true) (.slice Qk (nK - 1) kk) (.slice Qv (nV - 1) kv) (.slice none 0 0) T4.out.rs)
  have NDz := Lib.hid ((HZ2.out.2.block _ (lt_of_heap T4.out.nd) (by intro e; injection e with e; omega)).trans T4.out.nd)
  have ZK := Lib.hid (T4.out.ok.onl HZ2.out.2 (T4.out.ok.ne_blk T4.out.rs (by decide))); have ZV := Lib.hid (T4.out.ov.onl HZ2.out.2 (T4.out.ov.ne_blk T4.out.rs (by decide)))
  have HBE := Lib.hid (T4.out.hb.trans ((HZ2.out.2.below (Nat.le_of_lt (lt_of_heap T4.out.rs))).mono (by omega)))
  go_simp
  refine hK.out _ _ ⟨rc_cell 1 _ NDz.out rfl, rc_cell 2 _ NDz.out rfl, trivial⟩ (fun hH6 => ?_)
  clear hK K
  try simp only [Act.put, List.setIfInBounds_toArray, List.set_cons_zero, List.set_cons_succ]
  clear z0 z1 z2 z3; clear fz0 fz1 fz2 fz3
  generalize ((((x4.setCell ⟨w.heap.size + 1, 0, none⟩ (.bool true)).setCell ⟨w.heap.size + 1, 1, none⟩ (.slice Qk (nK - 1) kk)).setCell ⟨w.heap.size + 1, 2, none⟩ (.slice Qv (nV - 1) kv)).setCell ⟨w.heap.size + 1, 3, none⟩ (.slice none 0 0)) = wz at *
  refine wpAnyH_done (by kernel_rfl) ?_ _
  have ZN := HZ2.out.1
  have e0 := rc_cell 0 (.bool true) ZN rfl; have e1 := rc_cell 1 (.slice Qk (nK - 1) kk) ZN rfl; have e2 := rc_cell 2 (.slice Qv (nV - 1) kv) ZN rfl; have e3 := rc_cell 3 (.slice none 0 0) ZN rfl
  have LK : Hid (us.take i ++ us.drop (i + 1) = delL us i) := Lib.hid (by simp [delL]); have LV : Hid (ts.take i ++ ts.drop (i + 1) = delL ts i) := Lib.hid (by simp [delL])
  rw [LK.out] at ZK; rw [LV.out] at ZV
  have FK := Lib.hid (bss_del HLK.out HUL.out hi HUE.out HBE.out ZK.out.rd); have FV := Lib.hid (bss_del HLV.out HTL.out hiV HTE.out HBE.out ZV.out.rd)
  go_wp2
  refine bodyPost_ret (v := .agg #[.bool true, .slice Qk (nK - 1) kk, .slice Qv (nV - 1) kv, .slice none 0 0]) (by simp [results, Try.f47, go_sem, Try.isAgg66, Try.sizeOf66, e0, e1, e2, e3]) rfl ⟨Qk, kk, Qv, kv, rfl, FK.out, FV.out, HBE.out⟩
end Go.Proofs.Ytmjjbfcblmmipaa
