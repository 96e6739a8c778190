/- The reference's Trim, kind by kind. -/
import Derived.Test.YtmjjbfcblmmipaaSameA
namespace Go.Proofs.Ytmjjbfcblmmipaa
set_option linter.unusedVariables false
set_option linter.unusedSimpArgs false
open Go.RowKit

theorem three_allocs (w : World) (o1 o2 o3 : Obj) : (((w.alloc o1).alloc o2).alloc o3).heap[w.heap.size + 1]? = some o2 ∧ Below w.heap.size w (((w.alloc o1).alloc o2).alloc o3) := by
  have h1 : (w.alloc o1).heap.size = w.heap.size + 1 := by simp
  have h2 := heap_alloc_new (w.alloc o1) o2
  rw [h1] at h2
  have b1 := below_alloc w o1
  have b2 := below_alloc (w.alloc o1) o2
  have b3 := below_alloc ((w.alloc o1).alloc o2) o3
  have h3 : ((w.alloc o1).alloc o2).heap.size = w.heap.size + 1 + 1 := by simp
  exact ⟨(b3.block _ (by omega)).trans h2, (b1.trans (b2.mono (by omega))).trans (b3.mono (by omega))⟩
set_option maxRecDepth 100000 in
set_option maxHeartbeats 4000000 in
theorem trim_1 (b s q : Int) (AW : Option Addr) (nW cW : Nat) (AR : Option Addr) (nR cR : Nat) (f : Bool) (AS : Option Addr) (nS cS : Nat) (AP : Option Addr) (nP cP : Nat) (i : Int) (S : ByteArray) (w : World) :
    Calls Try.prog 21 #[.agg (rcV 1 b s q AW nW cW AR nR cR f AS nS cS AP nP cP i S)] w fun e w' => e = .returned (.agg (rcV 1 b s q AW nW cW AR nR cR false none 0 0 none 0 0 0 ⟨#[]⟩)) ∧ Below w.heap.size w w' := by
  have HT := Lib.hid (show hasT 1 = true by decide)
  have HX := Lib.hid (three_allocs w (.cells (rcV 1 b s q AW nW cW AR nR cR f AS nS cS AP nP cP i S) 30) (.cells (rcV 1 b s q AW nW cW AR nR cR false none 0 0 none 0 0 0 ⟨#[]⟩) 30) (.cells (rcV 1 b s q AW nW cW AR nR cR false none 0 0 none 0 0 0 ⟨#[]⟩) 30))
  go_enter Try.func21, Try.ntmps21
  go_wp2_with fail
  refine (hasTxn_any _ _).mono ?_
  rintro e wz ⟨rfl, rfl⟩
  rw [HT.out]
  go_wp2
  generalize ((w.alloc (.cells (rcV 1 b s q AW nW cW AR nR cR f AS nS cS AP nP cP i S) 30)).alloc (.cells (rcV 1 b s q AW nW cW AR nR cR false none 0 0 none 0 0 0 ⟨#[]⟩) 30)).alloc (.cells (rcV 1 b s q AW nW cW AR nR cR false none 0 0 none 0 0 0 ⟨#[]⟩) 30) = W at *
  have r0 := rc_cell (w := W) 0 (.int .i64 1) HX.out.1 rfl
  have r1 := rc_cell (w := W) 1 (.int .u64 b) HX.out.1 rfl
  have r2 := rc_cell (w := W) 2 (.int .u64 s) HX.out.1 rfl
  have r3 := rc_cell (w := W) 3 (.int .u64 q) HX.out.1 rfl
  have r4 := rc_cell (w := W) 4 (.slice AW nW cW) HX.out.1 rfl
  have r5 := rc_cell (w := W) 5 (.slice AR nR cR) HX.out.1 rfl
  have r6 := rc_cell (w := W) 6 (.bool false) HX.out.1 rfl
  have r7 := rc_cell (w := W) 7 (.slice none 0 0) HX.out.1 rfl
  have r8 := rc_cell (w := W) 8 (.slice none 0 0) HX.out.1 rfl
  have r9 := rc_cell (w := W) 9 (.int .u64 0) HX.out.1 rfl
  have r10 := rc_cell (w := W) 10 (.string ⟨#[]⟩) HX.out.1 rfl
  refine bodyPost_ret (v := .agg (rcV 1 b s q AW nW cW AR nR cR false none 0 0 none 0 0 0 ⟨#[]⟩)) (by simp [results, Try.f21, go_sem, Try.isAgg30, Try.sizeOf30, r0, r1, r2, r3, r4, r5, r6, r7, r8, r9, r10]) rfl ⟨rfl, HX.out.2⟩
set_option maxRecDepth 100000 in
set_option maxHeartbeats 4000000 in
theorem trim_2 (b s q : Int) (AW : Option Addr) (nW cW : Nat) (AR : Option Addr) (nR cR : Nat) (f : Bool) (AS : Option Addr) (nS cS : Nat) (AP : Option Addr) (nP cP : Nat) (i : Int) (S : ByteArray) (w : World) :
    Calls Try.prog 21 #[.agg (rcV 2 b s q AW nW cW AR nR cR f AS nS cS AP nP cP i S)] w fun e w' => e = .returned (.agg (rcV 2 b s q none 0 0 none 0 0 false none 0 0 none 0 0 0 ⟨#[]⟩)) ∧ Below w.heap.size w w' := by
  have HT := Lib.hid (show hasT 2 = true by decide)
  have HX := Lib.hid (three_allocs w (.cells (rcV 2 b s q AW nW cW AR nR cR f AS nS cS AP nP cP i S) 30) (.cells (rcV 2 b s q none 0 0 none 0 0 false none 0 0 none 0 0 0 ⟨#[]⟩) 30) (.cells (rcV 2 b s q none 0 0 none 0 0 false none 0 0 none 0 0 0 ⟨#[]⟩) 30))
  go_enter Try.func21, Try.ntmps21
  go_wp2_with fail
  refine (hasTxn_any _ _).mono ?_
  rintro e wz ⟨rfl, rfl⟩
  rw [HT.out]
  go_wp2
  generalize ((w.alloc (.cells (rcV 2 b s q AW nW cW AR nR cR f AS nS cS AP nP cP i S) 30)).alloc (.cells (rcV 2 b s q none 0 0 none 0 0 false none 0 0 none 0 0 0 ⟨#[]⟩) 30)).alloc (.cells (rcV 2 b s q none 0 0 none 0 0 false none 0 0 none 0 0 0 ⟨#[]⟩) 30) = W at *
  have r0 := rc_cell (w := W) 0 (.int .i64 2) HX.out.1 rfl
  have r1 := rc_cell (w := W) 1 (.int .u64 b) HX.out.1 rfl
  have r2 := rc_cell (w := W) 2 (.int .u64 s) HX.out.1 rfl
  have r3 := rc_cell (w := W) 3 (.int .u64 q) HX.out.1 rfl
  have r4 := rc_cell (w := W) 4 (.slice none 0 0) HX.out.1 rfl
  have r5 := rc_cell (w := W) 5 (.slice none 0 0) HX.out.1 rfl
  have r6 := rc_cell (w := W) 6 (.bool false) HX.out.1 rfl
  have r7 := rc_cell (w := W) 7 (.slice none 0 0) HX.out.1 rfl
  have r8 := rc_cell (w := W) 8 (.slice none 0 0) HX.out.1 rfl
  have r9 := rc_cell (w := W) 9 (.int .u64 0) HX.out.1 rfl
  have r10 := rc_cell (w := W) 10 (.string ⟨#[]⟩) HX.out.1 rfl
  refine bodyPost_ret (v := .agg (rcV 2 b s q none 0 0 none 0 0 false none 0 0 none 0 0 0 ⟨#[]⟩)) (by simp [results, Try.f21, go_sem, Try.isAgg30, Try.sizeOf30, r0, r1, r2, r3, r4, r5, r6, r7, r8, r9, r10]) rfl ⟨rfl, HX.out.2⟩
set_option maxRecDepth 100000 in
set_option maxHeartbeats 4000000 in
theorem trim_3 (b s q : Int) (AW : Option Addr) (nW cW : Nat) (AR : Option Addr) (nR cR : Nat) (f : Bool) (AS : Option Addr) (nS cS : Nat) (AP : Option Addr) (nP cP : Nat) (i : Int) (S : ByteArray) (w : World) :
    Calls Try.prog 21 #[.agg (rcV 3 b s q AW nW cW AR nR cR f AS nS cS AP nP cP i S)] w fun e w' => e = .returned (.agg (rcV 3 b s q none 0 0 none 0 0 false none 0 0 none 0 0 0 ⟨#[]⟩)) ∧ Below w.heap.size w w' := by
  have HT := Lib.hid (show hasT 3 = true by decide)
  have HX := Lib.hid (three_allocs w (.cells (rcV 3 b s q AW nW cW AR nR cR f AS nS cS AP nP cP i S) 30) (.cells (rcV 3 b s q none 0 0 none 0 0 false none 0 0 none 0 0 0 ⟨#[]⟩) 30) (.cells (rcV 3 b s q none 0 0 none 0 0 false none 0 0 none 0 0 0 ⟨#[]⟩) 30))
  go_enter Try.func21, Try.ntmps21
  go_wp2_with fail
  refine (hasTxn_any _ _).mono ?_
  rintro e wz ⟨rfl, rfl⟩
  rw [HT.out]
  go_wp2
  generalize ((w.alloc (.cells (rcV 3 b s q AW nW cW AR nR cR f AS nS cS AP nP cP i S) 30)).alloc (.cells (rcV 3 b s q none 0 0 none 0 0 false none 0 0 none 0 0 0 ⟨#[]⟩) 30)).alloc (.cells (rcV 3 b s q none 0 0 none 0 0 false none 0 0 none 0 0 0 ⟨#[]⟩) 30) = W at *
  have r0 := rc_cell (w := W) 0 (.int .i64 3) HX.out.1 rfl
  have r1 := rc_cell (w := W) 1 (.int .u64 b) HX.out.1 rfl
  have r2 := rc_cell (w := W) 2 (.int .u64 s) HX.out.1 rfl
  have r3 := rc_cell (w := W) 3 (.int .u64 q) HX.out.1 rfl
  have r4 := rc_cell (w := W) 4 (.slice none 0 0) HX.out.1 rfl
  have r5 := rc_cell (w := W) 5 (.slice none 0 0) HX.out.1 rfl
  have r6 := rc_cell (w := W) 6 (.bool false) HX.out.1 rfl
  have r7 := rc_cell (w := W) 7 (.slice none 0 0) HX.out.1 rfl
  have r8 := rc_cell (w := W) 8 (.slice none 0 0) HX.out.1 rfl
  have r9 := rc_cell (w := W) 9 (.int .u64 0) HX.out.1 rfl
  have r10 := rc_cell (w := W) 10 (.string ⟨#[]⟩) HX.out.1 rfl
  refine bodyPost_ret (v := .agg (rcV 3 b s q none 0 0 none 0 0 false none 0 0 none 0 0 0 ⟨#[]⟩)) (by simp [results, Try.f21, go_sem, Try.isAgg30, Try.sizeOf30, r0, r1, r2, r3, r4, r5, r6, r7, r8, r9, r10]) rfl ⟨rfl, HX.out.2⟩
set_option maxRecDepth 100000 in
set_option maxHeartbeats 4000000 in
theorem trim_4 (b s q : Int) (AW : Option Addr) (nW cW : Nat) (AR : Option Addr) (nR cR : Nat) (f : Bool) (AS : Option Addr) (nS cS : Nat) (AP : Option Addr) (nP cP : Nat) (i : Int) (S : ByteArray) (w : World) :
    Calls Try.prog 21 #[.agg (rcV 4 b s q AW nW cW AR nR cR f AS nS cS AP nP cP i S)] w fun e w' => e = .returned (.agg (rcV 4 b s q AW nW cW none 0 0 false none 0 0 AP nP cP 0 ⟨#[]⟩)) ∧ Below w.heap.size w w' := by
  have HT := Lib.hid (show hasT 4 = true by decide)
  have HX := Lib.hid (three_allocs w (.cells (rcV 4 b s q AW nW cW AR nR cR f AS nS cS AP nP cP i S) 30) (.cells (rcV 4 b s q AW nW cW none 0 0 false none 0 0 AP nP cP 0 ⟨#[]⟩) 30) (.cells (rcV 4 b s q AW nW cW none 0 0 false none 0 0 AP nP cP 0 ⟨#[]⟩) 30))
  go_enter Try.func21, Try.ntmps21
  go_wp2_with fail
  refine (hasTxn_any _ _).mono ?_
  rintro e wz ⟨rfl, rfl⟩
  rw [HT.out]
  go_wp2
  generalize ((w.alloc (.cells (rcV 4 b s q AW nW cW AR nR cR f AS nS cS AP nP cP i S) 30)).alloc (.cells (rcV 4 b s q AW nW cW none 0 0 false none 0 0 AP nP cP 0 ⟨#[]⟩) 30)).alloc (.cells (rcV 4 b s q AW nW cW none 0 0 false none 0 0 AP nP cP 0 ⟨#[]⟩) 30) = W at *
  have r0 := rc_cell (w := W) 0 (.int .i64 4) HX.out.1 rfl
  have r1 := rc_cell (w := W) 1 (.int .u64 b) HX.out.1 rfl
  have r2 := rc_cell (w := W) 2 (.int .u64 s) HX.out.1 rfl
  have r3 := rc_cell (w := W) 3 (.int .u64 q) HX.out.1 rfl
  have r4 := rc_cell (w := W) 4 (.slice AW nW cW) HX.out.1 rfl
  have r5 := rc_cell (w := W) 5 (.slice none 0 0) HX.out.1 rfl
  have r6 := rc_cell (w := W) 6 (.bool false) HX.out.1 rfl
  have r7 := rc_cell (w := W) 7 (.slice none 0 0) HX.out.1 rfl
  have r8 := rc_cell (w := W) 8 (.slice AP nP cP) HX.out.1 rfl
  have r9 := rc_cell (w := W) 9 (.int .u64 0) HX.out.1 rfl
  have r10 := rc_cell (w := W) 10 (.string ⟨#[]⟩) HX.out.1 rfl
  refine bodyPost_ret (v := .agg (rcV 4 b s q AW nW cW none 0 0 false none 0 0 AP nP cP 0 ⟨#[]⟩)) (by simp [results, Try.f21, go_sem, Try.isAgg30, Try.sizeOf30, r0, r1, r2, r3, r4, r5, r6, r7, r8, r9, r10]) rfl ⟨rfl, HX.out.2⟩
set_option maxRecDepth 100000 in
set_option maxHeartbeats 4000000 in
theorem trim_5 (b s q : Int) (AW : Option Addr) (nW cW : Nat) (AR : Option Addr) (nR cR : Nat) (f : Bool) (AS : Option Addr) (nS cS : Nat) (AP : Option Addr) (nP cP : Nat) (i : Int) (S : ByteArray) (w : World) :
    Calls Try.prog 21 #[.agg (rcV 5 b s q AW nW cW AR nR cR f AS nS cS AP nP cP i S)] w fun e w' => e = .returned (.agg (rcV 5 0 0 0 none 0 0 none 0 0 false none 0 0 none 0 0 i S)) ∧ Below w.heap.size w w' := by
  have HT := Lib.hid (show hasT 5 = false by decide)
  have HX := Lib.hid (three_allocs w (.cells (rcV 5 b s q AW nW cW AR nR cR f AS nS cS AP nP cP i S) 30) (.cells (rcV 5 0 0 0 none 0 0 none 0 0 false none 0 0 none 0 0 i S) 30) (.cells (rcV 5 0 0 0 none 0 0 none 0 0 false none 0 0 none 0 0 i S) 30))
  go_enter Try.func21, Try.ntmps21
  go_wp2_with fail
  refine (hasTxn_any _ _).mono ?_
  rintro e wz ⟨rfl, rfl⟩
  rw [HT.out]
  go_wp2
  generalize ((w.alloc (.cells (rcV 5 b s q AW nW cW AR nR cR f AS nS cS AP nP cP i S) 30)).alloc (.cells (rcV 5 0 0 0 none 0 0 none 0 0 false none 0 0 none 0 0 i S) 30)).alloc (.cells (rcV 5 0 0 0 none 0 0 none 0 0 false none 0 0 none 0 0 i S) 30) = W at *
  have r0 := rc_cell (w := W) 0 (.int .i64 5) HX.out.1 rfl
  have r1 := rc_cell (w := W) 1 (.int .u64 0) HX.out.1 rfl
  have r2 := rc_cell (w := W) 2 (.int .u64 0) HX.out.1 rfl
  have r3 := rc_cell (w := W) 3 (.int .u64 0) HX.out.1 rfl
  have r4 := rc_cell (w := W) 4 (.slice none 0 0) HX.out.1 rfl
  have r5 := rc_cell (w := W) 5 (.slice none 0 0) HX.out.1 rfl
  have r6 := rc_cell (w := W) 6 (.bool false) HX.out.1 rfl
  have r7 := rc_cell (w := W) 7 (.slice none 0 0) HX.out.1 rfl
  have r8 := rc_cell (w := W) 8 (.slice none 0 0) HX.out.1 rfl
  have r9 := rc_cell (w := W) 9 (.int .u64 i) HX.out.1 rfl
  have r10 := rc_cell (w := W) 10 (.string S) HX.out.1 rfl
  refine bodyPost_ret (v := .agg (rcV 5 0 0 0 none 0 0 none 0 0 false none 0 0 none 0 0 i S)) (by simp [results, Try.f21, go_sem, Try.isAgg30, Try.sizeOf30, r0, r1, r2, r3, r4, r5, r6, r7, r8, r9, r10]) rfl ⟨rfl, HX.out.2⟩
set_option maxRecDepth 100000 in
set_option maxHeartbeats 4000000 in
theorem trim_6 (b s q : Int) (AW : Option Addr) (nW cW : Nat) (AR : Option Addr) (nR cR : Nat) (f : Bool) (AS : Option Addr) (nS cS : Nat) (AP : Option Addr) (nP cP : Nat) (i : Int) (S : ByteArray) (w : World) :
    Calls Try.prog 21 #[.agg (rcV 6 b s q AW nW cW AR nR cR f AS nS cS AP nP cP i S)] w fun e w' => e = .returned (.agg (rcV 6 b s q none 0 0 none 0 0 f AS nS cS AP nP cP 0 ⟨#[]⟩)) ∧ Below w.heap.size w w' := by
  have HT := Lib.hid (show hasT 6 = true by decide)
  have HX := Lib.hid (three_allocs w (.cells (rcV 6 b s q AW nW cW AR nR cR f AS nS cS AP nP cP i S) 30) (.cells (rcV 6 b s q none 0 0 none 0 0 f AS nS cS AP nP cP 0 ⟨#[]⟩) 30) (.cells (rcV 6 b s q none 0 0 none 0 0 f AS nS cS AP nP cP 0 ⟨#[]⟩) 30))
  go_enter Try.func21, Try.ntmps21
  go_wp2_with fail
  refine (hasTxn_any _ _).mono ?_
  rintro e wz ⟨rfl, rfl⟩
  rw [HT.out]
  go_wp2
  generalize ((w.alloc (.cells (rcV 6 b s q AW nW cW AR nR cR f AS nS cS AP nP cP i S) 30)).alloc (.cells (rcV 6 b s q none 0 0 none 0 0 f AS nS cS AP nP cP 0 ⟨#[]⟩) 30)).alloc (.cells (rcV 6 b s q none 0 0 none 0 0 f AS nS cS AP nP cP 0 ⟨#[]⟩) 30) = W at *
  have r0 := rc_cell (w := W) 0 (.int .i64 6) HX.out.1 rfl
  have r1 := rc_cell (w := W) 1 (.int .u64 b) HX.out.1 rfl
  have r2 := rc_cell (w := W) 2 (.int .u64 s) HX.out.1 rfl
  have r3 := rc_cell (w := W) 3 (.int .u64 q) HX.out.1 rfl
  have r4 := rc_cell (w := W) 4 (.slice none 0 0) HX.out.1 rfl
  have r5 := rc_cell (w := W) 5 (.slice none 0 0) HX.out.1 rfl
  have r6 := rc_cell (w := W) 6 (.bool f) HX.out.1 rfl
  have r7 := rc_cell (w := W) 7 (.slice AS nS cS) HX.out.1 rfl
  have r8 := rc_cell (w := W) 8 (.slice AP nP cP) HX.out.1 rfl
  have r9 := rc_cell (w := W) 9 (.int .u64 0) HX.out.1 rfl
  have r10 := rc_cell (w := W) 10 (.string ⟨#[]⟩) HX.out.1 rfl
  refine bodyPost_ret (v := .agg (rcV 6 b s q none 0 0 none 0 0 f AS nS cS AP nP cP 0 ⟨#[]⟩)) (by simp [results, Try.f21, go_sem, Try.isAgg30, Try.sizeOf30, r0, r1, r2, r3, r4, r5, r6, r7, r8, r9, r10]) rfl ⟨rfl, HX.out.2⟩
set_option maxRecDepth 100000 in
set_option maxHeartbeats 4000000 in
theorem trim_7 (b s q : Int) (AW : Option Addr) (nW cW : Nat) (AR : Option Addr) (nR cR : Nat) (f : Bool) (AS : Option Addr) (nS cS : Nat) (AP : Option Addr) (nP cP : Nat) (i : Int) (S : ByteArray) (w : World) :
    Calls Try.prog 21 #[.agg (rcV 7 b s q AW nW cW AR nR cR f AS nS cS AP nP cP i S)] w fun e w' => e = .returned (.agg (rcV 7 0 0 0 none 0 0 none 0 0 false none 0 0 none 0 0 i S)) ∧ Below w.heap.size w w' := by
  have HT := Lib.hid (show hasT 7 = false by decide)
  have HX := Lib.hid (three_allocs w (.cells (rcV 7 b s q AW nW cW AR nR cR f AS nS cS AP nP cP i S) 30) (.cells (rcV 7 0 0 0 none 0 0 none 0 0 false none 0 0 none 0 0 i S) 30) (.cells (rcV 7 0 0 0 none 0 0 none 0 0 false none 0 0 none 0 0 i S) 30))
  go_enter Try.func21, Try.ntmps21
  go_wp2_with fail
  refine (hasTxn_any _ _).mono ?_
  rintro e wz ⟨rfl, rfl⟩
  rw [HT.out]
  go_wp2
  generalize ((w.alloc (.cells (rcV 7 b s q AW nW cW AR nR cR f AS nS cS AP nP cP i S) 30)).alloc (.cells (rcV 7 0 0 0 none 0 0 none 0 0 false none 0 0 none 0 0 i S) 30)).alloc (.cells (rcV 7 0 0 0 none 0 0 none 0 0 false none 0 0 none 0 0 i S) 30) = W at *
  have r0 := rc_cell (w := W) 0 (.int .i64 7) HX.out.1 rfl
  have r1 := rc_cell (w := W) 1 (.int .u64 0) HX.out.1 rfl
  have r2 := rc_cell (w := W) 2 (.int .u64 0) HX.out.1 rfl
  have r3 := rc_cell (w := W) 3 (.int .u64 0) HX.out.1 rfl
  have r4 := rc_cell (w := W) 4 (.slice none 0 0) HX.out.1 rfl
  have r5 := rc_cell (w := W) 5 (.slice none 0 0) HX.out.1 rfl
  have r6 := rc_cell (w := W) 6 (.bool false) HX.out.1 rfl
  have r7 := rc_cell (w := W) 7 (.slice none 0 0) HX.out.1 rfl
  have r8 := rc_cell (w := W) 8 (.slice none 0 0) HX.out.1 rfl
  have r9 := rc_cell (w := W) 9 (.int .u64 i) HX.out.1 rfl
  have r10 := rc_cell (w := W) 10 (.string S) HX.out.1 rfl
  refine bodyPost_ret (v := .agg (rcV 7 0 0 0 none 0 0 none 0 0 false none 0 0 none 0 0 i S)) (by simp [results, Try.f21, go_sem, Try.isAgg30, Try.sizeOf30, r0, r1, r2, r3, r4, r5, r6, r7, r8, r9, r10]) rfl ⟨rfl, HX.out.2⟩
set_option maxRecDepth 100000 in
set_option maxHeartbeats 4000000 in
theorem trim_8 (b s q : Int) (AW : Option Addr) (nW cW : Nat) (AR : Option Addr) (nR cR : Nat) (f : Bool) (AS : Option Addr) (nS cS : Nat) (AP : Option Addr) (nP cP : Nat) (i : Int) (S : ByteArray) (w : World) :
    Calls Try.prog 21 #[.agg (rcV 8 b s q AW nW cW AR nR cR f AS nS cS AP nP cP i S)] w fun e w' => e = .returned (.agg (rcV 8 0 0 0 none 0 0 none 0 0 false none 0 0 none 0 0 i S)) ∧ Below w.heap.size w w' := by
  have HT := Lib.hid (show hasT 8 = false by decide)
  have HX := Lib.hid (three_allocs w (.cells (rcV 8 b s q AW nW cW AR nR cR f AS nS cS AP nP cP i S) 30) (.cells (rcV 8 0 0 0 none 0 0 none 0 0 false none 0 0 none 0 0 i S) 30) (.cells (rcV 8 0 0 0 none 0 0 none 0 0 false none 0 0 none 0 0 i S) 30))
  go_enter Try.func21, Try.ntmps21
  go_wp2_with fail
  refine (hasTxn_any _ _).mono ?_
  rintro e wz ⟨rfl, rfl⟩
  rw [HT.out]
  go_wp2
  generalize ((w.alloc (.cells (rcV 8 b s q AW nW cW AR nR cR f AS nS cS AP nP cP i S) 30)).alloc (.cells (rcV 8 0 0 0 none 0 0 none 0 0 false none 0 0 none 0 0 i S) 30)).alloc (.cells (rcV 8 0 0 0 none 0 0 none 0 0 false none 0 0 none 0 0 i S) 30) = W at *
  have r0 := rc_cell (w := W) 0 (.int .i64 8) HX.out.1 rfl
  have r1 := rc_cell (w := W) 1 (.int .u64 0) HX.out.1 rfl
  have r2 := rc_cell (w := W) 2 (.int .u64 0) HX.out.1 rfl
  have r3 := rc_cell (w := W) 3 (.int .u64 0) HX.out.1 rfl
  have r4 := rc_cell (w := W) 4 (.slice none 0 0) HX.out.1 rfl
  have r5 := rc_cell (w := W) 5 (.slice none 0 0) HX.out.1 rfl
  have r6 := rc_cell (w := W) 6 (.bool false) HX.out.1 rfl
  have r7 := rc_cell (w := W) 7 (.slice none 0 0) HX.out.1 rfl
  have r8 := rc_cell (w := W) 8 (.slice none 0 0) HX.out.1 rfl
  have r9 := rc_cell (w := W) 9 (.int .u64 i) HX.out.1 rfl
  have r10 := rc_cell (w := W) 10 (.string S) HX.out.1 rfl
  refine bodyPost_ret (v := .agg (rcV 8 0 0 0 none 0 0 none 0 0 false none 0 0 none 0 0 i S)) (by simp [results, Try.f21, go_sem, Try.isAgg30, Try.sizeOf30, r0, r1, r2, r3, r4, r5, r6, r7, r8, r9, r10]) rfl ⟨rfl, HX.out.2⟩
set_option maxRecDepth 100000 in
set_option maxHeartbeats 4000000 in
theorem trim_9 (b s q : Int) (AW : Option Addr) (nW cW : Nat) (AR : Option Addr) (nR cR : Nat) (f : Bool) (AS : Option Addr) (nS cS : Nat) (AP : Option Addr) (nP cP : Nat) (i : Int) (S : ByteArray) (w : World) :
    Calls Try.prog 21 #[.agg (rcV 9 b s q AW nW cW AR nR cR f AS nS cS AP nP cP i S)] w fun e w' => e = .returned (.agg (rcV 9 b s q none 0 0 none 0 0 false none 0 0 none 0 0 0 ⟨#[]⟩)) ∧ Below w.heap.size w w' := by
  have HT := Lib.hid (show hasT 9 = true by decide)
  have HX := Lib.hid (three_allocs w (.cells (rcV 9 b s q AW nW cW AR nR cR f AS nS cS AP nP cP i S) 30) (.cells (rcV 9 b s q none 0 0 none 0 0 false none 0 0 none 0 0 0 ⟨#[]⟩) 30) (.cells (rcV 9 b s q none 0 0 none 0 0 false none 0 0 none 0 0 0 ⟨#[]⟩) 30))
  go_enter Try.func21, Try.ntmps21
  go_wp2_with fail
  refine (hasTxn_any _ _).mono ?_
  rintro e wz ⟨rfl, rfl⟩
  rw [HT.out]
  go_wp2
  generalize ((w.alloc (.cells (rcV 9 b s q AW nW cW AR nR cR f AS nS cS AP nP cP i S) 30)).alloc (.cells (rcV 9 b s q none 0 0 none 0 0 false none 0 0 none 0 0 0 ⟨#[]⟩) 30)).alloc (.cells (rcV 9 b s q none 0 0 none 0 0 false none 0 0 none 0 0 0 ⟨#[]⟩) 30) = W at *
  have r0 := rc_cell (w := W) 0 (.int .i64 9) HX.out.1 rfl
  have r1 := rc_cell (w := W) 1 (.int .u64 b) HX.out.1 rfl
  have r2 := rc_cell (w := W) 2 (.int .u64 s) HX.out.1 rfl
  have r3 := rc_cell (w := W) 3 (.int .u64 q) HX.out.1 rfl
  have r4 := rc_cell (w := W) 4 (.slice none 0 0) HX.out.1 rfl
  have r5 := rc_cell (w := W) 5 (.slice none 0 0) HX.out.1 rfl
  have r6 := rc_cell (w := W) 6 (.bool false) HX.out.1 rfl
  have r7 := rc_cell (w := W) 7 (.slice none 0 0) HX.out.1 rfl
  have r8 := rc_cell (w := W) 8 (.slice none 0 0) HX.out.1 rfl
  have r9 := rc_cell (w := W) 9 (.int .u64 0) HX.out.1 rfl
  have r10 := rc_cell (w := W) 10 (.string ⟨#[]⟩) HX.out.1 rfl
  refine bodyPost_ret (v := .agg (rcV 9 b s q none 0 0 none 0 0 false none 0 0 none 0 0 0 ⟨#[]⟩)) (by simp [results, Try.f21, go_sem, Try.isAgg30, Try.sizeOf30, r0, r1, r2, r3, r4, r5, r6, r7, r8, r9, r10]) rfl ⟨rfl, HX.out.2⟩
end Go.Proofs.Ytmjjbfcblmmipaa
