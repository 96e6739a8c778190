/- The label laws' fixed fact: what it calls, at its texts. -/
import Derived.Test.YtdlbghjclcdfmabDoorAwake
namespace Go.Proofs.YtdlbghjclcdfmabDoor
set_option linter.unusedVariables false
set_option linter.unusedSimpArgs false
open Go.RowKit

theorem bA_b9 : strOfNums [98, 57] = ⟨#[98, 57]⟩ := rfl
theorem valid_b9 (w : World) : Calls Tryd.prog 23 #[.string ⟨#[98, 57]⟩] w fun e w' => e = .returned (.bool true) ∧ w = w' := by
  have := valid_yes 98 [57] w (by unfold Ran; decide) (by decide) (by decide) (by decide)
  exact this
theorem valid_b10 (w : World) : Calls Tryd.prog 23 #[.string ⟨#[98, 49, 48]⟩] w fun e w' => e = .returned (.bool true) ∧ w = w' := by
  have := valid_yes 98 [49, 48] w (by unfold Ran; decide) (by decide) (by decide) (by decide)
  exact this
theorem valid_bm1 (w : World) : Calls Tryd.prog 23 #[.string ⟨#[98, 45, 49]⟩] w fun e w' => e = .returned (.bool true) ∧ w = w' := by
  have := valid_yes 98 [45, 49] w (by unfold Ran; decide) (by decide) (by decide) (by decide)
  exact this

theorem trim_b9 (w : World) : Calls Tryd.prog 34 #[.string ⟨#[98, 57]⟩, .string ⟨#[48, 49, 50, 51, 52, 53, 54, 55, 56, 57]⟩] w fun e w' => e = .returned (.string ⟨#[98]⟩) ∧ Below w.heap.size w w' :=
  (Any.strings_TrimRight_laid Tryd.lays162 (by kernel_rfl) ⟨#[98, 57]⟩ ⟨#[48, 49, 50, 51, 52, 53, 54, 55, 56, 57]⟩ w (by decide) (by decide) (ascii_of_all (by decide))).mono fun e w' ⟨h1, h2⟩ => ⟨h1.trans rfl, h2⟩

theorem cmpB (w : World) : Calls Tryd.prog 40 #[.int .u8 98, .int .u8 98] w fun e w' => e = .returned (.int .i64 0) ∧ w = w' := by
  go_enter Tryd.func40, Tryd.ntmps40
  go_wp2
  go_ret
  exact ⟨rfl, rfl⟩
theorem cmpN (w : World) : Calls Tryd.prog 42 #[.int .i64 1, .int .i64 2] w fun e w' => e = .returned (.int .i64 (-1)) ∧ w = w' := by
  go_enter Tryd.func42, Tryd.ntmps42
  go_wp2
  go_ret
  exact ⟨rfl, rfl⟩

set_option maxRecDepth 100000 in
theorem piece_b9 (w : World) : Calls Tryd.prog 26 #[.string ⟨#[98, 57]⟩] w fun e w' => e = .returned (.string ⟨#[98]⟩) ∧ w = w' := by
  have hd : dig 98 = false := by decide
  go_enter Tryd.func26, Tryd.ntmps26
  go_wp2
  refine wp_loop_rounds 2 ?_
  rw [rounds_succ]
  go_wp2_with fail
  refine (isdig_any 98 _).mono ?_
  rintro e w1 ⟨rfl, rfl⟩
  go_wp2
  go_ret
  exact ⟨rfl, rfl⟩
theorem piece_b10 (w : World) : Calls Tryd.prog 26 #[.string ⟨#[98, 49, 48]⟩] w fun e w' => e = .returned (.string ⟨#[98]⟩) ∧ w = w' := by
  have hd : dig 98 = false := by decide
  go_enter Tryd.func26, Tryd.ntmps26
  go_wp2
  refine wp_loop_rounds 2 ?_
  rw [rounds_succ]
  go_wp2_with fail
  refine (isdig_any 98 _).mono ?_
  rintro e w1 ⟨rfl, rfl⟩
  go_wp2
  go_ret
  exact ⟨rfl, rfl⟩
theorem piece_9 (w : World) : Calls Tryd.prog 26 #[.string ⟨#[57]⟩] w fun e w' => e = .returned (.string ⟨#[57]⟩) ∧ w = w' := by
  have hd : dig 57 = true := by decide
  go_enter Tryd.func26, Tryd.ntmps26
  go_wp2
  refine wp_loop_rounds 2 ?_
  rw [rounds_succ]
  go_wp2_with fail
  refine (isdig_any 57 _).mono ?_
  rintro e w1 ⟨rfl, rfl⟩
  go_wp2
  rw [rounds_succ]
  go_wp2
  go_ret
  exact ⟨rfl, rfl⟩
theorem piece_10 (w : World) : Calls Tryd.prog 26 #[.string ⟨#[49, 48]⟩] w fun e w' => e = .returned (.string ⟨#[49, 48]⟩) ∧ w = w' := by
  have hd : dig 49 = true := by decide
  have hd2 : dig 48 = true := by decide
  go_enter Tryd.func26, Tryd.ntmps26
  go_wp2
  refine wp_loop_rounds 3 ?_
  rw [rounds_succ]
  go_wp2_with fail
  refine (isdig_any 49 _).mono ?_
  rintro e w1 ⟨rfl, rfl⟩
  go_wp2
  rw [rounds_succ]
  go_wp2_with fail
  refine (isdig_any 48 _).mono ?_
  rintro e w1 ⟨rfl, rfl⟩
  go_wp2
  rw [rounds_succ]
  go_wp2
  go_ret
  exact ⟨rfl, rfl⟩
theorem pieces_b (w : World) : Calls Tryd.prog 27 #[.string ⟨#[98]⟩, .string ⟨#[98]⟩] w fun e w' => e = .returned (.int .i64 0) ∧ Dr w w' := by
  have hd : dig 98 = false := by decide
  go_enter Tryd.func27, Tryd.ntmps27
  go_wp2_with fail
  refine (isdig_any 98 _).mono ?_
  rintro e w1 ⟨rfl, rfl⟩
  go_wp2
  go_quiet ((go_at_call 40; first | exact still_call_add cmpB | exact still_call cmpB))
  go_wp2
  go_ret
  exact ⟨rfl, (Dr.refl w).n _⟩
theorem pieces_n (w : World) : Calls Tryd.prog 27 #[.string ⟨#[57]⟩, .string ⟨#[49, 48]⟩] w fun e w' => e = .returned (.int .i64 (-1)) ∧ Dr w w' := by
  have hd : dig 57 = true := by decide
  have hd2 : dig 49 = true := by decide
  go_enter Tryd.func27, Tryd.ntmps27
  go_wp2_with fail
  refine (isdig_any 57 _).mono ?_
  rintro e w1 ⟨rfl, rfl⟩
  go_wp2_with fail
  refine (isdig_any 49 _).mono ?_
  rintro e w1 ⟨rfl, rfl⟩
  go_wp2_with fail
  refine (Tryd.strings_TrimLeft_one ⟨#[57]⟩ 48 (by decide) _).mono ?_
  rintro e w1 ⟨rfl, rfl⟩
  go_wp2_with fail
  refine (Tryd.strings_TrimLeft_one ⟨#[49, 48]⟩ 48 (by decide) _).mono ?_
  rintro e w1 ⟨rfl, rfl⟩
  have e1 : (⟨(Lib.trimLeftB (⟨#[57]⟩ : ByteArray).data.toList 48).toArray⟩ : ByteArray) = ⟨#[57]⟩ := rfl
  have e2 : (⟨(Lib.trimLeftB (⟨#[49, 48]⟩ : ByteArray).data.toList 48).toArray⟩ : ByteArray) = ⟨#[49, 48]⟩ := rfl
  rw [e1, e2]
  go_wp2_with fail
  refine (cmpN _).mono ?_
  rintro e w1 ⟨rfl, rfl⟩
  go_wp2
  go_ret
  exact ⟨rfl, Dr.refl _⟩
end Go.Proofs.YtdlbghjclcdfmabDoor
