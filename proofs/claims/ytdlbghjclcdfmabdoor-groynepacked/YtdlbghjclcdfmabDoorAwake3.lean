/- The label laws' fixed fact. -/
import Derived.Test.YtdlbghjclcdfmabDoorAwake2
namespace Go.Proofs.YtdlbghjclcdfmabDoor
set_option linter.unusedVariables false
set_option linter.unusedSimpArgs false
open Go.RowKit

set_option maxRecDepth 100000 in
set_option maxHeartbeats 1000000 in
theorem compare_b (w : World) : Calls Tryd.prog 9 #[.string ⟨#[98, 57]⟩, .string ⟨#[98, 49, 48]⟩] w fun e w' => e = .returned (.int .i64 (-1)) ∧ Dr w w' := by
  have e1 : (⟨#[98, 57]⟩ : ByteArray).extract 1 2 = ⟨#[57]⟩ := rfl
  have e2 : (⟨#[98, 49, 48]⟩ : ByteArray).extract 1 3 = ⟨#[49, 48]⟩ := rfl
  go_enter Tryd.func9, Tryd.ntmps9
  go_wp2
  refine wp_loop_rounds 2 ?_
  rw [rounds_succ]
  go_wp2_with fail
  refine (piece_b9 _).mono ?_
  rintro e w1 ⟨rfl, rfl⟩
  go_wp2_with fail
  refine (piece_b10 _).mono ?_
  rintro e w1 ⟨rfl, rfl⟩
  go_wp2_with fail
  refine (pieces_b _).mono ?_
  rintro e w1 ⟨rfl, hd1⟩
  go_wp2
  go_quiet (fail)
  go_wp2
  rw [rounds_succ]
  go_wp2_with fail
  refine (piece_9 _).mono ?_
  rintro e w2 ⟨rfl, rfl⟩
  go_wp2_with fail
  refine (piece_10 _).mono ?_
  rintro e w2 ⟨rfl, rfl⟩
  go_wp2_with fail
  refine (pieces_n _).mono ?_
  rintro e w2 ⟨rfl, hd2⟩
  go_wp2
  go_ret
  exact ⟨rfl, (hd1.n _).trans hd2⟩
set_option maxRecDepth 100000 in
set_option maxHeartbeats 1000000 in
theorem oneMore_9 (w : World) : Calls Tryd.prog 35 #[.string ⟨#[57]⟩] w fun e w' => e = .returned (.string ⟨#[49, 48]⟩) ∧ Below w.heap.size w w' := by
  have hcv := Lib.run_convert_string_bytes (P := Tryd.prog) w 9 34 5 ⟨#[57]⟩ Tryd.underlying9 Tryd.underlying34 Tryd.underlying5
  have hcell : (Lib.bytesWorld w 5 ⟨#[57]⟩).cell? ⟨w.heap.size, 0, none⟩ = some (.int .u8 57) := Lib.bytesWorld_cell w 5 ⟨#[57]⟩ 0 (by decide)
  have hfr : (Lib.bytesWorld w 5 ⟨#[57]⟩).frozen? ⟨w.heap.size, 0, none⟩ = false := by
    have hpos : 0 < (Lib.bytesCells w 5 ⟨#[57]⟩).size := by unfold Lib.bytesCells; simp; omega
    simp only [World.frozen?, Lib.bytesWorld_at_new]
    have hnp : ¬ (Lib.bytesCells w 5 ⟨#[57]⟩).size ≤ 0 := by omega
    simp only [hnp, decide_false, Bool.false_and]
  have hbel : Below w.heap.size w (Lib.bytesWorld w 5 ⟨#[57]⟩) := ⟨rfl, rfl, rfl, by rw [Lib.bytesWorld_size]; omega, fun k hk => Lib.bytesWorld_at_old w 5 _ k hk⟩
  generalize hW : Lib.bytesWorld w 5 ⟨#[57]⟩ = W at *
  generalize grownCap w (⟨#[57]⟩ : ByteArray).size 0 5 = cp at *
  have hcv2 : (convert 34 9 (.slice (some ⟨w.heap.size, 0, none⟩) 1 cp)).run Tryd.prog (W.setCell ⟨w.heap.size, 0, none⟩ (.int .u8 48)) = .ok (.string ⟨#[48]⟩) (W.setCell ⟨w.heap.size, 0, none⟩ (.int .u8 48)) := by
    refine run_convert_bytes_arg (W.setCell ⟨w.heap.size, 0, none⟩ (.int .u8 48)) 34 5 Tryd.underlying34 Tryd.underlying5 w.heap.size 0 1 cp [48] rfl (fun i hi => ?_) 9 Tryd.underlying9
    obtain rfl : i = 0 := by omega
    first | exact World.cell?_setCell_same hcell | exact World.cell?_setCell_same _ _ hcell | exact World.cell?_setCell_same _ _ _ hcell
  have hbel2 : Below w.heap.size w (W.setCell ⟨w.heap.size, 0, none⟩ (.int .u8 48)) := hbel.setCell (Nat.le_refl _) _
  have e1 : (⟨#[49]⟩ : ByteArray) ++ ⟨#[48]⟩ = ⟨#[49, 48]⟩ := rfl
  have HB := Lib.hid hbel2
  clear hbel hbel2 hW
  go_enter Tryd.func35, Tryd.ntmps35
  go_wp2
  refine wp_loop_rounds 2 ?_
  rw [rounds_succ]
  go_wp2
  rw [rounds_succ]
  go_wp2
  go_ret
  exact ⟨rfl, HB.out⟩

set_option maxRecDepth 100000 in
set_option maxHeartbeats 1000000 in
theorem next_b9 (w : World) : Calls Tryd.prog 22 #[.string ⟨#[98, 57]⟩] w fun e w' => e = .returned (.tuple #[.string ⟨#[98, 49, 48]⟩, .bool true]) ∧ Below w.heap.size w w' := by
  have e1 : (⟨#[98, 57]⟩ : ByteArray).extract 1 2 = ⟨#[57]⟩ := rfl
  have e2 : (⟨#[98]⟩ : ByteArray) ++ ⟨#[49, 48]⟩ = ⟨#[98, 49, 48]⟩ := rfl
  go_enter Tryd.func22, Tryd.ntmps22
  go_wp2_with fail
  refine (valid_b9 _).mono ?_
  rintro e w1 ⟨rfl, rfl⟩
  go_wp2_with fail
  refine (trim_b9 _).mono ?_
  rintro e w2 ⟨rfl, hb2⟩
  go_wp2_with fail
  refine (oneMore_9 _).mono ?_
  rintro e w3 ⟨rfl, hb3⟩
  have hb4 := hb2.trans (hb3.mono hb2.size)
  clear hb2 hb3
  go_wp2_with fail
  refine (valid_b10 _).mono ?_
  rintro e w1 ⟨rfl, rfl⟩
  go_wp2
  go_ret2
  exact ⟨rfl, hb4⟩
set_option maxRecDepth 100000 in
set_option maxHeartbeats 1000000 in
theorem awake_any (w : World) : Calls Tryd.prog 6 #[] w fun e w' => e = .returned (.bool true) ∧ Below w.heap.size w w' := by
  go_enter Tryd.func6, Tryd.ntmps6
  go_wp2_with fail
  refine (next_b9 _).mono ?_
  rintro e w1 ⟨rfl, hb1⟩
  go_wp2_with fail
  refine (valid_bm1 _).mono ?_
  rintro e w2 ⟨rfl, rfl⟩
  go_wp2_with fail
  refine (compare_b _).mono ?_
  rintro e w2 ⟨rfl, hd⟩
  have hb2 := hb1.trans (hd.below _)
  go_wp2
  go_ret
  exact ⟨rfl, hb2⟩
end Go.Proofs.YtdlbghjclcdfmabDoor
