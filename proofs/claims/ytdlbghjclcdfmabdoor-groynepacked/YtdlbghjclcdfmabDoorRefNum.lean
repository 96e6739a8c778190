
/- The reference's Number. -/
import Derived.Test.YtdlbghjclcdfmabDoorNumW
namespace Go.Proofs.YtdlbghjclcdfmabDoor
set_option linter.unusedVariables false
set_option linter.unusedSimpArgs false
open Go.RowKit

theorem own_one (w : World) (base : Nat) (k : Int) (hb : base ≤ w.heap.size) : Own (w.alloc (.cells #[.int .u8 k] 5)) base 5 (some ⟨w.heap.size, 0, none⟩) 1 1 (By [k]) :=
  Own.of_block (vs := By [k]) (heap_alloc_new w _) hb rfl (by unfold maxLen; omega)
theorem be_nb (m : Int) (h : 1 ≤ m) (h1 : m ≤ 18446744073709551615) : be (nb m) m = be (nb (m / 256)) (m / 256) ++ [m % 256] := by
  rw [nb_div m h (by omega)]; rfl

end Go.Proofs.YtdlbghjclcdfmabDoor
