
/- The reference's Take. -/
import Derived.Test.YtdlbghjclcdfmabDoorRefNum
import Derived.Test.YtdlbghjclcdfmabDoorTakeW
import Derived.Deep.RegionHeld3
namespace Go.Proofs.YtdlbghjclcdfmabDoor
set_option linter.unusedVariables false
set_option linter.unusedSimpArgs false
open Go.RowKit

theorem below_undrew {B : Nat} {a w : World} (h : Below B a.drew w) : Below B a w := ⟨h.os, h.tape, h.output, h.size, h.block⟩

end Go.Proofs.YtdlbghjclcdfmabDoor
