/- Copies, ends and questions of byte lists: the reference's Copy, Equal, In, After; pack.In, pack.After. -/
import Derived.Test.YtdlbghjclcdfmabDoorCmp
import Derived.OwnWalk
import Derived.Laws.MakeOwn
import Derived.Laws.CopyOwn
namespace Go.Proofs.YtdlbghjclcdfmabDoor
set_option linter.unusedVariables false
set_option linter.unusedSimpArgs false
open Go.RowKit

theorem info5 : (Tryd.prog.info? 5).map (fun i => (i.zero, i.size, i.bytes)) = some (some (.int .u8 0), 1, 1) := by kernel_rfl
end Go.Proofs.YtdlbghjclcdfmabDoor
