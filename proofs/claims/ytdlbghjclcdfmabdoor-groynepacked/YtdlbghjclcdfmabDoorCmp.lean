/- The order of byte lists: cmp.Compare at byte and int, pack.Compare, the reference's Cmp and Equal. -/
import Derived.Test.YtdlbghjclcdfmabDoorRows
import Derived.Test.YtdlbghjclcdfmabDoorBase
import Derived.WalkSpells
import Derived.Deep.QuietTactic
import Derived.BigQuiet
namespace Go.Proofs.YtdlbghjclcdfmabDoor
set_option linter.unusedVariables false
set_option linter.unusedSimpArgs false
open Go.RowKit

end Go.Proofs.YtdlbghjclcdfmabDoor
