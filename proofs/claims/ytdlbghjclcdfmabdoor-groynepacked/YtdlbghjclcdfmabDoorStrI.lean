/- Texts and their bytes. -/
import Derived.Test.YtdlbghjclcdfmabDoorComp2W
namespace Go.Proofs.YtdlbghjclcdfmabDoor
set_option linter.unusedVariables false
set_option linter.unusedSimpArgs false
open Go.RowKit

theorem str_inj {a b : List Int} (ha : Ran a) (hb : Ran b) (h : (strOfNums a).toList = (strOfNums b).toList) : a = b := by
  rw [str_list, str_list] at h
  have h1 := compare_str a b ha hb
  rw [h] at h1
  have h2 := compare_str b b hb hb
  rw [cmpL_self] at h2
  exact cmpL_zero (h1.symm.trans h2)

end Go.Proofs.YtdlbghjclcdfmabDoor
