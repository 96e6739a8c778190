/- GroynePacked: the walk, all four ways. -/
import Derived.Test.YtdlbghjclcdfmabDoorPackedWA
import Derived.Test.YtdlbghjclcdfmabDoorPackedWB
import Derived.Test.YtdlbghjclcdfmabDoorPackedWC
import Derived.Test.YtdlbghjclcdfmabDoorPackedWD
namespace Go.Proofs.YtdlbghjclcdfmabDoor
open Go.RowKit
theorem packed_walk (p : List Int) (A : Option Addr) (n c : Nat) (rows : List (List (List Int))) (w : World) (hp : Ran p) (hpl : p.length ≤ 9223372036854775807) (htb : Tab w A n rows) (htx : ∀ r ∈ rows, ∀ l ∈ r, Ran l ∧ l.length ≤ 9223372036854775807) (hcap : n ≤ c) (hnm : n ≤ 9223372036854775807) :
    Calls Tryd.prog 5 #[.slice A n c, .string (strOfNums p)] w fun e w' => e = .returned (.bool true) ∧ Below w.heap.size w w' := by
  by_cases hP : 40 < p.length
  · by_cases hR : 12 < n
    · exact packed_D p A n c rows w hp hpl htb htx hcap hnm hP hR
    · exact packed_B p A n c rows w hp hpl htb htx hcap hnm hP hR
  · by_cases hR : 12 < n
    · exact packed_C p A n c rows w hp hpl htb htx hcap hnm hP hR
    · exact packed_A p A n c rows w hp hpl htb htx hcap hnm hP hR
end Go.Proofs.YtdlbghjclcdfmabDoor
