/-
  DERIVED. GIVEN WITH THE SEED: THE CARDS: each row of YtdlbghjclcdfmabDoorRows.lean that lists a variable, with what it lists TIED to the program's text (the seventh form; the later family's looks); each row that meets fmt, with fmt's text TOLD by the authors' own Lean function (tested against real Go, not proved from fmt's source: count such statements apart). THE CARD IS WHAT COUNTS. Prove the row's statement (the work); the ties are given (YtdlbghjclcdfmabDoorTie.lean); close each card by the builder's one call (the guide's Derived/Test/ToyasCard.lean, 'card_holds'). Laid BY PROGRAM, IN A SANDBOX (cutbox-door.mjs). By AI agents, Wed Nov 11 2026. No macro, syntax, notation, axiom, sorry.
-/
import Derived.Test.YtdlbghjclcdfmabDoorRows
import GoSem.ClaimSeven
namespace Go.Proofs.YtdlbghjclcdfmabDoor
namespace Rows

/-- THE TIED CARD OF 'groynelaw02.LabelSorts'. -/
def labelSortsCard : Claim7 := { stood := { row := labelSortsRow, standIns := [], harness := (true, "0bb6dd9887f840605f342f6fd55b7ab98a47e115a6eae827ab5cbb4f78d8ba5b"), looks := false }, kinds := [], alts := [], laidByText := true, laidKinds := [.data, .pinned], laidTests := true, laidLooks := .later }
def LabelSortsCardSaid : Prop := Claim7.holds Tryd.pinned (.plain (OpenSpec.ofChange labelSortsSpec)) labelSortsCard

/-- THE TIED CARD OF 'groynelaw02.LabelStars'. -/
def labelStarsCard : Claim7 := { stood := { row := labelStarsRow, standIns := [], harness := (true, "0bb6dd9887f840605f342f6fd55b7ab98a47e115a6eae827ab5cbb4f78d8ba5b"), looks := false }, kinds := [], alts := [], laidByText := true, laidKinds := [.data, .pinned], laidTests := true, laidLooks := .later }
def LabelStarsCardSaid : Prop := Claim7.holds Tryd.pinned (.plain (OpenSpec.ofChange labelStarsSpec)) labelStarsCard

/-- THE TIED CARD OF 'groynetop.GroynePacked'. -/
def groynePackedCard : Claim7 := { stood := { row := groynePackedRow, standIns := [], harness := (true, "0bb6dd9887f840605f342f6fd55b7ab98a47e115a6eae827ab5cbb4f78d8ba5b"), looks := false }, kinds := [], alts := [], laidByText := true, laidKinds := [.data, .pinned], laidTests := true, laidLooks := .later }
def GroynePackedCardSaid : Prop := Claim7.holds Tryd.pinned (.plain (OpenSpec.ofChange groynePackedSpec)) groynePackedCard

/-- THE SECOND FORM's CARD OF 'groynelaw02.LabelSorts'. -/
def labelSortsUptoCard : Claim7 := { stood := { row := labelSortsUptoRow, standIns := [], harness := (true, "0bb6dd9887f840605f342f6fd55b7ab98a47e115a6eae827ab5cbb4f78d8ba5b"), looks := false }, kinds := [], alts := [], laidByText := true, laidKinds := [.data, .pinned], laidTests := true, laidLooks := .later }
def LabelSortsUptoCardSaid : Prop := Claim7.holds Tryd.pinned (.plain (OpenSpec.upto labelSortsSpec)) labelSortsUptoCard

/-- THE SECOND FORM's CARD OF 'groynelaw02.LabelStars'. -/
def labelStarsUptoCard : Claim7 := { stood := { row := labelStarsUptoRow, standIns := [], harness := (true, "0bb6dd9887f840605f342f6fd55b7ab98a47e115a6eae827ab5cbb4f78d8ba5b"), looks := false }, kinds := [], alts := [], laidByText := true, laidKinds := [.data, .pinned], laidTests := true, laidLooks := .later }
def LabelStarsUptoCardSaid : Prop := Claim7.holds Tryd.pinned (.plain (OpenSpec.upto labelStarsSpec)) labelStarsUptoCard

/-- THE SECOND FORM's CARD OF 'groynetop.GroynePacked'. -/
def groynePackedUptoCard : Claim7 := { stood := { row := groynePackedUptoRow, standIns := [], harness := (true, "0bb6dd9887f840605f342f6fd55b7ab98a47e115a6eae827ab5cbb4f78d8ba5b"), looks := false }, kinds := [], alts := [], laidByText := true, laidKinds := [.data, .pinned], laidTests := true, laidLooks := .later }
def GroynePackedUptoCardSaid : Prop := Claim7.holds Tryd.pinned (.plain (OpenSpec.upto groynePackedSpec)) groynePackedUptoCard
end Rows
end Go.Proofs.YtdlbghjclcdfmabDoor
