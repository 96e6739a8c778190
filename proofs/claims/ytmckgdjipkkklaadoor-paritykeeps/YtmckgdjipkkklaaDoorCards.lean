/-
  DERIVED. GIVEN WITH THE SEED: THE CARDS: each row of YtmckgdjipkkklaaDoorRows.lean that lists a variable, with what it lists TIED to the program's text (the seventh form; the later family's looks); each row that meets fmt, with fmt's text TOLD by the authors' own Lean function (tested against real Go, not proved from fmt's source: count such statements apart). THE CARD IS WHAT COUNTS. Prove the row's statement (the work); the ties are given (YtmckgdjipkkklaaDoorTie.lean); close each card by the builder's one call (the guide's Derived/Test/ToyasCard.lean, 'card_holds'). Laid BY PROGRAM, IN A SANDBOX (cutbox-door.mjs). By AI agents, Wed Nov 11 2026. No macro, syntax, notation, axiom, sorry.
-/
import Derived.Test.YtmckgdjipkkklaaDoorRows
import GoSem.ClaimSeven
namespace Go.Proofs.YtmckgdjipkkklaaDoor
namespace Rows

/-- THE TIED CARD OF 'groynelaw03.ParityFields'. -/
def parityFieldsCard : Claim7 := { stood := { row := parityFieldsRow, standIns := [], harness := (true, "9bdcda1f14acfe90053137c976802eb7548120fdca49c6f6b1473b9380ae3218"), looks := false }, kinds := [], alts := [], laidByText := true, laidKinds := [.data, .data], laidTests := true, laidLooks := .later }
def ParityFieldsCardSaid : Prop := Claim7.holds Tryd.pinned (.plain (OpenSpec.ofChange parityFieldsSpec)) parityFieldsCard

/-- THE TIED CARD OF 'groynelaw03.ParityPowers'. -/
def parityPowersCard : Claim7 := { stood := { row := parityPowersRow, standIns := [], harness := (true, "9bdcda1f14acfe90053137c976802eb7548120fdca49c6f6b1473b9380ae3218"), looks := false }, kinds := [], alts := [], laidByText := true, laidKinds := [.data, .data], laidTests := true, laidLooks := .later }
def ParityPowersCardSaid : Prop := Claim7.holds Tryd.pinned (.plain (OpenSpec.ofChange parityPowersSpec)) parityPowersCard

/-- THE TIED CARD OF 'groynelaw03.ParityChecks'. -/
def parityChecksCard : Claim7 := { stood := { row := parityChecksRow, standIns := [], harness := (true, "9bdcda1f14acfe90053137c976802eb7548120fdca49c6f6b1473b9380ae3218"), looks := false }, kinds := [], alts := [], laidByText := true, laidKinds := [.data, .data], laidTests := true, laidLooks := .later }
def ParityChecksCardSaid : Prop := Claim7.holds Tryd.pinned (.plain (OpenSpec.ofChange parityChecksSpec)) parityChecksCard

/-- THE TIED CARD OF 'groynelaw03.ParityTells'. -/
def parityTellsCard : Claim7 := { stood := { row := parityTellsRow, standIns := [], harness := (true, "9bdcda1f14acfe90053137c976802eb7548120fdca49c6f6b1473b9380ae3218"), looks := false }, kinds := [], alts := [], laidByText := true, laidKinds := [.data, .data], laidTests := true, laidLooks := .later }
def ParityTellsCardSaid : Prop := Claim7.holds Tryd.pinned (.plain (OpenSpec.ofChange parityTellsSpec)) parityTellsCard

/-- THE TIED CARD OF 'groynelaw03.ParityRecords'. -/
def parityRecordsCard : Claim7 := { stood := { row := parityRecordsRow, standIns := [], harness := (true, "9bdcda1f14acfe90053137c976802eb7548120fdca49c6f6b1473b9380ae3218"), looks := false }, kinds := [], alts := [], laidByText := true, laidKinds := [.data, .data], laidTests := true, laidLooks := .later }
def ParityRecordsCardSaid : Prop := Claim7.holds Tryd.pinned (.plain (OpenSpec.ofChange parityRecordsSpec)) parityRecordsCard

/-- THE TIED CARD OF 'groynelaw03.ParityPrefixes'. -/
def parityPrefixesCard : Claim7 := { stood := { row := parityPrefixesRow, standIns := [], harness := (true, "9bdcda1f14acfe90053137c976802eb7548120fdca49c6f6b1473b9380ae3218"), looks := false }, kinds := [], alts := [], laidByText := true, laidKinds := [.data, .data], laidTests := true, laidLooks := .later }
def ParityPrefixesCardSaid : Prop := Claim7.holds Tryd.pinned (.plain (OpenSpec.ofChange parityPrefixesSpec)) parityPrefixesCard

/-- THE TIED CARD OF 'groynelaw03.ParityKeeps'. -/
def parityKeepsCard : Claim7 := { stood := { row := parityKeepsRow, standIns := [], harness := (true, "9bdcda1f14acfe90053137c976802eb7548120fdca49c6f6b1473b9380ae3218"), looks := false }, kinds := [], alts := [], laidByText := true, laidKinds := [.data, .data], laidTests := true, laidLooks := .later }
def ParityKeepsCardSaid : Prop := Claim7.holds Tryd.pinned (.plain (OpenSpec.ofChange parityKeepsSpec)) parityKeepsCard

/-- THE TIED CARD OF 'groynelaw03.ParityAdds'. -/
def parityAddsCard : Claim7 := { stood := { row := parityAddsRow, standIns := [], harness := (true, "9bdcda1f14acfe90053137c976802eb7548120fdca49c6f6b1473b9380ae3218"), looks := false }, kinds := [], alts := [], laidByText := true, laidKinds := [.data, .data], laidTests := true, laidLooks := .later }
def ParityAddsCardSaid : Prop := Claim7.holds Tryd.pinned (.plain (OpenSpec.ofChange parityAddsSpec)) parityAddsCard

/-- THE TIED CARD OF 'groynelaw03.ParityWraps'. -/
def parityWrapsCard : Claim7 := { stood := { row := parityWrapsRow, standIns := [], harness := (true, "9bdcda1f14acfe90053137c976802eb7548120fdca49c6f6b1473b9380ae3218"), looks := false }, kinds := [], alts := [], laidByText := true, laidKinds := [.data, .data], laidTests := true, laidLooks := .later }
def ParityWrapsCardSaid : Prop := Claim7.holds Tryd.pinned (.plain (OpenSpec.ofChange parityWrapsSpec)) parityWrapsCard

/-- THE SECOND FORM's CARD OF 'groynelaw03.ParityFields'. -/
def parityFieldsUptoCard : Claim7 := { stood := { row := parityFieldsUptoRow, standIns := [], harness := (true, "9bdcda1f14acfe90053137c976802eb7548120fdca49c6f6b1473b9380ae3218"), looks := false }, kinds := [], alts := [], laidByText := true, laidKinds := [.data, .data], laidTests := true, laidLooks := .later }
def ParityFieldsUptoCardSaid : Prop := Claim7.holds Tryd.pinned (.plain (OpenSpec.upto parityFieldsSpec)) parityFieldsUptoCard

/-- THE SECOND FORM's CARD OF 'groynelaw03.ParityPowers'. -/
def parityPowersUptoCard : Claim7 := { stood := { row := parityPowersUptoRow, standIns := [], harness := (true, "9bdcda1f14acfe90053137c976802eb7548120fdca49c6f6b1473b9380ae3218"), looks := false }, kinds := [], alts := [], laidByText := true, laidKinds := [.data, .data], laidTests := true, laidLooks := .later }
def ParityPowersUptoCardSaid : Prop := Claim7.holds Tryd.pinned (.plain (OpenSpec.upto parityPowersSpec)) parityPowersUptoCard

/-- THE SECOND FORM's CARD OF 'groynelaw03.ParityChecks'. -/
def parityChecksUptoCard : Claim7 := { stood := { row := parityChecksUptoRow, standIns := [], harness := (true, "9bdcda1f14acfe90053137c976802eb7548120fdca49c6f6b1473b9380ae3218"), looks := false }, kinds := [], alts := [], laidByText := true, laidKinds := [.data, .data], laidTests := true, laidLooks := .later }
def ParityChecksUptoCardSaid : Prop := Claim7.holds Tryd.pinned (.plain (OpenSpec.upto parityChecksSpec)) parityChecksUptoCard

/-- THE SECOND FORM's CARD OF 'groynelaw03.ParityTells'. -/
def parityTellsUptoCard : Claim7 := { stood := { row := parityTellsUptoRow, standIns := [], harness := (true, "9bdcda1f14acfe90053137c976802eb7548120fdca49c6f6b1473b9380ae3218"), looks := false }, kinds := [], alts := [], laidByText := true, laidKinds := [.data, .data], laidTests := true, laidLooks := .later }
def ParityTellsUptoCardSaid : Prop := Claim7.holds Tryd.pinned (.plain (OpenSpec.upto parityTellsSpec)) parityTellsUptoCard

/-- THE SECOND FORM's CARD OF 'groynelaw03.ParityRecords'. -/
def parityRecordsUptoCard : Claim7 := { stood := { row := parityRecordsUptoRow, standIns := [], harness := (true, "9bdcda1f14acfe90053137c976802eb7548120fdca49c6f6b1473b9380ae3218"), looks := false }, kinds := [], alts := [], laidByText := true, laidKinds := [.data, .data], laidTests := true, laidLooks := .later }
def ParityRecordsUptoCardSaid : Prop := Claim7.holds Tryd.pinned (.plain (OpenSpec.upto parityRecordsSpec)) parityRecordsUptoCard

/-- THE SECOND FORM's CARD OF 'groynelaw03.ParityPrefixes'. -/
def parityPrefixesUptoCard : Claim7 := { stood := { row := parityPrefixesUptoRow, standIns := [], harness := (true, "9bdcda1f14acfe90053137c976802eb7548120fdca49c6f6b1473b9380ae3218"), looks := false }, kinds := [], alts := [], laidByText := true, laidKinds := [.data, .data], laidTests := true, laidLooks := .later }
def ParityPrefixesUptoCardSaid : Prop := Claim7.holds Tryd.pinned (.plain (OpenSpec.upto parityPrefixesSpec)) parityPrefixesUptoCard

/-- THE SECOND FORM's CARD OF 'groynelaw03.ParityKeeps'. -/
def parityKeepsUptoCard : Claim7 := { stood := { row := parityKeepsUptoRow, standIns := [], harness := (true, "9bdcda1f14acfe90053137c976802eb7548120fdca49c6f6b1473b9380ae3218"), looks := false }, kinds := [], alts := [], laidByText := true, laidKinds := [.data, .data], laidTests := true, laidLooks := .later }
def ParityKeepsUptoCardSaid : Prop := Claim7.holds Tryd.pinned (.plain (OpenSpec.upto parityKeepsSpec)) parityKeepsUptoCard

/-- THE SECOND FORM's CARD OF 'groynelaw03.ParityAdds'. -/
def parityAddsUptoCard : Claim7 := { stood := { row := parityAddsUptoRow, standIns := [], harness := (true, "9bdcda1f14acfe90053137c976802eb7548120fdca49c6f6b1473b9380ae3218"), looks := false }, kinds := [], alts := [], laidByText := true, laidKinds := [.data, .data], laidTests := true, laidLooks := .later }
def ParityAddsUptoCardSaid : Prop := Claim7.holds Tryd.pinned (.plain (OpenSpec.upto parityAddsSpec)) parityAddsUptoCard

/-- THE SECOND FORM's CARD OF 'groynelaw03.ParityWraps'. -/
def parityWrapsUptoCard : Claim7 := { stood := { row := parityWrapsUptoRow, standIns := [], harness := (true, "9bdcda1f14acfe90053137c976802eb7548120fdca49c6f6b1473b9380ae3218"), looks := false }, kinds := [], alts := [], laidByText := true, laidKinds := [.data, .data], laidTests := true, laidLooks := .later }
def ParityWrapsUptoCardSaid : Prop := Claim7.holds Tryd.pinned (.plain (OpenSpec.upto parityWrapsSpec)) parityWrapsUptoCard
end Rows
end Go.Proofs.YtmckgdjipkkklaaDoor
