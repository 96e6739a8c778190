/-
  DERIVED. GIVEN WITH THE SEED: THE CARDS: each row of YtlphlogliphhdaaDoorRows.lean that lists a variable, with what it lists TIED to the program's text (the seventh form; the later family's looks); each row that meets fmt, with fmt's text TOLD by the authors' own Lean function (tested against real Go, not proved from fmt's source: count such statements apart). THE CARD IS WHAT COUNTS. Prove the row's statement (the work); the ties are given (YtlphlogliphhdaaDoorTie.lean); close each card by the builder's one call (the guide's Derived/Test/ToyasCard.lean, 'card_holds'). Laid BY PROGRAM, IN A SANDBOX (cutbox-door.mjs). By AI agents, Wed Nov 11 2026. No macro, syntax, notation, axiom, sorry.
-/
import Derived.Test.YtlphlogliphhdaaDoorRows
import GoSem.ClaimSeven
namespace Go.Proofs.YtlphlogliphhdaaDoor
namespace Rows

/-- THE TIED CARD OF 'groynelaw10.VaultCalls'. -/
def vaultCallsCard : Claim7 := { stood := { row := vaultCallsRow, standIns := [], harness := (true, "b47b6b60434f3424c7eaef488b86887715635f4ee3bf7598755a3d6489c3aa13"), looks := true }, kinds := [], alts := [], laidByText := true, laidKinds := [.data, .data, .data], laidTests := true, laidLooks := .later }
def VaultCallsCardSaid : Prop := Claim7.holds Tryd.pinned (.plain (OpenSpec.ofChange vaultCallsSpec)) vaultCallsCard

/-- THE TIED CARD OF 'groynelaw10.VaultShelves'. -/
def vaultShelvesCard : Claim7 := { stood := { row := vaultShelvesRow, standIns := [], harness := (true, "b47b6b60434f3424c7eaef488b86887715635f4ee3bf7598755a3d6489c3aa13"), looks := true }, kinds := [], alts := [], laidByText := true, laidKinds := [.data, .data, .data], laidTests := true, laidLooks := .later }
def VaultShelvesCardSaid : Prop := Claim7.holds Tryd.pinned (.plain (OpenSpec.ofChange vaultShelvesSpec)) vaultShelvesCard

/-- THE TIED CARD OF 'groynelaw10.VaultNumbers'. -/
def vaultNumbersCard : Claim7 := { stood := { row := vaultNumbersRow, standIns := [], harness := (true, "b47b6b60434f3424c7eaef488b86887715635f4ee3bf7598755a3d6489c3aa13"), looks := true }, kinds := [], alts := [], laidByText := true, laidKinds := [.data, .data, .data, .sentinel, .sentinel], laidTests := true, laidLooks := .later }
def VaultNumbersCardSaid : Prop := Claim7.holds Tryd.pinned (.plain (OpenSpec.ofChange vaultNumbersSpec)) vaultNumbersCard

/-- THE TIED CARD OF 'groynelaw10.VaultKeeps'. -/
def vaultKeepsCard : Claim7 := { stood := { row := vaultKeepsRow, standIns := [], harness := (true, "b47b6b60434f3424c7eaef488b86887715635f4ee3bf7598755a3d6489c3aa13"), looks := true }, kinds := [], alts := [], laidByText := true, laidKinds := [.data, .data, .data], laidTests := true, laidLooks := .later }
def VaultKeepsCardSaid : Prop := Claim7.holds Tryd.pinned (.plain (OpenSpec.ofChange vaultKeepsSpec)) vaultKeepsCard

/-- THE SECOND FORM's CARD OF 'groynelaw10.VaultCalls'. -/
def vaultCallsUptoCard : Claim7 := { stood := { row := vaultCallsUptoRow, standIns := [], harness := (true, "b47b6b60434f3424c7eaef488b86887715635f4ee3bf7598755a3d6489c3aa13"), looks := true }, kinds := [], alts := [], laidByText := true, laidKinds := [.data, .data, .data], laidTests := true, laidLooks := .later }
def VaultCallsUptoCardSaid : Prop := Claim7.holds Tryd.pinned (.plain (OpenSpec.upto vaultCallsSpec)) vaultCallsUptoCard

/-- THE SECOND FORM's CARD OF 'groynelaw10.VaultShelves'. -/
def vaultShelvesUptoCard : Claim7 := { stood := { row := vaultShelvesUptoRow, standIns := [], harness := (true, "b47b6b60434f3424c7eaef488b86887715635f4ee3bf7598755a3d6489c3aa13"), looks := true }, kinds := [], alts := [], laidByText := true, laidKinds := [.data, .data, .data], laidTests := true, laidLooks := .later }
def VaultShelvesUptoCardSaid : Prop := Claim7.holds Tryd.pinned (.plain (OpenSpec.upto vaultShelvesSpec)) vaultShelvesUptoCard

/-- THE SECOND FORM's CARD OF 'groynelaw10.VaultNumbers'. -/
def vaultNumbersUptoCard : Claim7 := { stood := { row := vaultNumbersUptoRow, standIns := [], harness := (true, "b47b6b60434f3424c7eaef488b86887715635f4ee3bf7598755a3d6489c3aa13"), looks := true }, kinds := [], alts := [], laidByText := true, laidKinds := [.data, .data, .data, .sentinel, .sentinel], laidTests := true, laidLooks := .later }
def VaultNumbersUptoCardSaid : Prop := Claim7.holds Tryd.pinned (.plain (OpenSpec.upto vaultNumbersSpec)) vaultNumbersUptoCard

/-- THE SECOND FORM's CARD OF 'groynelaw10.VaultKeeps'. -/
def vaultKeepsUptoCard : Claim7 := { stood := { row := vaultKeepsUptoRow, standIns := [], harness := (true, "b47b6b60434f3424c7eaef488b86887715635f4ee3bf7598755a3d6489c3aa13"), looks := true }, kinds := [], alts := [], laidByText := true, laidKinds := [.data, .data, .data], laidTests := true, laidLooks := .later }
def VaultKeepsUptoCardSaid : Prop := Claim7.holds Tryd.pinned (.plain (OpenSpec.upto vaultKeepsSpec)) vaultKeepsUptoCard
end Rows
end Go.Proofs.YtlphlogliphhdaaDoor
