/-
  NARROWER THAN 'FOR EVERY INPUT', by the rows' own cells (each row's printed sentence says how): ParityFields: laid · ParityPowers: laid · ParityChecks: laid · ParityTells: laid · ParityRecords: laid · ParityPrefixes: laid · ParityKeeps: laid · ParityAdds: laid · ParityWraps: laid.
  DERIVED. THE GIVEN ROWS OF THIS SEAT. 9 by the template 'for every input the law returns true; each argument reads behind the call as it read before'; 0 by the template 'total and deterministic' (their statements: YtmckgdjipkkklaaDoorTotals.lean).
  GIVEN WITH THE SEED: the statements are not yours to turn. If you find one false, say at which input.
  Laid BY PROGRAM, IN A SANDBOX (cutbox-rows.mjs): the forced cells as the released guide's own fill.sh prints them over the translation 95acf2458be09c28… (all of the seat's roots in one cut). By AI agents, Wed Nov 11 2026. No macro, syntax, notation, axiom, sorry.
-/
import Derived.Test.YtmckgdjipkkklaaDoorChecked
import GoSem.Claim
import GoSem.ClaimJoined
import GoSem.ClaimMapViews
import Derived.JoinedTies
import Derived.KernelRfl
namespace Go.Proofs.YtmckgdjipkkklaaDoor
/- THE CELL 'sum', in the pinned program and in every row, IS THE sha256 OF THE DUMP (.gsa) THAT YtmckgdjipkkklaaDoorProg.lean LOADS. Nothing in Lean hashes anything: it is a label: what it is worth is what the hold of that sum in a sandbox is worth. -/
noncomputable def Tryd.pinned : Pinned := { name := "ytmckgdjipkkklaadoor", sum := "95acf2458be09c28aee9a0be59e8dc16c4e67288266222fe479a4af5c47c1d14", checked := Tryd.checked }
namespace Rows
def none {H : Type} : Left H := { results := [], args := [] }

/- WHAT THE LISTED PACKAGE-LEVEL VARIABLES READ AS WHEN THE CALL BEGINS. Each datum BY PROGRAM (the guide's laid-datum.mjs) off the statement by which the dump's own 'gosem.cut.vars' lays the variable. In a bare row this is a premise. The card (YtmckgdjipkkklaaDoorCards.lean) ties it to the program's text. -/
def laid_groyne_parity_lowProducts {H : Type} : DataW H := .agg [.lit (.int .u32 0), .lit (.int .u32 255227968), .lit (.int .u32 510455936), .lit (.int .u32 291145920), .lit (.int .u32 1020853533), .lit (.int .u32 871269725), .lit (.int .u32 582225309), .lit (.int .u32 763524573), .lit (.int .u32 2024662842), .lit (.int .u32 2006687610), .lit (.int .u32 1723930554), .lit (.int .u32 1777823738), .lit (.int .u32 1148525095), .lit (.int .u32 1262707303), .lit (.int .u32 1511647911), .lit (.int .u32 1429181159)]
def laid_groyne_parity_highProducts {H : Type} : DataW H := .agg [.lit (.int .u32 0), .lit (.int .u32 4031239028), .lit (.int .u32 4253989864), .lit (.int .u32 231303324), .lit (.int .u32 3875630029), .lit (.int .u32 390510777), .lit (.int .u32 445632549), .lit (.int .u32 3938976593), .lit (.int .u32 3540178567), .lit (.int .u32 591726067), .lit (.int .u32 780954991), .lit (.int .u32 3737894427), .lit (.int .u32 872660298), .lit (.int .u32 3292819006), .lit (.int .u32 3381462690), .lit (.int .u32 969594326)]

/-- 'groynelaw03.ParityFields': WHATEVER THE INPUT: true; the input reads as it did. -/
def parityFieldsSpec : ChangeSpec := { name := "parityFields", fn := fun _ => fun
  | [d1, d2, d3] => { results := [.lit (.bool true)], args := [d1, d2, d3] }
  | _ => none }
def parityFieldsRow : OpenClaim := { program := "ytmckgdjipkkklaadoor", sum := "95acf2458be09c28aee9a0be59e8dc16c4e67288266222fe479a4af5c47c1d14", func := "groyne/groynelaw03.ParityFields", spec := "parityFields", named := ["groyne/parity.lowProducts", "groyne/parity.highProducts"], apart := false, laid := [("groyne/parity.lowProducts", laid_groyne_parity_lowProducts), ("groyne/parity.highProducts", laid_groyne_parity_highProducts)] }
def ParityFieldsSaid : Prop := parityFieldsRow.holds Tryd.pinned (OpenSpec.ofChange parityFieldsSpec)

/-- ITS FALSE NEIGHBOUR: 'it returns false'. Refute it at one input. -/
def parityFieldsWrong : ChangeSpec := { name := "parityFields", fn := fun _ => fun
  | [d1, d2, d3] => { results := [.lit (.bool false)], args := [d1, d2, d3] }
  | _ => none }
def ParityFieldsWrongFalsely : Prop := parityFieldsRow.holds Tryd.pinned (OpenSpec.ofChange parityFieldsWrong)

/-- 'groynelaw03.ParityPowers': WHATEVER THE INPUT: true; the input reads as it did. -/
def parityPowersSpec : ChangeSpec := { name := "parityPowers", fn := fun _ => fun
  | [d1, d2] => { results := [.lit (.bool true)], args := [d1, d2] }
  | _ => none }
def parityPowersRow : OpenClaim := { program := "ytmckgdjipkkklaadoor", sum := "95acf2458be09c28aee9a0be59e8dc16c4e67288266222fe479a4af5c47c1d14", func := "groyne/groynelaw03.ParityPowers", spec := "parityPowers", named := ["groyne/parity.lowProducts", "groyne/parity.highProducts"], apart := false, laid := [("groyne/parity.lowProducts", laid_groyne_parity_lowProducts), ("groyne/parity.highProducts", laid_groyne_parity_highProducts)] }
def ParityPowersSaid : Prop := parityPowersRow.holds Tryd.pinned (OpenSpec.ofChange parityPowersSpec)

/-- ITS FALSE NEIGHBOUR: 'it returns false'. Refute it at one input. -/
def parityPowersWrong : ChangeSpec := { name := "parityPowers", fn := fun _ => fun
  | [d1, d2] => { results := [.lit (.bool false)], args := [d1, d2] }
  | _ => none }
def ParityPowersWrongFalsely : Prop := parityPowersRow.holds Tryd.pinned (OpenSpec.ofChange parityPowersWrong)

/-- 'groynelaw03.ParityChecks': WHATEVER THE INPUT: true; the input reads as it did. -/
def parityChecksSpec : ChangeSpec := { name := "parityChecks", fn := fun _ => fun
  | [d] => { results := [.lit (.bool true)], args := [d] }
  | _ => none }
def parityChecksRow : OpenClaim := { program := "ytmckgdjipkkklaadoor", sum := "95acf2458be09c28aee9a0be59e8dc16c4e67288266222fe479a4af5c47c1d14", func := "groyne/groynelaw03.ParityChecks", spec := "parityChecks", named := ["groyne/parity.lowProducts", "groyne/parity.highProducts"], apart := false, laid := [("groyne/parity.lowProducts", laid_groyne_parity_lowProducts), ("groyne/parity.highProducts", laid_groyne_parity_highProducts)] }
def ParityChecksSaid : Prop := parityChecksRow.holds Tryd.pinned (OpenSpec.ofChange parityChecksSpec)

/-- ITS FALSE NEIGHBOUR: 'it returns false'. Refute it at one input. -/
def parityChecksWrong : ChangeSpec := { name := "parityChecks", fn := fun _ => fun
  | [d] => { results := [.lit (.bool false)], args := [d] }
  | _ => none }
def ParityChecksWrongFalsely : Prop := parityChecksRow.holds Tryd.pinned (OpenSpec.ofChange parityChecksWrong)

/-- 'groynelaw03.ParityTells': WHATEVER THE INPUT: true; the input reads as it did. -/
def parityTellsSpec : ChangeSpec := { name := "parityTells", fn := fun _ => fun
  | [d1, d2] => { results := [.lit (.bool true)], args := [d1, d2] }
  | _ => none }
def parityTellsRow : OpenClaim := { program := "ytmckgdjipkkklaadoor", sum := "95acf2458be09c28aee9a0be59e8dc16c4e67288266222fe479a4af5c47c1d14", func := "groyne/groynelaw03.ParityTells", spec := "parityTells", named := ["groyne/parity.lowProducts", "groyne/parity.highProducts"], apart := false, laid := [("groyne/parity.lowProducts", laid_groyne_parity_lowProducts), ("groyne/parity.highProducts", laid_groyne_parity_highProducts)] }
def ParityTellsSaid : Prop := parityTellsRow.holds Tryd.pinned (OpenSpec.ofChange parityTellsSpec)

/-- ITS FALSE NEIGHBOUR: 'it returns false'. Refute it at one input. -/
def parityTellsWrong : ChangeSpec := { name := "parityTells", fn := fun _ => fun
  | [d1, d2] => { results := [.lit (.bool false)], args := [d1, d2] }
  | _ => none }
def ParityTellsWrongFalsely : Prop := parityTellsRow.holds Tryd.pinned (OpenSpec.ofChange parityTellsWrong)

/-- 'groynelaw03.ParityRecords': WHATEVER THE INPUT: true; the input reads as it did. -/
def parityRecordsSpec : ChangeSpec := { name := "parityRecords", fn := fun _ => fun
  | [d1, d2, d3] => { results := [.lit (.bool true)], args := [d1, d2, d3] }
  | _ => none }
def parityRecordsRow : OpenClaim := { program := "ytmckgdjipkkklaadoor", sum := "95acf2458be09c28aee9a0be59e8dc16c4e67288266222fe479a4af5c47c1d14", func := "groyne/groynelaw03.ParityRecords", spec := "parityRecords", named := ["groyne/parity.lowProducts", "groyne/parity.highProducts"], apart := false, laid := [("groyne/parity.lowProducts", laid_groyne_parity_lowProducts), ("groyne/parity.highProducts", laid_groyne_parity_highProducts)] }
def ParityRecordsSaid : Prop := parityRecordsRow.holds Tryd.pinned (OpenSpec.ofChange parityRecordsSpec)

/-- ITS FALSE NEIGHBOUR: 'it returns false'. Refute it at one input. -/
def parityRecordsWrong : ChangeSpec := { name := "parityRecords", fn := fun _ => fun
  | [d1, d2, d3] => { results := [.lit (.bool false)], args := [d1, d2, d3] }
  | _ => none }
def ParityRecordsWrongFalsely : Prop := parityRecordsRow.holds Tryd.pinned (OpenSpec.ofChange parityRecordsWrong)

/-- 'groynelaw03.ParityPrefixes': WHATEVER THE INPUT: true; the input reads as it did. -/
def parityPrefixesSpec : ChangeSpec := { name := "parityPrefixes", fn := fun _ => fun
  | [d1, d2] => { results := [.lit (.bool true)], args := [d1, d2] }
  | _ => none }
def parityPrefixesRow : OpenClaim := { program := "ytmckgdjipkkklaadoor", sum := "95acf2458be09c28aee9a0be59e8dc16c4e67288266222fe479a4af5c47c1d14", func := "groyne/groynelaw03.ParityPrefixes", spec := "parityPrefixes", named := ["groyne/parity.lowProducts", "groyne/parity.highProducts"], apart := false, laid := [("groyne/parity.lowProducts", laid_groyne_parity_lowProducts), ("groyne/parity.highProducts", laid_groyne_parity_highProducts)] }
def ParityPrefixesSaid : Prop := parityPrefixesRow.holds Tryd.pinned (OpenSpec.ofChange parityPrefixesSpec)

/-- ITS FALSE NEIGHBOUR: 'it returns false'. Refute it at one input. -/
def parityPrefixesWrong : ChangeSpec := { name := "parityPrefixes", fn := fun _ => fun
  | [d1, d2] => { results := [.lit (.bool false)], args := [d1, d2] }
  | _ => none }
def ParityPrefixesWrongFalsely : Prop := parityPrefixesRow.holds Tryd.pinned (OpenSpec.ofChange parityPrefixesWrong)

/-- 'groynelaw03.ParityKeeps': WHATEVER THE INPUT: true; the input reads as it did. -/
def parityKeepsSpec : ChangeSpec := { name := "parityKeeps", fn := fun _ => fun
  | [d] => { results := [.lit (.bool true)], args := [d] }
  | _ => none }
def parityKeepsRow : OpenClaim := { program := "ytmckgdjipkkklaadoor", sum := "95acf2458be09c28aee9a0be59e8dc16c4e67288266222fe479a4af5c47c1d14", func := "groyne/groynelaw03.ParityKeeps", spec := "parityKeeps", named := ["groyne/parity.lowProducts", "groyne/parity.highProducts"], apart := false, laid := [("groyne/parity.lowProducts", laid_groyne_parity_lowProducts), ("groyne/parity.highProducts", laid_groyne_parity_highProducts)] }
def ParityKeepsSaid : Prop := parityKeepsRow.holds Tryd.pinned (OpenSpec.ofChange parityKeepsSpec)

/-- ITS FALSE NEIGHBOUR: 'it returns false'. Refute it at one input. -/
def parityKeepsWrong : ChangeSpec := { name := "parityKeeps", fn := fun _ => fun
  | [d] => { results := [.lit (.bool false)], args := [d] }
  | _ => none }
def ParityKeepsWrongFalsely : Prop := parityKeepsRow.holds Tryd.pinned (OpenSpec.ofChange parityKeepsWrong)

/-- 'groynelaw03.ParityAdds': WHATEVER THE INPUT: true; the input reads as it did. -/
def parityAddsSpec : ChangeSpec := { name := "parityAdds", fn := fun _ => fun
  | [d1, d2, d3] => { results := [.lit (.bool true)], args := [d1, d2, d3] }
  | _ => none }
def parityAddsRow : OpenClaim := { program := "ytmckgdjipkkklaadoor", sum := "95acf2458be09c28aee9a0be59e8dc16c4e67288266222fe479a4af5c47c1d14", func := "groyne/groynelaw03.ParityAdds", spec := "parityAdds", named := ["groyne/parity.lowProducts", "groyne/parity.highProducts"], apart := false, laid := [("groyne/parity.lowProducts", laid_groyne_parity_lowProducts), ("groyne/parity.highProducts", laid_groyne_parity_highProducts)] }
def ParityAddsSaid : Prop := parityAddsRow.holds Tryd.pinned (OpenSpec.ofChange parityAddsSpec)

/-- ITS FALSE NEIGHBOUR: 'it returns false'. Refute it at one input. -/
def parityAddsWrong : ChangeSpec := { name := "parityAdds", fn := fun _ => fun
  | [d1, d2, d3] => { results := [.lit (.bool false)], args := [d1, d2, d3] }
  | _ => none }
def ParityAddsWrongFalsely : Prop := parityAddsRow.holds Tryd.pinned (OpenSpec.ofChange parityAddsWrong)

/-- 'groynelaw03.ParityWraps': WHATEVER THE INPUT: true; the input reads as it did. -/
def parityWrapsSpec : ChangeSpec := { name := "parityWraps", fn := fun _ => fun
  | [d1, d2] => { results := [.lit (.bool true)], args := [d1, d2] }
  | _ => none }
def parityWrapsRow : OpenClaim := { program := "ytmckgdjipkkklaadoor", sum := "95acf2458be09c28aee9a0be59e8dc16c4e67288266222fe479a4af5c47c1d14", func := "groyne/groynelaw03.ParityWraps", spec := "parityWraps", named := ["groyne/parity.lowProducts", "groyne/parity.highProducts"], apart := false, laid := [("groyne/parity.lowProducts", laid_groyne_parity_lowProducts), ("groyne/parity.highProducts", laid_groyne_parity_highProducts)] }
def ParityWrapsSaid : Prop := parityWrapsRow.holds Tryd.pinned (OpenSpec.ofChange parityWrapsSpec)

/-- ITS FALSE NEIGHBOUR: 'it returns false'. Refute it at one input. -/
def parityWrapsWrong : ChangeSpec := { name := "parityWraps", fn := fun _ => fun
  | [d1, d2] => { results := [.lit (.bool false)], args := [d1, d2] }
  | _ => none }
def ParityWrapsWrongFalsely : Prop := parityWrapsRow.holds Tryd.pinned (OpenSpec.ofChange parityWrapsWrong)

/- THE SECOND FORM. 'bulk': how many values and letters a reading holds, each counted each time it is reached (what is shared counts as often as it is met; a slice's spare places count too). A statement '..UptoSaid' is the law's where the arguments, and the package variables that the reading takes, are together of bulk at most 1048576: NARROWER than '..Said'. Prove '..Said' where nothing that the law and all that it calls make is longer than what came in: it says more and counts as full. Else prove '..UptoSaid'. A law counts once. -/
mutual
def uptoBulk {H : Type} : DataW H → Nat
  | .lit (.string bytes) => bytes.length + 1
  | .lit _ => 1
  | .nil => 1
  | .ptr d => uptoBulk d + 1
  | .slice elems spare => uptoBulkAll elems + uptoBulkAll spare + 1
  | .agg parts => uptoBulkAll parts + 1
  | .iface _ d => uptoBulk d + 1
  | .map entries => uptoBulkEntries entries + 1
  | .held _ => 1
def uptoBulkAll {H : Type} : List (DataW H) → Nat
  | [] => 0
  | d :: r => uptoBulk d + uptoBulkAll r
def uptoBulkEntries {H : Type} : List (Lit × DataW H) → Nat
  | [] => 0
  | x :: r => uptoBulkEntry x + uptoBulkEntries r
def uptoBulkEntry {H : Type} : Lit × DataW H → Nat
  | (.string bytes, d) => bytes.length + uptoBulk d + 1
  | (_, d) => uptoBulk d + 1
 end
def uptoSmall : (H : Type) → List (DataW H) → Bool := fun _ ds => decide (uptoBulkAll ds ≤ 1048576)
def OpenSpec.upto (s : _root_.Go.ChangeSpec) : _root_.Go.OpenSpec := { _root_.Go.OpenSpec.ofChange s with cond := some uptoSmall }

/-- 'groynelaw03.ParityFields', WHERE WHAT IT READS IS OF BULK AT MOST 1048576: true; the input reads as it did. -/
def parityFieldsUptoRow : OpenClaim := { program := "ytmckgdjipkkklaadoor", sum := "95acf2458be09c28aee9a0be59e8dc16c4e67288266222fe479a4af5c47c1d14", func := "groyne/groynelaw03.ParityFields", spec := "parityFields", named := ["groyne/parity.lowProducts", "groyne/parity.highProducts"], apart := false, laid := [("groyne/parity.lowProducts", laid_groyne_parity_lowProducts), ("groyne/parity.highProducts", laid_groyne_parity_highProducts)], narrowed := true }
def ParityFieldsUptoSaid : Prop := parityFieldsUptoRow.holds Tryd.pinned (OpenSpec.upto parityFieldsSpec)

/-- 'groynelaw03.ParityPowers', WHERE WHAT IT READS IS OF BULK AT MOST 1048576: true; the input reads as it did. -/
def parityPowersUptoRow : OpenClaim := { program := "ytmckgdjipkkklaadoor", sum := "95acf2458be09c28aee9a0be59e8dc16c4e67288266222fe479a4af5c47c1d14", func := "groyne/groynelaw03.ParityPowers", spec := "parityPowers", named := ["groyne/parity.lowProducts", "groyne/parity.highProducts"], apart := false, laid := [("groyne/parity.lowProducts", laid_groyne_parity_lowProducts), ("groyne/parity.highProducts", laid_groyne_parity_highProducts)], narrowed := true }
def ParityPowersUptoSaid : Prop := parityPowersUptoRow.holds Tryd.pinned (OpenSpec.upto parityPowersSpec)

/-- 'groynelaw03.ParityChecks', WHERE WHAT IT READS IS OF BULK AT MOST 1048576: true; the input reads as it did. -/
def parityChecksUptoRow : OpenClaim := { program := "ytmckgdjipkkklaadoor", sum := "95acf2458be09c28aee9a0be59e8dc16c4e67288266222fe479a4af5c47c1d14", func := "groyne/groynelaw03.ParityChecks", spec := "parityChecks", named := ["groyne/parity.lowProducts", "groyne/parity.highProducts"], apart := false, laid := [("groyne/parity.lowProducts", laid_groyne_parity_lowProducts), ("groyne/parity.highProducts", laid_groyne_parity_highProducts)], narrowed := true }
def ParityChecksUptoSaid : Prop := parityChecksUptoRow.holds Tryd.pinned (OpenSpec.upto parityChecksSpec)

/-- 'groynelaw03.ParityTells', WHERE WHAT IT READS IS OF BULK AT MOST 1048576: true; the input reads as it did. -/
def parityTellsUptoRow : OpenClaim := { program := "ytmckgdjipkkklaadoor", sum := "95acf2458be09c28aee9a0be59e8dc16c4e67288266222fe479a4af5c47c1d14", func := "groyne/groynelaw03.ParityTells", spec := "parityTells", named := ["groyne/parity.lowProducts", "groyne/parity.highProducts"], apart := false, laid := [("groyne/parity.lowProducts", laid_groyne_parity_lowProducts), ("groyne/parity.highProducts", laid_groyne_parity_highProducts)], narrowed := true }
def ParityTellsUptoSaid : Prop := parityTellsUptoRow.holds Tryd.pinned (OpenSpec.upto parityTellsSpec)

/-- 'groynelaw03.ParityRecords', WHERE WHAT IT READS IS OF BULK AT MOST 1048576: true; the input reads as it did. -/
def parityRecordsUptoRow : OpenClaim := { program := "ytmckgdjipkkklaadoor", sum := "95acf2458be09c28aee9a0be59e8dc16c4e67288266222fe479a4af5c47c1d14", func := "groyne/groynelaw03.ParityRecords", spec := "parityRecords", named := ["groyne/parity.lowProducts", "groyne/parity.highProducts"], apart := false, laid := [("groyne/parity.lowProducts", laid_groyne_parity_lowProducts), ("groyne/parity.highProducts", laid_groyne_parity_highProducts)], narrowed := true }
def ParityRecordsUptoSaid : Prop := parityRecordsUptoRow.holds Tryd.pinned (OpenSpec.upto parityRecordsSpec)

/-- 'groynelaw03.ParityPrefixes', WHERE WHAT IT READS IS OF BULK AT MOST 1048576: true; the input reads as it did. -/
def parityPrefixesUptoRow : OpenClaim := { program := "ytmckgdjipkkklaadoor", sum := "95acf2458be09c28aee9a0be59e8dc16c4e67288266222fe479a4af5c47c1d14", func := "groyne/groynelaw03.ParityPrefixes", spec := "parityPrefixes", named := ["groyne/parity.lowProducts", "groyne/parity.highProducts"], apart := false, laid := [("groyne/parity.lowProducts", laid_groyne_parity_lowProducts), ("groyne/parity.highProducts", laid_groyne_parity_highProducts)], narrowed := true }
def ParityPrefixesUptoSaid : Prop := parityPrefixesUptoRow.holds Tryd.pinned (OpenSpec.upto parityPrefixesSpec)

/-- 'groynelaw03.ParityKeeps', WHERE WHAT IT READS IS OF BULK AT MOST 1048576: true; the input reads as it did. -/
def parityKeepsUptoRow : OpenClaim := { program := "ytmckgdjipkkklaadoor", sum := "95acf2458be09c28aee9a0be59e8dc16c4e67288266222fe479a4af5c47c1d14", func := "groyne/groynelaw03.ParityKeeps", spec := "parityKeeps", named := ["groyne/parity.lowProducts", "groyne/parity.highProducts"], apart := false, laid := [("groyne/parity.lowProducts", laid_groyne_parity_lowProducts), ("groyne/parity.highProducts", laid_groyne_parity_highProducts)], narrowed := true }
def ParityKeepsUptoSaid : Prop := parityKeepsUptoRow.holds Tryd.pinned (OpenSpec.upto parityKeepsSpec)

/-- 'groynelaw03.ParityAdds', WHERE WHAT IT READS IS OF BULK AT MOST 1048576: true; the input reads as it did. -/
def parityAddsUptoRow : OpenClaim := { program := "ytmckgdjipkkklaadoor", sum := "95acf2458be09c28aee9a0be59e8dc16c4e67288266222fe479a4af5c47c1d14", func := "groyne/groynelaw03.ParityAdds", spec := "parityAdds", named := ["groyne/parity.lowProducts", "groyne/parity.highProducts"], apart := false, laid := [("groyne/parity.lowProducts", laid_groyne_parity_lowProducts), ("groyne/parity.highProducts", laid_groyne_parity_highProducts)], narrowed := true }
def ParityAddsUptoSaid : Prop := parityAddsUptoRow.holds Tryd.pinned (OpenSpec.upto parityAddsSpec)

/-- 'groynelaw03.ParityWraps', WHERE WHAT IT READS IS OF BULK AT MOST 1048576: true; the input reads as it did. -/
def parityWrapsUptoRow : OpenClaim := { program := "ytmckgdjipkkklaadoor", sum := "95acf2458be09c28aee9a0be59e8dc16c4e67288266222fe479a4af5c47c1d14", func := "groyne/groynelaw03.ParityWraps", spec := "parityWraps", named := ["groyne/parity.lowProducts", "groyne/parity.highProducts"], apart := false, laid := [("groyne/parity.lowProducts", laid_groyne_parity_lowProducts), ("groyne/parity.highProducts", laid_groyne_parity_highProducts)], narrowed := true }
def ParityWrapsUptoSaid : Prop := parityWrapsUptoRow.holds Tryd.pinned (OpenSpec.upto parityWrapsSpec)

end Rows
end Go.Proofs.YtmckgdjipkkklaaDoor
