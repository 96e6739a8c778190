/-
  No cell of these rows narrows 'for every input' (looked for: loops, veiled, ifaces, maps, wideKeys, modest, calm, conditions, laid).
  DERIVED. THE GIVEN ROWS OF THIS SEAT. 10 by the template 'for every input the law returns true; each argument reads behind the call as it read before'; 0 by the template 'total and deterministic' (their statements: YtmjjbfcblmmipaaTotals.lean).
  GIVEN WITH THE SEED: the statements are not yours to turn. If you find one false, say at which input.
  Laid BY PROGRAM, IN A SANDBOX (cutbox-rows.mjs): the forced cells as the released guide's own fill.sh prints them over the translation 15f112a8d25e84a5… (all of the seat's roots in one cut). By AI agents, Wed Nov 11 2026. No macro, syntax, notation, axiom, sorry.
-/
import Derived.Test.YtmjjbfcblmmipaaChecked
import GoSem.Claim
import GoSem.ClaimJoined
import GoSem.ClaimMapViews
import Derived.JoinedTies
import Derived.KernelRfl
namespace Go.Proofs.Ytmjjbfcblmmipaa
/- THE CELL 'sum', in the pinned program and in every row, IS THE sha256 OF THE DUMP (.gsa) THAT YtmjjbfcblmmipaaProg.lean LOADS. Nothing in Lean hashes anything: it is a label: what it is worth is what the hold of that sum in a sandbox is worth. -/
noncomputable def Try.pinned : Pinned := { name := "ytmjjbfcblmmipaa", sum := "15f112a8d25e84a5b29272fa00c69a0c3ba0041bec57b6a0e9b64832671e44ef", checked := Try.checked }
namespace Rows
def none {H : Type} : Left H := { results := [], args := [] }

/-- 'groynelaw06.RecBytes': WHATEVER THE INPUT: true; the input reads as it did. -/
def recBytesSpec : ChangeSpec := { name := "recBytes", fn := fun _ => fun
  | [d] => { results := [.lit (.bool true)], args := [d] }
  | _ => none }
def recBytesRow : OpenClaim := { program := "ytmjjbfcblmmipaa", sum := "15f112a8d25e84a5b29272fa00c69a0c3ba0041bec57b6a0e9b64832671e44ef", func := "groyne/groynelaw06.RecBytes", spec := "recBytes", unfollowed := true, recurses := true, plainKeys := false, apart := false }
def RecBytesSaid : Prop := recBytesRow.holds Try.pinned (OpenSpec.ofChange recBytesSpec)

/-- ITS FALSE NEIGHBOUR: 'it returns false'. Refute it at one input. -/
def recBytesWrong : ChangeSpec := { name := "recBytes", fn := fun _ => fun
  | [d] => { results := [.lit (.bool false)], args := [d] }
  | _ => none }
def RecBytesWrongFalsely : Prop := recBytesRow.holds Try.pinned (OpenSpec.ofChange recBytesWrong)

/-- 'groynelaw06.RecReads': WHATEVER THE INPUT: true; the input reads as it did. -/
def recReadsSpec : ChangeSpec := { name := "recReads", fn := fun _ => fun
  | [d] => { results := [.lit (.bool true)], args := [d] }
  | _ => none }
def recReadsRow : OpenClaim := { program := "ytmjjbfcblmmipaa", sum := "15f112a8d25e84a5b29272fa00c69a0c3ba0041bec57b6a0e9b64832671e44ef", func := "groyne/groynelaw06.RecReads", spec := "recReads", unfollowed := true, recurses := true, plainKeys := false, apart := false }
def RecReadsSaid : Prop := recReadsRow.holds Try.pinned (OpenSpec.ofChange recReadsSpec)

/-- ITS FALSE NEIGHBOUR: 'it returns false'. Refute it at one input. -/
def recReadsWrong : ChangeSpec := { name := "recReads", fn := fun _ => fun
  | [d] => { results := [.lit (.bool false)], args := [d] }
  | _ => none }
def RecReadsWrongFalsely : Prop := recReadsRow.holds Try.pinned (OpenSpec.ofChange recReadsWrong)

/-- 'groynelaw06.RecLists': WHATEVER THE INPUT: true; the input reads as it did. -/
def recListsSpec : ChangeSpec := { name := "recLists", fn := fun _ => fun
  | [d1, d2, d3] => { results := [.lit (.bool true)], args := [d1, d2, d3] }
  | _ => none }
def recListsRow : OpenClaim := { program := "ytmjjbfcblmmipaa", sum := "15f112a8d25e84a5b29272fa00c69a0c3ba0041bec57b6a0e9b64832671e44ef", func := "groyne/groynelaw06.RecLists", spec := "recLists", unfollowed := true, recurses := true, plainKeys := false, apart := false }
def RecListsSaid : Prop := recListsRow.holds Try.pinned (OpenSpec.ofChange recListsSpec)

/-- ITS FALSE NEIGHBOUR: 'it returns false'. Refute it at one input. -/
def recListsWrong : ChangeSpec := { name := "recLists", fn := fun _ => fun
  | [d1, d2, d3] => { results := [.lit (.bool false)], args := [d1, d2, d3] }
  | _ => none }
def RecListsWrongFalsely : Prop := recListsRow.holds Try.pinned (OpenSpec.ofChange recListsWrong)

/-- 'groynelaw06.RecKeeps': WHATEVER THE INPUT: true; the input reads as it did. -/
def recKeepsSpec : ChangeSpec := { name := "recKeeps", fn := fun _ => fun
  | [d1, d2] => { results := [.lit (.bool true)], args := [d1, d2] }
  | _ => none }
def recKeepsRow : OpenClaim := { program := "ytmjjbfcblmmipaa", sum := "15f112a8d25e84a5b29272fa00c69a0c3ba0041bec57b6a0e9b64832671e44ef", func := "groyne/groynelaw06.RecKeeps", spec := "recKeeps", unfollowed := true, recurses := true, plainKeys := false, apart := false }
def RecKeepsSaid : Prop := recKeepsRow.holds Try.pinned (OpenSpec.ofChange recKeepsSpec)

/-- ITS FALSE NEIGHBOUR: 'it returns false'. Refute it at one input. -/
def recKeepsWrong : ChangeSpec := { name := "recKeeps", fn := fun _ => fun
  | [d1, d2] => { results := [.lit (.bool false)], args := [d1, d2] }
  | _ => none }
def RecKeepsWrongFalsely : Prop := recKeepsRow.holds Try.pinned (OpenSpec.ofChange recKeepsWrong)

/-- 'groynelaw06.RecTwice': WHATEVER THE INPUT: true; the input reads as it did. -/
def recTwiceSpec : ChangeSpec := { name := "recTwice", fn := fun _ => fun
  | [d1, d2] => { results := [.lit (.bool true)], args := [d1, d2] }
  | _ => none }
def recTwiceRow : OpenClaim := { program := "ytmjjbfcblmmipaa", sum := "15f112a8d25e84a5b29272fa00c69a0c3ba0041bec57b6a0e9b64832671e44ef", func := "groyne/groynelaw06.RecTwice", spec := "recTwice", unfollowed := true, recurses := true, plainKeys := false, apart := false }
def RecTwiceSaid : Prop := recTwiceRow.holds Try.pinned (OpenSpec.ofChange recTwiceSpec)

/-- ITS FALSE NEIGHBOUR: 'it returns false'. Refute it at one input. -/
def recTwiceWrong : ChangeSpec := { name := "recTwice", fn := fun _ => fun
  | [d1, d2] => { results := [.lit (.bool false)], args := [d1, d2] }
  | _ => none }
def RecTwiceWrongFalsely : Prop := recTwiceRow.holds Try.pinned (OpenSpec.ofChange recTwiceWrong)

/-- 'groynelaw08.LeafPages': WHATEVER THE INPUT: true; the input reads as it did. -/
def leafPagesSpec : ChangeSpec := { name := "leafPages", fn := fun _ => fun
  | [d1, d2] => { results := [.lit (.bool true)], args := [d1, d2] }
  | _ => none }
def leafPagesRow : OpenClaim := { program := "ytmjjbfcblmmipaa", sum := "15f112a8d25e84a5b29272fa00c69a0c3ba0041bec57b6a0e9b64832671e44ef", func := "groyne/groynelaw08.LeafPages", spec := "leafPages", unfollowed := true, recurses := true, plainKeys := false, apart := false }
def LeafPagesSaid : Prop := leafPagesRow.holds Try.pinned (OpenSpec.ofChange leafPagesSpec)

/-- ITS FALSE NEIGHBOUR: 'it returns false'. Refute it at one input. -/
def leafPagesWrong : ChangeSpec := { name := "leafPages", fn := fun _ => fun
  | [d1, d2] => { results := [.lit (.bool false)], args := [d1, d2] }
  | _ => none }
def LeafPagesWrongFalsely : Prop := leafPagesRow.holds Try.pinned (OpenSpec.ofChange leafPagesWrong)

/-- 'groynelaw08.LeafFinds': WHATEVER THE INPUT: true; the input reads as it did. -/
def leafFindsSpec : ChangeSpec := { name := "leafFinds", fn := fun _ => fun
  | [d1, d2, d3] => { results := [.lit (.bool true)], args := [d1, d2, d3] }
  | _ => none }
def leafFindsRow : OpenClaim := { program := "ytmjjbfcblmmipaa", sum := "15f112a8d25e84a5b29272fa00c69a0c3ba0041bec57b6a0e9b64832671e44ef", func := "groyne/groynelaw08.LeafFinds", spec := "leafFinds", inPlace := ["slices.overlaps[[]byte]"], unfollowed := true, recurses := true, plainKeys := false, apart := false }
def LeafFindsSaid : Prop := leafFindsRow.holds Try.pinned (OpenSpec.ofChange leafFindsSpec)

/-- ITS FALSE NEIGHBOUR: 'it returns false'. Refute it at one input. -/
def leafFindsWrong : ChangeSpec := { name := "leafFinds", fn := fun _ => fun
  | [d1, d2, d3] => { results := [.lit (.bool false)], args := [d1, d2, d3] }
  | _ => none }
def LeafFindsWrongFalsely : Prop := leafFindsRow.holds Try.pinned (OpenSpec.ofChange leafFindsWrong)

/-- 'groynelaw08.LeafSplits': WHATEVER THE INPUT: true; the input reads as it did. -/
def leafSplitsSpec : ChangeSpec := { name := "leafSplits", fn := fun _ => fun
  | [d] => { results := [.lit (.bool true)], args := [d] }
  | _ => none }
def leafSplitsRow : OpenClaim := { program := "ytmjjbfcblmmipaa", sum := "15f112a8d25e84a5b29272fa00c69a0c3ba0041bec57b6a0e9b64832671e44ef", func := "groyne/groynelaw08.LeafSplits", spec := "leafSplits", unfollowed := true, recurses := true, plainKeys := false, apart := false }
def LeafSplitsSaid : Prop := leafSplitsRow.holds Try.pinned (OpenSpec.ofChange leafSplitsSpec)

/-- ITS FALSE NEIGHBOUR: 'it returns false'. Refute it at one input. -/
def leafSplitsWrong : ChangeSpec := { name := "leafSplits", fn := fun _ => fun
  | [d] => { results := [.lit (.bool false)], args := [d] }
  | _ => none }
def LeafSplitsWrongFalsely : Prop := leafSplitsRow.holds Try.pinned (OpenSpec.ofChange leafSplitsWrong)

/-- 'groynelaw08.LeafKeeps': WHATEVER THE INPUT: true; the input reads as it did. -/
def leafKeepsSpec : ChangeSpec := { name := "leafKeeps", fn := fun _ => fun
  | [d1, d2] => { results := [.lit (.bool true)], args := [d1, d2] }
  | _ => none }
def leafKeepsRow : OpenClaim := { program := "ytmjjbfcblmmipaa", sum := "15f112a8d25e84a5b29272fa00c69a0c3ba0041bec57b6a0e9b64832671e44ef", func := "groyne/groynelaw08.LeafKeeps", spec := "leafKeeps", inPlace := ["slices.overlaps[[]byte]"], unfollowed := true, recurses := true, plainKeys := false, apart := false }
def LeafKeepsSaid : Prop := leafKeepsRow.holds Try.pinned (OpenSpec.ofChange leafKeepsSpec)

/-- ITS FALSE NEIGHBOUR: 'it returns false'. Refute it at one input. -/
def leafKeepsWrong : ChangeSpec := { name := "leafKeeps", fn := fun _ => fun
  | [d1, d2] => { results := [.lit (.bool false)], args := [d1, d2] }
  | _ => none }
def LeafKeepsWrongFalsely : Prop := leafKeepsRow.holds Try.pinned (OpenSpec.ofChange leafKeepsWrong)

/-- 'groynelaw08.LeafBuilds': WHATEVER THE INPUT: true; the input reads as it did. -/
def leafBuildsSpec : ChangeSpec := { name := "leafBuilds", fn := fun _ => fun
  | [d1, d2] => { results := [.lit (.bool true)], args := [d1, d2] }
  | _ => none }
def leafBuildsRow : OpenClaim := { program := "ytmjjbfcblmmipaa", sum := "15f112a8d25e84a5b29272fa00c69a0c3ba0041bec57b6a0e9b64832671e44ef", func := "groyne/groynelaw08.LeafBuilds", spec := "leafBuilds", inPlace := ["slices.overlaps[[]byte]"], unfollowed := true, recurses := true, plainKeys := false, apart := false }
def LeafBuildsSaid : Prop := leafBuildsRow.holds Try.pinned (OpenSpec.ofChange leafBuildsSpec)

/-- ITS FALSE NEIGHBOUR: 'it returns false'. Refute it at one input. -/
def leafBuildsWrong : ChangeSpec := { name := "leafBuilds", fn := fun _ => fun
  | [d1, d2] => { results := [.lit (.bool false)], args := [d1, d2] }
  | _ => none }
def LeafBuildsWrongFalsely : Prop := leafBuildsRow.holds Try.pinned (OpenSpec.ofChange leafBuildsWrong)

/- THE SECOND FORM. 'bulk': how many values and letters a reading holds, each counted each time it is reached (what is shared counts as often as it is met; a slice's spare places count too). A statement '..UptoSaid' is the law's where the arguments, and the package variables that the reading takes, are together of bulk at most 1048576: NARROWER than '..Said'. Prove '..Said' where nothing that the law and all that it calls make is longer than what came in: it says more and counts as full. Else prove '..UptoSaid'. A law counts once. -/
mutual
def uptoBulk {H : Type} : DataW H → Nat
  | .lit (.string bytes) => bytes.length + 1
  | .lit _ => 1
  | .nil => 1
  | .ptr d => uptoBulk d + 1
  | .slice elems spare => uptoBulkAll elems + uptoBulkAll spare + 1
  | .agg parts => uptoBulkAll parts + 1
  | .iface _ d => uptoBulk d + 1
  | .map entries => uptoBulkEntries entries + 1
  | .held _ => 1
def uptoBulkAll {H : Type} : List (DataW H) → Nat
  | [] => 0
  | d :: r => uptoBulk d + uptoBulkAll r
def uptoBulkEntries {H : Type} : List (Lit × DataW H) → Nat
  | [] => 0
  | x :: r => uptoBulkEntry x + uptoBulkEntries r
def uptoBulkEntry {H : Type} : Lit × DataW H → Nat
  | (.string bytes, d) => bytes.length + uptoBulk d + 1
  | (_, d) => uptoBulk d + 1
 end
def uptoSmall : (H : Type) → List (DataW H) → Bool := fun _ ds => decide (uptoBulkAll ds ≤ 1048576)
def OpenSpec.upto (s : _root_.Go.ChangeSpec) : _root_.Go.OpenSpec := { _root_.Go.OpenSpec.ofChange s with cond := some uptoSmall }

/-- 'groynelaw06.RecBytes', WHERE WHAT IT READS IS OF BULK AT MOST 1048576: true; the input reads as it did. -/
def recBytesUptoRow : OpenClaim := { program := "ytmjjbfcblmmipaa", sum := "15f112a8d25e84a5b29272fa00c69a0c3ba0041bec57b6a0e9b64832671e44ef", func := "groyne/groynelaw06.RecBytes", spec := "recBytes", unfollowed := true, recurses := true, plainKeys := false, apart := false, narrowed := true }
def RecBytesUptoSaid : Prop := recBytesUptoRow.holds Try.pinned (OpenSpec.upto recBytesSpec)

/-- 'groynelaw06.RecReads', WHERE WHAT IT READS IS OF BULK AT MOST 1048576: true; the input reads as it did. -/
def recReadsUptoRow : OpenClaim := { program := "ytmjjbfcblmmipaa", sum := "15f112a8d25e84a5b29272fa00c69a0c3ba0041bec57b6a0e9b64832671e44ef", func := "groyne/groynelaw06.RecReads", spec := "recReads", unfollowed := true, recurses := true, plainKeys := false, apart := false, narrowed := true }
def RecReadsUptoSaid : Prop := recReadsUptoRow.holds Try.pinned (OpenSpec.upto recReadsSpec)

/-- 'groynelaw06.RecLists', WHERE WHAT IT READS IS OF BULK AT MOST 1048576: true; the input reads as it did. -/
def recListsUptoRow : OpenClaim := { program := "ytmjjbfcblmmipaa", sum := "15f112a8d25e84a5b29272fa00c69a0c3ba0041bec57b6a0e9b64832671e44ef", func := "groyne/groynelaw06.RecLists", spec := "recLists", unfollowed := true, recurses := true, plainKeys := false, apart := false, narrowed := true }
def RecListsUptoSaid : Prop := recListsUptoRow.holds Try.pinned (OpenSpec.upto recListsSpec)

/-- 'groynelaw06.RecKeeps', WHERE WHAT IT READS IS OF BULK AT MOST 1048576: true; the input reads as it did. -/
def recKeepsUptoRow : OpenClaim := { program := "ytmjjbfcblmmipaa", sum := "15f112a8d25e84a5b29272fa00c69a0c3ba0041bec57b6a0e9b64832671e44ef", func := "groyne/groynelaw06.RecKeeps", spec := "recKeeps", unfollowed := true, recurses := true, plainKeys := false, apart := false, narrowed := true }
def RecKeepsUptoSaid : Prop := recKeepsUptoRow.holds Try.pinned (OpenSpec.upto recKeepsSpec)

/-- 'groynelaw06.RecTwice', WHERE WHAT IT READS IS OF BULK AT MOST 1048576: true; the input reads as it did. -/
def recTwiceUptoRow : OpenClaim := { program := "ytmjjbfcblmmipaa", sum := "15f112a8d25e84a5b29272fa00c69a0c3ba0041bec57b6a0e9b64832671e44ef", func := "groyne/groynelaw06.RecTwice", spec := "recTwice", unfollowed := true, recurses := true, plainKeys := false, apart := false, narrowed := true }
def RecTwiceUptoSaid : Prop := recTwiceUptoRow.holds Try.pinned (OpenSpec.upto recTwiceSpec)

/-- 'groynelaw08.LeafPages', WHERE WHAT IT READS IS OF BULK AT MOST 1048576: true; the input reads as it did. -/
def leafPagesUptoRow : OpenClaim := { program := "ytmjjbfcblmmipaa", sum := "15f112a8d25e84a5b29272fa00c69a0c3ba0041bec57b6a0e9b64832671e44ef", func := "groyne/groynelaw08.LeafPages", spec := "leafPages", unfollowed := true, recurses := true, plainKeys := false, apart := false, narrowed := true }
def LeafPagesUptoSaid : Prop := leafPagesUptoRow.holds Try.pinned (OpenSpec.upto leafPagesSpec)

/-- 'groynelaw08.LeafFinds', WHERE WHAT IT READS IS OF BULK AT MOST 1048576: true; the input reads as it did. -/
def leafFindsUptoRow : OpenClaim := { program := "ytmjjbfcblmmipaa", sum := "15f112a8d25e84a5b29272fa00c69a0c3ba0041bec57b6a0e9b64832671e44ef", func := "groyne/groynelaw08.LeafFinds", spec := "leafFinds", inPlace := ["slices.overlaps[[]byte]"], unfollowed := true, recurses := true, plainKeys := false, apart := false, narrowed := true }
def LeafFindsUptoSaid : Prop := leafFindsUptoRow.holds Try.pinned (OpenSpec.upto leafFindsSpec)

/-- 'groynelaw08.LeafSplits', WHERE WHAT IT READS IS OF BULK AT MOST 1048576: true; the input reads as it did. -/
def leafSplitsUptoRow : OpenClaim := { program := "ytmjjbfcblmmipaa", sum := "15f112a8d25e84a5b29272fa00c69a0c3ba0041bec57b6a0e9b64832671e44ef", func := "groyne/groynelaw08.LeafSplits", spec := "leafSplits", unfollowed := true, recurses := true, plainKeys := false, apart := false, narrowed := true }
def LeafSplitsUptoSaid : Prop := leafSplitsUptoRow.holds Try.pinned (OpenSpec.upto leafSplitsSpec)

/-- 'groynelaw08.LeafKeeps', WHERE WHAT IT READS IS OF BULK AT MOST 1048576: true; the input reads as it did. -/
def leafKeepsUptoRow : OpenClaim := { program := "ytmjjbfcblmmipaa", sum := "15f112a8d25e84a5b29272fa00c69a0c3ba0041bec57b6a0e9b64832671e44ef", func := "groyne/groynelaw08.LeafKeeps", spec := "leafKeeps", inPlace := ["slices.overlaps[[]byte]"], unfollowed := true, recurses := true, plainKeys := false, apart := false, narrowed := true }
def LeafKeepsUptoSaid : Prop := leafKeepsUptoRow.holds Try.pinned (OpenSpec.upto leafKeepsSpec)

/-- 'groynelaw08.LeafBuilds', WHERE WHAT IT READS IS OF BULK AT MOST 1048576: true; the input reads as it did. -/
def leafBuildsUptoRow : OpenClaim := { program := "ytmjjbfcblmmipaa", sum := "15f112a8d25e84a5b29272fa00c69a0c3ba0041bec57b6a0e9b64832671e44ef", func := "groyne/groynelaw08.LeafBuilds", spec := "leafBuilds", inPlace := ["slices.overlaps[[]byte]"], unfollowed := true, recurses := true, plainKeys := false, apart := false, narrowed := true }
def LeafBuildsUptoSaid : Prop := leafBuildsUptoRow.holds Try.pinned (OpenSpec.upto leafBuildsSpec)

end Rows
end Go.Proofs.Ytmjjbfcblmmipaa
