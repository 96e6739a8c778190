/- LabelMatches: the walk. -/
import Derived.Test.YtdlbghjclcdfmaaDoorRMatchW
import Derived.Test.YtdlbghjclcdfmaaDoorAwake3
namespace Go.Proofs.YtdlbghjclcdfmaaDoor
set_option linter.unusedVariables false
set_option linter.unusedSimpArgs false
open Go.RowKit

theorem mt_all (s : List Int) : mt [42] s = true := mt_one s
set_option maxRecDepth 100000 in
set_option maxHeartbeats 2000000 in
theorem matches_walk (l0 l1 : List Int) (w : World) (hr0 : Ran l0) (hr1 : Ran l1) (hl0 : l0.length ≤ 140737488355328) (hl1 : l1.length ≤ 140737488355328) :
    Calls Tryd.prog 5 #[.string (strOfNums l0), .string (strOfNums l1)] w fun e w' => e = .returned (.bool true) ∧ Below w.heap.size w w' := by
  have hst : strOfNums [42] = ⟨#[42]⟩ := rfl
  have ha : Ran (l0.take 300) := hr0.sub fun y hy => List.mem_of_mem_take hy
  have hb : Ran (l1.take 300) := hr1.sub fun y hy => List.mem_of_mem_take hy
  have hla : (l0.take 300).length ≤ 300 := by rw [List.length_take]; omega
  have hlb : (l1.take 300).length ≤ 300 := by rw [List.length_take]; omega
  have hs : Ran [42] := fun x hx => by obtain rfl := List.mem_singleton.1 hx; omega
  have HM := Lib.hid (mt_all (l0.take 300))
  have HC0 := Lib.hid (fun W => cut_any l0 300 W hl0 (by omega))
  have HC1 := Lib.hid (fun W => cut_any l1 300 W hl1 (by omega))
  generalize l0.take 300 = a at *
  generalize l1.take 300 = b at *
  generalize strOfNums l0 = S0 at *
  generalize strOfNums l1 = S1 at *
  have HMA := Lib.hid (fun W => match_any a b W ha hb (by omega) (by omega))
  have HRM := Lib.hid (fun W => rmatch_any a b W ha hb (by omega) (by omega))
  have HMS : Hid (∀ W, Calls Tryd.prog 16 #[.string (strOfNums a), .string ⟨#[42]⟩] W fun e w' => e = .returned (.bool true) ∧ Dr W w') := fun W => by
    have := match_any a [42] W ha hs (by omega) (by simp)
    rw [HM.out, hst] at this
    exact this
  clear hst ha hb hla hlb hs HM
  generalize strOfNums a = SA at *
  generalize strOfNums b = SB at *
  generalize mt b a = R at *
  go_enter Tryd.func5, Tryd.ntmps5
  go_wp2_with fail
  refine (awake_any w).mono ?_
  rintro e w1 ⟨rfl, hb1⟩
  have hs1 := hb1.size
  go_wp2_with fail
  refine (HC0.out _).mono ?_
  rintro e w2 ⟨rfl, rfl⟩
  go_wp2_with fail
  refine (HC1.out _).mono ?_
  rintro e w2 ⟨rfl, rfl⟩
  go_wp2_with fail
  refine (HMA.out _).mono ?_
  rintro e w3 ⟨rfl, hd3⟩
  have hb3 := hb1.trans (hd3.below _)
  have hs3 := hb3.size
  clear hb1 hd3
  go_wp2_with fail
  refine (HRM.out _).mono ?_
  rintro e w4 ⟨rfl, hb4⟩
  have hb5 := hb3.trans (hb4.mono hs3)
  clear hb3 hb4
  have hRR : (R == R) = true := by simp
  go_wp2_with fail
  refine (HMS.out _).mono ?_
  rintro e w6 ⟨rfl, hd6⟩
  have hb6 := hb5.trans (hd6.below _)
  clear hb5 hd6
  go_wp2
  go_ret
  exact ⟨rfl, hb6⟩
end Go.Proofs.YtdlbghjclcdfmaaDoor
