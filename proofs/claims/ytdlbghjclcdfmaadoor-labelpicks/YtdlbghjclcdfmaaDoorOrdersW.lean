/- LabelOrders: the walk. -/
import Derived.Test.YtdlbghjclcdfmaaDoorRComp2W
import Derived.Test.YtdlbghjclcdfmaaDoorAwake3
namespace Go.Proofs.YtdlbghjclcdfmaaDoor
set_option linter.unusedVariables false
set_option linter.unusedSimpArgs false
open Go.RowKit

theorem str_inj {a b : List Int} (ha : Ran a) (hb : Ran b) (h : (strOfNums a).toList = (strOfNums b).toList) : a = b := by
  rw [str_list, str_list] at h
  have h1 := compare_str a b ha hb
  rw [h] at h1
  have h2 := compare_str b b hb hb
  rw [cmpL_self] at h2
  exact cmpL_zero (h1.symm.trans h2)

set_option maxRecDepth 100000 in
set_option maxHeartbeats 2000000 in
theorem orders_walk (l0 l1 l2 : List Int) (w : World) (hr0 : Ran l0) (hr1 : Ran l1) (hr2 : Ran l2) (hl0 : l0.length ≤ 140737488355328) (hl1 : l1.length ≤ 140737488355328) (hl2 : l2.length ≤ 140737488355328) :
    Calls Tryd.prog 4 #[.string (strOfNums l0), .string (strOfNums l1), .string (strOfNums l2)] w fun e w' => e = .returned (.bool true) ∧ Below w.heap.size w w' := by
  have hra : Ran (l0.take 2000) := hr0.sub fun y hy => List.mem_of_mem_take hy
  have hrb : Ran (l1.take 2000) := hr1.sub fun y hy => List.mem_of_mem_take hy
  have hrc : Ran (l2.take 2000) := hr2.sub fun y hy => List.mem_of_mem_take hy
  have hla : (l0.take 2000).length ≤ 2000 := by rw [List.length_take]; omega
  have hlb : (l1.take 2000).length ≤ 2000 := by rw [List.length_take]; omega
  have hlc : (l2.take 2000).length ≤ 2000 := by rw [List.length_take]; omega
  have HC0 := Lib.hid (fun W => cut_any l0 2000 W hl0 (by omega))
  have HC1 := Lib.hid (fun W => cut_any l1 2000 W hl1 (by omega))
  have HC2 := Lib.hid (fun W => cut_any l2 2000 W hl2 (by omega))
  generalize l0.take 2000 = a at *
  generalize l1.take 2000 = b at *
  generalize l2.take 2000 = c at *
  generalize strOfNums l0 = S0 at *
  generalize strOfNums l1 = S1 at *
  generalize strOfNums l2 = S2 at *
  have HXY := Lib.hid (fun W => compare_any a b W hra hrb (by omega) (by omega))
  have HYZ := Lib.hid (fun W => compare_any b c W hrb hrc (by omega) (by omega))
  have HXZ := Lib.hid (fun W => compare_any a c W hra hrc (by omega) (by omega))
  have HYX := Lib.hid (fun W => compare_any b a W hrb hra (by omega) (by omega))
  have HXX := Lib.hid (fun W => compare_any a a W hra hra (by omega) (by omega))
  have HRX := Lib.hid (fun W => rcompare_any a b W hra hrb (by omega) (by omega))
  rw [cmpS_swap a b] at HYX
  rw [cmpS_self] at HXX
  have hxr := cmpS_range a b
  have hyr := cmpS_range b c
  have hzr := cmpS_range a c
  have HT := Lib.hid (fun h1 h2 => cmpS_trans (a := a) (b := b) (c := c) h1 h2)
  have HEQ : Hid (((strOfNums a).toList == (strOfNums b).toList) = decide (cmpS a b = 0)) := by
    show _ = _
    by_cases h : cmpS a b = 0
    · rw [cmpS_zero h]; simp [cmpS_self]
    · have : (strOfNums a).toList ≠ (strOfNums b).toList := fun e => h (by rw [str_inj hra hrb e, cmpS_self])
      rw [beq_eq_false_iff_ne.2 this]; simp [h]
  generalize strOfNums a = SA at *
  generalize strOfNums b = SB at *
  generalize strOfNums c = SC at *
  generalize cmpS a b = x at *
  generalize cmpS b c = y at *
  generalize cmpS a c = z at *
  obtain ⟨hx0, hx1⟩ := hxr
  obtain ⟨hy0, hy1⟩ := hyr
  obtain ⟨hz0, hz1⟩ := hzr
  clear hra hrb hrc hla hlb hlc
  go_enter Tryd.func4, Tryd.ntmps4
  go_wp2_with fail
  refine (awake_any w).mono ?_
  rintro e w1 ⟨rfl, hb1⟩
  go_wp2_with fail
  refine (HC0.out _).mono ?_
  rintro e w2 ⟨rfl, rfl⟩
  go_wp2_with fail
  refine (HC1.out _).mono ?_
  rintro e w2 ⟨rfl, rfl⟩
  go_wp2_with fail
  refine (HC2.out _).mono ?_
  rintro e w2 ⟨rfl, rfl⟩
  go_wp2_with fail
  refine (HXY.out _).mono ?_
  rintro e w2 ⟨rfl, hd2⟩
  replace hb1 := hb1.trans (hd2.below _)
  clear hd2
  go_wp2_with fail
  refine (HYZ.out _).mono ?_
  rintro e w3 ⟨rfl, hd2⟩
  replace hb1 := hb1.trans (hd2.below _)
  clear hd2
  go_wp2_with fail
  refine (HXZ.out _).mono ?_
  rintro e w4 ⟨rfl, hd2⟩
  replace hb1 := hb1.trans (hd2.below _)
  have hs1 := hb1.size
  clear hd2
  go_wp2_with fail
  refine (HRX.out _).mono ?_
  rintro e w5 ⟨rfl, hb5⟩
  replace hb1 := hb1.trans (hb5.mono hs1)
  clear hb5 hs1
  have hn1 : (x != x) = false := by simp
  have hn2 : (-x != -x) = false := by simp
  go_wp2_with fail
  refine (HYX.out _).mono ?_
  rintro e w6 ⟨rfl, hd2⟩
  replace hb1 := hb1.trans (hd2.below _)
  clear hd2
  go_wp2_with fail
  refine (HXX.out _).mono ?_
  rintro e w7 ⟨rfl, hd2⟩
  replace hb1 := hb1.trans (hd2.below _)
  clear hd2 hn1 hn2
  by_cases hx : x = 0
  · have heq : (SA.toList == SB.toList) = true := by rw [HEQ.out]; simp [hx]
    subst hx
    by_cases hy : 0 < y
    · go_wp2
      go_ret
      exact ⟨rfl, hb1⟩
    · have hz : z ≤ 0 := HT.out (by omega) (by omega)
      go_wp2
      go_ret
      exact ⟨rfl, hb1⟩
  · have heq : (SA.toList == SB.toList) = false := by rw [HEQ.out]; simp [hx]
    have hxe : (x == 0) = false := by simpa using hx
    by_cases hxp : 0 < x
    · clear hx
      go_wp2
      go_ret
      exact ⟨rfl, hb1⟩
    · have hxn : x < 0 := by omega
      by_cases hy : 0 < y
      · clear hx
        go_wp2
        go_ret
        exact ⟨rfl, hb1⟩
      · have hz : z ≤ 0 := HT.out (by omega) (by omega)
        clear hx
        go_wp2
        go_ret
        exact ⟨rfl, hb1⟩
end Go.Proofs.YtdlbghjclcdfmaaDoor
