/- LabelNames: the walk. -/
import Derived.Test.YtdlbghjclcdfmaaDoorRNextW
import Derived.Test.YtdlbghjclcdfmaaDoorAwake3
namespace Go.Proofs.YtdlbghjclcdfmaaDoor
set_option linter.unusedVariables false
set_option linter.unusedSimpArgs false
open Go.RowKit

set_option maxRecDepth 100000 in
set_option maxHeartbeats 2000000 in
theorem names_walk (l : List Int) (w : World) (hr : Ran l) (hn : l.length ≤ 140737488355328) :
    Calls Tryd.prog 3 #[.string (strOfNums l)] w fun e w' => e = .returned (.bool true) ∧ Below w.heap.size w w' := by
  have HN := Lib.hid (fun W => next_any l W hr hn)
  have HV := Lib.hid (fun W => valid_any l W hr hn)
  have HRV := Lib.hid (fun W => rvalid_any l W hr hn)
  have HRN := Lib.hid (fun W => rnext_any l W hr hn)
  by_cases hok : nok l = true
  · have hvv : vld l = true ∧ vld (cand l) = true := by simpa [nok] using hok
    have hnx : nxt l = cand l := by unfold nxt; rw [if_pos hvv]
    have hc16 := vld_len hvv.2
    have HVC := Lib.hid (fun W => valid_any (cand l) W (cand_ran hr) (by omega))
    have HCM := Lib.hid (fun W => compare_any l (cand l) W hr (cand_ran hr) hn (by omega))
    obtain ⟨c, r, hcr, _⟩ := vld_ne hvv.2
    have hne : NE (strOfNums (cand l)) := str_ne (by rw [hcr]; simp)
    rw [hok, hnx] at HN
    rw [hnx] at HRN
    rw [hvv.2] at HVC
    rw [cand_lt] at HCM
    obtain ⟨n1, n2, n3, n4⟩ := hne
    generalize strOfNums (cand l) = SC at *
    generalize strOfNums l = S at *
    generalize vld l = vv at *
    clear hvv hnx hc16 hcr hok
    have hvq : (vv != vv) = false := by simp
    have hsq : (SC.toList == SC.toList) = true := by simp
    go_enter Tryd.func3, Tryd.ntmps3
    go_wp2_with fail
    refine (awake_any w).mono ?_
    rintro e w1 ⟨rfl, hb1⟩
    have hs1 := hb1.size
    go_wp2_with fail
    refine (HN.out _).mono ?_
    rintro e w2 ⟨rfl, hb2⟩
    have hb3 := hb1.trans (hb2.mono hs1)
    have hs3 := hb3.size
    clear hb1 hb2
    go_wp2_with fail
    refine (HV.out _).mono ?_
    rintro e w3 ⟨rfl, rfl⟩
    go_wp2_with fail
    refine (HRV.out _).mono ?_
    rintro e w3 ⟨rfl, rfl⟩
    go_wp2_with fail
    refine (HRN.out _).mono ?_
    rintro e w4 ⟨rfl, hb4⟩
    have hb5 := hb3.trans (hb4.mono hs3)
    clear hb3 hb4
    go_wp2_with fail
    refine (HVC.out _).mono ?_
    rintro e w5 ⟨rfl, rfl⟩
    go_wp2_with fail
    refine (HCM.out _).mono ?_
    rintro e w6 ⟨rfl, hd6⟩
    have hb6 := hb5.trans (hd6.below _)
    clear hb5 hd6
    go_wp2
    go_ret
    exact ⟨rfl, hb6⟩
  · have hok : nok l = false := by simpa using hok
    have hnx : nxt l = [] := by
      unfold nxt
      rw [if_neg]
      intro h
      simp [nok, h.1, h.2] at hok
    have e0 : strOfNums [] = ⟨#[]⟩ := rfl
    rw [hok, hnx, e0] at HN
    rw [hnx, e0] at HRN
    generalize strOfNums l = S at *
    generalize vld l = vv at *
    clear hnx e0 hok
    have hvq : (vv != vv) = false := by simp
    have hee : ((⟨#[]⟩ : ByteArray).toList == (⟨#[]⟩ : ByteArray).toList) = true := by simp
    go_enter Tryd.func3, Tryd.ntmps3
    go_wp2_with fail
    refine (awake_any w).mono ?_
    rintro e w1 ⟨rfl, hb1⟩
    have hs1 := hb1.size
    go_wp2_with fail
    refine (HN.out _).mono ?_
    rintro e w2 ⟨rfl, hb2⟩
    have hb3 := hb1.trans (hb2.mono hs1)
    have hs3 := hb3.size
    clear hb1 hb2
    go_wp2_with fail
    refine (HV.out _).mono ?_
    rintro e w3 ⟨rfl, rfl⟩
    go_wp2_with fail
    refine (HRV.out _).mono ?_
    rintro e w3 ⟨rfl, rfl⟩
    go_wp2_with fail
    refine (HRN.out _).mono ?_
    rintro e w4 ⟨rfl, hb4⟩
    have hb5 := hb3.trans (hb4.mono hs3)
    clear hb3 hb4
    go_wp2
    go_ret
    exact ⟨rfl, hb5⟩
end Go.Proofs.YtdlbghjclcdfmaaDoor
