/- The reference's Valid. -/
import Derived.Test.YtdlbghjclcdfmaaDoorValid
namespace Go.Proofs.YtdlbghjclcdfmaaDoor
set_option linter.unusedVariables false
set_option linter.unusedSimpArgs false
open Go.RowKit

theorem lt_yes {x : Int} (h : lt x = true) : 97 ≤ x ∧ x ≤ 122 := by simpa [lt] using h
theorem lt_no {x : Int} (h : lt x = false) : x < 97 ∨ (97 ≤ x ∧ 122 < x) := by simp [lt] at h; omega
set_option maxRecDepth 100000 in
set_option maxHeartbeats 4000000 in
theorem rvalid_cons (c0 : Int) (r0 : List Int) (w : World) (hr : Ran (c0 :: r0)) (hn : r0.length + 1 ≤ 140737488355328) :
    Calls Tryd.prog 11 #[.string (strOfNums (c0 :: r0))] w fun e w' => e = .returned (.bool (vld (c0 :: r0))) ∧ w = w' := by
  obtain ⟨hc0, hc1⟩ := hr c0 (by simp)
  have hi0 : ∀ W, (Instr.index 9 (.string (strOfNums (c0 :: r0))) (.int .i64 0)).run Tryd.prog W = .ok (.int .u8 c0) W := str_index 9 Tryd.underlying9 _ 0 c0 rfl hc0 hc1
  have hsz0 : (strOfNums (c0 :: r0)).size = r0.length + 1 := by rw [strOfNums_size]; rfl
  have HIX := Lib.hid (fun (i : Nat) (x : Int) (hx : (c0 :: r0)[i]? = some x) (h0 : 0 ≤ x) (h1 : x ≤ 255) (W : World) => str_index (P := Tryd.prog) 9 Tryd.underlying9 (c0 :: r0) i x hx h0 h1 W)
  have HV := Lib.hid (show vld (c0 :: r0) = (decide (r0.length + 1 ≤ 16) && lt c0 && (c0 :: r0).all okc) from rfl)
  generalize strOfNums (c0 :: r0) = s at *
  have HLL := Lib.hid (show (c0 :: r0).length = r0.length + 1 from rfl)
  have HC0 := Lib.hid (show (c0 :: r0)[0]? = some c0 from rfl)
  have hpos : 0 < r0.length + 1 := by omega
  have HRR := Lib.hid hr; clear hr
  generalize vld (c0 :: r0) = res at *
  generalize c0 :: r0 = l0 at *
  generalize r0.length + 1 = NN at *
  have hne0 : ((NN : Int) == 0) = false := by simp; omega
  have hne1 : ¬ NN = 0 := by omega
  clear hi0
  go_enter Tryd.func11, Tryd.ntmps11
  go_wp2
  go_loopw [3] (fun iv wr => ∃ (k : Nat), iv = .int .i64 k ∧ k ≤ NN ∧ Hid ((l0.take k).all okc = true) ∧ Hid (0 < k → lt c0 = true) ∧ wr = w) (fun i _ => NN - (intOf i).toNat)
  case atStart => exact ⟨0, rfl, by omega, rfl, fun h => absurd h (by omega), rfl⟩
  case round =>
   obtain ⟨k, rfl, hk, HT, HZ, rfl⟩ := hrel
   by_cases hlt : k < NN
   · have hkl : k < l0.length := by rw [HLL.out]; exact hlt
     have hx := HRR.out l0[k] (List.getElem_mem hkl)
     have HX := Lib.hid (List.getElem?_eq_getElem hkl)
     have j0 := HIX.out k l0[k] HX.out hx.1 hx.2
     generalize l0[k] = x at *
     obtain ⟨hx0, hx1⟩ := hx
     by_cases g1 : lt x = true
     · have HT2 := Lib.hid (all_snoc HX.out HT.out (by simp [okc, g1]))
       have HZ2 : Hid (0 < k + 1 → lt c0 = true) := fun _ => by
         by_cases hk0 : k = 0
         · subst hk0
           have e := HX.out
           rw [HC0.out] at e
           injection e with e
           rw [e]; exact g1
         · exact HZ.out (by omega)
       obtain ⟨a1, a2⟩ := lt_yes g1
       clear g1
       go_wp2
       go_roundw
       case rel => exact ⟨k + 1, by go_num, by omega, HT2, HZ2, trivial⟩
       case measure => simp [intOf]; omega
     · have g1 : lt x = false := by simpa using g1
       have ga := lt_no g1
       by_cases hk0 : k = 0
       · have hkk : ((k : Int) == 0) = true := by simp [hk0]
         have HF := Lib.hid (show res = false by
           subst hk0
           have e := HX.out
           rw [HC0.out] at e
           injection e with e
           rw [HV.out, e, g1]; simp)
         clear g1 hk0
         rcases ga with a1 | ⟨a1, a2⟩
         · have d1 : decide (97 ≤ x) = false := by simp; omega
           go_wp2
           go_ret
           exact ⟨ret_bool HF.out.symm, rfl⟩
         · have d2 : decide (x ≤ 122) = false := by simp; omega
           go_wp2
           go_ret
           exact ⟨ret_bool HF.out.symm, rfl⟩
       · have hkk : ((k : Int) == 0) = false := by simp; omega
         have HZ2 : Hid (0 < k + 1 → lt c0 = true) := fun _ => HZ.out (by omega)
         by_cases g2 : dig x = true
         · have HT2 := Lib.hid (all_snoc HX.out HT.out (by simp [okc, g2]))
           have g2' : dg x = true := g2
           clear g1 g2
           rcases ga with a1 | ⟨a1, a2⟩
           · have d1 : decide (97 ≤ x) = false := by simp; omega
             go_wp2_with fail
             refine (digit_any _ _).mono ?_
             rintro e w1 ⟨rfl, rfl⟩
             go_wp2
             go_roundw
             case rel => exact ⟨k + 1, by go_num, by omega, HT2, HZ2, trivial⟩
             case measure => simp [intOf]; omega
           · have d2 : decide (x ≤ 122) = false := by simp; omega
             go_wp2_with fail
             refine (digit_any _ _).mono ?_
             rintro e w1 ⟨rfl, rfl⟩
             go_wp2
             go_roundw
             case rel => exact ⟨k + 1, by go_num, by omega, HT2, HZ2, trivial⟩
             case measure => simp [intOf]; omega
         · have g2 : dig x = false := by simpa using g2
           have g2' : dg x = false := g2
           by_cases g3 : x = 45
           · subst g3
             have HT2 := Lib.hid (all_snoc HX.out HT.out (by simp [okc]))
             clear g1 g2
             rcases ga with a1 | ⟨a1, a2⟩
             · have d1 : decide ((97 : Int) ≤ 45) = false := by decide
               go_wp2_with fail
               refine (digit_any _ _).mono ?_
               rintro e w1 ⟨rfl, rfl⟩
               go_wp2
               go_roundw
               case rel => exact ⟨k + 1, by go_num, by omega, HT2, HZ2, trivial⟩
               case measure => simp [intOf]; omega
             · omega
           · have n1 : (x != 45) = true := by simpa using g3
             have n2 : (x == 45) = false := by simpa using g3
             have HF := Lib.hid (show res = false by rw [HV.out, all_bad HX.out (by simp [okc, g1, g2, n2])]; simp)
             clear g1 g2
             rcases ga with a1 | ⟨a1, a2⟩
             · have d1 : decide (97 ≤ x) = false := by simp; omega
               go_wp2_with fail
               refine (digit_any _ _).mono ?_
               rintro e w1 ⟨rfl, rfl⟩
               go_wp2
               go_ret
               exact ⟨ret_bool HF.out.symm, rfl⟩
             · have d2 : decide (x ≤ 122) = false := by simp; omega
               go_wp2_with fail
               refine (digit_any _ _).mono ?_
               rintro e w1 ⟨rfl, rfl⟩
               go_wp2
               go_ret
               exact ⟨ret_bool HF.out.symm, rfl⟩
   · have HT1 := HT.out
     rw [List.take_of_length_le (by rw [HLL.out]; omega)] at HT1
     have hz1 := HZ.out (by omega)
     by_cases h16 : NN ≤ 16
     · have HF := Lib.hid (show res = true by rw [HV.out, HT1, hz1]; simp; omega)
       clear HT1 hz1
       go_wp2
       go_ret
       exact ⟨ret_bool (by rw [HF.out]; simp; omega), rfl⟩
     · have HF := Lib.hid (show res = false by rw [HV.out]; simp; omega)
       clear HT1 hz1
       go_wp2
       go_ret
       exact ⟨ret_bool (by rw [HF.out]; simp; omega), rfl⟩
theorem rvalid_any (l0 : List Int) (w : World) (hr : Ran l0) (hn : l0.length ≤ 140737488355328) :
    Calls Tryd.prog 11 #[.string (strOfNums l0)] w fun e w' => e = .returned (.bool (vld l0)) ∧ w = w' := by
  match l0, hr, hn with
  | [], hr, hn =>
    have hsz : (strOfNums []).size = 0 := by rw [strOfNums_size]; rfl
    generalize strOfNums [] = s at *
    go_enter Tryd.func11, Tryd.ntmps11
    go_wp2
    refine wp_loop_rounds 1 ?_
    rw [rounds_succ]
    go_wp2
    go_ret
    exact ⟨rfl, rfl⟩
  | c0 :: r0, hr, hn => exact rvalid_cons c0 r0 w hr hn
end Go.Proofs.YtdlbghjclcdfmaaDoor
