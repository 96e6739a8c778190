/- Valid: the program's and the reference's. -/
import Derived.Test.YtdlbghjclcdfmaaDoorAwake
import Derived.Test.YtdlbghjclcdfmaaDoorRUnq
namespace Go.Proofs.YtdlbghjclcdfmaaDoor
set_option linter.unusedVariables false
set_option linter.unusedSimpArgs false
open Go.RowKit

/-- May it stand in a name? -/
def okc (c : Int) : Bool := lt c || dig c || c == 45
def vld : List Int → Bool
  | [] => false
  | c :: r => decide (r.length + 1 ≤ 16) && lt c && (c :: r).all okc
theorem all_snoc {l : List Int} {k : Nat} {x : Int} (hx : l[k]? = some x) (h : (l.take k).all okc = true) (ho : okc x = true) : (l.take (k + 1)).all okc = true := by
  obtain ⟨hk, rfl⟩ := List.getElem?_eq_some_iff.1 hx
  rw [List.take_succ_eq_append_getElem hk, List.all_append, h]
  simp [ho]
theorem all_bad {l : List Int} {k : Nat} {x : Int} (hx : l[k]? = some x) (ho : okc x = false) : l.all okc = false := by
  rw [List.all_eq_false]
  exact ⟨x, List.mem_of_getElem? hx, by simp [ho]⟩
theorem dg_dig (c : Int) : dg c = dig c := rfl

set_option maxRecDepth 100000 in
set_option maxHeartbeats 2000000 in
theorem valid_cons (c0 : Int) (r0 : List Int) (w : World) (hr : Ran (c0 :: r0)) (hn : r0.length + 1 ≤ 140737488355328) :
    Calls Tryd.prog 10 #[.string (strOfNums (c0 :: r0))] w fun e w' => e = .returned (.bool (vld (c0 :: r0))) ∧ w = w' := by
  obtain ⟨hc0, hc1⟩ := hr c0 (by simp)
  have hi0 : ∀ W, (Instr.index 9 (.string (strOfNums (c0 :: r0))) (.int .i64 0)).run Tryd.prog W = .ok (.int .u8 c0) W := str_index 9 Tryd.underlying9 _ 0 c0 rfl hc0 hc1
  have hsz0 : (strOfNums (c0 :: r0)).size = r0.length + 1 := by rw [strOfNums_size]; rfl
  have HIX := Lib.hid (fun (i : Nat) (x : Int) (hx : (c0 :: r0)[i]? = some x) (h0 : 0 ≤ x) (h1 : x ≤ 255) (W : World) => str_index (P := Tryd.prog) 9 Tryd.underlying9 (c0 :: r0) i x hx h0 h1 W)
  have HV := Lib.hid (show vld (c0 :: r0) = (decide (r0.length + 1 ≤ 16) && lt c0 && (c0 :: r0).all okc) from rfl)
  generalize strOfNums (c0 :: r0) = s at *
  have HLL := Lib.hid (show (c0 :: r0).length = r0.length + 1 from rfl)
  have HC0 := Lib.hid (show (c0 :: r0)[0]? = some c0 from rfl)
  have hpos : 0 < r0.length + 1 := by omega
  have HRR := Lib.hid hr; clear hr
  generalize vld (c0 :: r0) = res at *
  generalize c0 :: r0 = l0 at *
  generalize r0.length + 1 = NN at *
  have hne0 : ((NN : Int) == 0) = false := by simp; omega
  have hne1 : ¬ NN = 0 := by omega
  by_cases h16 : 16 < NN
  · have HF := Lib.hid (show res = false by rw [HV.out]; simp; omega)
    go_enter Tryd.func10, Tryd.ntmps10
    go_wp2
    go_ret
    exact ⟨ret_bool HF.out.symm, rfl⟩
  have h16' : NN ≤ 16 := by omega
  by_cases hl0 : lt c0 = true
  rotate_left
  · have hl0 : lt c0 = false := by simpa using hl0
    have HF := Lib.hid (show res = false by rw [HV.out, hl0]; simp)
    go_enter Tryd.func10, Tryd.ntmps10
    go_wp2_with fail
    refine (letter_any _ _).mono ?_
    rintro e w1 ⟨rfl, rfl⟩
    go_wp2
    go_ret
    exact ⟨ret_bool HF.out.symm, rfl⟩
  go_enter Tryd.func10, Tryd.ntmps10
  go_wp2_with fail
  refine (letter_any _ _).mono ?_
  rintro e w1 ⟨rfl, rfl⟩
  go_wp2
  go_loopw [20] (fun iv wr => ∃ (k : Nat), iv = .int .i64 k ∧ k ≤ NN ∧ Hid ((l0.take k).all okc = true) ∧ wr = w) (fun i _ => NN - (intOf i).toNat)
  case atStart => exact ⟨0, rfl, by omega, rfl, rfl⟩
  case round =>
   obtain ⟨k, rfl, hk, HT, rfl⟩ := hrel
   by_cases hlt : k < NN
   · have hkl : k < l0.length := by rw [HLL.out]; exact hlt
     have hx := HRR.out l0[k] (List.getElem_mem hkl)
     have HX := Lib.hid (List.getElem?_eq_getElem hkl)
     have j0 := HIX.out k l0[k] HX.out hx.1 hx.2
     generalize l0[k] = x at *
     obtain ⟨hx0, hx1⟩ := hx
     clear hi0
     by_cases g1 : lt x = true
     · have HT2 := Lib.hid (all_snoc HX.out HT.out (by simp [okc, g1]))
       go_wp2_with fail
       refine (letter_any _ _).mono ?_
       rintro e w1 ⟨rfl, rfl⟩
       go_wp2
       go_roundw
       case rel => exact ⟨k + 1, by go_num, by omega, HT2, trivial⟩
       case measure => simp [intOf]; omega
     · have g1 : lt x = false := by simpa using g1
       by_cases g2 : dig x = true
       · have HT2 := Lib.hid (all_snoc HX.out HT.out (by simp [okc, g2]))
         go_wp2_with fail
         refine (letter_any _ _).mono ?_
         rintro e w1 ⟨rfl, rfl⟩
         go_wp2_with fail
         refine (isdig_any _ _).mono ?_
         rintro e w1 ⟨rfl, rfl⟩
         go_wp2
         go_roundw
         case rel => exact ⟨k + 1, by go_num, by omega, HT2, trivial⟩
         case measure => simp [intOf]; omega
       · have g2 : dig x = false := by simpa using g2
         by_cases g3 : x = 45
         · subst g3
           have HT2 := Lib.hid (all_snoc HX.out HT.out (by simp [okc]))
           go_wp2_with fail
           refine (letter_any _ _).mono ?_
           rintro e w1 ⟨rfl, rfl⟩
           go_wp2_with fail
           refine (isdig_any _ _).mono ?_
           rintro e w1 ⟨rfl, rfl⟩
           go_wp2
           go_roundw
           case rel => exact ⟨k + 1, by go_num, by omega, HT2, trivial⟩
           case measure => simp [intOf]; omega
         · have n1 : (x != 45) = true := by simpa using g3
           have n2 : (x == 45) = false := by simpa using g3
           have HF := Lib.hid (show res = false by rw [HV.out, all_bad HX.out (by simp [okc, g1, g2, n2])]; simp)
           go_wp2_with fail
           refine (letter_any _ _).mono ?_
           rintro e w1 ⟨rfl, rfl⟩
           go_wp2_with fail
           refine (isdig_any _ _).mono ?_
           rintro e w1 ⟨rfl, rfl⟩
           go_wp2
           go_ret
           exact ⟨ret_bool HF.out.symm, rfl⟩
   · have HF := Lib.hid (show res = true by
       have ht := HT.out
       rw [List.take_of_length_le (by rw [HLL.out]; omega)] at ht
       rw [HV.out, ht, hl0]; simp; omega)
     go_wp2
     go_ret
     exact ⟨ret_bool HF.out.symm, rfl⟩
theorem valid_any (l0 : List Int) (w : World) (hr : Ran l0) (hn : l0.length ≤ 140737488355328) :
    Calls Tryd.prog 10 #[.string (strOfNums l0)] w fun e w' => e = .returned (.bool (vld l0)) ∧ w = w' := by
  match l0, hr, hn with
  | [], hr, hn =>
    have hsz : (strOfNums []).size = 0 := by rw [strOfNums_size]; rfl
    generalize strOfNums [] = s at *
    go_enter Tryd.func10, Tryd.ntmps10
    go_wp2
    go_ret
    exact ⟨rfl, rfl⟩
  | c0 :: r0, hr, hn => exact valid_cons c0 r0 w hr hn
end Go.Proofs.YtdlbghjclcdfmaaDoor
