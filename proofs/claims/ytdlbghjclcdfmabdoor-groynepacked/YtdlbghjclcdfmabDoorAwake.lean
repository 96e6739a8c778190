/- The label laws' fixed fact. -/
import Derived.Test.YtdlbghjclcdfmabDoorQuoteW
import Derived.Test.YtdlbghjclcdfmabDoorShelf
import Derived.Shelf.Strings.SlTrimAscii
import Derived.Lib.ConvBytes
import Derived.LoopN
import Derived.Deep.QuietTactic
import Derived.BigQuiet
namespace Go.Proofs.YtdlbghjclcdfmabDoor
set_option linter.unusedVariables false
set_option linter.unusedSimpArgs false
open Go.RowKit

def lt (c : Int) : Bool := decide (97 ≤ c ∧ c ≤ 122)
def dig (c : Int) : Bool := decide (48 ≤ c ∧ c ≤ 57)
theorem letter_any (c : Int) (w : World) : Calls Tryd.prog 36 #[.int .u8 c] w fun e w' => e = .returned (.bool (lt c)) ∧ w = w' := by
  by_cases h1 : 97 ≤ c
  · by_cases h2 : c ≤ 122
    · have HR := Lib.hid (show lt c = true by simp [lt, h1, h2])
      go_enter Tryd.func36, Tryd.ntmps36
      go_wp2
      go_ret
      exact ⟨ret_bool HR.out.symm, rfl⟩
    · have HR := Lib.hid (show lt c = false by simp [lt]; omega)
      go_enter Tryd.func36, Tryd.ntmps36
      go_wp2
      go_ret
      exact ⟨ret_bool HR.out.symm, rfl⟩
  · have HR := Lib.hid (show lt c = false by simp [lt]; omega)
    go_enter Tryd.func36, Tryd.ntmps36
    go_wp2
    go_ret
    exact ⟨ret_bool HR.out.symm, rfl⟩
theorem isdig_any (c : Int) (w : World) : Calls Tryd.prog 37 #[.int .u8 c] w fun e w' => e = .returned (.bool (dig c)) ∧ w = w' := by
  by_cases h1 : 48 ≤ c
  · by_cases h2 : c ≤ 57
    · have HR := Lib.hid (show dig c = true by simp [dig, h1, h2])
      go_enter Tryd.func37, Tryd.ntmps37
      go_wp2
      go_ret
      exact ⟨ret_bool HR.out.symm, rfl⟩
    · have HR := Lib.hid (show dig c = false by simp [dig]; omega)
      go_enter Tryd.func37, Tryd.ntmps37
      go_wp2
      go_ret
      exact ⟨ret_bool HR.out.symm, rfl⟩
  · have HR := Lib.hid (show dig c = false by simp [dig]; omega)
    go_enter Tryd.func37, Tryd.ntmps37
    go_wp2
    go_ret
    exact ⟨ret_bool HR.out.symm, rfl⟩

set_option maxRecDepth 100000 in
set_option maxHeartbeats 2000000 in
/-- Valid: a name. -/
theorem valid_yes (c0 : Int) (r0 : List Int) (w : World) (hr : Ran (c0 :: r0)) (h0 : lt c0 = true) (ha : ∀ x ∈ c0 :: r0, lt x = true ∨ dig x = true ∨ x = 45) (hn : r0.length + 1 ≤ 16) :
    Calls Tryd.prog 23 #[.string (strOfNums (c0 :: r0))] w fun e w' => e = .returned (.bool true) ∧ w = w' := by
  obtain ⟨hc0, hc1⟩ := hr c0 (by simp)
  have hi0 : ∀ W, (Instr.index 9 (.string (strOfNums (c0 :: r0))) (.int .i64 0)).run Tryd.prog W = .ok (.int .u8 c0) W := str_index 9 Tryd.underlying9 _ 0 c0 rfl hc0 hc1
  have hsz0 : (strOfNums (c0 :: r0)).size = r0.length + 1 := by rw [strOfNums_size]; rfl
  have HIX := Lib.hid (fun (i : Nat) (x : Int) (hx : (c0 :: r0)[i]? = some x) (h0 : 0 ≤ x) (h1 : x ≤ 255) (W : World) => str_index (P := Tryd.prog) 9 Tryd.underlying9 (c0 :: r0) i x hx h0 h1 W)
  generalize strOfNums (c0 :: r0) = s at *
  have HLL := Lib.hid (show (c0 :: r0).length = r0.length + 1 from rfl)
  have hpos : 0 < r0.length + 1 := by omega
  have HRR := Lib.hid hr; clear hr
  have HA := Lib.hid ha; clear ha
  generalize c0 :: r0 = l0 at *
  generalize r0.length + 1 = NN at *
  have hne0 : ((NN : Int) == 0) = false := by simp; omega
  have hne1 : ¬ NN = 0 := by omega
  go_enter Tryd.func23, Tryd.ntmps23
  go_wp2_with fail
  refine (letter_any _ _).mono ?_
  rintro e w1 ⟨rfl, rfl⟩
  go_wp2
  go_loopw [20] (fun iv wr => ∃ (k : Nat), iv = .int .i64 k ∧ k ≤ NN ∧ wr = w) (fun i _ => NN - (intOf i).toNat)
  case atStart => exact ⟨0, rfl, by omega, rfl⟩
  case round =>
    obtain ⟨k, rfl, hk, rfl⟩ := hrel
    by_cases hlt : k < NN
    · have hkl : k < l0.length := by rw [HLL.out]; exact hlt
      have hx := HRR.out l0[k] (List.getElem_mem hkl)
      have hax := HA.out l0[k] (List.getElem_mem hkl)
      have j0 := HIX.out k l0[k] (List.getElem?_eq_getElem hkl) hx.1 hx.2
      generalize l0[k] = x at *
      obtain ⟨hx0, hx1⟩ := hx
      clear hi0
      by_cases g1 : lt x = true
      · clear hax
        go_wp2_with fail
        refine (letter_any _ _).mono ?_
        rintro e w1 ⟨rfl, rfl⟩
        go_wp2
        go_roundw
        case rel => exact ⟨k + 1, by go_num, by omega, trivial⟩
        case measure => simp [intOf]; omega
      · have g1 : lt x = false := by simpa using g1
        by_cases g2 : dig x = true
        · clear hax
          go_wp2_with fail
          refine (letter_any _ _).mono ?_
          rintro e w1 ⟨rfl, rfl⟩
          go_wp2_with fail
          refine (isdig_any _ _).mono ?_
          rintro e w1 ⟨rfl, rfl⟩
          go_wp2
          go_roundw
          case rel => exact ⟨k + 1, by go_num, by omega, trivial⟩
          case measure => simp [intOf]; omega
        · have g2 : dig x = false := by simpa using g2
          have g3 : x = 45 := by
            rcases hax with h | h | h
            · rw [g1] at h; cases h
            · rw [g2] at h; cases h
            · exact h
          subst g3
          clear hax
          go_wp2_with fail
          refine (letter_any _ _).mono ?_
          rintro e w1 ⟨rfl, rfl⟩
          go_wp2_with fail
          refine (isdig_any _ _).mono ?_
          rintro e w1 ⟨rfl, rfl⟩
          go_wp2
          go_roundw
          case rel => exact ⟨k + 1, by go_num, by omega, trivial⟩
          case measure => simp [intOf]; omega
    · go_wp2
      go_ret
      exact ⟨rfl, rfl⟩
end Go.Proofs.YtdlbghjclcdfmabDoor
