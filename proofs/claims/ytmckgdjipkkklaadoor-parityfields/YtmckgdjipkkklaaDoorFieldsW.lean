/- ParityFields and ParityPowers: the walks. -/
import Derived.Test.YtmckgdjipkkklaaDoorAwake
import Derived.Test.YtmckgdjipkkklaaDoorRMulW
namespace Go.Proofs.YtmckgdjipkkklaaDoor
set_option linter.unusedVariables false
set_option linter.unusedSimpArgs false
open Go.RowKit

set_option maxHeartbeats 1000000 in
theorem fields_walk (a b c : Nat) (ha : a < 256) (hb : b < 256) (hc : c < 256) (w : World) (ht : Tabs w) :
    Calls Tryd.prog 3 #[.int .u8 (a : Int), .int .u8 (b : Int), .int .u8 (c : Int)] w fun e w' => e = .returned (.bool true) ∧ Below w.heap.size w w' := by
  have hp := mul_lt b ha
  have hac := mul_lt c ha
  have hbc := mul_lt c hb
  have hx1 := xor_u8 b c hb hc
  have hx2 := xor_u8 (mul a b) (mul a c) hp hac
  have HD := Lib.hid (mul_xor_right a b c)
  have HC := Lib.hid (mul_comm hb ha)
  have HA := Lib.hid (mul_assoc ha hb hc)
  have HO := Lib.hid (mul_one ha)
  have hz : (((mul a b : Nat) : Int) == 0) = ((((a : Int) == 0)) || ((b : Int) == 0)) := by
    rw [Bool.eq_iff_iff]
    simp only [beq_iff_eq, Bool.or_eq_true, Int.natCast_eq_zero]
    constructor
    · exact mul_eq_zero ha hb
    · rintro (h | h)
      · rw [h]; exact mul_zero_left b
      · rw [h]; exact mul_zero_right a
  have HZ := Lib.hid hz; clear hz
  go_enter Tryd.func3, Tryd.ntmps3
  go_wp2_with fail
  refine (awake_any _ ht).mono ?_
  rintro e w1 ⟨rfl, hb1⟩
  go_wp2_with fail
  refine (mul_any a b _ ha hb).mono ?_
  rintro e w' ⟨rfl, rfl⟩
  go_wp2_with fail
  refine (rmul_any a b _ ha hb).mono ?_
  rintro e w' ⟨rfl, rfl⟩
  go_wp2_with fail
  refine (mul_any b a _ hb ha).mono ?_
  rintro e w' ⟨rfl, rfl⟩
  rw [HC.out]
  go_wp2_with fail
  refine (mul_any (mul a b) c _ hp hc).mono ?_
  rintro e w' ⟨rfl, rfl⟩
  rw [HA.out]
  go_wp2_with fail
  refine (mul_any b c _ hb hc).mono ?_
  rintro e w' ⟨rfl, rfl⟩
  go_wp2_with fail
  refine (mul_any a (mul b c) _ ha hbc).mono ?_
  rintro e w' ⟨rfl, rfl⟩
  go_wp2_with fail
  refine (mul_any a (b ^^^ c) _ ha (xor_lt _ _ hb hc)).mono ?_
  rintro e w' ⟨rfl, rfl⟩
  rw [HD.out]
  go_wp2_with fail
  refine (mul_any a c _ ha hc).mono ?_
  rintro e w' ⟨rfl, rfl⟩
  go_wp2_with fail
  refine (mul_any a 1 _ ha (by omega)).mono ?_
  rintro e w' ⟨rfl, rfl⟩
  rw [HO.out]
  have hz := HZ.out
  by_cases h0 : a = 0
  · have h1 : ((a : Int) == 0) = true := by simp [h0]
    rw [h1, Bool.true_or] at hz
    clear h0
    go_wp2
    go_ret
    exact ⟨rfl, hb1⟩
  · have h1 : ((a : Int) == 0) = false := by simpa using h0
    by_cases h2 : b = 0
    · have h3 : ((b : Int) == 0) = true := by simp [h2]
      rw [h1, h3, Bool.false_or] at hz
      clear h0 h2
      go_wp2
      go_ret
      exact ⟨rfl, hb1⟩
    · have h3 : ((b : Int) == 0) = false := by simpa using h2
      rw [h1, h3, Bool.false_or] at hz
      clear h0 h2
      go_wp2
      go_ret
      exact ⟨rfl, hb1⟩
end Go.Proofs.YtmckgdjipkkklaaDoor
