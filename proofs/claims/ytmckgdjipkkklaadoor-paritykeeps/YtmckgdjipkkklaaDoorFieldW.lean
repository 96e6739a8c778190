/- The field in the program: double, Mul, the reference's Mul, Pow. -/
import Derived.Test.YtmckgdjipkkklaaDoorMem
import Derived.Test.YtmckgdjipkkklaaDoorBt
import Derived.LoopN
import Derived.IntWalk
namespace Go.Proofs.YtmckgdjipkkklaaDoor
set_option linter.unusedVariables false
set_option linter.unusedSimpArgs false
open Go.RowKit

theorem int_u8 {a b : Int} (h : a = b) : Value.int .u8 a = .int .u8 b := by rw [h]
theorem int_i64 {a b : Int} (h : a = b) : Value.int .i64 a = .int .i64 b := by rw [h]
theorem int_u32 {a b : Int} (h : a = b) : Value.int .u32 a = .int .u32 b := by rw [h]

theorem double_any (a : Nat) (w : World) (ha : a < 256) : Calls Tryd.prog 37 #[.int .u8 (a : Int)] w fun e w' => e = .returned (.int .u8 (dbl a : Nat)) ∧ w = w' := by
  have hb := and128 a ha
  by_cases h : a < 128
  · rw [if_pos h] at hb
    have hw : IntKind.u8.wrap ((a : Int) * 2) = (a : Int) * 2 := by rw [IntKind.wrap_u8]; omega
    have HD := Lib.hid (show dbl a = 2 * a by simp [dbl, h])
    go_enter Tryd.func37, Tryd.ntmps37
    go_wp2
    go_ret
    exact ⟨ret_int (by rw [HD.out]; omega), rfl⟩
  · rw [if_neg h] at hb
    have hx : bits .xor .u8 ((a : Int) * 2 % 256) 29 = ((dbl a : Nat) : Int) := by
      have e : (a : Int) * 2 % 256 = ((2 * a - 256 : Nat) : Int) := by omega
      rw [e]
      have := xor_u8 (2 * a - 256) 29 (by omega) (by omega)
      rw [show (29 : Int) = ((29 : Nat) : Int) from rfl, this]
      simp [dbl, h]
    have HX := Lib.hid hx; clear hx
    go_enter Tryd.func37, Tryd.ntmps37
    go_wp2
    go_ret
    exact ⟨ret_int HX.out, rfl⟩

theorem mul_any (a b : Nat) (w : World) (ha : a < 256) (hb : b < 256) : Calls Tryd.prog 13 #[.int .u8 (a : Int), .int .u8 (b : Int)] w fun e w' => e = .returned (.int .u8 (mul a b : Nat)) ∧ w = w' := by
  go_enter Tryd.func13, Tryd.ntmps13
  go_wp2
  go_loop [0, 1, 5] (fun s t u => ∃ x y p n : Nat, x < 256 ∧ y < 256 ∧ p < 256 ∧ s = .int .u8 x ∧ t = .int .u8 y ∧ u = .int .u8 p ∧ Hid (y < 2 ^ n ∧ p ^^^ mulF n x y = mul a b)) (fun _ t _ => (intOf t).toNat)
  case atStart => exact ⟨a, b, 0, 8, ha, hb, by omega, rfl, rfl, rfl, hb, Nat.zero_xor _⟩
  case round =>
    obtain ⟨x, y, p, n, hx, hy, hp, rfl, rfl, rfl, HR⟩ := hrel
    by_cases h0 : y = 0
    · subst h0
      have HE := Lib.hid (show p = mul a b by have := HR.out.2; rwa [mulF_zero_right, Nat.xor_zero] at this)
      clear HR
      go_wp2
      go_ret
      exact ⟨ret_int (by rw [HE.out]), rfl⟩
    · have hne : ((y : Int) != 0) = true := by simpa using h0
      have hpos : 0 < y := by omega
      have hand := and_one_u8 y hy
      have hxor := xor_u8 p x hp hx
      obtain ⟨m, rfl⟩ : ∃ m, n = m + 1 := by
        cases n with
        | zero => have := HR.out.1; simp at this; omega
        | succ m => exact ⟨m, rfl⟩
      have HM := Lib.hid (show y / 2 < 2 ^ m by have := HR.out.1; rw [Nat.pow_succ] at this; omega)
      have hdx := dbl_lt hx
      rcases Nat.mod_two_eq_zero_or_one y with hm | hm
      · have HS := Lib.hid (show p ^^^ mulF m (dbl x) (y / 2) = mul a b by have := HR.out.2; simp only [mulF, hm] at this; simpa using this)
        rw [hm] at hand
        clear HR h0 hm
        go_wp2_with (go_at_call 37; refine (double_any x _ hx).mono ?_; rintro e w' ⟨rfl, rfl⟩)
        go_round
        case rel => exact ⟨dbl x, y / 2, p, m, hdx, by omega, hp, rfl, by go_num, rfl, HM.out, HS.out⟩
        case measure => simp [intOf]; omega
      · have HS := Lib.hid (show (p ^^^ x) ^^^ mulF m (dbl x) (y / 2) = mul a b by have := HR.out.2; simp only [mulF, hm] at this; rw [Nat.xor_assoc]; simpa using this)
        rw [hm] at hand
        have hpx := xor_lt p x hp hx
        clear HR h0 hm
        go_wp2_with (go_at_call 37; refine (double_any x _ hx).mono ?_; rintro e w' ⟨rfl, rfl⟩)
        go_round
        case rel => exact ⟨dbl x, y / 2, p ^^^ x, m, hdx, by omega, hpx, rfl, by go_num, rfl, HM.out, HS.out⟩
        case measure => simp [intOf]; omega
end Go.Proofs.YtmckgdjipkkklaaDoor
