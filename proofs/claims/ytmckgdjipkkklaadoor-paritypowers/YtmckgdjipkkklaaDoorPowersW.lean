/- ParityPowers: the walk. -/
import Derived.Test.YtmckgdjipkkklaaDoorAwake
import Derived.Test.YtmckgdjipkkklaaDoorRMulW
namespace Go.Proofs.YtmckgdjipkkklaaDoor
set_option linter.unusedVariables false
set_option linter.unusedSimpArgs false
open Go.RowKit

theorem tmod255 (n : Int) : (0 ≤ n → n.tmod 255 = n % 255) ∧ (n < 0 → n.tmod 255 = -((-n) % 255)) := by
  constructor
  · intro h; exact Int.tmod_eq_emod_of_nonneg h
  · intro h
    have := Int.neg_tmod (-n) 255
    rw [Int.neg_neg] at this
    rw [this, Int.tmod_eq_emod_of_nonneg (by omega)]
theorem pw_sum (r : Nat) (t : Int) (hr : r < 255) (h0 : -254 ≤ t) (h1 : t ≤ 254) : pw (rem255 ((r : Int) + t)) = mul (pw r) (pw (rem255 t)) := by
  rw [pw_add, ← pw_mod (r + rem255 t)]
  congr 1
  unfold rem255
  omega

set_option maxHeartbeats 1000000 in
theorem powers_walk (n m : Int) (hn0 : -9223372036854775808 ≤ n) (hn1 : n ≤ 9223372036854775807) (w : World) (ht : Tabs w) :
    Calls Tryd.prog 4 #[.int .i64 n, .int .i64 m] w fun e w' => e = .returned (.bool true) ∧ Below w.heap.size w w' := by
  obtain ⟨t, htm⟩ : ∃ t, m.tmod 255 = t := ⟨_, rfl⟩
  have htr : -254 ≤ t ∧ t ≤ 254 := by
    have := tmod255 m
    omega
  obtain ⟨r, hrn⟩ : ∃ r, rem255 n = r := ⟨_, rfl⟩
  have hr : r < 255 := by rw [← hrn]; exact rem255_lt n
  have hcase : (n.tmod 255 = (r : Int)) ∨ (n.tmod 255 = (r : Int) - 255 ∧ 0 < r) := by
    have := tmod255 n
    unfold rem255 at hrn
    omega
  have HF := Lib.hid (pw_sum r t hr htr.1 htr.2)
  have HR := Lib.hid hrn; clear hrn
  have hne : (((pw r : Nat) : Int) == 0) = false := by simpa using pw_ne_zero r
  obtain ⟨ht0, ht1⟩ := htr
  go_enter Tryd.func4, Tryd.ntmps4
  go_wp2_with fail
  refine (awake_any _ ht).mono ?_
  rintro e w1 ⟨rfl, hb1⟩
  go_wp2_with fail
  refine (pow_any n _ hn0 hn1).mono ?_
  rintro e w' ⟨rfl, rfl⟩
  rw [HR.out]
  rcases hcase with he | ⟨he, hpos⟩
  · have hd : decide ((r : Int) < 0) = false := by simp
    go_wp2
    clear he hd
    go_loop [6, 8] (fun s t => ∃ k : Nat, k ≤ r ∧ s = .int .u8 (pw k : Nat) ∧ t = .int .i64 k) (fun _ t => r - (intOf t).toNat)
    case atStart => exact ⟨0, by omega, rfl, rfl⟩
    case round =>
      obtain ⟨k, hk, rfl, rfl⟩ := hrel
      by_cases hlt : k < r
      · have H2 := Lib.hid (mul_two (pw_lt k))
        go_wp2_with fail
        refine (rmul_any (pw k) 2 _ (pw_lt k) (by omega)).mono ?_
        rintro e w' ⟨rfl, rfl⟩
        rw [H2.out]
        go_wp2
        go_round
        case rel => exact ⟨k + 1, by omega, rfl, by go_num⟩
        case measure => simp [intOf]; omega
      · obtain rfl : k = r := by omega
        go_wp2_with fail
        refine (pow_any t _ (by omega) (by omega)).mono ?_
        rintro e w' ⟨rfl, rfl⟩
        go_wp2_with fail
        refine (mul_any (pw k) (pw (rem255 t)) _ (pw_lt _) (pw_lt _)).mono ?_
        rintro e w' ⟨rfl, rfl⟩
        go_wp2_with fail
        refine (pow_any ((k : Int) + t) _ (by omega) (by omega)).mono ?_
        rintro e w' ⟨rfl, rfl⟩
        rw [HF.out]
        go_wp2
        go_ret
        exact ⟨rfl, hb1⟩
  · have hd : decide ((r : Int) - 255 < 0) = true := by simp; omega
    go_wp2
    clear he hd
    go_loop [6, 8] (fun s t => ∃ k : Nat, k ≤ r ∧ s = .int .u8 (pw k : Nat) ∧ t = .int .i64 k) (fun _ t => r - (intOf t).toNat)
    case atStart => exact ⟨0, by omega, rfl, rfl⟩
    case round =>
      obtain ⟨k, hk, rfl, rfl⟩ := hrel
      by_cases hlt : k < r
      · have H2 := Lib.hid (mul_two (pw_lt k))
        go_wp2_with fail
        refine (rmul_any (pw k) 2 _ (pw_lt k) (by omega)).mono ?_
        rintro e w' ⟨rfl, rfl⟩
        rw [H2.out]
        go_wp2
        go_round
        case rel => exact ⟨k + 1, by omega, rfl, by go_num⟩
        case measure => simp [intOf]; omega
      · obtain rfl : k = r := by omega
        go_wp2_with fail
        refine (pow_any t _ (by omega) (by omega)).mono ?_
        rintro e w' ⟨rfl, rfl⟩
        go_wp2_with fail
        refine (mul_any (pw k) (pw (rem255 t)) _ (pw_lt _) (pw_lt _)).mono ?_
        rintro e w' ⟨rfl, rfl⟩
        go_wp2_with fail
        refine (pow_any ((k : Int) + t) _ (by omega) (by omega)).mono ?_
        rintro e w' ⟨rfl, rfl⟩
        rw [HF.out]
        go_wp2
        go_ret
        exact ⟨rfl, hb1⟩
end Go.Proofs.YtmckgdjipkkklaaDoor
