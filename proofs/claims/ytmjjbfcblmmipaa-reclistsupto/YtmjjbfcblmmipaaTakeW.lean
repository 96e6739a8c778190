/- pack.Take. -/
import Derived.Test.YtmjjbfcblmmipaaNumW
import Derived.Test.YtmjjbfcblmmipaaTk
namespace Go.Proofs.Ytmjjbfcblmmipaa
set_option linter.unusedVariables false
set_option linter.unusedSimpArgs false
open Go.RowKit

def Tk3 (t : Int × Int × Int) : Ending := .returned (.tuple #[.int .u64 t.1, .int .i64 t.2.1, .int .i64 t.2.2])

set_option maxHeartbeats 1000000 in
theorem take_any (A : Option Addr) (n c : Nat) (i : Int) (xs : List Int) (w : World) (hx : Bs w A n xs) (hn : n ≤ 9223372036854775000) :
    Calls Try.prog 136 #[.slice A n c, .int .i64 i] w fun e w' => e = Tk3 (tk xs i) ∧ w = w' := by
  have HL := Lib.hid hx.len
  by_cases h1 : i < 0
  · have HT := Lib.hid (tk_arg (xs := xs) (i := i) (.inl h1))
    go_enter Try.func136, Try.ntmps136
    go_wp2
    go_ret3
    exact ⟨by rw [HT.out]; rfl, rfl⟩
  by_cases h2 : (n : Int) < i
  · have HT := Lib.hid (tk_arg (xs := xs) (i := i) (.inr (by rw [HL.out]; exact h2)))
    have h1' : 0 ≤ i := by omega
    clear h1
    go_enter Try.func136, Try.ntmps136
    go_wp2
    go_ret3
    exact ⟨by rw [HT.out]; rfl, rfl⟩
  obtain ⟨k, rfl⟩ := Int.eq_ofNat_of_zero_le (show 0 ≤ i by omega)
  have hkn : k ≤ n := by omega
  have HT := Lib.hid (tk_nat (xs := xs) (i := k) (by rw [HL.out]; exact hkn))
  clear h1 h2
  by_cases h3 : k = n
  · have HE := Lib.hid (tkN_end (xs := xs) (i := k) (by rw [HL.out]; exact h3))
    have h3' : ((k : Int) == (n : Int)) = true := by simp [h3]
    subst h3
    go_enter Try.func136, Try.ntmps136
    go_wp2
    go_ret3
    exact ⟨by rw [HT.out, HE.out]; rfl, rfl⟩
  have h3' : ((k : Int) == (n : Int)) = false := by simp; omega
  have hlt : k < n := by omega
  clear h3
  obtain ⟨b, off, x, rfl, hb, hx0, hx1, hc, HX⟩ := hx.at_ hlt
  by_cases h4 : x < 248
  · have HE := Lib.hid (tkN_small HX.out h4)
    have h4' : x ≤ 247 := by omega
    go_enter Try.func136, Try.ntmps136
    go_wp2
    go_ret3
    exact ⟨by rw [HT.out, HE.out]; rfl, rfl⟩
  have h4' : ¬ x ≤ 247 := by omega
  by_cases h5 : n < k + 1 + (x - 247).toNat
  · have HE := Lib.hid (tkN_short HX.out h4 (by rw [HL.out]; exact h5))
    have h5' : (n : Int) - ((k : Int) + 1) < x - 247 := by omega
    clear h4 h5
    go_enter Try.func136, Try.ntmps136
    go_wp2
    go_ret3
    exact ⟨by rw [HT.out, HE.out]; rfl, rfl⟩
  obtain ⟨d, hd⟩ : ∃ d : Nat, x = 247 + (d : Int) := ⟨(x - 247).toNat, by omega⟩
  have hd0 : (247 + (d : Int) - 247).toNat = d := by omega
  subst hd
  rw [hd0] at h5
  have hd1 : 1 ≤ d := by omega
  have hd8 : d ≤ 8 := by omega
  have HF := Lib.hid (fun hf => tkN_form (xs := xs) HX.out h4 (by rw [hd0, HL.out]; exact h5) hf)
  have HO := Lib.hid (fun hf => tkN_ok (xs := xs) HX.out h4 (by rw [hd0, HL.out]; exact h5) hf)
  rw [hd0] at HF HO
  have e5 : decide ((k : Int) < 0) = false := by simp
  have e6 : decide ((n : Int) < (k : Int)) = false := by simp; omega
  have hfit : k + 1 + d ≤ n := by omega
  have h5' : ¬ (n : Int) - ((k : Int) + 1) < (d : Int) := by omega
  clear h4 h5 hd0
  have hran : Ran (xs.drop (k + 1)) := hx.2.sub fun x hx => List.mem_of_mem_drop hx
  have HR := Lib.hid hran; clear hran
  have HLD := Lib.hid (show (xs.drop (k + 1)).length = n - (k + 1) by rw [List.length_drop, HL.out])
  go_enter Try.func136, Try.ntmps136
  go_wp2
  go_loop [10, 46] (fun v i => ∃ j : Nat, j ≤ d ∧ i = .int .i64 j ∧ v = .int .u64 (val ((xs.drop (k + 1)).take j))) (fun _ i => d - (intOf i).toNat)
  case atStart => exact ⟨0, Nat.zero_le _, rfl, rfl⟩
  case round =>
    obtain ⟨j, hj, rfl, rfl⟩ := hrel
    have hv := val_lt j ((xs.drop (k + 1)).take j) (HR.out.sub fun x hx => List.mem_of_mem_take hx) (by rw [List.length_take, HLD.out]; omega)
    by_cases hjd : j < d
    · have hp := pow256' j (by omega)
      have hv1 : val ((xs.drop (k + 1)).take j) < 72057594037927936 := by omega
      have hv0 := hv.1
      clear hv hp
      obtain ⟨b', off', y, hA, _, hy0, hy1, hcy, HY⟩ := hx.at_ (k := k + 1 + j) (by omega)
      obtain ⟨rfl, rfl⟩ : b' = b ∧ off' = off := by injection hA with hA; injection hA with h1 h2; exact ⟨h1.symm, h2.symm⟩
      have hts := take_snoc (l := xs.drop (k + 1)) (k := j) (x := y) (by rw [List.getElem?_drop]; exact HY.out)
      have HV := Lib.hid (show val ((xs.drop (k + 1)).take (j + 1)) = val ((xs.drop (k + 1)).take j) * 256 + y by rw [hts, val_snoc])
      clear hts hA
      have hor := or_u64 _ y hv0 hv1 hy0 hy1
      generalize val ((xs.drop (k + 1)).take j) = v at *
      go_wp2
      go_round
      case rel => exact ⟨j + 1, by omega, by go_num, by rw [HV.out]⟩
      case measure => simp [intOf]; omega
    · obtain rfl : j = d := by omega
      have hp := pow256 j (by omega)
      have hv1 : val ((xs.drop (k + 1)).take j) ≤ 18446744073709551615 := by omega
      have hv0 := hv.1
      clear hv hp
      generalize val ((xs.drop (k + 1)).take j) = v at *
      by_cases h6 : v < 248
      · have HE := Lib.hid (HF.out (.inl h6))
        have h6' : v ≤ 247 := by omega
        clear HF HO
        go_wp2
        go_ret3
        exact ⟨by rw [HT.out, HE.out]; rfl, rfl⟩
      have h6' : ¬ v ≤ 247 := by omega
      by_cases h7 : nb v < j
      · have HE := Lib.hid (HF.out (.inr h7))
        clear HF HO h6
        go_wp2_with (go_at_call 140; refine (digits_any v _ hv0 hv1).mono ?_; rintro e w' ⟨rfl, rfl⟩)
        go_ret3
        exact ⟨by rw [HT.out, HE.out]; rfl, rfl⟩
      · have HE := Lib.hid (HO.out (by omega))
        clear HF HO h6
        go_wp2_with (go_at_call 140; refine (digits_any v _ hv0 hv1).mono ?_; rintro e w' ⟨rfl, rfl⟩)
        go_ret3
        refine ⟨?_, rfl⟩
        rw [HT.out, HE.out]
        have e : (247 : Int) + (j : Int) - 247 = j := by omega
        rw [e]; rfl
end Go.Proofs.Ytmjjbfcblmmipaa
