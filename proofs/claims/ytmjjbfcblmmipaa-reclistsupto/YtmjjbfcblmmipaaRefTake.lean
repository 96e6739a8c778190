/- The reference's Take. -/
import Derived.Test.YtmjjbfcblmmipaaRefNum
import Derived.Test.YtmjjbfcblmmipaaTakeW
import Derived.Deep.RegionHeld3
namespace Go.Proofs.Ytmjjbfcblmmipaa
set_option linter.unusedVariables false
set_option linter.unusedSimpArgs false
open Go.RowKit

theorem rnumber_len (n : Int) (L : Nat) (hL : (num n).length = L) (w : World) (h0 : 0 ≤ n) (h1 : n ≤ 18446744073709551615) :
    Calls Try.prog 59 #[.int .u64 n] w fun e w' => ∃ A' c', e = .returned (.slice A' L c') ∧ Own w' w.heap.size 5 A' L c' (By (num n)) ∧ Below w.heap.size w w' :=
  (rnumber_any n w h0 h1).mono fun e w' ⟨A', c', n', he, hn, ho, hb⟩ => by
    have : n' = L := hn.trans hL
    subst this
    exact ⟨A', c', he, ho, hb⟩

theorem below_undrew {B : Nat} {a w : World} (h : Below B a.drew w) : Below B a w := ⟨h.os, h.tape, h.output, h.size, h.block⟩

set_option maxRecDepth 100000 in
set_option maxHeartbeats 1000000 in
theorem rtake_any (A : Option Addr) (n c : Nat) (i : Int) (xs : List Int) (w : World) (hx : Bs w A n xs) (hn : n ≤ 9223372036854775000) :
    Calls Try.prog 118 #[.slice A n c, .int .i64 i] w fun e w' => e = Tk3 (tk xs i) ∧ Below w.heap.size w w' := by
  have HL := Lib.hid hx.len
  by_cases h1 : i < 0
  · have HT := Lib.hid (tk_arg (xs := xs) (i := i) (.inl h1))
    go_enter Try.func118, Try.ntmps118
    go_wp2
    go_ret3
    exact ⟨by rw [HT.out]; rfl, Below.refl _ _⟩
  by_cases h2 : (n : Int) < i
  · have HT := Lib.hid (tk_arg (xs := xs) (i := i) (.inr (by rw [HL.out]; exact h2)))
    have h1' : 0 ≤ i := by omega
    clear h1
    go_enter Try.func118, Try.ntmps118
    go_wp2
    go_ret3
    exact ⟨by rw [HT.out]; rfl, Below.refl _ _⟩
  obtain ⟨k, rfl⟩ := Int.eq_ofNat_of_zero_le (show 0 ≤ i by omega)
  have hkn : k ≤ n := by omega
  have HT := Lib.hid (tk_nat (xs := xs) (i := k) (by rw [HL.out]; exact hkn))
  clear h1 h2
  by_cases h3 : k = n
  · have HE := Lib.hid (tkN_end (xs := xs) (i := k) (by rw [HL.out]; exact h3))
    have h3' : ((k : Int) == (n : Int)) = true := by simp [h3]
    subst h3
    go_enter Try.func118, Try.ntmps118
    go_wp2
    go_ret3
    exact ⟨by rw [HT.out, HE.out]; rfl, Below.refl _ _⟩
  have h3' : ((k : Int) == (n : Int)) = false := by simp; omega
  have hlt : k < n := by omega
  clear h3
  obtain ⟨b, off, x, rfl, hb, hx0, hx1, hc, HX⟩ := hx.at_ hlt
  by_cases h4 : x < 248
  · have HE := Lib.hid (tkN_small HX.out h4)
    go_enter Try.func118, Try.ntmps118
    go_wp2
    go_ret3
    exact ⟨by rw [HT.out, HE.out]; rfl, Below.refl _ _⟩
  obtain ⟨d, hd⟩ : ∃ d : Nat, x = 247 + (d : Int) := ⟨(x - 247).toNat, by omega⟩
  have hd0 : (247 + (d : Int) - 247).toNat = d := by omega
  subst hd
  have hd1 : 1 ≤ d := by omega
  have hd8 : d ≤ 8 := by omega
  have HS := Lib.hid (fun hs => tkN_short (xs := xs) HX.out h4 hs)
  have HF := Lib.hid (fun hs hf => tkN_form (xs := xs) HX.out h4 hs hf)
  have HO := Lib.hid (fun hs hf => tkN_ok (xs := xs) HX.out h4 hs hf)
  rw [hd0, HL.out] at HS HF HO
  have e5 : decide ((k : Int) < 0) = false := by simp
  have e6 : decide ((n : Int) < (k : Int)) = false := by simp; omega
  clear h4 hd0
  have hran : Ran (xs.drop (k + 1)) := hx.2.sub fun x hx => List.mem_of_mem_drop hx
  have HR := Lib.hid hran; clear hran
  have HLD := Lib.hid (show (xs.drop (k + 1)).length = n - (k + 1) by rw [List.length_drop, HL.out])
  go_enter Try.func118, Try.ntmps118
  go_wp2
  go_loop [7, 8] (fun v i => ∃ j : Nat, j ≤ d ∧ k + 1 + j ≤ n ∧ i = .int .i64 ((j : Int) + 1) ∧ v = .int .u64 (val ((xs.drop (k + 1)).take j))) (fun _ i => d + 1 - (intOf i).toNat)
  case atStart => exact ⟨0, Nat.zero_le _, by omega, rfl, rfl⟩
  case round =>
    obtain ⟨j, hj, hjn, rfl, rfl⟩ := hrel
    have hv := val_lt j ((xs.drop (k + 1)).take j) (HR.out.sub fun x hx => List.mem_of_mem_take hx) (by rw [List.length_take, HLD.out]; omega)
    by_cases hjd : j < d
    · by_cases hend : n ≤ k + 1 + j
      · have HE := Lib.hid (HS.out (by omega))
        have hend' : (n : Int) ≤ (k : Int) + ((j : Int) + 1) := by omega
        clear hv HF HO
        go_wp2
        go_ret3
        exact ⟨by rw [HT.out, HE.out]; rfl, Below.refl _ _⟩
      have hp := pow256' j (by omega)
      have hv1 : val ((xs.drop (k + 1)).take j) < 72057594037927936 := by omega
      have hv0 := hv.1
      clear hv hp
      obtain ⟨b', off', y, hA, _, hy0, hy1, hcy, HY⟩ := hx.at_ (k := k + 1 + j) (by omega)
      obtain ⟨rfl, rfl⟩ : b' = b ∧ off' = off := by injection hA with hA; injection hA with h1 h2; exact ⟨h1.symm, h2.symm⟩
      have hts := take_snoc (l := xs.drop (k + 1)) (k := j) (x := y) (by rw [List.getElem?_drop]; exact HY.out)
      have HV := Lib.hid (show val ((xs.drop (k + 1)).take (j + 1)) = val ((xs.drop (k + 1)).take j) * 256 + y by rw [hts, val_snoc])
      clear hts hA
      have hcy' : w.cell? ⟨b', off' + (k + (j + 1)), none⟩ = some (.int .u8 y) := by rw [show k + (j + 1) = k + 1 + j by omega]; exact hcy
      generalize val ((xs.drop (k + 1)).take j) = v at *
      have hend' : ¬ (n : Int) ≤ (k : Int) + ((j : Int) + 1) := by omega
      clear HF HO HS
      go_wp2
      go_round
      case rel => exact ⟨j + 1, by omega, by omega, by go_num, by rw [HV.out]⟩
      case measure => simp [intOf]; omega
    · obtain rfl : j = d := by omega
      have hp := pow256 j (by omega)
      have hv1 : val ((xs.drop (k + 1)).take j) ≤ 18446744073709551615 := by omega
      have hv0 := hv.1
      have hnb := nb_of_lt j _ (by omega) hv.2
      have HL2 := Lib.hid (num_length (val ((xs.drop (k + 1)).take j)))
      clear hv hp
      generalize val ((xs.drop (k + 1)).take j) = v at *
      by_cases h6 : v < 248 ∨ nb v < j
      · have HE := Lib.hid (HF.out (by omega) h6)
        have hne : ∀ L : Nat, (num v).length = L → ((L : Int) != (j : Int) + 1) = true := by
          intro L hL
          rw [HL2.out] at hL
          rw [bne_iff_ne]
          split at hL <;> omega
        obtain ⟨L, hL⟩ : ∃ L, (num v).length = L := ⟨_, rfl⟩
        have hneL := hne L hL
        have HLEN := Lib.hid hL
        clear HF HO HS hne hL h6
        have hw1 : IntKind.i64.wrap (247 + (j : Int)) = 247 + (j : Int) := by rw [IntKind.wrap_i64]; omega
        have hw2 : IntKind.i64.wrap (247 + (j : Int) - 246) = (j : Int) + 1 := by rw [IntKind.wrap_i64]; omega
        go_wp2
        go_region_held3 (fun w' => w'.cell? ⟨b, off + k, none⟩ = some (.int .u8 (247 + (j : Int)))) (first | assumption | (simp [*]; done))
          (first | (go_at_call 59; refine (rnumber_len v L HLEN.out _ hv0 hv1).mono ?_; rintro e w1 ⟨A1, c1, rfl, ho1, hb1⟩; have hc1 : w1.cell? ⟨b, off + k, none⟩ = some (.int .u8 (247 + (j : Int))) := (hb1.cell (p := ⟨b, off + k, none⟩) (by exact hb)).trans hc))
        go_wp2
        go_ret3
        refine ⟨?_, ?_⟩
        · rw [HT.out, HE.out]; rfl
        · exact below_undrew hb1
      · have HE := Lib.hid (HO.out (by omega) h6)
        have hlen : (num v).length = j + 1 := by
          rw [HL2.out, if_neg (by omega)]; omega
        have HLEN := Lib.hid hlen
        clear HF HO HS h6 hlen
        have hw1 : IntKind.i64.wrap (247 + (j : Int)) = 247 + (j : Int) := by rw [IntKind.wrap_i64]; omega
        have hw2 : IntKind.i64.wrap (247 + (j : Int) - 246) = (j : Int) + 1 := by rw [IntKind.wrap_i64]; omega
        have hw3 : IntKind.i64.wrap ((k : Int) + (247 + (j : Int))) = (k : Int) + (247 + (j : Int)) := by rw [IntKind.wrap_i64]; omega
        have hw4 : IntKind.i64.wrap ((k : Int) + (247 + (j : Int)) - 246) = (k : Int) + 1 + (j : Int) := by rw [IntKind.wrap_i64]; omega
        go_wp2
        go_region_held3 (fun w' => w'.cell? ⟨b, off + k, none⟩ = some (.int .u8 (247 + (j : Int)))) (first | assumption | (simp [*]; done))
          (first | (go_at_call 59; refine (rnumber_len v (j + 1) HLEN.out _ hv0 hv1).mono ?_; rintro e w1 ⟨A1, c1, rfl, ho1, hb1⟩; have hc1 : w1.cell? ⟨b, off + k, none⟩ = some (.int .u8 (247 + (j : Int))) := (hb1.cell (p := ⟨b, off + k, none⟩) (by exact hb)).trans hc))
        go_wp2
        go_quiet (fail)
        go_wp2
        go_ret3
        refine ⟨?_, ?_⟩
        · rw [HT.out, HE.out, show (k : Int) + 1 + (247 + (j : Int) - 247) = (k : Int) + 1 + (j : Int) by omega]; rfl
        · exact below_n (below_undrew hb1) _
end Go.Proofs.Ytmjjbfcblmmipaa
