/- The reference's Number. -/
import Derived.Test.YtmjjbfcblmmipaaNumW
namespace Go.Proofs.Ytmjjbfcblmmipaa
set_option linter.unusedVariables false
set_option linter.unusedSimpArgs false
open Go.RowKit

theorem own_one (w : World) (base : Nat) (k : Int) (hb : base ≤ w.heap.size) : Own (w.alloc (.cells #[.int .u8 k] 5)) base 5 (some ⟨w.heap.size, 0, none⟩) 1 1 (By [k]) :=
  Own.of_block (vs := By [k]) (heap_alloc_new w _) hb rfl (by unfold maxLen; omega)
theorem be_nb (m : Int) (h : 1 ≤ m) (h1 : m ≤ 18446744073709551615) : be (nb m) m = be (nb (m / 256)) (m / 256) ++ [m % 256] := by
  rw [nb_div m h (by omega)]; rfl

set_option maxHeartbeats 1000000 in
theorem rnumber_any (n : Int) (w : World) (h0 : 0 ≤ n) (h1 : n ≤ 18446744073709551615) :
    Calls Try.prog 59 #[.int .u64 n] w fun e w' => ∃ A' c' n', e = .returned (.slice A' n' c') ∧ n' = (num n).length ∧ Own w' w.heap.size 5 A' n' c' (By (num n)) ∧ Below w.heap.size w w' := by
  obtain ⟨i0, hi, hz0, hz1, hz2⟩ := info_parts info5
  by_cases h2 : n < 248
  · have HN := Lib.hid (num_small n h2)
    have hw : IntKind.u8.wrap n = n := by rw [IntKind.wrap_u8]; omega
    go_enter Try.func59, Try.ntmps59
    go_wp2
    go_ret
    exact ⟨_, _, 1, rfl, by rw [HN.out]; rfl, by rw [HN.out]; exact own_one w _ n (Nat.le_refl _), below_alloc w _⟩
  · have HN := Lib.hid (num_great n h2)
    have h8 := nb_le n
    go_enter Try.func59, Try.ntmps59
    go_wp2
    go_loopw [3, 4] (fun v t wr => ∃ (j c' : Nat) (m : Int) (A' : Option Addr) (rest : List Int), v = .slice A' j c' ∧ t = .int .u64 m ∧ 0 ≤ m ∧ m ≤ 18446744073709551615 ∧ j ≤ 8 ∧ Hid (nb n = nb m + j) ∧ Hid (be (nb n) n = be (nb m) m ++ rest) ∧ Own wr w.heap.size 5 A' j c' (By rest) ∧ Below w.heap.size w wr) (fun _ t _ => (intOf t).toNat)
    case atStart => exact ⟨0, 0, n, none, [], rfl, rfl, h0, h1, Nat.zero_le _, rfl, (List.append_nil _).symm, Own.nil_, Below.refl _ _⟩
    case round =>
      obtain ⟨j, c', m, A', rest, rfl, rfl, hm0, hm1, hj, HJ, HB, ho, hb⟩ := hrel
      have hsz := hb.size
      by_cases hm : 0 < m
      · have HD := Lib.hid (nb_div m (by omega) (by omega))
        have HB2 := Lib.hid (show be (nb n) n = be (nb (m / 256)) (m / 256) ++ ([m % 256] ++ rest) by rw [HB.out, be_nb m (by omega) hm1, List.append_assoc])
        have HJ2 := Lib.hid (show nb n = nb (m / 256) + (1 + j) by rw [HJ.out, HD.out]; omega)
        have hj2 : 1 + j ≤ 8 := by have := HJ2.out; omega
        have ho1 := own_one wr w.heap.size (m % 256) hsz
        have hr1 : Rd (wr.alloc (.cells #[.int .u8 (m % 256)] 5)) A' j (By rest) := (ho.alloc _).rd
        go_wp2_with (at_builtin; refine wpList_append_rd rfl _ _ 28 rfl i0 (.int .u8 0) 1 Try.underlying28 hi hz0 hz1 hz2 rfl rfl ho1 A' j c' (By rest) rfl hr1 (By_one _) ?c1 ?c2 ?c3 ?_)
        case c1 => unfold maxLen; omega
        case c2 => omega
        case c3 => simp; omega
        intro A2 c2 w2 ho2 hg2
        rw [← By_append] at ho2
        have hb2 : Below w.heap.size w w2 := (hb.alloc hsz _).trans (hg2.below (by simp; omega) (fun k hk => (ho1.lies k hk).1))
        go_wp2
        go_roundw
        case rel => exact ⟨1 + j, c2, m / 256, A2, [m % 256] ++ rest, rfl, rfl, by omega, by omega, hj2, HJ2, HB2, ho2, hb2⟩
        case measure => simp [intOf]; omega
      · obtain rfl : m = 0 := by omega
        have hn0 : nb 0 = 0 := by decide
        have HB2 := Lib.hid (show be (nb n) n = rest by rw [HB.out, hn0]; rfl)
        have HJ2 := Lib.hid (show nb n = j by rw [HJ.out, hn0]; omega)
        clear HB HJ hn0
        have hw : IntKind.u8.wrap (247 + (j : Int)) = 247 + (j : Int) := by rw [IntKind.wrap_u8]; omega
        have ho1 := own_one wr w.heap.size (247 + (j : Int)) hsz
        have hr1 : Rd (wr.alloc (.cells #[.int .u8 (247 + (j : Int))] 5)) A' j (By rest) := (ho.alloc _).rd
        go_wp2_with (at_builtin; refine wpList_append_rd rfl _ _ 28 rfl i0 (.int .u8 0) 1 Try.underlying28 hi hz0 hz1 hz2 rfl rfl ho1 A' j c' (By rest) rfl hr1 (By_one _) ?c1 ?c2 ?c3 ?_)
        case c1 => unfold maxLen; omega
        case c2 => omega
        case c3 => first | (simp; omega) | omega
        intro A2 c2 w2 ho2 hg2
        rw [← By_append] at ho2
        have hb2 : Below w.heap.size w w2 := (hb.alloc hsz _).trans (hg2.below (by simp; omega) (fun k hk => (ho1.lies k hk).1))
        go_wp2
        go_ret
        refine ⟨A2, c2, 1 + j, rfl, ?_, ?_, hb2⟩
        · rw [HN.out, List.length_cons, be_length, HJ2.out]; omega
        · rw [HN.out, HB2.out, HJ2.out]; exact ho2
end Go.Proofs.Ytmjjbfcblmmipaa
