/- The reference's Same of two records that read the same; Told. -/
import Derived.Test.YtmjjbfcblmmipaaReadEW
import Derived.Test.YtmjjbfcblmmipaaRPartW
namespace Go.Proofs.Ytmjjbfcblmmipaa
set_option linter.unusedVariables false
set_option linter.unusedSimpArgs false
open Go.RowKit

theorem cmpL_same (xs : List Int) : (cmpL xs xs == 0) = true := by rw [cmpL_eq_zero]; simp
set_option maxRecDepth 100000 in
set_option maxHeartbeats 4000000 in
theorem samew_any (A B : Option Addr) (n c d : Nat) (l : List Tr) (w : World) (hx : Trs w A n l) (hy : Trs w B n l) (hn : n ≤ 20000000) (hs : ∀ t ∈ l, t.a.length ≤ maxLen ∧ t.b.length ≤ maxLen) :
    Calls Try.prog 62 #[.slice A n c, .slice B n d] w fun e w' => e = .returned (.bool true) ∧ Dr w w' := by
  have HS := Lib.hid hs; clear hs
  have hne : ((n : Int) != (n : Int)) = false := by simp
  go_enter Try.func62, Try.ntmps62
  go_wp2
  go_loopw [5] (fun i wr => ∃ k q : Nat, k ≤ n ∧ i = .int .i64 k ∧ wr = w.drewN q) (fun i _ => n - (intOf i).toNat)
  case atStart => exact ⟨0, 0, Nat.zero_le _, rfl, rfl⟩
  case round =>
    obtain ⟨k, q, hk, rfl, rfl⟩ := hrel
    by_cases hlt : k < n
    · obtain ⟨b, off, A1, n1, c1, A2, n2, c2, t, rfl, hbl, HX, HA, HB, hc0, hc1, hc2, hb1, hn1, hb2, hn2⟩ := hx.at_ hlt
      obtain ⟨b', off', B1, m1, d1, B2, m2, d2, t', rfl, hbl', HX', HA', HB', kc0, kc1, kc2, kb1, kn1, kb2, kn2⟩ := hy.at_ hlt
      have ht : t' = t := by have h1 := HX.out; have h2 := HX'.out; rw [h1] at h2; injection h2 with h2; exact h2.symm
      subst ht
      have hl := HS.out t' (List.mem_of_getElem? HX.out)
      have l1 : n1 ≤ maxLen := by rw [← HA.out]; exact hl.1
      have l2 : n2 ≤ maxLen := by rw [← HB.out]; exact hl.2
      have l3 : m1 ≤ maxLen := by rw [← HA'.out]; exact hl.1
      have l4 : m2 ≤ maxLen := by rw [← HB'.out]; exact hl.2
      have a0 : (w.drewN q).cell? ⟨b, off + k * 3, none⟩ = some (.slice A1 n1 c1) := hc0
      have a1 : (w.drewN q).cell? ⟨b, off + k * 3 + 1, none⟩ = some (.slice A2 n2 c2) := hc1
      have a2 : (w.drewN q).cell? ⟨b, off + k * 3 + 2, none⟩ = some (.bool t'.f) := hc2
      have e0 : (w.drewN q).cell? ⟨b', off' + k * 3, none⟩ = some (.slice B1 m1 d1) := kc0
      have e1 : (w.drewN q).cell? ⟨b', off' + k * 3 + 1, none⟩ = some (.slice B2 m2 d2) := kc1
      have e2 : (w.drewN q).cell? ⟨b', off' + k * 3 + 2, none⟩ = some (.bool t'.f) := kc2
      have z0 : (0 : Int) ≤ (k : Int) := by omega
      have z1 : (k : Int) < (n : Int) := by omega
      have HV1 := Lib.hid (cmpL_same t'.a)
      have HV2 := Lib.hid (cmpL_same t'.b)
      have hff : (t'.f != t'.f) = false := by simp
      clear hl HX HX' HA HB HA' HB'
      go_wp2
      go_quiet ((go_at_call 16; first | with_reducible exact draw_call_add (equal_is A1 B1 n1 m1 c1 d1 t'.a t'.a true HV1.out _ (hb1.n _) (kb1.n _) l1 l3) | with_reducible exact draw_call (equal_is A1 B1 n1 m1 c1 d1 t'.a t'.a true HV1.out _ (hb1.n _) (kb1.n _) l1 l3) | with_reducible exact draw_call_add (equal_is A2 B2 n2 m2 c2 d2 t'.b t'.b true HV2.out _ (hb2.n _) (kb2.n _) l2 l4) | with_reducible exact draw_call (equal_is A2 B2 n2 m2 c2 d2 t'.b t'.b true HV2.out _ (hb2.n _) (kb2.n _) l2 l4)))
      go_wp2
      go_roundw
      case rel => exact ⟨k + 1, _, by omega, by go_num, rfl⟩
      case measure => simp [intOf]; omega
    · have hkn : k = n := by omega
      subst hkn
      go_wp2
      go_ret
      exact ⟨rfl, (Dr.refl w).n _⟩
set_option maxRecDepth 100000 in
set_option maxHeartbeats 4000000 in
theorem samer_any (A B : Option Addr) (n c d : Nat) (l : List Tr) (w : World) (hx : Trs w A n l) (hy : Trs w B n l) (hn : n ≤ 20000000) (hs : ∀ t ∈ l, t.a.length ≤ maxLen ∧ t.b.length ≤ maxLen) :
    Calls Try.prog 63 #[.slice A n c, .slice B n d] w fun e w' => e = .returned (.bool true) ∧ Dr w w' := by
  have HS := Lib.hid hs; clear hs
  have hne : ((n : Int) != (n : Int)) = false := by simp
  go_enter Try.func63, Try.ntmps63
  go_wp2
  go_loopw [5] (fun i wr => ∃ k q : Nat, k ≤ n ∧ i = .int .i64 k ∧ wr = w.drewN q) (fun i _ => n - (intOf i).toNat)
  case atStart => exact ⟨0, 0, Nat.zero_le _, rfl, rfl⟩
  case round =>
    obtain ⟨k, q, hk, rfl, rfl⟩ := hrel
    by_cases hlt : k < n
    · obtain ⟨b, off, A1, n1, c1, A2, n2, c2, t, rfl, hbl, HX, HA, HB, hc0, hc1, hc2, hb1, hn1, hb2, hn2⟩ := hx.at_ hlt
      obtain ⟨b', off', B1, m1, d1, B2, m2, d2, t', rfl, hbl', HX', HA', HB', kc0, kc1, kc2, kb1, kn1, kb2, kn2⟩ := hy.at_ hlt
      have ht : t' = t := by have h1 := HX.out; have h2 := HX'.out; rw [h1] at h2; injection h2 with h2; exact h2.symm
      subst ht
      have hl := HS.out t' (List.mem_of_getElem? HX.out)
      have l1 : n1 ≤ maxLen := by rw [← HA.out]; exact hl.1
      have l2 : n2 ≤ maxLen := by rw [← HB.out]; exact hl.2
      have l3 : m1 ≤ maxLen := by rw [← HA'.out]; exact hl.1
      have l4 : m2 ≤ maxLen := by rw [← HB'.out]; exact hl.2
      have a0 : (w.drewN q).cell? ⟨b, off + k * 3, none⟩ = some (.slice A1 n1 c1) := hc0
      have a1 : (w.drewN q).cell? ⟨b, off + k * 3 + 1, none⟩ = some (.slice A2 n2 c2) := hc1
      have a2 : (w.drewN q).cell? ⟨b, off + k * 3 + 2, none⟩ = some (.bool t'.f) := hc2
      have e0 : (w.drewN q).cell? ⟨b', off' + k * 3, none⟩ = some (.slice B1 m1 d1) := kc0
      have e1 : (w.drewN q).cell? ⟨b', off' + k * 3 + 1, none⟩ = some (.slice B2 m2 d2) := kc1
      have e2 : (w.drewN q).cell? ⟨b', off' + k * 3 + 2, none⟩ = some (.bool t'.f) := kc2
      have z0 : (0 : Int) ≤ (k : Int) := by omega
      have z1 : (k : Int) < (n : Int) := by omega
      have HV1 := Lib.hid (cmpL_same t'.a)
      have HV2 := Lib.hid (cmpL_same t'.b)
      have hff : (t'.f != t'.f) = false := by simp
      clear hl HX HX' HA HB HA' HB'
      go_wp2
      go_quiet ((go_at_call 16; first | with_reducible exact draw_call_add (equal_is A1 B1 n1 m1 c1 d1 t'.a t'.a true HV1.out _ (hb1.n _) (kb1.n _) l1 l3) | with_reducible exact draw_call (equal_is A1 B1 n1 m1 c1 d1 t'.a t'.a true HV1.out _ (hb1.n _) (kb1.n _) l1 l3) | with_reducible exact draw_call_add (equal_is A2 B2 n2 m2 c2 d2 t'.b t'.b true HV2.out _ (hb2.n _) (kb2.n _) l2 l4) | with_reducible exact draw_call (equal_is A2 B2 n2 m2 c2 d2 t'.b t'.b true HV2.out _ (hb2.n _) (kb2.n _) l2 l4)))
      go_wp2
      go_roundw
      case rel => exact ⟨k + 1, _, by omega, by go_num, rfl⟩
      case measure => simp [intOf]; omega
    · have hkn : k = n := by omega
      subst hkn
      go_wp2
      go_ret
      exact ⟨rfl, (Dr.refl w).n _⟩
end Go.Proofs.Ytmjjbfcblmmipaa
