/- Opening records in the program: cellAt, Open. -/
import Derived.Test.YtmckgdjipkkklaaDoorSealW
import Derived.Lib.EndianBits
namespace Go.Proofs.YtmckgdjipkkklaaDoor
set_option linter.unusedVariables false
set_option linter.unusedSimpArgs false
open Go.RowKit

theorem nl_sub (xs : List Int) (a k : Nat) : nl ((xs.drop a).take k) = sub (nl xs) a k := by unfold sub; rw [nl_take, nl_dropk]

/-- The cell at a place, where it isn't all there, or isn't good. -/
theorem cellAt_err (A : Option Addr) (n c a k E : Nat) (xs : List Int) (w : World) (hx : Bs w A n xs) (hn : n ≤ 1000000000000) (hc : n ≤ c) (ha : a ≤ n) (hk : k ≤ 251) (hE : cellE (nl xs) a k = E) (hE0 : E ≠ 0) (ht : Tabs w) :
    Calls Tryd.prog 45 #[.slice A n c, .int .i64 (a : Int), .int .i64 (k : Int)] w fun e w' => e = .returned (.tuple #[.slice none 0 0, .int .i64 (E : Int)]) ∧ Below w.heap.size w w' := by
  have hl : (nl xs).length = n := by rw [nl_length]; exact hx.len
  by_cases hs : n < a + (k + 4)
  · have hE5 : E = 5 := by rw [← hE]; unfold cellE; rw [hl, if_pos hs]
    subst hE5
    clear hE hE0 hl
    go_enter Tryd.func45, Tryd.ntmps45
    go_wp2
    go_ret2
    exact ⟨rfl, Below.refl _ _⟩
  · have hg : goodL (sub (nl xs) a (k + 4)) = false := by
      unfold cellE at hE
      rw [hl, if_neg hs] at hE
      cases hgg : goodL (sub (nl xs) a (k + 4)) with
      | false => rfl
      | true => rw [hgg] at hE; exact absurd hE.symm hE0
    have hE4 : E = 4 := by rw [← hE]; unfold cellE; rw [hl, if_neg hs, hg]; rfl
    subst hE4
    obtain ⟨b, off, rfl, _, _⟩ := hx.1.2 (by omega)
    have hsl : ∀ W, (Instr.slice 28 (.slice (some ⟨b, off, none⟩) n c) (some (.int .i64 (a : Int))) (some (.int .i64 ((a : Int) + (k : Int) + 4))) none).run Tryd.prog W = .ok (.slice (some ⟨b, off + a, none⟩) (k + 4) (c - a)) W := by
      intro W
      have := slice_lh28 b off n c a (a + k + 4) (by omega) (by omega) (by omega) W
      rwa [show ((a + k + 4 : Nat) : Int) = (a : Int) + (k : Int) + 4 by omega, show a + k + 4 - a = k + 4 by omega] at this
    have hbs : Bs w (some ⟨b, off + a, none⟩) (k + 4) ((xs.drop a).take (k + 4)) := (hx.rest ha).first (m := k + 4) (by omega)
    have HG := Lib.hid (show goodL (nl ((xs.drop a).take (k + 4))) = false by rw [nl_sub]; exact hg)
    clear hE hE0 hl hg
    go_enter Tryd.func45, Tryd.ntmps45
    go_wp2_with fail
    refine (good_any _ (k + 4) (c - a) _ _ hbs (by unfold maxLen; omega) (by omega) ht).mono ?_
    rintro e w1 ⟨rfl, hb1⟩
    rw [HG.out]
    go_wp2
    go_ret2
    exact ⟨rfl, hb1⟩
/-- The cell at a place, where it stands there. -/
theorem cellAt_ok (b off n c a k : Nat) (xs : List Int) (w : World) (hx : Bs w (some ⟨b, off, none⟩) n xs) (hn : n ≤ 1000000000000) (hc : n ≤ c) (hk : k ≤ 251) (hE : cellE (nl xs) a k = 0) (ht : Tabs w) :
    Calls Tryd.prog 45 #[.slice (some ⟨b, off, none⟩) n c, .int .i64 (a : Int), .int .i64 (k : Int)] w fun e w' => e = .returned (.tuple #[.slice (some ⟨b, off + a, none⟩) k (c - a), .int .i64 0]) ∧ Below w.heap.size w w' := by
  have hl : (nl xs).length = n := by rw [nl_length]; exact hx.len
  have hs : a + (k + 4) ≤ n := by
    unfold cellE at hE
    rw [hl] at hE
    split at hE
    · omega
    · omega
  have hg : goodL (sub (nl xs) a (k + 4)) = true := by
    unfold cellE at hE
    rw [hl, if_neg (by omega)] at hE
    cases hgg : goodL (sub (nl xs) a (k + 4)) with
    | true => rfl
    | false => rw [hgg] at hE; simp at hE
  have hsl : ∀ W, (Instr.slice 28 (.slice (some ⟨b, off, none⟩) n c) (some (.int .i64 (a : Int))) (some (.int .i64 ((a : Int) + (k : Int) + 4))) none).run Tryd.prog W = .ok (.slice (some ⟨b, off + a, none⟩) (k + 4) (c - a)) W := by
    intro W
    have := slice_lh28 b off n c a (a + k + 4) (by omega) (by omega) (by omega) W
    rwa [show ((a + k + 4 : Nat) : Int) = (a : Int) + (k : Int) + 4 by omega, show a + k + 4 - a = k + 4 by omega] at this
  have hsl2 : ∀ W, (Instr.slice 28 (.slice (some ⟨b, off, none⟩) n c) (some (.int .i64 (a : Int))) (some (.int .i64 ((a : Int) + (k : Int)))) none).run Tryd.prog W = .ok (.slice (some ⟨b, off + a, none⟩) k (c - a)) W := by
    intro W
    have := slice_lh28 b off n c a (a + k) (by omega) (by omega) (by omega) W
    rwa [show ((a + k : Nat) : Int) = (a : Int) + (k : Int) by omega, show a + k - a = k by omega] at this
  have hbs : Bs w (some ⟨b, off + a, none⟩) (k + 4) ((xs.drop a).take (k + 4)) := (hx.rest (by omega)).first (m := k + 4) (by omega)
  have HG := Lib.hid (show goodL (nl ((xs.drop a).take (k + 4))) = true by rw [nl_sub]; exact hg)
  clear hE hl hg
  go_enter Tryd.func45, Tryd.ntmps45
  go_wp2_with fail
  refine (good_any _ (k + 4) (c - a) _ _ hbs (by unfold maxLen; omega) (by omega) ht).mono ?_
  rintro e w1 ⟨rfl, hb1⟩
  rw [HG.out]
  go_wp2
  go_ret2
  exact ⟨rfl, hb1⟩

/-- Bytes that were taken ahead of an opening. -/
def cmb (dn : List Nat) (r : Nat × List Nat × Nat) : Nat × List Nat × Nat := if r.1 ≠ 0 then (r.1, [], 0) else (0, dn ++ r.2.1, r.2.2)
theorem cmb_end (dn : List Nat) (f : Nat) (l : List Nat) (a : Nat) : cmb dn (openC f l a 0) = (0, dn, a) := by rw [openC_zero]; simp [cmb]
theorem cmb_err (dn : List Nat) {f : Nat} {l : List Nat} {a left : Nat} (h0 : 0 < left) (hf : left ≤ f) (hE : cellE l a (min left 251) ≠ 0) : cmb dn (openC f l a left) = (cellE l a (min left 251), [], 0) := by
  obtain ⟨g, rfl⟩ : ∃ g, f = g + 1 := ⟨f - 1, by omega⟩
  simp only [openC]
  rw [if_neg (by omega), if_pos hE]
  simp [cmb, hE]
theorem cmb_step (dn : List Nat) {f : Nat} {l : List Nat} {a left : Nat} (h0 : 0 < left) (hE : cellE l a (min left 251) = 0) :
    cmb dn (openC (f + 1) l a left) = cmb (dn ++ sub l a (min left 251)) (openC f l (a + (min left 251 + 4)) (left - min left 251)) := by
  simp only [openC]
  rw [if_neg (by omega), hE]
  simp only [ne_eq, not_true, if_false]
  by_cases h : (openC f l (a + (min left 251 + 4)) (left - min left 251)).1 = 0
  · simp [cmb, h]
  · simp [cmb, h]
theorem cmb_nil (f : Nat) (l : List Nat) (a left : Nat) : cmb [] (openC f l a left) = openC f l a left := by
  suffices h : (openC f l a left).1 ≠ 0 → openC f l a left = ((openC f l a left).1, [], 0) by
    unfold cmb
    by_cases h0 : (openC f l a left).1 = 0
    · rw [if_neg (by simpa using h0), List.nil_append]
      conv => rhs; rw [show openC f l a left = ((openC f l a left).1, (openC f l a left).2) from rfl, h0]
    · rw [if_pos h0, ← h h0]
  cases f with
  | zero => simp [openC]
  | succ f =>
    simp only [openC]
    split
    · simp
    · split
      · simp
      · split
        · simp
        · simp
theorem or_sym (a b : Int) : bits .or .u32 a b = bits .or .u32 b a := by simp only [bits, BitVec.or_comm]
end Go.Proofs.YtmckgdjipkkklaaDoor
