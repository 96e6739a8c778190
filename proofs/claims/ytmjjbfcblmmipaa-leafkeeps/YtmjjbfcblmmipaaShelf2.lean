/- slices.Clone at writes, ranges and numbers, laid at this program. -/
import Derived.Shelf.SlicesE.Clone
import Derived.Test.YtmjjbfcblmmipaaReadA
namespace Go.Proofs
open Go.Shelf
def Try.clW_ren : Go.Shelf.Ren := ⟨fun | 41 => 122 | n => n, fun | 22 => 25 | 23 => 61 | n => n, fun | n => n⟩
theorem Try.clW : Go.Proofs.SlLaysE0.n41 Try.prog Try.clW_ren := {
  mixed := by kernel_rfl
  f41 := ⟨Try.f122.name, by decide, Try.func122.trans (congrArg some (by kernel_rfl))⟩
  t4 := Try.underlying4
  a4 := Try.isAgg4
  z4 := Try.sizeOf4
  v4 := Try.zeroValue4
  t22 := Try.underlying25
  a22 := Try.isAgg25
  z22 := Try.sizeOf25
  v22 := Try.zeroValue25 }
def Try.clR_ren : Go.Shelf.Ren := ⟨fun | 41 => 123 | n => n, fun | 22 => 26 | 23 => 99 | n => n, fun | n => n⟩
theorem Try.clR : Go.Proofs.SlLaysE0.n41 Try.prog Try.clR_ren := {
  mixed := by kernel_rfl
  f41 := ⟨Try.f123.name, by decide, Try.func123.trans (congrArg some (by kernel_rfl))⟩
  t4 := Try.underlying4
  a4 := Try.isAgg4
  z4 := Try.sizeOf4
  v4 := Try.zeroValue4
  t22 := Try.underlying26
  a22 := Try.isAgg26
  z22 := Try.sizeOf26
  v22 := Try.zeroValue26 }
def Try.clI_ren : Go.Shelf.Ren := ⟨fun | 41 => 124 | n => n, fun | 22 => 27 | 23 => 3 | n => n, fun | n => n⟩
theorem Try.clI : Go.Proofs.SlLaysE0.n41 Try.prog Try.clI_ren := {
  mixed := by kernel_rfl
  f41 := ⟨Try.f124.name, by decide, Try.func124.trans (congrArg some (by kernel_rfl))⟩
  t4 := Try.underlying4
  a4 := Try.isAgg4
  z4 := Try.sizeOf4
  v4 := Try.zeroValue4
  t22 := Try.underlying27
  a22 := Try.isAgg27
  z22 := Try.sizeOf27
  v22 := Try.zeroValue27 }
end Go.Proofs
namespace Go.Proofs.Ytmjjbfcblmmipaa
set_option linter.unusedVariables false
set_option linter.unusedSimpArgs false
open Go.RowKit Go.Lib
theorem sl_of_own {s base n : Nat} {e : TypeId} {w : World} {v : Value} {vs : List Value} (h : w.ownsRow base e s v n vs) : ∃ A c, v = .slice A n c ∧ OwnK s w base e A n c vs := by
  rcases h.2 with ⟨rfl, h0⟩ | ⟨g, cap, cur, rfl, r⟩
  · subst h0
    exact ⟨none, 0, rfl, h⟩
  · exact ⟨_, _, rfl, h⟩
section
variable (A : Option Addr) (n c : Nat) (us : List Value) (w : World)
theorem clone_w (hl : us.length = n * 3) (hc : A ≠ none → ∃ b off, A = some ⟨b, off, none⟩ ∧ ∀ j u, us[j]? = some u → w.cell? ⟨b, off + j, none⟩ = some u) (hA : A = none → n = 0) (h1 : ∀ u ∈ us, u.oneCell' = true) (hn : n ≤ 20000000) :
    Calls Try.prog 122 #[.slice A n c] w fun e w' => ∃ A' c', e = .returned (.slice A' n c') ∧ OwnK 3 w' w.heap.size 61 A' n c' us ∧ Below w.heap.size w w' := by
  obtain ⟨i0, hi, hz0, hz1, hz2⟩ := info_parts info61
  cases A with
  | none =>
    have hn0 := hA rfl
    subst hn0
    obtain rfl : us = [] := List.eq_nil_of_length_eq_zero (by omega)
    refine (AnyE.slices_Clone_nil Try.clW 0 c w).mono ?_
    rintro e w' ⟨rfl, rfl⟩
    exact ⟨none, 0, rfl, OwnK.nil_, Below.refl _ _⟩
  | some a =>
    obtain ⟨b, off, hA1, hcc⟩ := hc (by simp)
    injection hA1 with hA1
    subst hA1
    refine (AnyE.slices_Clone Try.clW i0 _ 3 56 hi hz0 hz1 hz2 rfl (by omega) Try.sizeOf61 b off n c us w hl (by unfold maxLen; omega) (by omega) hcc h1).mono ?_
    rintro e w' ⟨v', rfl, ho, hne, hb⟩
    obtain ⟨A', c', rfl, ho'⟩ := sl_of_own ho
    exact ⟨A', c', rfl, ho', hb⟩
theorem clone_r (hl : us.length = n * 3) (hc : A ≠ none → ∃ b off, A = some ⟨b, off, none⟩ ∧ ∀ j u, us[j]? = some u → w.cell? ⟨b, off + j, none⟩ = some u) (hA : A = none → n = 0) (h1 : ∀ u ∈ us, u.oneCell' = true) (hn : n ≤ 20000000) :
    Calls Try.prog 123 #[.slice A n c] w fun e w' => ∃ A' c', e = .returned (.slice A' n c') ∧ OwnK 3 w' w.heap.size 99 A' n c' us ∧ Below w.heap.size w w' := by
  obtain ⟨i0, hi, hz0, hz1, hz2⟩ := info_parts info99
  cases A with
  | none =>
    have hn0 := hA rfl
    subst hn0
    obtain rfl : us = [] := List.eq_nil_of_length_eq_zero (by omega)
    refine (AnyE.slices_Clone_nil Try.clR 0 c w).mono ?_
    rintro e w' ⟨rfl, rfl⟩
    exact ⟨none, 0, rfl, OwnK.nil_, Below.refl _ _⟩
  | some a =>
    obtain ⟨b, off, hA1, hcc⟩ := hc (by simp)
    injection hA1 with hA1
    subst hA1
    refine (AnyE.slices_Clone Try.clR i0 _ 3 56 hi hz0 hz1 hz2 rfl (by omega) Try.sizeOf99 b off n c us w hl (by unfold maxLen; omega) (by omega) hcc h1).mono ?_
    rintro e w' ⟨v', rfl, ho, hne, hb⟩
    obtain ⟨A', c', rfl, ho'⟩ := sl_of_own ho
    exact ⟨A', c', rfl, ho', hb⟩
theorem clone_i (hl : us.length = n) (hc : A ≠ none → ∃ b off, A = some ⟨b, off, none⟩ ∧ ∀ j u, us[j]? = some u → w.cell? ⟨b, off + j, none⟩ = some u) (hA : A = none → n = 0) (h1 : ∀ u ∈ us, u.oneCell' = true) (hn : n ≤ 20000000) :
    Calls Try.prog 124 #[.slice A n c] w fun e w' => ∃ A' c', e = .returned (.slice A' n c') ∧ Own w' w.heap.size 3 A' n c' us ∧ Below w.heap.size w w' := by
  obtain ⟨i0, hi, hz0, hz1, hz2⟩ := info_parts info3
  cases A with
  | none =>
    have hn0 := hA rfl
    subst hn0
    obtain rfl : us = [] := List.eq_nil_of_length_eq_zero (by omega)
    refine (AnyE.slices_Clone_nil Try.clI 0 c w).mono ?_
    rintro e w' ⟨rfl, rfl⟩
    exact ⟨none, 0, rfl, Own.nil_, Below.refl _ _⟩
  | some a =>
    obtain ⟨b, off, hA1, hcc⟩ := hc (by simp)
    injection hA1 with hA1
    subst hA1
    refine (AnyE.slices_Clone Try.clI i0 _ 1 8 hi hz0 hz1 hz2 rfl (by omega) Try.sizeOf3 b off n c us w (by omega) (by unfold maxLen; omega) (by omega) hcc h1).mono ?_
    rintro e w' ⟨v', rfl, ho, hne, hb⟩
    obtain ⟨A', c', rfl, ho'⟩ := sl_of_own ho
    exact ⟨A', c', rfl, ho', hb⟩
end
end Go.Proofs.Ytmjjbfcblmmipaa
