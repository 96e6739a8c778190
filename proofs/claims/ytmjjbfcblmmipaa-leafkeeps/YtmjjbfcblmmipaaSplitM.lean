/- The sizes of the halves of a node that is cut at the best place. -/
import Derived.Test.YtmjjbfcblmmipaaCheckRW
namespace Go.Proofs.Ytmjjbfcblmmipaa
set_option linter.unusedVariables false
set_option linter.unusedSimpArgs false
open Go.RowKit

theorem szW_cut (d : Nat) (l : List (List Int)) (k : Nat) : szW d l = szW d (l.take k) + szW d (l.drop k) := by
  conv => lhs; rw [← List.take_append_drop k l, szW_app]
theorem szW_bd (d m : Nat) (l : List (List Int)) (h : ∀ x ∈ l, x.length ≤ m) : szW d l ≤ l.length * (d + m) := by
  induction l with
  | nil => simp [szW]
  | cons x l ih =>
    have h1 := h x (List.mem_cons_self ..)
    have h2 := ih (fun y hy => h y (List.mem_cons_of_mem _ hy))
    simp only [szW, List.length_cons, Nat.add_mul, Nat.one_mul]
    omega
theorem szW_step {d m : Nat} {l : List (List Int)} (h : ∀ x ∈ l, x.length ≤ m) (k : Nat) : szW d (l.take (k + 1)) ≤ szW d (l.take k) + (d + m) := by
  by_cases hk : k < l.length
  · rw [szW_take (List.getElem?_eq_getElem hk)]
    have := h _ (List.getElem_mem hk)
    omega
  · rw [List.take_of_length_le (by omega), List.take_of_length_le (by omega)]
    omega
theorem szW_zero (d : Nat) (l : List (List Int)) : szW d (l.take 0) = 0 := by simp [szW]
theorem szW_last {d m : Nat} {l : List (List Int)} (h : ∀ x ∈ l, x.length ≤ m) (k : Nat) (hk : l.length ≤ k + 1) : szW d (l.drop k) ≤ d + m := by
  have h1 := szW_bd d m (l.drop k) (fun x hx => h x (List.mem_of_mem_drop hx))
  rw [List.length_drop] at h1
  have h2 : l.length - k ≤ 1 := by omega
  have h3 : (l.length - k) * (d + m) ≤ 1 * (d + m) := Nat.mul_le_mul_right _ h2
  omega

theorem find_cut (f : Nat → Nat) (n b e : Nat) (h1 : f 1 ≤ b) (h2 : ∀ k, f (k + 1) ≤ f k + e) (hn : 1 ≤ n) (hb : b ≤ 512) : ∃ k, 1 ≤ k ∧ k ≤ n ∧ f k ≤ 512 ∧ (k = n ∨ 512 < f k + e) := by
  have key : ∀ m, m + 1 ≤ n → (∃ k, 1 ≤ k ∧ k ≤ n ∧ f k ≤ 512 ∧ (k = n ∨ 512 < f k + e)) ∨ f (m + 1) ≤ 512 := by
    intro m
    induction m with
    | zero => intro _; right; exact Nat.le_trans h1 hb
    | succ m ih =>
      intro hm
      rcases ih (by omega) with h | h
      · exact .inl h
      · by_cases hc : f (m + 1 + 1) ≤ 512
        · exact .inr hc
        · left
          have := h2 (m + 1)
          exact ⟨m + 1, by omega, by omega, h, .inr (by omega)⟩
  rcases key (n - 1) (by omega) with h | h
  · exact h
  · rw [show n - 1 + 1 = n by omega] at h
    exact ⟨n, hn, Nat.le_refl _, h, .inl rfl⟩

theorem half_leaf (ks vs : List (List Int)) (nD : Nat) (hl : vs.length = ks.length) (h2 : 2 ≤ ks.length) (hk : ∀ x ∈ ks, x.length ≤ 64) (hv : ∀ x ∈ vs, x.length ≤ 128) (hs : sizeN true ks vs nD ≤ 707) :
    gtr true ks vs nD (bestN (gtr true ks vs nD) (ks.length - 2)) ≤ 512 := by
  have hf : ∀ k, frN true ks vs k = 3 + szW 1 (ks.take k) + szW 2 (vs.take k) := fun k => by simp [frN, sizeN]
  have hb : ∀ k, bkN true ks vs nD k = 3 + szW 1 (ks.drop k) + szW 2 (vs.drop k) := fun k => by simp [bkN, sizeN]
  have hS : sizeN true ks vs nD = 3 + szW 1 ks + szW 2 vs := by simp [sizeN]
  have e1 : frN true ks vs 1 ≤ 198 := by
    rw [hf]
    have a1 := szW_step (d := 1) hk 0
    have a2 := szW_step (d := 2) hv 0
    rw [szW_zero] at a1 a2
    simp only [Nat.zero_add] at a1 a2
    omega
  obtain ⟨k, k1, k2, k3, k4⟩ := find_cut (frN true ks vs) (ks.length - 1) 198 195 e1 (fun k => by
    rw [hf, hf]
    have a1 := szW_step (d := 1) hk k
    have a2 := szW_step (d := 2) hv k
    omega) (by omega) (by omega)
  refine Nat.le_trans (bestN_le (gtr true ks vs nD) (ks.length - 2) k k1 (by omega)) ?_
  unfold gtr
  have c1 := szW_cut 1 ks k
  have c2 := szW_cut 2 vs k
  rw [Nat.max_le]
  refine ⟨k3, ?_⟩
  rw [hb]
  rw [hf] at k3 k4
  rcases k4 with rfl | k4
  · have a1 := szW_last (d := 1) hk (ks.length - 1) (by omega)
    have a2 := szW_last (d := 2) hv (ks.length - 1) (by omega)
    omega
  · omega

theorem half_fork (ks vs : List (List Int)) (nD : Nat) (hD : nD = ks.length + 1) (h3 : 3 ≤ ks.length) (hk : ∀ x ∈ ks, x.length ≤ 64) (hs : sizeN false ks vs nD ≤ 579) :
    gtr false ks vs nD (bestN (gtr false ks vs nD) (ks.length - 3)) ≤ 512 := by
  have hf : ∀ k, frN false ks vs k = 3 + szW 1 (ks.take k) + 2 * (k + 1) := fun k => by simp [frN, sizeN]
  have hb : ∀ k, bkN false ks vs nD k = 3 + szW 1 (ks.drop (k + 1)) + 2 * (nD - (k + 1)) := fun k => by simp [bkN, sizeN]
  have hS : sizeN false ks vs nD = 3 + szW 1 ks + 2 * nD := by simp [sizeN]
  have e1 : frN false ks vs 1 ≤ 72 := by
    rw [hf]
    have a1 := szW_step (d := 1) hk 0
    rw [szW_zero] at a1
    simp only [Nat.zero_add] at a1
    omega
  obtain ⟨k, k1, k2, k3, k4⟩ := find_cut (frN false ks vs) (ks.length - 2) 72 67 e1 (fun k => by
    rw [hf, hf]
    have a1 := szW_step (d := 1) hk k
    omega) (by omega) (by omega)
  refine Nat.le_trans (bestN_le (gtr false ks vs nD) (ks.length - 3) k k1 (by omega)) ?_
  unfold gtr
  have c1 := szW_cut 1 ks (k + 1)
  have c2 := szW_take (d := 1) (List.getElem?_eq_getElem (show k < ks.length by omega))
  rw [Nat.max_le]
  refine ⟨k3, ?_⟩
  rw [hb]
  rw [hf] at k3 k4
  rcases k4 with rfl | k4
  · have a1 := szW_last (d := 1) hk (ks.length - 2 + 1) (by omega)
    omega
  · omega
end Go.Proofs.Ytmjjbfcblmmipaa
