/- The reference's Bytes, kind by kind. -/
import Derived.Test.YtmjjbfcblmmipaaRPartW
namespace Go.Proofs.Ytmjjbfcblmmipaa
set_option linter.unusedVariables false
set_option linter.unusedSimpArgs false
open Go.RowKit

theorem rd_twoS (w : World) (u v : Value) (t : TypeId) : Rd (w.alloc (.cells #[u, v] t)) (some ⟨w.heap.size, 0, none⟩) 2 [u, v] := Rd.of_block (cs := #[u, v]) (heap_alloc_new w _) rfl
theorem two_slices (A B : Option Addr) (n c m d : Nat) : ∀ u ∈ [Value.slice A n c, Value.slice B m d], u.oneCell' = true := by
  intro u hu
  simp only [List.mem_cons, List.not_mem_nil, or_false] at hu
  rcases hu with rfl | rfl <;> rfl
theorem pt_two {w : World} {base : Nat} {A B : Option Addr} {n c m d : Nat} {xs ys : List Int} (h1 : Pt w base A n c xs) (h2 : Pt w base B m d ys) :
    ∀ (i : Nat) (v : Value) (us : List Int), [Value.slice A n c, Value.slice B m d][i]? = some v → [xs, ys][i]? = some us → ∃ (A2 : Option Addr) (n2 c2 : Nat), v = .slice A2 n2 c2 ∧ Pt w base A2 n2 c2 us := by
  intro i v us hv hu
  match i, hv, hu with
  | 0, hv, hu => simp at hv hu; subst hv; subst hu; exact ⟨A, n, c, rfl, h1⟩
  | 1, hv, hu => simp at hv hu; subst hv; subst hu; exact ⟨B, m, d, rfl, h2⟩
theorem fl_none {k : Int} (h : k ≤ 0 ∨ 10 ≤ k) : fl k = [] := by unfold fl; rw [if_neg (by omega), if_neg (by omega), if_neg (by omega), if_neg (by omega), if_neg (by omega)]
theorem fl_t {k : Int} (h : k = 2 ∨ k = 3 ∨ k = 9) : fl k = [116] := by unfold fl; rw [if_neg (by omega), if_pos h]
theorem fl_1 {k : Int} (h : k = 1) : fl k = [116, 119, 114] := by unfold fl; rw [if_pos h]
theorem fl_4 {k : Int} (h : k = 4) : fl k = [116, 119, 97] := by unfold fl; rw [if_neg (by omega), if_neg (by omega), if_pos h]
theorem fl_i {k : Int} (h : k = 5 ∨ k = 7 ∨ k = 8) : fl k = [105, 110] := by unfold fl; rw [if_neg (by omega), if_neg (by omega), if_neg (by omega), if_pos h]
theorem fl_6 {k : Int} (h : k = 6) : fl k = [116, 99, 115, 97] := by unfold fl; rw [if_neg (by omega), if_neg (by omega), if_neg (by omega), if_neg (by omega), if_pos h]
theorem hasT_yes {k : Int} (h : (1 ≤ k ∧ k ≤ 4) ∨ k = 6 ∨ k = 9) : hasT k = true := decide_eq_true h
theorem hasT_no {k : Int} (h : ¬ ((1 ≤ k ∧ k ≤ 4) ∨ k = 6 ∨ k = 9)) : hasT k = false := decide_eq_false h
/-- What a call of Bytes answers. -/
def BytesP (w : World) (xs : List Int) (e : Ending) (w' : World) : Prop := ∃ A' n' c', e = .returned (.slice A' n' c') ∧ n' = xs.length ∧ Own w' w.heap.size 5 A' n' c' (By xs) ∧ Ran xs ∧ Below w.heap.size w w'

end Go.Proofs.Ytmjjbfcblmmipaa
