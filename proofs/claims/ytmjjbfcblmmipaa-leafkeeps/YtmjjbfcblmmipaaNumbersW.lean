/- PackNumbers: the walk. -/
import Derived.Test.YtmjjbfcblmmipaaRefTake
namespace Go.Proofs.Ytmjjbfcblmmipaa
set_option linter.unusedVariables false
set_option linter.unusedSimpArgs false
open Go.RowKit

theorem take_3 (A : Option Addr) (n c : Nat) (i : Int) (xs : List Int) (w : World) (t1 t2 t3 : Int) (ht : tk xs i = (t1, t2, t3)) (hx : Bs w A n xs) (hn : n ≤ 9223372036854775000) :
    Calls Try.prog 136 #[.slice A n c, .int .i64 i] w fun e w' => e = .returned (.tuple #[.int .u64 t1, .int .i64 t2, .int .i64 t3]) ∧ w = w' :=
  (take_any A n c i xs w hx hn).mono fun e w' ⟨he, hw⟩ => ⟨by rw [he, ht]; rfl, hw⟩
theorem rtake_3 (A : Option Addr) (n c : Nat) (i : Int) (xs : List Int) (w : World) (t1 t2 t3 : Int) (ht : tk xs i = (t1, t2, t3)) (hx : Bs w A n xs) (hn : n ≤ 9223372036854775000) :
    Calls Try.prog 118 #[.slice A n c, .int .i64 i] w fun e w' => e = .returned (.tuple #[.int .u64 t1, .int .i64 t2, .int .i64 t3]) ∧ Below w.heap.size w w' :=
  (rtake_any A n c i xs w hx hn).mono fun e w' ⟨he, hw⟩ => ⟨by rw [he, ht]; rfl, hw⟩

theorem nums_parts {ls : List Int} {k : Nat} {x : Int} (h : ls[k]? = some x) : nums ls = nums (ls.take k) ++ (num x ++ nums (ls.drop (k + 1))) := by
  obtain ⟨hk, rfl⟩ := List.getElem?_eq_some_iff.1 h
  conv => lhs; rw [← List.take_append_drop k ls, List.drop_eq_getElem_cons hk]
  simp only [nums, List.map_append, List.flatten_append, List.map_cons, List.flatten_cons]
theorem nums_le : ∀ ls : List Int, (nums ls).length ≤ 9 * ls.length
  | [] => by simp [nums]
  | a :: r => by
    have h := nums_le r
    have h1 := num_le a
    simp only [nums, List.map_cons, List.flatten_cons, List.length_append, List.length_cons] at h ⊢
    omega

end Go.Proofs.Ytmjjbfcblmmipaa
