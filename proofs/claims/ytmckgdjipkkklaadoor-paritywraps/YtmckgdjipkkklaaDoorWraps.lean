/- Wrapped bytes: the mathematics of pieces of 4096. -/
import Derived.Test.YtmckgdjipkkklaaDoorChain
namespace Go.Proofs.YtmckgdjipkkklaaDoor
set_option linter.unusedVariables false
set_option linter.unusedSimpArgs false
open Go.RowKit

/-- Records of whole pieces, and of the rest; the first argument bounds the pieces. -/
def wrapF : Nat → List Nat → List Nat
  | 0, l => recL l
  | f + 1, l => if l.length < 4096 then recL l else recL (l.take 4096) ++ wrapF f (l.drop 4096)
theorem wrapF_end (f : Nat) {l : List Nat} (h : l.length < 4096) : wrapF f l = recL l := by cases f <;> simp [wrapF, h]
theorem wrapF_step (f : Nat) {l : List Nat} (h : ¬ l.length < 4096) : wrapF (f + 1) l = recL (l.take 4096) ++ wrapF f (l.drop 4096) := by simp [wrapF, h]
/-- Record by record up to the first that is shorter. -/
def unw : Nat → List Nat → Nat → List Nat → Nat × List Nat
  | 0, _, _, _ => (9, [])
  | f + 1, l, a, acc =>
    if (openL l a).1 ≠ 0 then ((openL l a).1, [])
    else if (openL l a).2.1.length < 4096 then (if (openL l a).2.2 < l.length then (3, []) else (0, acc ++ (openL l a).2.1))
    else unw f l (openL l a).2.2 (acc ++ (openL l a).2.1)
theorem unw_wrap : ∀ (f g : Nat) (p x acc : List Nat), Rn x → x.length < 4096 * (f + 1) → f < g → unw g (p ++ wrapF f x) p.length acc = (0, acc ++ x)
  | f, 0, p, x, acc, _, _, h => absurd h (by omega)
  | f, g + 1, p, x, acc, hr, hl, h => by
    by_cases hs : x.length < 4096
    · have e := openL_whole p [] hr (by omega)
      rw [List.append_nil] at e
      rw [wrapF_end f hs]
      unfold unw
      rw [e]
      simp [hs]
    · obtain ⟨f', rfl⟩ : ∃ f', f = f' + 1 := ⟨f - 1, by omega⟩
      have e := openL_whole p (wrapF f' (x.drop 4096)) (hr.take 4096) (by rw [List.length_take]; omega)
      rw [wrapF_step f' hs]
      have hl4 : (x.take 4096).length = 4096 := by rw [List.length_take]; omega
      unfold unw
      rw [e]
      have ih := unw_wrap f' g (p ++ recL (x.take 4096)) (x.drop 4096) (acc ++ x.take 4096) (hr.drop 4096) (by rw [List.length_drop]; omega) (by omega)
      rw [List.append_assoc, List.length_append, List.append_assoc, List.take_append_drop] at ih
      simp only [ne_eq, not_true_eq_false, if_false, hl4, Nat.lt_irrefl]
      exact ih
end Go.Proofs.YtmckgdjipkkklaaDoor
