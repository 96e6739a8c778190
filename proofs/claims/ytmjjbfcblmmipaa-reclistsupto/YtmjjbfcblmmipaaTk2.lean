/- More of taking numbers: bounds, and from the middle of bytes. -/
import Derived.Test.YtmjjbfcblmmipaaTk
namespace Go.Proofs.Ytmjjbfcblmmipaa
set_option linter.unusedVariables false
set_option linter.unusedSimpArgs false

theorem tkN_cases (xs : List Int) (hr : Ran xs) (i : Nat) : (∃ e, tkN xs i = (0, 0, e) ∧ (e = 5 ∨ e = 3)) ∨ ∃ (n : Int) (k : Nat), tkN xs i = (n, (k : Int), 0) ∧ 0 ≤ n ∧ n ≤ 18446744073709551615 ∧ i < k ∧ k ≤ xs.length := by
  cases h : xs[i]? with
  | none => exact .inl ⟨5, by simp [tkN, h], .inl rfl⟩
  | some b =>
    have hi := (List.getElem?_eq_some_iff.1 h).1
    have hb := hr b (List.mem_of_getElem? h)
    by_cases h1 : b < 248
    · exact .inr ⟨b, i + 1, by rw [tkN_small h h1]; simp, hb.1, by omega, by omega, by omega⟩
    · by_cases h2 : xs.length < i + 1 + (b - 247).toNat
      · exact .inl ⟨5, tkN_short h h1 h2, .inl rfl⟩
      · by_cases h3 : val ((xs.drop (i + 1)).take (b - 247).toNat) < 248 ∨ nb (val ((xs.drop (i + 1)).take (b - 247).toNat)) < (b - 247).toNat
        · exact .inl ⟨3, tkN_form h h1 h2 h3, .inr rfl⟩
        · have hv := val_lt (b - 247).toNat ((xs.drop (i + 1)).take (b - 247).toNat) (hr.sub fun x hx => List.mem_of_mem_drop (List.mem_of_mem_take hx)) (by rw [List.length_take, List.length_drop]; omega)
          have hp := pow256 (b - 247).toNat (by omega)
          refine .inr ⟨_, i + 1 + (b - 247).toNat, by rw [tkN_ok h h1 h2 h3]; congr 2; omega, hv.1, by omega, by omega, by omega⟩

theorem tkN_drop (xs : List Int) (i : Nat) (hi : i ≤ xs.length) : tkN xs i = ((tkN (xs.drop i) 0).1, (if (tkN (xs.drop i) 0).2.2 = 0 then (tkN (xs.drop i) 0).2.1 + i else 0), (tkN (xs.drop i) 0).2.2) := by
  have e : (xs.drop i)[0]? = xs[i]? := by rw [List.getElem?_drop]; simp
  cases h : xs[i]? with
  | none => rw [h] at e; simp [tkN, h, e]
  | some b =>
    rw [h] at e
    have hl : i < xs.length := (List.getElem?_eq_some_iff.1 h).1
    by_cases h1 : b < 248
    · rw [tkN_small h h1, tkN_small e h1]; simp; omega
    · have ed : (xs.drop i).drop (0 + 1) = xs.drop (i + 1) := by rw [List.drop_drop]
      by_cases h2 : xs.length < i + 1 + (b - 247).toNat
      · rw [tkN_short h h1 h2, tkN_short e h1 (by rw [List.length_drop]; omega)]; simp
      · have h2' : ¬ (xs.drop i).length < 0 + 1 + (b - 247).toNat := by rw [List.length_drop]; omega
        by_cases h3 : val ((xs.drop (i + 1)).take (b - 247).toNat) < 248 ∨ nb (val ((xs.drop (i + 1)).take (b - 247).toNat)) < (b - 247).toNat
        · rw [tkN_form h h1 h2 h3, tkN_form e h1 h2' (by rw [ed]; exact h3)]; simp
        · rw [tkN_ok h h1 h2 h3, tkN_ok e h1 h2' (by rw [ed]; exact h3), ed]; simp; omega

theorem tk_zero (xs : List Int) : tk xs 0 = tkN xs 0 := tk_nat (i := 0) (Nat.zero_le _)

/-- What a reader that has xs left, and an error, does. -/
def numS (xs : List Int) (err : Int) : Int × List Int × Int :=
  if err ≠ 0 then (0, xs, err) else if (tkN xs 0).2.2 ≠ 0 then (0, xs, (tkN xs 0).2.2) else ((tkN xs 0).1, xs.drop (tkN xs 0).2.1.toNat, 0)
def textS (xs : List Int) (err : Int) : List Int × List Int × Int :=
  if err ≠ 0 then ([], xs, err) else if (tkN xs 0).2.2 ≠ 0 then ([], xs, (tkN xs 0).2.2)
  else if (xs.length : Int) - (tkN xs 0).2.1 < (tkN xs 0).1 then ([], xs, 5)
  else ((xs.drop (tkN xs 0).2.1.toNat).take (tkN xs 0).1.toNat, xs.drop ((tkN xs 0).2.1 + (tkN xs 0).1).toNat, 0)
def flagS (xs : List Int) (err : Int) : Bool × List Int × Int :=
  if err ≠ 0 then (false, xs, err) else match xs with
    | [] => (false, [], 5)
    | b :: r => if 1 < b then (false, b :: r, 3) else (b == 1, r, 0)
end Go.Proofs.Ytmjjbfcblmmipaa
