/- Beginnings of packed parts, and more bytes behind them: plain mathematics, no program. -/
import Derived.Test.YtmjjbfcblmmipaaSpl
namespace Go.Proofs.Ytmjjbfcblmmipaa
set_option linter.unusedVariables false
set_option linter.unusedSimpArgs false

theorem tkN_pre (n : Int) (h0 : 0 ≤ n) (i : Nat) (hi : i < (num n).length) : tkN ((num n).take i) 0 = (0, 0, 5) := by
  rcases Nat.eq_zero_or_pos i with rfl | hp
  · rfl
  · rw [num_length] at hi
    by_cases h : n < 248
    · simp [h] at hi; omega
    · rw [if_neg h] at hi
      rw [num_great n h]
      obtain ⟨j, rfl⟩ : ∃ j, i = j + 1 := ⟨i - 1, by omega⟩
      have e : (((247 + (nb n : Int)) :: be (nb n) n).take (j + 1))[0]? = some (247 + (nb n : Int)) := by simp
      refine tkN_short e (by have := nb_pos n (by omega); omega) ?_
      rw [List.length_take, List.length_cons, be_length]; omega
theorem textS_pre (xs post : List Int) (hx : (xs.length : Int) ≤ 18446744073709551615) (i : Nat) (hi : i < (num xs.length).length + xs.length) : (textS ((num xs.length ++ (xs ++ post)).take i) 0).2.2 = 5 := by
  by_cases h : i < (num (xs.length : Int)).length
  · rw [List.take_append_of_le_length (by omega)]
    rw [textS_err (tkN_pre _ (by omega) i h) (.inl rfl)]
  · have e : (num (xs.length : Int) ++ (xs ++ post)).take i = num (xs.length : Int) ++ (xs ++ post).take (i - (num (xs.length : Int)).length) := by
      rw [List.take_append, List.take_of_length_le (by omega)]
    rw [e]
    unfold textS
    rw [tkN_head _ _ (by omega) hx]
    have hl : ((num (xs.length : Int) ++ (xs ++ post).take (i - (num (xs.length : Int)).length)).length : Int) - ((num (xs.length : Int)).length : Int) < (xs.length : Int) := by
      simp only [List.length_append, List.length_take]; omega
    simp only [ne_eq, not_true_eq_false, if_false]
    rw [if_pos hl]
theorem textS_behind (xs post : List Int) (hx : (xs.length : Int) ≤ 18446744073709551615) (i : Nat) (hi : (num xs.length).length + xs.length ≤ i) : textS ((num xs.length ++ (xs ++ post)).take i) 0 = (xs, post.take (i - ((num xs.length).length + xs.length)), 0) := by
  have e : (num (xs.length : Int) ++ (xs ++ post)).take i = num (xs.length : Int) ++ (xs ++ post.take (i - ((num (xs.length : Int)).length + xs.length))) := by
    rw [List.take_append, List.take_of_length_le (by omega), List.take_append, List.take_of_length_le (by omega), Nat.sub_sub]
  rw [e]
  exact textS_head xs _ hx
theorem spl_pre (xss : List (List Int)) (hs : ∀ xs ∈ xss, (xs.length : Int) ≤ 18446744073709551615) : ∀ (f : Nat) (acc : List (List Int)) (i : Nat), i < (texts xss).length → i < f → spl f xss.length ((texts xss).take i) acc = ([], 5) := by
  induction xss with
  | nil => intro f acc i hi; simp [texts] at hi
  | cons x r ih =>
    intro f acc i hi hf
    have e : texts (x :: r) = num x.length ++ (x ++ texts r) := by simp [texts]
    rw [e] at hi ⊢
    obtain ⟨g, rfl⟩ : ∃ g, f = g + 1 := ⟨f - 1, by omega⟩
    have hx := hs x (by simp)
    by_cases h : i < (num (x.length : Int)).length + x.length
    · have h5 := textS_pre x (texts r) hx i h
      rw [List.length_cons]
      generalize htx : textS ((num (x.length : Int) ++ (x ++ texts r)).take i) 0 = tt at h5
      obtain ⟨t, r', e'⟩ := tt
      have : e' = 5 := h5
      subst this
      exact spl_err g r.length htx (by decide) acc
    · rw [List.length_cons, spl_ok g r.length (textS_behind x (texts r) hx i (by omega))]
      have hp := num_pos (x.length : Int)
      simp only [List.length_append] at hi
      exact ih (fun xs hx => hs xs (by simp [hx])) g _ _ (by omega) (by omega)
theorem splitL_pre (xss : List (List Int)) (hn : (xss.length : Int) ≤ 18446744073709551615) (hs : ∀ xs ∈ xss, (xs.length : Int) ≤ 18446744073709551615) (i : Nat) (hi : i < (joinL xss).length) : splitL ((joinL xss).take i) = ([], 5) := by
  unfold joinL at hi ⊢
  by_cases h : i < (num (xss.length : Int)).length
  · rw [List.take_append_of_le_length (by omega)]
    exact splitL_err (numS_err (tkN_pre _ (by omega) i h) (.inl rfl)) (by decide)
  · have e : (num (xss.length : Int) ++ texts xss).take i = num (xss.length : Int) ++ (texts xss).take (i - (num (xss.length : Int)).length) := by
      rw [List.take_append, List.take_of_length_le (by omega)]
    rw [e]
    have hnm : numS (num (xss.length : Int) ++ (texts xss).take (i - (num (xss.length : Int)).length)) 0 = ((xss.length : Int), (texts xss).take (i - (num (xss.length : Int)).length), 0) := by
      unfold numS
      rw [tkN_head _ _ (by omega) hn]
      simp
    rw [splitL_ok hnm, Int.toNat_natCast]
    simp only [List.length_append] at hi
    exact spl_pre xss hs _ [] _ (by omega) (by rw [List.length_take]; omega)
theorem spl_behind (xss : List (List Int)) (more : List Int) (hm : more ≠ []) (hs : ∀ xs ∈ xss, (xs.length : Int) ≤ 18446744073709551615) : ∀ (f : Nat) (acc : List (List Int)), (texts xss ++ more).length < f → spl f xss.length (texts xss ++ more) acc = ([], 3) := by
  induction xss with
  | nil =>
    intro f acc _
    show spl f 0 more acc = ([], 3)
    exact spl_more f hm acc
  | cons x r ih =>
    intro f acc hf
    have e : texts (x :: r) ++ more = num x.length ++ (x ++ (texts r ++ more)) := by simp [texts]
    rw [e] at hf ⊢
    obtain ⟨g, rfl⟩ : ∃ g, f = g + 1 := ⟨f - 1, by omega⟩
    have hp := num_pos (x.length : Int)
    rw [List.length_cons, spl_ok g r.length (textS_head x (texts r ++ more) (hs x (by simp))), ih (fun xs hx => hs xs (by simp [hx])) g _ (by simp only [List.length_append] at hf ⊢; omega)]
theorem splitL_behind (xss : List (List Int)) (more : List Int) (hm : more ≠ []) (hn : (xss.length : Int) ≤ 18446744073709551615) (hs : ∀ xs ∈ xss, (xs.length : Int) ≤ 18446744073709551615) : splitL (joinL xss ++ more) = ([], 3) := by
  have hnm : numS (joinL xss ++ more) 0 = ((xss.length : Int), texts xss ++ more, 0) := by
    unfold numS joinL
    rw [List.append_assoc, tkN_head _ _ (by omega) hn]
    simp
  rw [splitL_ok hnm, Int.toNat_natCast]
  exact spl_behind xss more hm hs _ [] (by omega)
end Go.Proofs.Ytmjjbfcblmmipaa
