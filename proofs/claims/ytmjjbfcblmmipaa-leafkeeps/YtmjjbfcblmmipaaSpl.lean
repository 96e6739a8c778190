/- Splitting bytes into parts: plain mathematics, no program. -/
import Derived.Test.YtmjjbfcblmmipaaSteps
import Derived.Test.YtmjjbfcblmmipaaJoinW
namespace Go.Proofs.Ytmjjbfcblmmipaa
set_option linter.unusedVariables false
set_option linter.unusedSimpArgs false

/-- So many texts out of bytes, behind those that are there already; with fuel. -/
def spl : Nat → Nat → List Int → List (List Int) → List (List Int) × Int
  | _, 0, xs, acc => if xs = [] then (acc, 0) else ([], 3)
  | 0, _ + 1, _, _ => ([], 5)
  | f + 1, n + 1, xs, acc => if (textS xs 0).2.2 ≠ 0 then ([], (textS xs 0).2.2) else spl f n (textS xs 0).2.1 (acc ++ [(textS xs 0).1])
def splitL (xs : List Int) : List (List Int) × Int :=
  if (numS xs 0).2.2 ≠ 0 then ([], (numS xs 0).2.2) else spl ((numS xs 0).2.1.length + 1) (numS xs 0).1.toNat (numS xs 0).2.1 []

theorem spl_done (f : Nat) (acc : List (List Int)) : spl f 0 [] acc = (acc, 0) := by cases f <;> simp [spl]
theorem spl_more (f : Nat) {xs : List Int} (h : xs ≠ []) (acc : List (List Int)) : spl f 0 xs acc = ([], 3) := by cases f <;> simp [spl, h]
theorem spl_err (f n : Nat) {xs t r : List Int} {e : Int} (h : textS xs 0 = (t, r, e)) (he : e ≠ 0) (acc : List (List Int)) : spl (f + 1) (n + 1) xs acc = ([], e) := by
  simp only [spl, h]; rw [if_pos he]
theorem spl_ok (f n : Nat) {xs t r : List Int} (h : textS xs 0 = (t, r, 0)) (acc : List (List Int)) : spl (f + 1) (n + 1) xs acc = spl f n r (acc ++ [t]) := by
  simp only [spl, h]; rw [if_neg (by simp)]
theorem splitL_err {xs r : List Int} {v e : Int} (h : numS xs 0 = (v, r, e)) (he : e ≠ 0) : splitL xs = ([], e) := by
  simp only [splitL, h]; rw [if_pos he]
theorem splitL_ok {xs r : List Int} {v : Int} (h : numS xs 0 = (v, r, 0)) : splitL xs = spl (r.length + 1) v.toNat r [] := by
  simp only [splitL, h]; rw [if_neg (by simp)]

/-- What a text takes. -/
theorem textS_cases (xs : List Int) (hr : Ran xs) : (∃ e, textS xs 0 = ([], xs, e) ∧ (e = 5 ∨ e = 3)) ∨ ∃ t r, textS xs 0 = (t, r, 0) ∧ r.length + t.length < xs.length ∧ Ran r ∧ Ran t := by
  rcases tk_step xs hr 0 (Nat.zero_le _) with ⟨e, _, he, hs⟩ | ⟨n, k, _, _, hk, hkl, hs⟩
  · rw [List.drop_zero] at hs
    exact .inl ⟨e, textS_err hs he, he⟩
  · by_cases hl : xs.length < k + n
    · have := textS_long hs hk hkl hl
      rw [List.drop_zero] at this
      exact .inl ⟨5, this, .inl rfl⟩
    · have := textS_ok hs hk hkl (by omega)
      rw [List.drop_zero] at this
      refine .inr ⟨_, _, this, ?_, hr.sub fun x hx => List.mem_of_mem_drop hx, hr.sub fun x hx => List.mem_of_mem_drop (List.mem_of_mem_take hx)⟩
      rw [List.length_drop, List.length_take, List.length_drop]; omega
theorem numS_cases (xs : List Int) (hr : Ran xs) : (∃ e, numS xs 0 = (0, xs, e) ∧ (e = 5 ∨ e = 3)) ∨ ∃ (v : Nat) (r : List Int), numS xs 0 = ((v : Int), r, 0) ∧ (v : Int) ≤ 18446744073709551615 ∧ r.length < xs.length ∧ Ran r := by
  rcases tk_step xs hr 0 (Nat.zero_le _) with ⟨e, _, he, hs⟩ | ⟨n, k, _, hn, hk, hkl, hs⟩
  · rw [List.drop_zero] at hs
    exact .inl ⟨e, numS_err hs he, he⟩
  · have := numS_ok hs hk
    rw [List.drop_zero] at this
    exact .inr ⟨n, _, this, hn, by rw [List.length_drop]; omega, hr.sub fun x hx => List.mem_of_mem_drop hx⟩

/-- A joined text is split again. -/
theorem tkN_head (n : Int) (post : List Int) (h0 : 0 ≤ n) (h1 : n ≤ 18446744073709551615) : tkN (num n ++ post) 0 = (n, ((num n).length : Int), 0) := by
  have := tkN_num [] post n h0 h1
  simpa using this
theorem textS_head (xs post : List Int) (h : (xs.length : Int) ≤ 18446744073709551615) : textS (num xs.length ++ (xs ++ post)) 0 = (xs, post, 0) := by
  unfold textS
  rw [tkN_head _ _ (by omega) h]
  have e1 : ¬ ((num (xs.length : Int) ++ (xs ++ post)).length : Int) - ((num (xs.length : Int)).length : Int) < (xs.length : Int) := by
    simp only [List.length_append]; omega
  have e2 : (((num (xs.length : Int)).length : Int) + (xs.length : Int)).toNat = (num (xs.length : Int)).length + xs.length := by omega
  simp only [ne_eq, not_true_eq_false, if_false, e1, Int.toNat_natCast, e2]
  have e3 : (num (xs.length : Int) ++ (xs ++ post)).drop (num (xs.length : Int)).length = xs ++ post := by simp
  rw [e3, List.take_left, ← List.drop_drop, e3]
  simp
theorem spl_texts (xss : List (List Int)) (hs : ∀ xs ∈ xss, (xs.length : Int) ≤ 18446744073709551615) : ∀ (f : Nat) (acc : List (List Int)), (texts xss).length < f → spl f xss.length (texts xss) acc = (acc ++ xss, 0) := by
  induction xss with
  | nil =>
    intro f acc _
    show spl f 0 [] acc = (acc ++ [], 0)
    rw [List.append_nil]; exact spl_done f acc
  | cons x r ih =>
    intro f acc hf
    have e : texts (x :: r) = num x.length ++ (x ++ texts r) := by simp [texts]
    rw [e] at hf ⊢
    obtain ⟨g, rfl⟩ : ∃ g, f = g + 1 := ⟨f - 1, by omega⟩
    have hp := num_pos (x.length : Int)
    rw [List.length_cons, spl_ok g r.length (textS_head x (texts r) (hs x (by simp))), ih (fun xs hx => hs xs (by simp [hx])) g _ (by simp only [List.length_append] at hf; omega)]
    simp
theorem splitL_join (xss : List (List Int)) (hn : (xss.length : Int) ≤ 18446744073709551615) (hs : ∀ xs ∈ xss, (xs.length : Int) ≤ 18446744073709551615) : splitL (joinL xss) = (xss, 0) := by
  have h : numS (joinL xss) 0 = ((xss.length : Int), texts xss, 0) := by
    unfold numS joinL
    rw [tkN_head _ _ (by omega) hn]
    simp
  rw [splitL_ok h, Int.toNat_natCast, spl_texts xss hs _ [] (by omega)]
  simp

/-- And what was split is joined again. -/
theorem tk_unique (xs : List Int) (hr : Ran xs) (n k : Nat) (h : tkN xs 0 = ((n : Int), (k : Int), 0)) : xs = num n ++ xs.drop k := by
  cases hx : xs[0]? with
  | none => simp [tkN, hx] at h
  | some b =>
    obtain ⟨h0, e0⟩ := List.getElem?_eq_some_iff.1 hx
    have hb := hr b (List.mem_of_getElem? hx)
    have hc : xs = b :: xs.drop 1 := by
      have := List.drop_eq_getElem_cons h0
      rw [List.drop_zero, e0] at this; exact this
    by_cases h1 : b < 248
    · rw [tkN_small hx h1] at h
      simp only [Prod.mk.injEq] at h
      obtain ⟨hn, hk, _⟩ := h
      have hk1 : k = 1 := by omega
      rw [← hn, num_small b h1, hk1]; exact hc
    · by_cases h2 : xs.length < 0 + 1 + (b - 247).toNat
      · rw [tkN_short hx h1 h2] at h; simp at h
      · by_cases h3 : val ((xs.drop (0 + 1)).take (b - 247).toNat) < 248 ∨ nb (val ((xs.drop (0 + 1)).take (b - 247).toNat)) < (b - 247).toNat
        · rw [tkN_form hx h1 h2 h3] at h; simp at h
        · rw [tkN_ok hx h1 h2 h3] at h
          simp only [Prod.mk.injEq] at h
          obtain ⟨hn, hk, _⟩ := h
          have hlen : ((xs.drop (0 + 1)).take (b - 247).toNat).length = (b - 247).toNat := by rw [List.length_take, List.length_drop]; omega
          have hran : Ran ((xs.drop (0 + 1)).take (b - 247).toNat) := hr.sub fun x hx => List.mem_of_mem_drop (List.mem_of_mem_take hx)
          have hv := val_lt (b - 247).toNat _ hran hlen
          have hnb : nb (val ((xs.drop (0 + 1)).take (b - 247).toNat)) = (b - 247).toNat := by
            have := nb_of_lt (b - 247).toNat _ (by omega) hv.2
            omega
          have hbe := be_val _ hran
          rw [hlen] at hbe
          rw [← hn, num_great _ (by omega), hnb, hbe]
          have hk1 : k = 1 + (b - 247).toNat := by omega
          rw [hk1, show (247 : Int) + ((b - 247).toNat : Int) = b by omega]
          conv => lhs; rw [hc]
          rw [List.cons_append]
          congr 1
          have ed : xs.drop (1 + (b - 247).toNat) = (xs.drop (0 + 1)).drop (b - 247).toNat := by rw [List.drop_drop]
          rw [ed]
          exact (List.take_append_drop _ _).symm
where
  be_val : ∀ (l : List Int), Ran l → be l.length (val l) = l := by
    intro l
    induction hl : l.length generalizing l with
    | zero => intro _; have : l = [] := List.eq_nil_of_length_eq_zero hl; subst this; rfl
    | succ k ih =>
      intro hr
      have hne : l ≠ [] := by intro e; rw [e] at hl; cases hl
      have e : l = l.dropLast ++ [l.getLast hne] := (List.dropLast_concat_getLast hne).symm
      have hx := hr _ (List.getLast_mem hne)
      have h1 := ih l.dropLast (by simp [hl]) (hr.sub fun x hx => (List.dropLast_sublist l).mem hx)
      have ev : val l = val l.dropLast * 256 + l.getLast hne := by conv => lhs; rw [e, val_snoc]
      show be k (val l / 256) ++ [val l % 256] = l
      rw [ev, show (val l.dropLast * 256 + l.getLast hne) / 256 = val l.dropLast by omega, show (val l.dropLast * 256 + l.getLast hne) % 256 = l.getLast hne by omega, h1]
      exact e.symm
end Go.Proofs.Ytmjjbfcblmmipaa
