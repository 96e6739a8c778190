/- Cells and records of bytes, and how they open. No program is named here. -/
import Derived.Test.YtmckgdjipkkklaaDoorChk
namespace Go.Proofs.YtmckgdjipkkklaaDoor
set_option linter.unusedVariables false
set_option linter.unusedSimpArgs false

/-- A cell: bytes and their check bytes. -/
def cellL (l : List Nat) : List Nat := l ++ w4 (chk l)
theorem cellL_length (l : List Nat) : (cellL l).length = l.length + 4 := by simp [cellL, w4_length]
theorem cellL_rn {l : List Nat} (h : Rn l) : Rn (cellL l) := h.append (w4_rn _)
theorem cellL_good {l : List Nat} (h : Rn l) : goodL (cellL l) = true := goodL_app h
/-- Bytes cut into cells of 251. -/
def cellsF : Nat → List Nat → List Nat
  | 0, _ => []
  | f + 1, l => if l = [] then [] else cellL (l.take 251) ++ cellsF f (l.drop 251)
def cellsL (l : List Nat) : List Nat := cellsF l.length l
theorem cellsF_fuel : ∀ (f g : Nat) (l : List Nat), l.length ≤ f → l.length ≤ g → cellsF f l = cellsF g l
  | 0, 0, _, _, _ => rfl
  | 0, g + 1, l, h, _ => by
    have : l = [] := List.eq_nil_of_length_eq_zero (by omega)
    simp [cellsF, this]
  | f + 1, 0, l, _, h => by
    have : l = [] := List.eq_nil_of_length_eq_zero (by omega)
    simp [cellsF, this]
  | f + 1, g + 1, l, h1, h2 => by
    simp only [cellsF]
    by_cases h : l = []
    · simp [h]
    · have h0 : 0 < l.length := List.length_pos_iff.2 h
      rw [if_neg h, if_neg h, cellsF_fuel f g (l.drop 251) (by simp; omega) (by simp; omega)]
theorem cellsL_nil : cellsL [] = [] := rfl
theorem cellsL_step {l : List Nat} (h : l ≠ []) : cellsL l = cellL (l.take 251) ++ cellsL (l.drop 251) := by
  unfold cellsL
  have h0 : 0 < l.length := List.length_pos_iff.2 h
  obtain ⟨n, hn⟩ : ∃ n, l.length = n + 1 := ⟨l.length - 1, by omega⟩
  rw [hn]
  simp only [cellsF]
  rw [if_neg h, cellsF_fuel n (l.drop 251).length _ (by simp; omega) (Nat.le_refl _)]
/-- A record: the length as a cell, then the cells. -/
def recL (l : List Nat) : List Nat := cellL (w4 l.length) ++ cellsL l
/-- How many bytes a record of n bytes has. -/
def sealedN (n : Nat) : Nat := 8 + n + (n + 250) / 251 * 4
theorem cellsL_length (l : List Nat) : (cellsL l).length = l.length + (l.length + 250) / 251 * 4 := by
  suffices key : ∀ (n : Nat) (l : List Nat), l.length = n → (cellsL l).length = n + (n + 250) / 251 * 4 from key _ l rfl
  intro n
  induction n using Nat.strongRecOn with
  | _ n ih =>
    intro l hl
    by_cases h : l = []
    · subst h; simp at hl; subst hl; rfl
    · have h0 : 0 < l.length := List.length_pos_iff.2 h
      rw [cellsL_step h, List.length_append, cellL_length, ih (l.drop 251).length (by simp; omega) _ rfl]
      simp only [List.length_take, List.length_drop]
      omega
theorem recL_length (l : List Nat) : (recL l).length = sealedN l.length := by
  rw [recL, List.length_append, cellL_length, w4_length, cellsL_length]; unfold sealedN; omega
theorem cellsL_rn {l : List Nat} (h : Rn l) : Rn (cellsL l) := by
  suffices key : ∀ (n : Nat) (l : List Nat), l.length = n → Rn l → Rn (cellsL l) from key _ l rfl h
  intro n
  induction n using Nat.strongRecOn with
  | _ n ih =>
    intro l hl hr
    by_cases h : l = []
    · subst h; exact Rn.nil
    · have h0 : 0 < l.length := List.length_pos_iff.2 h
      rw [cellsL_step h]
      exact (cellL_rn (hr.take _)).append (ih (l.drop 251).length (by simp; omega) _ rfl (hr.drop _))
theorem recL_rn {l : List Nat} (h : Rn l) : Rn (recL l) := (cellL_rn (w4_rn _)).append (cellsL_rn h)

/-- What stands at a place: so many bytes. -/
def sub (l : List Nat) (a k : Nat) : List Nat := (l.drop a).take k
theorem sub_length {l : List Nat} {a k : Nat} (h : a + k ≤ l.length) : (sub l a k).length = k := by simp [sub]; omega
theorem sub_rn {l : List Nat} (h : Rn l) (a k : Nat) : Rn (sub l a k) := (h.drop a).take k
/-- The cell at a place: 5 if it isn't all there, 4 if it isn't good, 0. -/
def cellE (l : List Nat) (a k : Nat) : Nat := if l.length < a + (k + 4) then 5 else if goodL (sub l a (k + 4)) then 0 else 4
/-- The cells at a place, of so many bytes in all: an error, or the bytes and the place behind. -/
def openC : Nat → List Nat → Nat → Nat → Nat × List Nat × Nat
  | 0, _, a, _ => (0, [], a)
  | f + 1, l, a, left =>
    if left = 0 then (0, [], a)
    else if cellE l a (min left 251) ≠ 0 then (cellE l a (min left 251), [], 0)
    else
      let r := openC f l (a + (min left 251 + 4)) (left - min left 251)
      if r.1 ≠ 0 then (r.1, [], 0) else (0, sub l a (min left 251) ++ r.2.1, r.2.2)
/-- Four bytes as a number, the greatest first. -/
def be4 (l : List Nat) : Nat := l.getD 0 0 * 16777216 + l.getD 1 0 * 65536 + l.getD 2 0 * 256 + l.getD 3 0
/-- The record at a place. -/
def openL (l : List Nat) (a : Nat) : Nat × List Nat × Nat :=
  if cellE l a 4 ≠ 0 then (cellE l a 4, [], 0)
  else if 1048576 < be4 (sub l a 4) then (2, [], 0)
  else openC (be4 (sub l a 4)) l (a + 8) (be4 (sub l a 4))

theorem sub_append_left {p r : List Nat} {k : Nat} (hk : k ≤ r.length) (s : List Nat) : sub (p ++ (r ++ s)) p.length k = r.take k := by
  unfold sub
  rw [List.drop_left, List.take_append_of_le_length hk]
/-- A cell that stands there opens. -/
theorem cellE_whole (p s : List Nat) {x : List Nat} (hx : Rn x) : cellE (p ++ (cellL x ++ s)) p.length x.length = 0 ∧ sub (p ++ (cellL x ++ s)) p.length x.length = x := by
  have hl := cellL_length x
  constructor
  · unfold cellE
    rw [if_neg (by simp only [List.length_append, hl]; omega)]
    rw [sub_append_left (by omega), List.take_of_length_le (by omega), cellL_good hx]; rfl
  · rw [sub_append_left (by omega)]
    simp [cellL]
/-- A cell of which only a beginning stands there ends too early. -/
theorem cellE_short (p : List Nat) {x : List Nat} {k : Nat} (hk : k < x.length + 4) : cellE (p ++ (cellL x).take k) p.length x.length = 5 := by
  unfold cellE
  rw [if_pos (by simp only [List.length_append, List.length_take, cellL_length]; omega)]
theorem be4_w4 {n : Nat} (h : n < 4294967296) : be4 (w4 n) = n := by
  simp only [be4, w4, List.getD_cons_zero, List.getD_cons_succ]
  omega
theorem openC_zero (f : Nat) (l : List Nat) (a : Nat) : openC f l a 0 = (0, [], a) := by cases f <;> simp [openC]
/-- Cells that stand there open. -/
theorem openC_whole : ∀ (f : Nat) (p s x : List Nat), Rn x → x.length ≤ f → openC f (p ++ (cellsL x ++ s)) p.length x.length = (0, x, p.length + (cellsL x).length)
  | 0, p, s, x, hx, hf => by
    have : x = [] := List.eq_nil_of_length_eq_zero (by omega)
    subst this; simp [openC, cellsL_nil]
  | f + 1, p, s, x, hx, hf => by
    by_cases h : x = []
    · subst h; simp [openC, cellsL_nil]
    · have h0 : 0 < x.length := List.length_pos_iff.2 h
      have hmin : min x.length 251 = (x.take 251).length := by rw [List.length_take]; omega
      simp only [openC]
      rw [if_neg (by omega), hmin, cellsL_step h]
      have hw := cellE_whole p (cellsL (x.drop 251) ++ s) (hx.take 251)
      rw [List.append_assoc, hw.1, hw.2]
      simp only [ne_eq, not_true, if_false, not_false_eq_true]
      have ih := openC_whole f (p ++ cellL (x.take 251)) s (x.drop 251) (hx.drop _) (by simp; omega)
      have e1 : p.length + ((x.take 251).length + 4) = (p ++ cellL (x.take 251)).length := by rw [List.length_append, cellL_length]
      have e2 : x.length - (x.take 251).length = (x.drop 251).length := by rw [List.length_take, List.length_drop]; omega
      rw [e1, e2]
      rw [List.append_assoc] at ih
      rw [ih]
      simp only [ne_eq, not_true, if_false, Prod.mk.injEq, true_and, List.take_append_drop]
      simp only [List.length_append]; omega
/-- Cells of which only a beginning stands there end too early. -/
theorem openC_short : ∀ (f : Nat) (p x : List Nat) (k : Nat), Rn x → x.length ≤ f → k < (cellsL x).length → (openC f (p ++ (cellsL x).take k) p.length x.length).1 = 5
  | 0, p, x, k, hx, hf, hk => by
    have : x = [] := List.eq_nil_of_length_eq_zero (by omega)
    subst this; simp [cellsL_nil] at hk
  | f + 1, p, x, k, hx, hf, hk => by
    have h : x ≠ [] := by intro e; subst e; simp [cellsL_nil] at hk
    have h0 : 0 < x.length := List.length_pos_iff.2 h
    have hmin : min x.length 251 = (x.take 251).length := by rw [List.length_take]; omega
    have hcl := cellL_length (x.take 251)
    simp only [openC]
    rw [if_neg (by omega), hmin, cellsL_step h]
    rw [cellsL_step h, List.length_append, hcl] at hk
    by_cases hs : k < (x.take 251).length + 4
    · rw [List.take_append_of_le_length (by omega), cellE_short p hs]
      simp
    · have et : (cellL (x.take 251) ++ cellsL (x.drop 251)).take k = cellL (x.take 251) ++ (cellsL (x.drop 251)).take (k - ((x.take 251).length + 4)) := by
        rw [List.take_append, hcl, List.take_of_length_le (by omega)]
      have hw := cellE_whole p ((cellsL (x.drop 251)).take (k - ((x.take 251).length + 4))) (hx.take 251)
      rw [et, hw.1]
      simp only [ne_eq, not_true, if_false]
      have ih := openC_short f (p ++ cellL (x.take 251)) (x.drop 251) (k - ((x.take 251).length + 4)) (hx.drop _) (by simp; omega) (by omega)
      have e1 : p.length + ((x.take 251).length + 4) = (p ++ cellL (x.take 251)).length := by rw [List.length_append, hcl]
      have e2 : x.length - (x.take 251).length = (x.drop 251).length := by rw [List.length_take, List.length_drop]; omega
      rw [e1, e2, ← List.append_assoc, ih]
      simp
/-- A record that stands there opens. -/
theorem openL_whole (p s : List Nat) {x : List Nat} (hx : Rn x) (hl : x.length ≤ 1048576) : openL (p ++ (recL x ++ s)) p.length = (0, x, p.length + (recL x).length) := by
  have hw := cellE_whole p (cellsL x ++ s) (w4_rn x.length)
  have e : p ++ (recL x ++ s) = p ++ (cellL (w4 x.length) ++ (cellsL x ++ s)) := by simp [recL]
  unfold openL
  rw [w4_length] at hw
  rw [e, hw.1, hw.2, be4_w4 (by omega)]
  simp only [ne_eq, not_true, if_false]
  rw [if_neg (by omega)]
  have ih := openC_whole x.length (p ++ cellL (w4 x.length)) s x hx (Nat.le_refl _)
  have e1 : p.length + 8 = (p ++ cellL (w4 x.length)).length := by rw [List.length_append, cellL_length, w4_length]
  rw [e1]
  rw [List.append_assoc] at ih
  rw [ih, recL]
  simp only [List.length_append, Prod.mk.injEq, true_and]; omega
/-- A record of which only a beginning stands there ends too early. -/
theorem openL_short (p : List Nat) {x : List Nat} {k : Nat} (hx : Rn x) (hl : x.length ≤ 1048576) (hk : k < (recL x).length) : (openL (p ++ (recL x).take k) p.length).1 = 5 := by
  have hcl : (cellL (w4 x.length)).length = 8 := by rw [cellL_length, w4_length]
  unfold openL
  by_cases hs : k < 8
  · have e : (recL x).take k = (cellL (w4 x.length)).take k := by rw [recL, List.take_append_of_le_length (by omega)]
    have := cellE_short p (x := w4 x.length) (k := k) (by rw [w4_length]; omega)
    rw [w4_length] at this
    rw [e, this]; simp
  · have e : (recL x).take k = cellL (w4 x.length) ++ (cellsL x).take (k - 8) := by rw [recL, List.take_append, hcl, List.take_of_length_le (by omega)]
    have hw := cellE_whole p ((cellsL x).take (k - 8)) (w4_rn x.length)
    rw [w4_length] at hw
    rw [e, hw.1, hw.2, be4_w4 (by omega)]
    simp only [ne_eq, not_true, if_false]
    rw [if_neg (by omega)]
    have hk' : k - 8 < (cellsL x).length := by rw [recL, List.length_append, hcl] at hk; omega
    have ih := openC_short x.length (p ++ cellL (w4 x.length)) x (k - 8) hx (Nat.le_refl _) hk'
    have e1 : p.length + 8 = (p ++ cellL (w4 x.length)).length := by rw [List.length_append, hcl]
    rw [e1, ← List.append_assoc]; exact ih
end Go.Proofs.YtmckgdjipkkklaaDoor
