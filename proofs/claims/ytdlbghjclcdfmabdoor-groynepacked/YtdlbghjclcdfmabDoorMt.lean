/- The mathematics of patterns: a recursive matcher, what it is of patterns behind one another, and what the last star need stand for. -/
import Derived.Test.YtdlbghjclcdfmabDoorBase
namespace Go.Proofs.YtdlbghjclcdfmabDoor
set_option linter.unusedVariables false
set_option linter.unusedSimpArgs false

def anyTail (f : List Int → Bool) : List Int → Bool
  | [] => f []
  | c :: r => f (c :: r) || anyTail f r
def hdOk (p : Int) (f : List Int → Bool) : List Int → Bool
  | [] => false
  | c :: r => (p == 63 || p == c) && f r
/-- Does a text match a pattern? -/
def mt : List Int → List Int → Bool
  | [], s => s.isEmpty
  | p :: ps, s => if p = 42 then anyTail (mt ps) s else hdOk p (mt ps) s

theorem anyTail_iff (f : List Int → Bool) : ∀ s, anyTail f s = true ↔ ∃ x t, s = x ++ t ∧ f t = true
  | [] => by
    simp only [anyTail]
    constructor
    · intro h; exact ⟨[], [], rfl, h⟩
    · rintro ⟨x, t, e, h⟩
      obtain ⟨rfl, rfl⟩ : x = [] ∧ t = [] := by simpa using e.symm
      exact h
  | c :: r => by
    simp only [anyTail, Bool.or_eq_true, anyTail_iff f r]
    constructor
    · rintro (h | ⟨x, t, rfl, h⟩)
      · exact ⟨[], _, rfl, h⟩
      · exact ⟨c :: x, t, rfl, h⟩
    · rintro ⟨x, t, e, h⟩
      cases x with
      | nil => left; rw [e]; exact h
      | cons y x =>
        injection e with e1 e2
        exact .inr ⟨x, t, e2, h⟩
theorem hdOk_iff (p : Int) (f : List Int → Bool) (s : List Int) : hdOk p f s = true ↔ ∃ c r, s = c :: r ∧ (p = 63 ∨ p = c) ∧ f r = true := by
  cases s with
  | nil => simp [hdOk]
  | cons c r =>
    simp only [hdOk, Bool.and_eq_true, Bool.or_eq_true, beq_iff_eq]
    constructor
    · rintro ⟨h1, h2⟩; exact ⟨c, r, rfl, h1, h2⟩
    · rintro ⟨c', r', e, h1, h2⟩
      injection e with e1 e2
      subst e1; subst e2
      exact ⟨h1, h2⟩
theorem mt_star (ps s : List Int) : mt (42 :: ps) s = anyTail (mt ps) s := by simp [mt]
theorem mt_lit {p : Int} (h : p ≠ 42) (ps s : List Int) : mt (p :: ps) s = hdOk p (mt ps) s := by simp [mt, h]
theorem mt_append : ∀ (a b s : List Int), mt (a ++ b) s = true ↔ ∃ u v, s = u ++ v ∧ mt a u = true ∧ mt b v = true
  | [], b, s => by
    constructor
    · intro h; exact ⟨[], s, rfl, rfl, h⟩
    · rintro ⟨u, v, rfl, hu, hv⟩
      obtain rfl : u = [] := by simpa [mt] using hu
      exact hv
  | p :: a, b, s => by
    by_cases hp : p = 42
    · subst hp
      rw [List.cons_append, mt_star, anyTail_iff]
      constructor
      · rintro ⟨x, t, rfl, h⟩
        obtain ⟨u, v, rfl, hu, hv⟩ := (mt_append a b t).1 h
        exact ⟨x ++ u, v, by simp, by rw [mt_star, anyTail_iff]; exact ⟨x, u, rfl, hu⟩, hv⟩
      · rintro ⟨u, v, rfl, hu, hv⟩
        rw [mt_star, anyTail_iff] at hu
        obtain ⟨x, t, rfl, ht⟩ := hu
        exact ⟨x, t ++ v, by simp, (mt_append a b _).2 ⟨t, v, rfl, ht, hv⟩⟩
    · rw [List.cons_append, mt_lit hp, hdOk_iff]
      constructor
      · rintro ⟨c, r, rfl, hc, h⟩
        obtain ⟨u, v, rfl, hu, hv⟩ := (mt_append a b r).1 h
        exact ⟨c :: u, v, rfl, by rw [mt_lit hp, hdOk_iff]; exact ⟨c, u, rfl, hc, hu⟩, hv⟩
      · rintro ⟨u, v, rfl, hu, hv⟩
        rw [mt_lit hp, hdOk_iff] at hu
        obtain ⟨c, r, rfl, hc, h⟩ := hu
        exact ⟨c, r ++ v, rfl, hc, (mt_append a b _).2 ⟨r, v, rfl, h, hv⟩⟩
theorem mt_one (v : List Int) : mt [42] v = true := by
  rw [mt_star, anyTail_iff]; exact ⟨v, [], by simp, rfl⟩
theorem bool_iff {a b : Bool} (h : a = true ↔ b = true) : a = b := by
  cases a <;> cases b <;> simp_all
theorem mt_snoc_star_nil (ps : List Int) : mt (ps ++ [42]) [] = mt ps [] := by
  apply bool_iff
  rw [mt_append]
  constructor
  · rintro ⟨u, v, e, hu, hv⟩
    obtain ⟨rfl, rfl⟩ : u = [] ∧ v = [] := by simpa using e.symm
    exact hu
  · intro h; exact ⟨[], [], rfl, h, mt_one _⟩
theorem mt_snoc_lit_nil {p : Int} (hp : p ≠ 42) (ps : List Int) : mt (ps ++ [p]) [] = false := by
  rw [Bool.eq_false_iff]
  intro h
  obtain ⟨u, v, e, hu, hv⟩ := (mt_append _ _ _).1 h
  obtain ⟨rfl, rfl⟩ : u = [] ∧ v = [] := by simpa using e.symm
  rw [mt_lit hp] at hv
  simp [hdOk] at hv
theorem snoc_cases {u v s : List Int} {c : Int} (e : s ++ [c] = u ++ v) : (v = [] ∧ u = s ++ [c]) ∨ ∃ v', v = v' ++ [c] ∧ s = u ++ v' := by
  rcases List.eq_nil_or_concat v with rfl | ⟨v', x, rfl⟩
  · left; simpa using e.symm
  · right
    rw [List.concat_eq_append, ← List.append_assoc] at e
    obtain ⟨h1, h2⟩ := List.append_inj' e rfl
    injection h2 with h2
    exact ⟨v', by rw [List.concat_eq_append, h2], h1⟩
theorem mt_snoc_star (ps s : List Int) (c : Int) : mt (ps ++ [42]) (s ++ [c]) = (mt ps (s ++ [c]) || mt (ps ++ [42]) s) := by
  apply bool_iff
  rw [Bool.or_eq_true, mt_append, mt_append]
  constructor
  · rintro ⟨u, v, e, hu, hv⟩
    rcases snoc_cases e with ⟨rfl, rfl⟩ | ⟨v', rfl, rfl⟩
    · exact .inl hu
    · exact .inr ⟨u, v', rfl, hu, mt_one _⟩
  · rintro (h | ⟨u, v, rfl, hu, hv⟩)
    · exact ⟨s ++ [c], [], by simp, h, mt_one _⟩
    · exact ⟨u, v ++ [c], by simp, hu, mt_one _⟩
theorem mt_snoc_lit {p : Int} (hp : p ≠ 42) (ps s : List Int) (c : Int) : mt (ps ++ [p]) (s ++ [c]) = (mt ps s && (p == 63 || p == c)) := by
  apply bool_iff
  rw [Bool.and_eq_true, mt_append]
  constructor
  · rintro ⟨u, v, e, hu, hv⟩
    rw [mt_lit hp, hdOk_iff] at hv
    obtain ⟨x, r, rfl, hx, hr⟩ := hv
    obtain rfl : r = [] := by simpa [mt] using hr
    obtain ⟨h1, h2⟩ := List.append_inj' e rfl
    injection h2 with h2
    subst h1; subst h2
    exact ⟨hu, by simpa using hx⟩
  · rintro ⟨h, hx⟩
    exact ⟨s, [c], rfl, h, by rw [mt_lit hp, hdOk_iff]; exact ⟨c, [], rfl, by simpa using hx, rfl⟩⟩
theorem mt_nil_snoc (s : List Int) (c : Int) : mt [] (s ++ [c]) = false := by simp [mt]
theorem mt_mid (a b s : List Int) : mt (a ++ 42 :: b) s = true ↔ ∃ u x t, s = u ++ (x ++ t) ∧ mt a u = true ∧ mt b t = true := by
  rw [mt_append]
  constructor
  · rintro ⟨u, v, rfl, hu, hv⟩
    rw [mt_star, anyTail_iff] at hv
    obtain ⟨x, t, rfl, ht⟩ := hv
    exact ⟨u, x, t, rfl, hu, ht⟩
  · rintro ⟨u, x, t, rfl, hu, ht⟩
    exact ⟨u, x ++ t, rfl, hu, by rw [mt_star, anyTail_iff]; exact ⟨x, t, rfl, ht⟩⟩

/-- What the walk of the greedy matcher keeps: `R` is the answer; `at` and `i` the places; a star at `st - 1` met at `fr`, or none (`st = 0`). -/
def Keep (s p : List Int) (i a st fr : Nat) : Prop :=
  i ≤ s.length ∧ a ≤ p.length ∧
  ((st = 0 ∧ fr = 0 ∧ mt p s = mt (p.drop a) (s.drop i)) ∨
   (0 < st ∧ st ≤ a ∧ fr ≤ i ∧ mt p s = anyTail (mt (p.drop st)) (s.drop fr) ∧ mt (p.drop st) (s.drop fr) = mt (p.drop a) (s.drop i) ∧
     ∀ T, mt (p.drop st) T = true → i - fr ≤ T.length ∧ mt (p.drop a) (T.drop (i - fr)) = true))
theorem Keep.start (s p : List Int) : Keep s p 0 0 0 0 := ⟨by omega, by omega, .inl ⟨rfl, rfl, rfl⟩⟩
theorem drop_get {l : List Int} {k : Nat} {x : Int} (h : l[k]? = some x) : l.drop k = x :: l.drop (k + 1) := by
  obtain ⟨hk, rfl⟩ := List.getElem?_eq_some_iff.1 h
  exact (List.drop_eq_getElem_cons hk)
theorem get_lt {l : List Int} {k : Nat} {x : Int} (h : l[k]? = some x) : k < l.length := (List.getElem?_eq_some_iff.1 h).1
theorem suffix_drop {x t l : List Int} (e : l = x ++ t) : t = l.drop x.length := by subst e; simp
theorem Keep.whole {s p : List Int} {i a st fr : Nat} (h : Keep s p i a st fr) (hm : ∀ x t, s.drop i = x ++ t → mt (p.drop a) t = true → mt (p.drop a) (s.drop i) = true) : mt p s = mt (p.drop a) (s.drop i) := by
  obtain ⟨hi, ha, h | ⟨h1, h2, h3, h4, h5, h6⟩⟩ := h
  · exact h.2.2
  · rw [h4]
    apply bool_iff
    rw [anyTail_iff]
    constructor
    · rintro ⟨x, t, e, ht⟩
      obtain ⟨k1, k2⟩ := h6 t ht
      have e2 := suffix_drop e
      rw [e2, List.drop_drop, List.drop_drop] at k2
      have hx : x.length + t.length = s.length - fr := by
        have := congrArg List.length e
        simp at this; omega
      refine hm ((s.drop i).take (x.length)) ((s.drop i).drop x.length) (List.take_append_drop _ _).symm ?_
      rw [List.drop_drop]
      rw [show i + x.length = fr + (x.length + (i - fr)) by omega]
      exact k2
    · intro hh
      exact ⟨[], s.drop fr, rfl, by rw [h5]; exact hh⟩
theorem Keep.star {s p : List Int} {i a st fr : Nat} (h : Keep s p i a st fr) (hp : p[a]? = some 42) : Keep s p i (a + 1) (a + 1) i := by
  have hw := h.whole (fun x t e ht => by
    rw [drop_get hp, mt_star, anyTail_iff] at ht ⊢
    obtain ⟨y, u, rfl, hu⟩ := ht
    exact ⟨x ++ y, u, by rw [e]; simp, hu⟩)
  refine ⟨h.1, get_lt hp, .inr ⟨by omega, Nat.le_refl _, Nat.le_refl _, ?_, rfl, fun T hT => ⟨by omega, by rw [Nat.sub_self]; exact hT⟩⟩⟩
  rw [hw, drop_get hp, mt_star]
theorem Keep.lit {s p : List Int} {i a st fr : Nat} {c x : Int} (h : Keep s p i a st fr) (hp : p[a]? = some x) (hs : s[i]? = some c) (hx : x ≠ 42) (hm : x = 63 ∨ x = c) : Keep s p (i + 1) (a + 1) st fr := by
  have e : mt (p.drop a) (s.drop i) = mt (p.drop (a + 1)) (s.drop (i + 1)) := by
    rw [drop_get hp, drop_get hs, mt_lit hx]
    have : (x == 63 || x == c) = true := by simpa using hm
    simp [hdOk, this]
  obtain ⟨hi, ha, h | ⟨h1, h2, h3, h4, h5, h6⟩⟩ := h
  · exact ⟨get_lt hs, get_lt hp, .inl ⟨h.1, h.2.1, h.2.2.trans e⟩⟩
  · refine ⟨get_lt hs, get_lt hp, .inr ⟨h1, by omega, by omega, h4, h5.trans e, fun T hT => ?_⟩⟩
    obtain ⟨k1, k2⟩ := h6 T hT
    rw [drop_get hp, mt_lit hx, hdOk_iff] at k2
    obtain ⟨c', r, hr, _, hk⟩ := k2
    have hl := congrArg List.length hr
    simp at hl
    refine ⟨by omega, ?_⟩
    have e3 : T.drop (i + 1 - fr) = r := by
      rw [show i + 1 - fr = (i - fr) + 1 by omega, ← List.drop_drop, hr]; rfl
    rw [e3]; exact hk
theorem mt_miss {s p : List Int} {i a : Nat} {c : Int} (hs : s[i]? = some c) (hm : a = p.length ∨ ∃ x, p[a]? = some x ∧ x ≠ 42 ∧ x ≠ 63 ∧ x ≠ c) : mt (p.drop a) (s.drop i) = false := by
  rw [drop_get hs]
  rcases hm with rfl | ⟨x, hx, h1, h2, h3⟩
  · simp [mt]
  · rw [drop_get hx, mt_lit h1]
    have : (x == 63 || x == c) = false := by simp [h2, h3]
    simp [hdOk, this]
theorem Keep.back {s p : List Int} {i a st fr : Nat} {c : Int} (h : Keep s p i a st fr) (hs : s[i]? = some c) (hm : a = p.length ∨ ∃ x, p[a]? = some x ∧ x ≠ 42 ∧ x ≠ 63 ∧ x ≠ c) (hst : 0 < st) : Keep s p (fr + 1) st st (fr + 1) := by
  have hz := mt_miss hs hm
  have hil := get_lt hs
  obtain ⟨hi, ha, h | ⟨h1, h2, h3, h4, h5, h6⟩⟩ := h
  · omega
  · refine ⟨by omega, by omega, .inr ⟨h1, Nat.le_refl _, Nat.le_refl _, ?_, rfl, fun T hT => ⟨by omega, by rw [Nat.sub_self]; exact hT⟩⟩⟩
    rw [h4]
    have hd : s.drop fr = s[fr]'(by omega) :: s.drop (fr + 1) := List.drop_eq_getElem_cons (by omega)
    rw [hz, hd] at h5
    rw [hd]
    simp only [anyTail]
    rw [h5]; rfl
theorem Keep.lost {s p : List Int} {i a fr : Nat} {c : Int} (h : Keep s p i a 0 fr) (hs : s[i]? = some c) (hm : a = p.length ∨ ∃ x, p[a]? = some x ∧ x ≠ 42 ∧ x ≠ 63 ∧ x ≠ c) : mt p s = false := by
  obtain ⟨hi, ha, h | ⟨h1, _⟩⟩ := h
  · rw [h.2.2]; exact mt_miss hs hm
  · omega
theorem Keep.done {s p : List Int} {a st fr : Nat} (h : Keep s p s.length a st fr) : mt p s = mt (p.drop a) [] := by
  have := h.whole (fun x t e ht => by
    rw [List.drop_length] at e ⊢
    obtain ⟨rfl, rfl⟩ : x = [] ∧ t = [] := by simpa using e.symm
    exact ht)
  rwa [List.drop_length] at this
theorem mt_nil : ∀ p : List Int, mt p [] = p.all (· == 42)
  | [] => rfl
  | x :: p => by
    by_cases hx : x = 42
    · subst hx; rw [mt_star]; simp [anyTail, mt_nil p]
    · rw [mt_lit hx]; simp [hdOk, hx]
end Go.Proofs.YtdlbghjclcdfmabDoor
