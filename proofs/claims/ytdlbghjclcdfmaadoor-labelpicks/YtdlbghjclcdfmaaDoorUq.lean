/- Quoted texts read back: plain mathematics. -/
import Derived.Test.YtdlbghjclcdfmaaDoorQuoteW
namespace Go.Proofs.YtdlbghjclcdfmaaDoor
set_option linter.unusedVariables false
set_option linter.unusedSimpArgs false
open Go.RowKit

/-- The worth of a digit to the base 16; -1: it is none. -/
def hexV (c : Int) : Int := if 48 ≤ c ∧ c ≤ 57 then c - 48 else if 97 ≤ c ∧ c ≤ 102 then c - 87 else -1
theorem hexV_le (c : Int) : -1 ≤ hexV c ∧ hexV c ≤ 15 := by unfold hexV; split <;> (try split) <;> omega
theorem hxd_hexV (c : Int) (h : 0 ≤ hexV c) : hxd (hexV c) = c := by
  unfold hexV hxd at *
  by_cases h1 : 48 ≤ c ∧ c ≤ 57
  · rw [if_pos h1] at h ⊢; rw [if_pos (by omega)]; omega
  · rw [if_neg h1] at h ⊢
    by_cases h2 : 97 ≤ c ∧ c ≤ 102
    · rw [if_pos h2] at h ⊢; rw [if_neg (by omega)]; omega
    · rw [if_neg h2] at h; omega
/-- Two digits. -/
def uhx : List Int → Int × Int
  | [] => (0, 5)
  | [a] => if hexV a < 0 then (0, 3) else (0, 5)
  | a :: b :: _ => if hexV a < 0 then (0, 3) else if hexV b < 0 then (0, 3) else if pr (hexV a * 16 + hexV b) then (0, 3) else (hexV a * 16 + hexV b, 0)
/-- One byte: it, how long its form is, the error. -/
def uqb : List Int → Int × Int × Int
  | [] => (0, 0, 5)
  | c :: r => if pr c = false then (0, 0, 3) else if c ≠ 92 then (c, 1, 0) else match r with
    | [] => (0, 0, 5)
    | d :: t => if d = 92 ∨ d = 34 then (d, 2, 0) else if d = 120 then ((uhx t).1, 4, (uhx t).2) else (0, 0, 3)
def uqL : Nat → List Int → List Int → List Int × Int
  | 0, _, _ => ([], 5)
  | _ + 1, [], _ => ([], 5)
  | f + 1, c :: r, o => if c = 34 then (if r = [] then (o, 0) else ([], 3)) else if (uqb (c :: r)).2.2 ≠ 0 then ([], (uqb (c :: r)).2.2) else uqL f ((c :: r).drop (uqb (c :: r)).2.1.toNat) (o ++ [(uqb (c :: r)).1])
def uq : List Int → List Int × Int
  | [] => ([], 5)
  | c :: r => if c ≠ 34 then ([], 3) else uqL (r.length + 1) r []

theorem uhx_ok {l : List Int} {x : Int} (hr : Ran l) (h : uhx l = (x, 0)) : ∃ a b t, l = a :: b :: t ∧ hxd (x / 16) = a ∧ hxd (x % 16) = b ∧ pr x = false ∧ 0 ≤ x ∧ x ≤ 255 := by
  match l, h with
  | [], h => simp [uhx] at h
  | [a], h => simp only [uhx] at h; split at h <;> simp at h
  | a :: b :: t, h =>
    simp only [uhx] at h
    split at h
    · simp at h
    · split at h
      · simp at h
      · split at h
        · simp at h
        · rename_i h1 h2 h3
          simp only [Prod.mk.injEq, and_true] at h
          have e1 := hxd_hexV a (by omega)
          have e2 := hxd_hexV b (by omega)
          have l1 := hexV_le a
          have l2 := hexV_le b
          refine ⟨a, b, t, rfl, ?_, ?_, ?_, by omega, by omega⟩
          · rw [show x / 16 = hexV a by omega]; exact e1
          · rw [show x % 16 = hexV b by omega]; exact e2
          · rw [← h]; simpa using h3
theorem pr_iff {c : Int} : pr c = true ↔ 32 ≤ c ∧ c ≤ 126 := by simp [pr]
theorem pr_iff' {c : Int} : pr c = false ↔ (c < 32 ∨ 126 < c) := by simp [pr]; omega
theorem uqb_ok {l : List Int} {x sz : Int} (hr : Ran l) (h34 : l.head? ≠ some 34) (h : uqb l = (x, sz, 0)) : l = qb x ++ l.drop sz.toNat ∧ 0 ≤ x ∧ x ≤ 255 ∧ (qb x).length = sz.toNat ∧ 1 ≤ sz ∧ sz ≤ 4 := by
  match l, h with
  | [], h => simp [uqb] at h
  | c :: r, h =>
    simp only [uqb] at h
    have hc := hr c (by simp)
    split at h
    · simp at h
    · rename_i hp
      have hp := pr_iff.1 (by simpa using hp)
      split at h
      · rename_i h92
        simp only [Prod.mk.injEq, and_true] at h
        obtain ⟨rfl, rfl⟩ := h
        have : c ≠ 34 := by simpa using h34
        rw [qb_own hp.1 hp.2 h92 this]
        exact ⟨rfl, hc.1, hc.2, rfl, by omega, by omega⟩
      · rename_i h92
        have h92 : c = 92 := by simpa using h92
        subst h92
        match r, h with
        | [], h => simp at h
        | d :: t, h =>
          simp only at h
          have hd := hr d (by simp)
          split at h
          · rename_i h2
            simp only [Prod.mk.injEq, and_true] at h
            obtain ⟨rfl, rfl⟩ := h
            rw [qb_esc h2]
            exact ⟨rfl, hd.1, hd.2, rfl, by omega, by omega⟩
          · split at h
            · rename_i h3
              subst h3
              simp only [Prod.mk.injEq] at h
              obtain ⟨h1, rfl, h2⟩ := h
              obtain ⟨a, b, t', rfl, ha, hb, hpx, hx0, hx1⟩ := uhx_ok (x := x) (hr.sub (fun y hy => List.mem_cons_of_mem _ (List.mem_cons_of_mem _ hy))) (by rw [← h1, ← h2])
              have hq := qb_bad (pr_iff'.1 hpx)
              rw [ha, hb] at hq
              rw [hq]
              exact ⟨rfl, hx0, hx1, rfl, by omega, by omega⟩
            · simp at h
theorem uqL_ok : ∀ (f : Nat) {l o x : List Int}, Ran l → uqL f l o = (x, 0) → ∃ t, x = o ++ t ∧ l = qs t ++ [34] ∧ Ran t
  | 0, l, o, x, _, h => by simp [uqL] at h
  | f + 1, [], o, x, _, h => by simp [uqL] at h
  | f + 1, c :: r, o, x, hr, h => by
    simp only [uqL] at h
    split at h
    · rename_i h34
      split at h
      · rename_i hn
        simp only [Prod.mk.injEq, and_true] at h
        subst hn; subst h; subst h34
        exact ⟨[], by simp, rfl, Ran.nil⟩
      · simp at h
    · rename_i h34
      split at h
      · rename_i he
        simp only [Prod.mk.injEq] at h
        exact absurd h.2 he
      · rename_i he
        have he : (uqb (c :: r)).2.2 = 0 := by simpa using he
        obtain ⟨h1, h2, h3, h4, h5, h6⟩ := uqb_ok (l := c :: r) (x := (uqb (c :: r)).1) (sz := (uqb (c :: r)).2.1) hr (by simpa using h34) (by rw [← he])
        obtain ⟨t, ht, hl, htr⟩ := uqL_ok f (hr.sub fun y hy => List.mem_of_mem_drop hy) h
        refine ⟨(uqb (c :: r)).1 :: t, by rw [ht]; simp, ?_, fun y hy => ?_⟩
        · refine h1.trans ?_
          rw [hl]
          simp only [qs, List.map_cons, List.flatten_cons, List.append_assoc]
        · rcases List.mem_cons.1 hy with rfl | hy
          · exact ⟨h2, h3⟩
          · exact htr y hy
theorem uq_ok {s x : List Int} (hr : Ran s) (h : uq s = (x, 0)) : quo x = s ∧ Ran x := by
  match s, h with
  | [], h => simp [uq] at h
  | c :: r, h =>
    simp only [uq] at h
    split at h
    · simp at h
    · rename_i h34
      have h34 : c = 34 := by simpa using h34
      obtain ⟨t, ht, hl, htr⟩ := uqL_ok _ (hr.sub fun y hy => by simp [hy]) h
      simp only [List.nil_append] at ht
      subst ht; subst h34
      exact ⟨by rw [hl]; rfl, htr⟩
end Go.Proofs.YtdlbghjclcdfmaaDoor
