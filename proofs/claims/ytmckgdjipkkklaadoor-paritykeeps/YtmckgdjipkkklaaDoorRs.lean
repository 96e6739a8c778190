/- Polynomials over the field at powers of two: four changed bytes are told; the check bytes by division. No program is named here. -/
import Derived.Test.YtmckgdjipkkklaaDoorGf
namespace Go.Proofs.YtmckgdjipkkklaaDoor
set_option linter.unusedVariables false
set_option linter.unusedSimpArgs false

/-- Each is a byte. -/
def Rn (l : List Nat) : Prop := ∀ x ∈ l, x < 256
theorem Rn.nil : Rn [] := fun _ h => by cases h
theorem Rn.cons {a : Nat} {l : List Nat} (h : a < 256) (k : Rn l) : Rn (a :: l) := fun x hx => by
  rcases List.mem_cons.1 hx with rfl | hx
  · exact h
  · exact k x hx
theorem Rn.head {a : Nat} {l : List Nat} (h : Rn (a :: l)) : a < 256 := h a (by simp)
theorem Rn.tail {a : Nat} {l : List Nat} (h : Rn (a :: l)) : Rn l := fun x hx => h x (by simp [hx])
theorem Rn.append {a b : List Nat} (h : Rn a) (k : Rn b) : Rn (a ++ b) := fun x hx => (List.mem_append.1 hx).elim (h x) (k x)
theorem Rn.take {a : List Nat} (h : Rn a) (n : Nat) : Rn (a.take n) := fun x hx => h x (List.mem_of_mem_take hx)
theorem Rn.drop {a : List Nat} (h : Rn a) (n : Nat) : Rn (a.drop n) := fun x hx => h x (List.mem_of_mem_drop hx)

/-- The polynomial, the last one the factor of x^0, at x, from a start on. -/
def evf (x : Nat) : Nat → List Nat → Nat
  | v, [] => v
  | v, b :: l => evf x (mul v x ^^^ b) l
def ev (x : Nat) (l : List Nat) : Nat := evf x 0 l
theorem evf_append (x : Nat) : ∀ (l m : List Nat) (v : Nat), evf x v (l ++ m) = evf x (evf x v l) m
  | [], _, _ => rfl
  | b :: l, m, v => by simp only [List.cons_append, evf]; exact evf_append x l m _
theorem ev_append (x : Nat) (l m : List Nat) : ev x (l ++ m) = evf x (ev x l) m := evf_append x l m 0
theorem ev_snoc (x : Nat) (l : List Nat) (b : Nat) : ev x (l ++ [b]) = mul (ev x l) x ^^^ b := by rw [ev_append]; rfl
theorem evf_lt (x : Nat) : ∀ (l : List Nat) (v : Nat), v < 256 → Rn l → evf x v l < 256
  | [], _, h, _ => h
  | b :: l, v, h, hl => evf_lt x l _ (xor_lt _ _ (mul_lt _ h) hl.head) hl.tail
theorem ev_lt (x : Nat) {l : List Nat} (hl : Rn l) : ev x l < 256 := evf_lt x l 0 (by omega) hl
/-- The start counts by the power. -/
theorem evf_split (i : Nat) : ∀ (l : List Nat) (v u : Nat), v < 256 → u < 256 → Rn l → evf (pw i) (v ^^^ u) l = mul v (pw (i * l.length)) ^^^ evf (pw i) u l
  | [], v, u, hv, hu, _ => by simp only [evf, List.length_nil, Nat.mul_zero, pw]; rw [mul_one hv]
  | b :: l, v, u, hv, hu, hl => by
    simp only [evf]
    rw [mul_xor_left _ hv hu, Nat.xor_assoc, evf_split i l _ _ (mul_lt _ hv) (xor_lt _ _ (mul_lt _ hu) hl.head) hl.tail, mul_assoc hv (pw_lt _) (pw_lt _), pw_add, List.length_cons, Nat.mul_succ, Nat.add_comm i]
theorem evf_start (i : Nat) (l : List Nat) (v : Nat) (hv : v < 256) (hl : Rn l) : evf (pw i) v l = mul v (pw (i * l.length)) ^^^ ev (pw i) l := by
  have := evf_split i l v 0 hv (by omega) hl
  rwa [Nat.xor_zero] at this
/-- As a sum of terms. -/
def sm (i : Nat) : List (Nat × Nat) → Nat
  | [] => 0
  | (b, p) :: l => mul b (pw (i * p)) ^^^ sm i l
def terms : List Nat → List (Nat × Nat)
  | [] => []
  | b :: l => (b, l.length) :: terms l
theorem ev_sm (i : Nat) : ∀ (l : List Nat), Rn l → ev (pw i) l = sm i (terms l)
  | [], _ => rfl
  | b :: l, hl => by
    have h1 : ev (pw i) (b :: l) = evf (pw i) b l := by unfold ev; simp only [evf]; rw [mul_zero_left, Nat.zero_xor]
    rw [h1, evf_start i l b hl.head hl.tail, ev_sm i l hl.tail]
    rfl
/-- Sums of lists. -/
def xl : List Nat → List Nat → List Nat
  | a :: l, b :: m => (a ^^^ b) :: xl l m
  | _, _ => []
theorem xl_length : ∀ (l m : List Nat), l.length = m.length → (xl l m).length = l.length
  | [], [], _ => rfl
  | a :: l, b :: m, h => by simp only [xl, List.length_cons]; rw [xl_length l m (by simpa using h)]
theorem xl_rn : ∀ {l m : List Nat}, Rn l → Rn m → Rn (xl l m)
  | [], [], _, _ => Rn.nil
  | [], _ :: _, _, _ => Rn.nil
  | _ :: _, [], _, _ => Rn.nil
  | a :: l, b :: m, h, k => Rn.cons (xor_lt _ _ h.head k.head) (xl_rn h.tail k.tail)
theorem evf_xl (x : Nat) : ∀ (l m : List Nat) (v u : Nat), l.length = m.length → Rn l → Rn m → v < 256 → u < 256 → evf x (v ^^^ u) (xl l m) = evf x v l ^^^ evf x u m
  | [], [], v, u, _, _, _, _, _ => rfl
  | a :: l, b :: m, v, u, h, hl, hm, hv, hu => by
    simp only [evf, xl]
    rw [mul_xor_left x hv hu, xor4, evf_xl x l m _ _ (by simpa using h) hl.tail hm.tail (xor_lt _ _ (mul_lt _ hv) hl.head) (xor_lt _ _ (mul_lt _ hu) hm.head)]
theorem ev_xl (x : Nat) (l m : List Nat) (h : l.length = m.length) (hl : Rn l) (hm : Rn m) : ev x (xl l m) = ev x l ^^^ ev x m := by
  have := evf_xl x l m 0 0 h hl hm (by omega) (by omega)
  rwa [Nat.xor_zero] at this
theorem xl_zero : ∀ {l m : List Nat}, l.length = m.length → (∀ x ∈ xl l m, x = 0) → l = m
  | [], [], _, _ => rfl
  | a :: l, b :: m, h, k => by
    have h1 : a ^^^ b = 0 := k _ (by simp [xl])
    have h2 : l = m := xl_zero (by simpa using h) fun x hx => k x (by simp [xl, hx])
    rw [xor_self_zero h1, h2]

/-- As many sums as terms, all nought: then all factors are. -/
theorem vander : ∀ (ps : List (Nat × Nat)), (∀ t ∈ ps, t.1 < 256 ∧ t.2 < 255) → (ps.map (·.2)).Nodup → (∀ i, i < ps.length → sm i ps = 0) → ∀ t ∈ ps, t.1 = 0
  | [], _, _, _, _, h => by cases h
  | (b0, p0) :: rest, hb, hd, hs, t, ht => by
    have hd' : ¬ p0 ∈ rest.map (·.2) ∧ (rest.map (·.2)).Nodup := List.nodup_cons.1 hd
    have hb0 := hb (b0, p0) (by simp)
    -- the others, each times the difference
    have key : ∀ (i : Nat) (qs : List (Nat × Nat)), (∀ t ∈ qs, t.1 < 256 ∧ t.2 < 255) →
        sm i (qs.map fun t => (mul t.1 (pw t.2 ^^^ pw p0), t.2)) = sm (i + 1) qs ^^^ mul (pw p0) (sm i qs) := by
      intro i qs
      induction qs with
      | nil => intro _; simp [sm, mul_zero_right]
      | cons t qs ih =>
        intro hq
        obtain ⟨b, p⟩ := t
        have hbp := hq (b, p) (by simp)
        have hb1 : b < 256 := hbp.1
        simp only [List.map_cons, sm]
        rw [ih fun t ht => hq t (by simp [ht]), mul_xor_right, mul_xor_right (pw p0), xor4]
        congr 1
        rw [mul_xor_left _ (mul_lt _ hb1) (mul_lt _ hb1), mul_assoc hb1 (pw_lt _) (pw_lt _), pw_add, ← mul_assoc (pw_lt p0) hb1 (pw_lt _), mul_comm (pw_lt p0) hb1]
        congr 3
        rw [Nat.succ_mul]; omega
    have hrest : ∀ t ∈ rest, t.1 = 0 := by
      have ih := vander (rest.map fun t => (mul t.1 (pw t.2 ^^^ pw p0), t.2))
        (fun t ht => by
          obtain ⟨s, hs, rfl⟩ := List.mem_map.1 ht
          have := hb s (by simp [hs])
          exact ⟨mul_lt _ this.1, this.2⟩)
        (by rw [List.map_map]; exact hd'.2)
        (fun i hi => by
          rw [List.length_map] at hi
          rw [key i rest fun t ht => hb t (by simp [ht])]
          have h1 := hs i (by simp; omega)
          have h2 := hs (i + 1) (by simp; omega)
          simp only [sm] at h1 h2
          have e1 : sm i rest = mul b0 (pw (i * p0)) := (xor_self_zero h1).symm
          have e2 : sm (i + 1) rest = mul b0 (pw ((i + 1) * p0)) := (xor_self_zero h2).symm
          rw [e1, e2, ← mul_assoc (pw_lt p0) hb0.1 (pw_lt _), mul_comm (pw_lt p0) hb0.1, mul_assoc hb0.1 (pw_lt _) (pw_lt _), pw_add]
          have : p0 + i * p0 = (i + 1) * p0 := by rw [Nat.succ_mul]; omega
          rw [this, Nat.xor_self])
      intro t ht
      have h0 := ih (mul t.1 (pw t.2 ^^^ pw p0), t.2) (List.mem_map.2 ⟨t, ht, rfl⟩)
      have hbt := hb t (by simp [ht])
      rcases mul_eq_zero hbt.1 (xor_lt _ _ (pw_lt _) (pw_lt _)) h0 with h | h
      · exact h
      · exfalso
        have : t.2 = p0 := pw_inj hbt.2 hb0.2 (xor_self_zero h)
        exact hd'.1 (by rw [← this]; exact List.mem_map.2 ⟨t, ht, rfl⟩)
    have hsm : ∀ (i : Nat) (qs : List (Nat × Nat)), (∀ t ∈ qs, t.1 = 0) → sm i qs = 0 := by
      intro i qs
      induction qs with
      | nil => intro _; rfl
      | cons t qs ih =>
        intro hq
        obtain ⟨b, p⟩ := t
        have : b = 0 := hq (b, p) (by simp)
        simp only [sm]
        rw [this, mul_zero_left, ih fun t ht => hq t (by simp [ht])]
        rfl
    rcases List.mem_cons.1 ht with rfl | ht
    · have h0 := hs 0 (by simp)
      simp only [sm] at h0
      rw [hsm 0 rest hrest, Nat.xor_zero, Nat.zero_mul, pw, mul_one hb0.1] at h0
      exact h0
    · exact hrest t ht
  termination_by ps => ps.length

theorem sm_filter (i : Nat) : ∀ (ps : List (Nat × Nat)), sm i (ps.filter fun t => t.1 != 0) = sm i ps
  | [] => rfl
  | (b, p) :: ps => by
    by_cases h : b = 0
    · subst h
      rw [List.filter_cons_of_neg (by simp)]
      simp only [sm]
      rw [mul_zero_left, Nat.zero_xor, sm_filter i ps]
    · rw [List.filter_cons_of_pos (by simpa using h)]
      simp only [sm]
      rw [sm_filter i ps]
theorem terms_lt : ∀ (l : List Nat), ∀ t ∈ terms l, t.2 < l.length
  | [], _, h => by cases h
  | b :: l, t, h => by
    rcases List.mem_cons.1 h with rfl | h
    · simp
    · have := terms_lt l t h; simp; omega
theorem terms_fst : ∀ (l : List Nat), (terms l).map (·.1) = l
  | [] => rfl
  | b :: l => by simp only [terms, List.map_cons]; rw [terms_fst l]
theorem terms_nodup : ∀ (l : List Nat), ((terms l).map (·.2)).Nodup
  | [] => by simp [terms]
  | b :: l => by
    simp only [terms, List.map_cons]
    refine List.nodup_cons.2 ⟨fun h => ?_, terms_nodup l⟩
    obtain ⟨t, ht, h⟩ := List.mem_map.1 h
    have := terms_lt l t ht
    omega
/-- How many aren't nought. -/
def cnt (l : List Nat) : Nat := (l.filter (· != 0)).length
theorem cnt_terms : ∀ (l : List Nat), ((terms l).filter fun t => t.1 != 0).length = cnt l
  | [] => rfl
  | b :: l => by
    have ih := cnt_terms l
    unfold cnt at ih ⊢
    by_cases h : b = 0
    · subst h; simp [terms, ih]
    · simp [terms, h, ih]
/-- Up to four that aren't nought, below 255 places: told at the four places. -/
theorem told {e : List Nat} (hr : Rn e) (hl : e.length ≤ 255) (hc : cnt e ≤ 4) (h : ∀ i, i < 4 → ev (pw i) e = 0) : ∀ x ∈ e, x = 0 := by
  have hv := vander ((terms e).filter fun t => t.1 != 0)
    (fun t ht => by
      have ht := (List.mem_filter.1 ht).1
      have h1 := terms_lt e t ht
      refine ⟨hr _ ?_, by omega⟩
      have : t.1 ∈ (terms e).map (·.1) := List.mem_map.2 ⟨t, ht, rfl⟩
      rwa [terms_fst] at this)
    (List.Nodup.sublist (List.Sublist.map _ List.filter_sublist) (terms_nodup e))
    (fun i hi => by
      rw [cnt_terms] at hi
      rw [sm_filter, ← ev_sm i e hr]
      exact h i (by omega))
  intro x hx
  rw [← terms_fst e] at hx
  obtain ⟨t, ht, rfl⟩ := List.mem_map.1 hx
  by_cases h0 : t.1 = 0
  · exact h0
  · exact hv t (List.mem_filter.2 ⟨ht, by simpa using h0⟩)
end Go.Proofs.YtmckgdjipkkklaaDoor
