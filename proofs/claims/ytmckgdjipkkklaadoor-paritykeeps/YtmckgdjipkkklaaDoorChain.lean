/- Records one behind the other, and a beginning of them. No program is named here. -/
import Derived.Test.YtmckgdjipkkklaaDoorRecs
namespace Go.Proofs.YtmckgdjipkkklaaDoor
set_option linter.unusedVariables false
set_option linter.unusedSimpArgs false

/-- Records that open one behind the other, from a place to a place. -/
def Chain (l : List Nat) : Nat → List (List Nat) → Nat → Prop
  | a, [], b => a = b
  | a, x :: r, b => ∃ nx, openL l a = (0, x, nx) ∧ Chain l nx r b
theorem Chain.snoc {l : List Nat} : ∀ {a : Nat} {r : List (List Nat)} {b : Nat} {x : List Nat} {c : Nat}, Chain l a r b → openL l b = (0, x, c) → Chain l a (r ++ [x]) c
  | a, [], b, x, c, h, k => by
    have : a = b := h
    subst this; exact ⟨c, k, rfl⟩
  | a, y :: r, b, x, c, ⟨nx, h1, h2⟩, k => ⟨nx, h1, h2.snoc k⟩
/-- There is one such way to the first that doesn't open. -/
theorem Chain.only {l : List Nat} : ∀ {a : Nat} {r s : List (List Nat)} {b c : Nat}, Chain l a r b → Chain l a s c → (openL l b).1 ≠ 0 → (openL l c).1 ≠ 0 → r = s ∧ b = c
  | a, [], [], b, c, h, k, _, _ => ⟨rfl, (show a = b from h).symm.trans k⟩
  | a, [], y :: s, b, c, h, ⟨nx, k1, _⟩, hb, _ => by
    have e : a = b := h
    subst e
    rw [k1] at hb; exact absurd rfl hb
  | a, y :: r, [], b, c, ⟨nx, h1, _⟩, k, _, hc => by
    have e : a = c := k
    subst e
    rw [h1] at hc; exact absurd rfl hc
  | a, y :: r, z :: s, b, c, ⟨nx, h1, h2⟩, ⟨nz, k1, k2⟩, hb, hc => by
    rw [h1] at k1
    simp only [Prod.mk.injEq, true_and] at k1
    obtain ⟨rfl, rfl⟩ := k1
    obtain ⟨e1, e2⟩ := h2.only k2 hb hc
    exact ⟨by rw [e1], e2⟩
theorem cellE_ok {l : List Nat} {a k : Nat} (h : cellE l a k = 0) : a + (k + 4) ≤ l.length := by
  unfold cellE at h
  split at h
  · omega
  · omega
theorem openC_next : ∀ (f : Nat) (l : List Nat) (a left : Nat), left ≤ f → a ≤ l.length → (openC f l a left).1 = 0 → a ≤ (openC f l a left).2.2 ∧ (openC f l a left).2.2 ≤ l.length ∧ (openC f l a left).2.1.length = left
  | 0, l, a, left, hf, ha, _ => by
    obtain rfl : left = 0 := by omega
    simp [openC, ha]
  | f + 1, l, a, left, hf, ha, h => by
    simp only [openC] at h ⊢
    by_cases h0 : left = 0
    · subst h0; simp [ha]
    · rw [if_neg h0] at h ⊢
      by_cases hE : cellE l a (min left 251) = 0
      · have hs := cellE_ok hE
        rw [if_neg (by simpa using hE)] at h ⊢
        by_cases hr : (openC f l (a + (min left 251 + 4)) (left - min left 251)).1 = 0
        · have ih := openC_next f l (a + (min left 251 + 4)) (left - min left 251) (by omega) (by omega) hr
          rw [if_neg (by simpa using hr)]
          refine ⟨Nat.le_trans (by omega) ih.1, ih.2.1, ?_⟩
          show (sub l a (min left 251) ++ _).length = left
          rw [List.length_append, sub_length (by omega), ih.2.2]; omega
        · rw [if_pos hr] at h
          exact absurd h hr
      · rw [if_pos hE] at h
        exact absurd h hE
theorem openL_next {l : List Nat} {a : Nat} (h : (openL l a).1 = 0) : a + 8 ≤ (openL l a).2.2 ∧ (openL l a).2.2 ≤ l.length ∧ (openL l a).2.1.length ≤ 1048576 := by
  unfold openL at h ⊢
  by_cases hE : cellE l a 4 = 0
  · have hs := cellE_ok hE
    rw [if_neg (by simpa using hE)] at h ⊢
    by_cases hb : 1048576 < be4 (sub l a 4)
    · rw [if_pos hb] at h; simp at h
    · rw [if_neg hb] at h ⊢
      have := openC_next (be4 (sub l a 4)) l (a + 8) (be4 (sub l a 4)) (Nat.le_refl _) (by omega) h
      omega
  · rw [if_pos hE] at h
    exact absurd h hE
theorem openC_rn {l : List Nat} (hl : Rn l) : ∀ (f a left : Nat), Rn (openC f l a left).2.1
  | 0, a, left => by simp [openC]; exact Rn.nil
  | f + 1, a, left => by
    simp only [openC]
    split
    · exact Rn.nil
    · split
      · exact Rn.nil
      · split
        · exact Rn.nil
        · exact (sub_rn hl _ _).append (openC_rn hl f _ _)
theorem openL_rn {l : List Nat} (hl : Rn l) (a : Nat) : Rn (openL l a).2.1 := by
  unfold openL
  split
  · exact Rn.nil
  · split
    · exact Rn.nil
    · exact openC_rn hl _ _ _
/-- Records, joined. -/
def cat (xs : List (List Nat)) : List Nat := (xs.map recL).flatten
theorem cat_cons (x : List Nat) (xs : List (List Nat)) : cat (x :: xs) = recL x ++ cat xs := by simp [cat]
theorem cat_snoc (xs : List (List Nat)) (x : List Nat) : cat (xs ++ [x]) = cat xs ++ recL x := by simp [cat]
/-- How many stand whole in so many bytes. -/
def wh : List (List Nat) → Nat → Nat
  | [], _ => 0
  | x :: r, m => if (recL x).length ≤ m then wh r (m - (recL x).length) + 1 else 0
/-- A beginning of records opens just those that it has whole, and then ends too early. -/
theorem chain_begin : ∀ (xs : List (List Nat)) (p : List Nat) (m : Nat), (∀ x ∈ xs, Rn x ∧ x.length ≤ 1048576) →
    Chain (p ++ (cat xs).take m) p.length (xs.take (wh xs m)) (p.length + (cat (xs.take (wh xs m))).length) ∧ (openL (p ++ (cat xs).take m) (p.length + (cat (xs.take (wh xs m))).length)).1 = 5
  | [], p, m, _ => by
    refine ⟨by simp [wh, cat, Chain], ?_⟩
    simp only [wh, List.take_nil, cat, List.map_nil, List.flatten_nil, List.append_nil, List.length_nil, Nat.add_zero]
    unfold openL
    have : cellE p p.length 4 = 5 := by unfold cellE; rw [if_pos (by omega)]
    rw [this]; simp
  | x :: r, p, m, h => by
    have hx := h x (by simp)
    by_cases hm : (recL x).length ≤ m
    · have e1 : (cat (x :: r)).take m = recL x ++ (cat r).take (m - (recL x).length) := by
        rw [cat_cons, List.take_append, List.take_of_length_le hm]
      have ih := chain_begin r (p ++ recL x) (m - (recL x).length) (fun y hy => h y (by simp [hy]))
      have e2 : wh (x :: r) m = wh r (m - (recL x).length) + 1 := by simp [wh, hm]
      rw [e1, e2, List.take_succ_cons, cat_cons, List.length_append, ← Nat.add_assoc]
      rw [List.length_append, List.append_assoc] at ih
      refine ⟨⟨p.length + (recL x).length, openL_whole p _ hx.1 hx.2, ih.1⟩, ih.2⟩
    · have e1 : (cat (x :: r)).take m = (recL x).take m := by rw [cat_cons, List.take_append_of_le_length (by omega)]
      have e2 : wh (x :: r) m = 0 := by simp [wh, hm]
      rw [e1, e2]
      refine ⟨by simp [Chain, cat], ?_⟩
      simp only [List.take_zero, cat, List.map_nil, List.flatten_nil, List.length_nil, Nat.add_zero]
      exact openL_short p hx.1 hx.2 (by omega)
theorem wh_le : ∀ (xs : List (List Nat)) (m : Nat), wh xs m ≤ xs.length
  | [], _ => by simp [wh]
  | x :: r, m => by
    simp only [wh]
    split
    · have := wh_le r (m - (recL x).length); simp; omega
    · simp
/-- The i-th end is within m just if i is below the number of whole ones. -/
theorem wh_iff : ∀ (xs : List (List Nat)) (m i : Nat), i < xs.length → ((cat (xs.take (i + 1))).length ≤ m ↔ i < wh xs m)
  | [], _, _, h => by simp at h
  | x :: r, m, 0, _ => by
    simp only [List.take_succ_cons, List.take_zero, wh]
    simp only [cat, List.map_cons, List.map_nil, List.flatten_cons, List.flatten_nil, List.append_nil]
    by_cases h : (recL x).length ≤ m
    · simp [h]
    · simp [h]
  | x :: r, m, i + 1, h => by
    rw [List.take_succ_cons, cat_cons, List.length_append]
    simp only [wh]
    by_cases hm : (recL x).length ≤ m
    · rw [if_pos hm]
      have := wh_iff r (m - (recL x).length) i (by simpa using h)
      omega
    · rw [if_neg hm]; omega
end Go.Proofs.YtmckgdjipkkklaaDoor
