/- The mathematics of the name behind a name. No program is named here. -/
import Derived.Test.YtdlbghjclcdfmaaDoorKey
namespace Go.Proofs.YtdlbghjclcdfmaaDoor
set_option linter.unusedVariables false
set_option linter.unusedSimpArgs false

/-- One more, in the digits themselves, with the carry. -/
def oneC : List Int → Bool × List Int
  | [] => (true, [])
  | c :: r => if (oneC r).1 then (if c = 57 then (true, 48 :: (oneC r).2) else (false, (c + 1) :: (oneC r).2)) else (false, c :: (oneC r).2)
def one (l : List Int) : List Int := if (oneC l).1 then 49 :: (oneC l).2 else (oneC l).2
theorem oneC_nines : ∀ i, oneC (List.replicate i 57) = (true, List.replicate i 48)
  | 0 => rfl
  | i + 1 => by rw [List.replicate_succ, oneC, oneC_nines i]; simp [List.replicate_succ]
theorem oneC_stop {x : Int} (hx : x ≠ 57) (i : Nat) : ∀ u : List Int, oneC (u ++ x :: List.replicate i 57) = (false, u ++ (x + 1) :: List.replicate i 48)
  | [] => by rw [List.nil_append, oneC, oneC_nines i]; simp [hx]
  | c :: u => by rw [List.cons_append, oneC, oneC_stop hx i u]; simp
theorem one_nines (i : Nat) : one (List.replicate i 57) = 49 :: List.replicate i 48 := by simp [one, oneC_nines]
theorem one_stop {x : Int} (hx : x ≠ 57) (u : List Int) (i : Nat) : one (u ++ x :: List.replicate i 57) = u ++ (x + 1) :: List.replicate i 48 := by simp [one, oneC_stop hx]
/-- Every text is all nines, or ends in nines behind another byte. -/
theorem nines_split : ∀ l : List Int, (∃ i, l = List.replicate i 57) ∨ ∃ u x i, l = u ++ x :: List.replicate i 57 ∧ x ≠ 57
  | [] => .inl ⟨0, rfl⟩
  | c :: r => by
    rcases nines_split r with ⟨i, rfl⟩ | ⟨u, x, i, rfl, hx⟩
    · by_cases h : c = 57
      · subst h; exact .inl ⟨i + 1, rfl⟩
      · exact .inr ⟨[], c, i, rfl, h⟩
    · exact .inr ⟨c :: u, x, i, rfl, hx⟩

theorem trim0_cons48 (r : List Int) : trim0 (48 :: r) = trim0 r := by simp [trim0, List.dropWhile_cons]
theorem trim0_cons {c : Int} (h : c ≠ 48) (r : List Int) : trim0 (c :: r) = c :: r := by simp [trim0, List.dropWhile_cons, h]
theorem trim0_nines : ∀ i, trim0 (List.replicate i 57) = List.replicate i 57
  | 0 => rfl
  | i + 1 => by rw [List.replicate_succ, trim0_cons (by omega)]
theorem dgt_iff (c : Int) : dgt c = true ↔ 48 ≤ c ∧ c ≤ 57 := by simp [dgt]
/-- The digits of a number are below those of the next one. -/
theorem trim_lt : ∀ (u : List Int) (x : Int) (i : Nat), 48 ≤ x → x < 57 →
    (trim0 (u ++ x :: List.replicate i 57)).length < (trim0 (u ++ (x + 1) :: List.replicate i 48)).length ∨
    ((trim0 (u ++ x :: List.replicate i 57)).length = (trim0 (u ++ (x + 1) :: List.replicate i 48)).length ∧ cmpL (trim0 (u ++ x :: List.replicate i 57)) (trim0 (u ++ (x + 1) :: List.replicate i 48)) = -1)
  | [], x, i, h0, h1 => by
    rw [List.nil_append, List.nil_append, trim0_cons (c := x + 1) (by omega)]
    by_cases h : x = 48
    · subst h
      left
      rw [trim0_cons48, trim0_nines]; simp
    · right
      rw [trim0_cons h]
      refine ⟨by simp, ?_⟩
      rw [cmpL_cons_ne (by omega)]; unfold cmpI; rw [if_pos (by omega)]
  | c :: u, x, i, h0, h1 => by
    rw [List.cons_append, List.cons_append]
    by_cases h : c = 48
    · subst h
      rw [trim0_cons48, trim0_cons48]
      exact trim_lt u x i h0 h1
    · right
      rw [trim0_cons h, trim0_cons h]
      refine ⟨by simp, ?_⟩
      rw [cmpL_cons_same, cmpL_append_same, cmpL_cons_ne (by omega)]; unfold cmpI; rw [if_pos (by omega)]
theorem one_head {c : Int} {r : List Int} (h : (c :: r).all dgt = true) : ∃ d t, one (c :: r) = d :: t ∧ (d :: t).all dgt = true := by
  rcases nines_split (c :: r) with ⟨i, e⟩ | ⟨u, x, i, e, hx⟩
  · rw [e, one_nines]
    exact ⟨49, _, rfl, by simp [dgt]⟩
  · rw [e, one_stop hx]
    rw [e] at h
    have h' : ∀ y ∈ u ++ x :: List.replicate i 57, dgt y = true := List.all_eq_true.1 h
    have hxx := (dgt_iff x).1 (h' x (by simp))
    have ha : (u ++ (x + 1) :: List.replicate i 48).all dgt = true := by
      rw [List.all_eq_true]
      intro y hy
      rcases List.mem_append.1 hy with hy | hy
      · exact h' y (by simp [hy])
      · rcases List.mem_cons.1 hy with rfl | hy
        · rw [dgt_iff]; omega
        · rw [List.eq_of_mem_replicate hy]; rfl
    cases u with
    | nil => exact ⟨_, _, rfl, ha⟩
    | cons d u => exact ⟨_, _, rfl, ha⟩
theorem key_one {c : Int} {r : List Int} (h : (c :: r).all dgt = true) : cmpL (key (c :: r)) (key (one (c :: r))) = -1 := by
  obtain ⟨d, t, e1, hd⟩ := one_head h
  have hc : dgt c = true := by simp only [List.all_cons, Bool.and_eq_true] at h; exact h.1
  have hdd : dgt d = true := by simp only [List.all_cons, Bool.and_eq_true] at hd; exact hd.1
  rw [e1, key_dd r t hc hdd, ← e1]
  rcases nines_split (c :: r) with ⟨i, e⟩ | ⟨u, x, i, e, hx⟩
  · rw [e, one_nines, trim0_nines, trim0_cons (by omega), if_neg (by simp)]
    unfold cmpI; rw [if_pos (by simp; omega)]
  · have h' : ∀ y ∈ u ++ x :: List.replicate i 57, dgt y = true := by rw [e] at h; exact List.all_eq_true.1 h
    have hxx := (dgt_iff x).1 (h' x (by simp))
    rw [e, one_stop hx]
    rcases trim_lt u x i hxx.1 (by omega) with hl | ⟨hl, hl2⟩
    · rw [if_neg (by omega)]; unfold cmpI; rw [if_pos (by omega)]
    · rw [if_pos hl]; exact hl2

theorem tw_append_stop : ∀ {r b : List Int}, (∀ d, b.head? = some d → dgt d = false) → r.all dgt = true → (r ++ b).takeWhile dgt = r
  | [], [], _, _ => rfl
  | [], d :: b, h, _ => by simp [List.takeWhile_cons, h d rfl]
  | c :: r, b, h, ha => by
    simp only [List.all_cons, Bool.and_eq_true] at ha
    rw [List.cons_append, List.takeWhile_cons, if_pos ha.1, tw_append_stop h ha.2]
theorem tw_append_in : ∀ {r b : List Int}, r.all dgt = false → (r ++ b).takeWhile dgt = r.takeWhile dgt
  | [], b, h => by simp at h
  | c :: r, b, h => by
    rw [List.cons_append, List.takeWhile_cons, List.takeWhile_cons]
    by_cases hc : dgt c = true
    · rw [if_pos hc, if_pos hc, tw_append_in (by simpa [hc] using h)]
    · rw [if_neg hc, if_neg hc]
/-- Texts that don't share a piece. -/
def Apart2 (a b : List Int) : Prop := (∀ c, a.getLast? = some c → dgt c = false) ∨ (∀ d, b.head? = some d → dgt d = false)
theorem kys_append : ∀ (n : Nat) (a b : List Int), a.length ≤ n → Apart2 a b → kys (a ++ b) = kys a ++ kys b
  | _, [], b, _, _ => by rw [kys_nil]; rfl
  | 0, c :: r, b, h, _ => by simp at h
  | n + 1, c :: r, b, h, hab => by
    have hlen : r.length ≤ n := by simpa using h
    have hsub : ∀ k, Apart2 ((c :: r).drop k) b ∨ (c :: r).drop k = [] := fun k => by
      rcases hab with h1 | h1
      · by_cases e : (c :: r).drop k = []
        · exact .inr e
        · left; left
          intro x hx
          refine h1 x ?_
          have hkl : k < (c :: r).length := by
            rcases Nat.lt_or_ge k (c :: r).length with h | h
            · exact h
            · exact absurd (List.drop_of_length_le h) e
          rw [List.getLast?_drop, if_neg (by omega)] at hx
          exact hx
      · exact .inl (.inr h1)
    have hrec : ∀ k, 0 < k → kys ((c :: r).drop k ++ b) = kys ((c :: r).drop k) ++ kys b := fun k hk => by
      rcases hsub k with h1 | h1
      · exact kys_append n _ b (by rw [List.length_drop]; simp; omega) h1
      · rw [h1, kys_nil]; rfl
    have hfp : fp (c :: (r ++ b)) = fp (c :: r) := by
      rw [fp_eq, fp_eq]
      by_cases hc : dgt c = true
      · rw [if_pos hc, if_pos hc]
        by_cases hr : r.all dgt = true
        · have hb : ∀ d, b.head? = some d → dgt d = false := by
            rcases hab with h1 | h1
            · exfalso
              have hl : ∃ y, (c :: r).getLast? = some y := ⟨(c :: r).getLast (by simp), List.getLast?_eq_some_getLast (by simp)⟩
              obtain ⟨y, hy⟩ := hl
              have hym : y ∈ c :: r := List.mem_of_getLast? hy
              have hyd : dgt y = true := by
                rcases List.mem_cons.1 hym with rfl | hm
                · exact hc
                · exact List.all_eq_true.1 hr y hm
              rw [h1 y hy] at hyd; cases hyd
            · exact h1
          rw [tw_append_stop hb hr]
          congr 1
          have := tw_append_stop (r := r) (b := []) (fun d hd => by cases hd) hr
          rw [List.append_nil] at this
          exact this.symm
        · rw [tw_append_in (by simpa using hr)]
      · rw [if_neg hc, if_neg hc]
    rw [List.cons_append, kys_cons, hfp, kys_cons c r, List.append_assoc]
    congr 1
    rw [← List.cons_append, List.drop_append_of_le_length (fp_le (c :: r))]
    exact hrec _ fp_len
theorem kys_all {c : Int} {r : List Int} (h : (c :: r).all dgt = true) : kys (c :: r) = key (c :: r) := by
  have h2 : fp (c :: r) = c :: r := by
    simp only [List.all_cons, Bool.and_eq_true] at h
    have := tw_append_stop (r := r) (b := []) (fun d hd => by cases hd) h.2
    rw [List.append_nil] at this
    rw [fp_eq, if_pos h.1, this]
  rw [kys_cons, h2, List.drop_length, kys_nil, List.append_nil]
/-- A text's digits at its end, and what is ahead of them. -/
def stem (l : List Int) : List Int := (l.reverse.dropWhile dgt).reverse
def trun (l : List Int) : List Int := (l.reverse.takeWhile dgt).reverse
theorem stem_run (l : List Int) : stem l ++ trun l = l := by
  unfold stem trun
  rw [← List.reverse_append, List.takeWhile_append_dropWhile, List.reverse_reverse]
theorem stem_last (l : List Int) : ∀ c, (stem l).getLast? = some c → dgt c = false := by
  intro c hc
  unfold stem at hc
  rw [List.getLast?_reverse] at hc
  have := List.head?_dropWhile_not dgt l.reverse
  rw [hc] at this
  simpa using this
theorem trun_all (l : List Int) : (trun l).all dgt = true := by
  unfold trun
  rw [List.all_reverse]
  exact List.all_takeWhile
/-- The candidate behind a name. -/
def cand (l : List Int) : List Int := if trun l = [] then l ++ [45, 50] else stem l ++ one (trun l)
theorem cand_lt (l : List Int) : cmpS l (cand l) = -1 := by
  have hk : cmpL (kys l) (kys (cand l)) = -1 := by
    unfold cand
    by_cases h : trun l = []
    · rw [if_pos h, kys_append l.length l [45, 50] (Nat.le_refl _) (.inr (fun d hd => by injection hd with hd; subst hd; rfl))]
      obtain ⟨x, t, e⟩ := kys_pos 45 [50]
      rw [e]
      have := cmpL_append_same (kys l) [] (x :: t)
      rw [List.append_nil] at this
      rw [this]; rfl
    · rw [if_neg h]
      match hr : trun l, h with
      | c :: r, _ =>
        have ha := trun_all l
        rw [hr] at ha
        obtain ⟨d, t, e1, hd⟩ := one_head ha
        have hl := stem_run l
        rw [hr] at hl
        conv => lhs; arg 1; rw [← hl]
        rw [kys_append _ _ _ (Nat.le_refl _) (.inl (stem_last l)), kys_append _ _ _ (Nat.le_refl _) (.inl (stem_last l)), cmpL_append_same, e1, kys_all ha, kys_all hd, ← e1]
        exact key_one ha
  unfold cmpS
  rw [hk]; rfl
end Go.Proofs.YtdlbghjclcdfmaaDoor
