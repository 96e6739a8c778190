/- The mathematics of the order of names: pieces, their keys, and the order of all. No program is named here. -/
import Derived.Test.YtdlbghjclcdfmabDoorBase
namespace Go.Proofs.YtdlbghjclcdfmabDoor
set_option linter.unusedVariables false
set_option linter.unusedSimpArgs false

theorem cmpL_trans : ∀ {xs ys zs : List Int}, cmpL xs ys ≤ 0 → cmpL ys zs ≤ 0 → cmpL xs zs ≤ 0
  | [], _, [], _, _ => by simp [cmpL]
  | [], _, _ :: _, _, _ => by simp [cmpL]
  | x :: xs, [], zs, h, _ => by simp [cmpL] at h
  | x :: xs, y :: ys, [], _, h => by simp [cmpL] at h
  | x :: xs, y :: ys, z :: zs, h1, h2 => by
    simp only [cmpL] at h1 h2 ⊢
    by_cases a1 : x < y
    · by_cases b1 : y < z
      · rw [if_pos (by omega)]; omega
      · rw [if_neg b1] at h2
        by_cases b2 : z < y
        · rw [if_pos b2] at h2; omega
        · rw [if_pos (by omega)]; omega
    · rw [if_neg a1] at h1
      by_cases a2 : y < x
      · rw [if_pos a2] at h1; omega
      · rw [if_neg a2] at h1
        obtain rfl : x = y := by omega
        by_cases b1 : x < z
        · rw [if_pos b1]; omega
        · rw [if_neg b1] at h2 ⊢
          by_cases b2 : z < x
          · rw [if_pos b2] at h2; omega
          · rw [if_neg b2] at h2 ⊢
            exact cmpL_trans h1 h2
theorem cmpL_cons_same (x : Int) (xs ys : List Int) : cmpL (x :: xs) (x :: ys) = cmpL xs ys := by simp [cmpL]
theorem cmpL_cons_ne {x y : Int} (h : x ≠ y) (xs ys : List Int) : cmpL (x :: xs) (y :: ys) = cmpI x y := by
  simp only [cmpL, cmpI]
  by_cases h1 : x < y
  · rw [if_pos h1, if_pos h1]
  · rw [if_neg h1, if_neg h1, if_pos (by omega), if_pos (by omega)]
theorem cmpL_append_same : ∀ (k u v : List Int), cmpL (k ++ u) (k ++ v) = cmpL u v
  | [], u, v => rfl
  | x :: k, u, v => by rw [List.cons_append, List.cons_append, cmpL_cons_same, cmpL_append_same k]
theorem cmpL_append_ne : ∀ {xs ys : List Int} (u v : List Int), xs.length = ys.length → cmpL xs ys ≠ 0 → cmpL (xs ++ u) (ys ++ v) = cmpL xs ys
  | [], [], u, v, _, h => by simp [cmpL] at h
  | [], _ :: _, u, v, hl, _ => by simp at hl
  | _ :: _, [], u, v, hl, _ => by simp at hl
  | x :: xs, y :: ys, u, v, hl, h => by
    rw [List.cons_append, List.cons_append]
    by_cases e : x = y
    · subst e
      rw [cmpL_cons_same] at h ⊢
      rw [cmpL_cons_same]
      exact cmpL_append_ne u v (by simpa using hl) h
    · rw [cmpL_cons_ne e, cmpL_cons_ne e]
theorem cmpI_ne {a b : Int} (h : a ≠ b) : cmpI a b ≠ 0 := by
  unfold cmpI
  split
  · omega
  · split <;> omega

def dgt (c : Int) : Bool := decide (48 ≤ c ∧ c ≤ 57)
/-- The first piece of a text that isn't empty. -/
def fp : List Int → List Int
  | [] => []
  | c :: r => if dgt c then c :: r.takeWhile dgt else [c]
theorem fp_eq (c : Int) (r : List Int) : fp (c :: r) = if dgt c then c :: r.takeWhile dgt else [c] := rfl
def trim0 (l : List Int) : List Int := l.dropWhile (· == 48)
/-- A piece's key. -/
def key : List Int → List Int
  | [] => []
  | c :: r => if dgt c then 48 :: ((trim0 (c :: r)).length : Int) :: trim0 (c :: r) else [c]
theorem key_eq (c : Int) (r : List Int) : key (c :: r) = if dgt c then 48 :: ((trim0 (c :: r)).length : Int) :: trim0 (c :: r) else [c] := rfl
theorem fp_len {c : Int} {r : List Int} : 0 < (fp (c :: r)).length := by
  rw [fp_eq]; split <;> simp
theorem fp_le : ∀ (l : List Int), (fp l).length ≤ l.length
  | [] => by simp [fp]
  | c :: r => by
    rw [fp_eq]
    split
    · have : (r.takeWhile dgt).length ≤ r.length := (List.takeWhile_sublist (l := r) dgt).length_le
      simp; omega
    · simp
/-- A text's key. -/
def kys (l : List Int) : List Int :=
  match l with
  | [] => []
  | c :: r => key (fp (c :: r)) ++ kys ((c :: r).drop (fp (c :: r)).length)
termination_by l.length
decreasing_by
  have := fp_len (c := c) (r := r)
  simp only [List.length_drop, List.length_cons]
  omega
theorem kys_nil : kys [] = [] := by rw [kys]
theorem kys_cons (c : Int) (r : List Int) : kys (c :: r) = key (fp (c :: r)) ++ kys ((c :: r).drop (fp (c :: r)).length) := by rw [kys]
theorem fp_head (c : Int) (r : List Int) : ∃ t, fp (c :: r) = c :: t := by
  rw [fp_eq]; split
  · exact ⟨_, rfl⟩
  · exact ⟨_, rfl⟩
theorem key_pos (c : Int) (r : List Int) : 0 < (key (c :: r)).length := by
  rw [key_eq]; split <;> simp
theorem kys_pos (c : Int) (r : List Int) : ∃ x t, kys (c :: r) = x :: t := by
  rw [kys_cons]
  obtain ⟨t, ht⟩ := fp_head c r
  have := key_pos c t
  rw [ht]
  match h : key (c :: t), this with
  | x :: k, _ => exact ⟨x, k ++ _, rfl⟩
theorem key_nd {c d : Int} (r t : List Int) (h : dgt c = false ∨ dgt d = false) : cmpL (key (c :: r)) (key (d :: t)) = cmpI c d := by
  rw [key_eq, key_eq]
  by_cases hc : dgt c = true
  · have hd : dgt d = false := by rcases h with h | h; · rw [hc] at h; cases h
                                  · exact h
    rw [if_pos hc, hd]
    simp only [Bool.false_eq_true, if_false]
    simp only [dgt, decide_eq_true_eq, decide_eq_false_iff_not] at hc hd
    rw [cmpL_cons_ne (by omega)]
    unfold cmpI
    by_cases h1 : c < d
    · rw [if_pos h1, if_pos (by omega)]
    · rw [if_neg h1, if_neg (by omega), if_pos (by omega), if_pos (by omega)]
  · have hc : dgt c = false := by simpa using hc
    by_cases hd : dgt d = true
    · rw [hc, if_pos hd]
      simp only [Bool.false_eq_true, if_false]
      simp only [dgt, decide_eq_true_eq, decide_eq_false_iff_not] at hc hd
      rw [cmpL_cons_ne (by omega)]
      unfold cmpI
      by_cases h1 : c < d
      · rw [if_pos h1, if_pos (by omega)]
      · rw [if_neg h1, if_neg (by omega), if_pos (by omega), if_pos (by omega)]
    · have hd : dgt d = false := by simpa using hd
      rw [hc, hd]
      simp only [Bool.false_eq_true, if_false]
      by_cases e : c = d
      · subst e; simp [cmpL, cmpI]
      · rw [cmpL_cons_ne e]
theorem key_dd {c d : Int} (r t : List Int) (hc : dgt c = true) (hd : dgt d = true) : cmpL (key (c :: r)) (key (d :: t)) = if (trim0 (c :: r)).length = (trim0 (d :: t)).length then cmpL (trim0 (c :: r)) (trim0 (d :: t)) else cmpI ((trim0 (c :: r)).length : Int) ((trim0 (d :: t)).length : Int) := by
  rw [key_eq, key_eq]
  rw [if_pos hc, if_pos hd, cmpL_cons_same]
  by_cases e : (trim0 (c :: r)).length = (trim0 (d :: t)).length
  · rw [if_pos e, e, cmpL_cons_same]
  · rw [if_neg e, cmpL_cons_ne (by omega)]
/-- Keys end of themselves. -/
theorem key_apart {c d : Int} {r t : List Int} (u v : List Int) (h : cmpL (key (c :: r)) (key (d :: t)) ≠ 0) : cmpL (key (c :: r) ++ u) (key (d :: t) ++ v) = cmpL (key (c :: r)) (key (d :: t)) := by
  rw [key_eq, key_eq] at h ⊢
  by_cases hc : dgt c = true
  · rw [if_pos hc] at h ⊢
    by_cases hd : dgt d = true
    · rw [if_pos hd] at h ⊢
      simp only [List.cons_append]
      rw [cmpL_cons_same] at h ⊢
      rw [cmpL_cons_same]
      by_cases e : (trim0 (c :: r)).length = (trim0 (d :: t)).length
      · rw [e, cmpL_cons_same] at h ⊢
        rw [cmpL_cons_same]
        exact cmpL_append_ne u v e h
      · rw [cmpL_cons_ne (by omega), cmpL_cons_ne (by omega)]
    · rw [if_neg hd] at h ⊢
      have : (48 : Int) ≠ d := by simp [dgt] at hd; omega
      simp only [List.cons_append]
      rw [cmpL_cons_ne this, cmpL_cons_ne this]
  · rw [if_neg hc] at h ⊢
    by_cases hd : dgt d = true
    · rw [if_pos hd] at h ⊢
      have : c ≠ (48 : Int) := by simp [dgt] at hc; omega
      simp only [List.cons_append]
      rw [cmpL_cons_ne this, cmpL_cons_ne this]
    · rw [if_neg hd] at h ⊢
      have : c ≠ d := by
        rintro rfl
        simp [cmpL] at h
      simp only [List.cons_append]
      rw [cmpL_cons_ne this, cmpL_cons_ne this]
/-- One round of a comparison. -/
theorem kys_ne {c d : Int} {r t : List Int} (h : cmpL (key (fp (c :: r))) (key (fp (d :: t))) ≠ 0) : cmpL (kys (c :: r)) (kys (d :: t)) = cmpL (key (fp (c :: r))) (key (fp (d :: t))) := by
  obtain ⟨r', hr⟩ := fp_head c r
  obtain ⟨t', ht⟩ := fp_head d t
  rw [kys_cons, kys_cons]
  rw [hr, ht] at h ⊢
  exact key_apart _ _ h
theorem kys_eq {c d : Int} {r t : List Int} (h : cmpL (key (fp (c :: r))) (key (fp (d :: t))) = 0) : cmpL (kys (c :: r)) (kys (d :: t)) = cmpL (kys ((c :: r).drop (fp (c :: r)).length)) (kys ((d :: t).drop (fp (d :: t)).length)) := by
  rw [kys_cons, kys_cons, cmpL_zero h, cmpL_append_same]
theorem kys_left {c : Int} {r : List Int} : cmpL (kys (c :: r)) (kys []) = 1 := by
  obtain ⟨x, t, h⟩ := kys_pos c r
  rw [h, kys_nil]; rfl
theorem kys_right {c : Int} {r : List Int} : cmpL (kys []) (kys (c :: r)) = -1 := by
  obtain ⟨x, t, h⟩ := kys_pos c r
  rw [h, kys_nil]; rfl
/-- The order of names. -/
def cmpS (a b : List Int) : Int := if cmpL (kys a) (kys b) = 0 then cmpL a b else cmpL (kys a) (kys b)
theorem cmpS_self (a : List Int) : cmpS a a = 0 := by simp [cmpS, cmpL_self]
theorem cmpS_swap (a b : List Int) : cmpS b a = - cmpS a b := by
  unfold cmpS
  rw [cmpL_swap (kys a) (kys b), cmpL_swap a b]
  by_cases h : cmpL (kys a) (kys b) = 0
  · rw [if_pos h, if_pos (by omega)]
  · rw [if_neg h, if_neg (by omega)]
theorem cmpS_zero {a b : List Int} (h : cmpS a b = 0) : a = b := by
  unfold cmpS at h
  split at h
  · exact cmpL_zero h
  · contradiction
theorem cmpS_trans {a b c : List Int} (h1 : cmpS a b ≤ 0) (h2 : cmpS b c ≤ 0) : cmpS a c ≤ 0 := by
  unfold cmpS at *
  by_cases e1 : cmpL (kys a) (kys b) = 0
  · rw [if_pos e1] at h1
    have e1' := cmpL_zero e1
    rw [e1']
    by_cases e2 : cmpL (kys b) (kys c) = 0
    · rw [if_pos e2] at h2 ⊢
      exact cmpL_trans h1 h2
    · rw [if_neg e2] at h2 ⊢; exact h2
  · rw [if_neg e1] at h1
    by_cases e2 : cmpL (kys b) (kys c) = 0
    · rw [← cmpL_zero e2, if_neg e1]; exact h1
    · rw [if_neg e2] at h2
      have h3 := cmpL_trans h1 h2
      by_cases e3 : cmpL (kys a) (kys c) = 0
      · exfalso
        have e4 := cmpL_zero e3
        rw [e4] at h1 e1
        have := cmpL_swap (kys b) (kys c)
        omega
      · rw [if_neg e3]; exact h3
theorem cmpS_range (a b : List Int) : -1 ≤ cmpS a b ∧ cmpS a b ≤ 1 := by
  unfold cmpS; split
  · exact cmpL_range _ _
  · exact cmpL_range _ _
end Go.Proofs.YtdlbghjclcdfmabDoor
