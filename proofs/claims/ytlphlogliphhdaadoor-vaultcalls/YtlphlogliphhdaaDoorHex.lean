/- Numbers in sixteen digits of sixteen; rows of bytes that may be written. -/
import Derived.Test.YtlphlogliphhdaaDoorMem
import Derived.Sort.Walk0
namespace Go.Proofs.YtlphlogliphhdaaDoor
set_option linter.unusedVariables false
set_option linter.unusedSimpArgs false
open Go.RowKit

/-- A digit. -/
def hd (d : Nat) : Int := if d < 10 then 48 + d else 87 + d
/-- The last k digits. -/
def hx : Nat → Nat → List Int
  | 0, _ => []
  | k + 1, n => hx k (n / 16) ++ [hd (n % 16)]
theorem hx_len : ∀ k n, (hx k n).length = k
  | 0, _ => rfl
  | k + 1, n => by simp [hx, hx_len k]
theorem hd_ran (d : Nat) (h : d < 16) : 48 ≤ hd d ∧ hd d ≤ 102 := by unfold hd; split <;> omega
theorem hx_ran : ∀ k n, Ran (hx k n)
  | 0, _ => Ran.nil
  | k + 1, n => (hx_ran k _).append (fun x hx => by
      obtain rfl : x = hd (n % 16) := by simpa using hx
      have := hd_ran (n % 16) (Nat.mod_lt _ (by omega)); omega)
theorem hx_app : ∀ a b n, hx (a + b) n = hx a (n / 16 ^ b) ++ hx b n
  | a, 0, n => by simp [hx]
  | a, b + 1, n => by
    show hx (a + b) (n / 16) ++ _ = hx a _ ++ (hx b (n / 16) ++ _)
    rw [hx_app a b, List.append_assoc, Nat.div_div_eq_div_mul, Nat.pow_succ, Nat.mul_comm 16]
theorem hx_zero : ∀ k, hx k 0 = List.replicate k 48
  | 0 => rfl
  | k + 1 => by rw [hx, Nat.zero_div, hx_zero k, List.replicate_succ']; rfl
/-- Shorter ones behind noughts. -/
theorem hx_pad {j n : Nat} (h1 : j ≤ 16) (h2 : n < 16 ^ j) : List.replicate (16 - j) 48 ++ hx j n = hx 16 n := by
  have h := hx_app (16 - j) j n
  rw [show 16 - j + j = 16 by omega, Nat.div_eq_of_lt h2, hx_zero] at h
  exact h.symm

theorem hd_lt {a b : Nat} (hb : b < 16) (h : a < b) : hd a < hd b := by unfold hd; split <;> split <;> omega
theorem hd_inj {a b : Nat} (ha : a < 16) (hb : b < 16) (h : hd a = hd b) : a = b := by
  rcases Nat.lt_trichotomy a b with h1 | h1 | h1
  · have := hd_lt hb h1; omega
  · exact h1
  · have := hd_lt ha h1; omega

/-- The last digit settles what those ahead leave open. -/
theorem cmpL_snoc : ∀ {xs ys : List Int} {x y : Int}, xs.length = ys.length → cmpL (xs ++ [x]) (ys ++ [y]) = if cmpL xs ys = 0 then cmpI x y else cmpL xs ys
  | [], [], x, y, _ => by simp only [List.nil_append, cmpL]; unfold cmpI; simp
  | [], _ :: _, _, _, h => by simp at h
  | _ :: _, [], _, _, h => by simp at h
  | a :: l1, b :: l2, x, y, h => by
    have ih := cmpL_snoc (xs := l1) (ys := l2) (x := x) (y := y) (by simpa using h)
    simp only [List.cons_append, cmpL]
    by_cases h1 : a < b
    · simp [h1]
    · by_cases h2 : b < a
      · simp [h1, h2]
      · simp only [h1, h2, if_false]; exact ih

theorem hx_cmp : ∀ (k : Nat) (a b : Nat), a < 16 ^ k → b < 16 ^ k → cmpL (hx k a) (hx k b) = cmpI a b
  | 0, a, b, ha, hb => by
    have e1 : a = 0 := by simpa using ha
    have e2 : b = 0 := by simpa using hb
    subst e1; subst e2; rfl
  | k + 1, a, b, ha, hb => by
    have e1 : a / 16 < 16 ^ k := by rw [Nat.div_lt_iff_lt_mul (by omega)]; rw [Nat.pow_succ] at ha; exact ha
    have e2 : b / 16 < 16 ^ k := by rw [Nat.div_lt_iff_lt_mul (by omega)]; rw [Nat.pow_succ] at hb; exact hb
    rw [hx, hx, cmpL_snoc (by rw [hx_len, hx_len]), hx_cmp k _ _ e1 e2]
    have m1 := Nat.mod_lt a (show 16 > 0 by omega)
    have m2 := Nat.mod_lt b (show 16 > 0 by omega)
    unfold cmpI
    rcases Nat.lt_trichotomy (a / 16) (b / 16) with h | h | h
    · have hab : a < b := by omega
      have i1 : ((a / 16 : Nat) : Int) < ((b / 16 : Nat) : Int) := by omega
      have i2 : (a : Int) < (b : Int) := by omega
      rw [if_pos i1, if_pos i2]; rfl
    · rw [h]
      simp only [Int.lt_irrefl, if_false, if_true]
      rcases Nat.lt_trichotomy (a % 16) (b % 16) with g | g | g
      · rw [if_pos (hd_lt m2 g), if_pos (by omega : (a : Int) < b)]
      · have hab : a = b := by omega
        subst hab; simp
      · have := hd_lt m1 g
        rw [if_neg (by omega), if_pos this, if_neg (by omega), if_pos (by omega)]
    · have i1 : ¬ ((a / 16 : Nat) : Int) < ((b / 16 : Nat) : Int) := by omega
      have i3 : ((b / 16 : Nat) : Int) < ((a / 16 : Nat) : Int) := by omega
      rw [if_neg i1, if_pos i3, if_neg (by omega : ¬ (a : Int) < b), if_pos (by omega : (b : Int) < a)]; rfl

/-- A row of bytes that may be written. -/
def Rw (W : World) (g n : Nat) (ys : List Int) : Prop :=
  ys.length = n ∧ (∀ j x, ys[j]? = some x → W.cell? ⟨g, j, none⟩ = some (.int .u8 x)) ∧ ∀ j, j < n → W.frozen? ⟨g, j, none⟩ = false
theorem Rw.set {W : World} {g n k : Nat} {ys : List Int} (h : Rw W g n ys) (hk : k < n) (v : Int) : Rw (W.setCell ⟨g, k, none⟩ (.int .u8 v)) g n (ys.set k v) := by
  obtain ⟨hl, hc, hf⟩ := h
  refine ⟨by rw [List.length_set]; exact hl, fun j x hx => ?_, fun j hj => by rw [World.frozen?_setCell]; exact hf j hj⟩
  by_cases e : j = k
  · subst e
    rw [List.getElem?_set_self (by omega)] at hx
    injection hx with hx
    subst hx
    exact World.cell?_setCell_same _ _ _ (hc j ys[j] (List.getElem?_eq_getElem (by omega)))
  · rw [List.getElem?_set_ne (fun h => e h.symm)] at hx
    rw [World.cell?_setCell_other _ _ _ _ (fun h => e (by injection h with _ h; exact h.symm))]
    exact hc j x hx
theorem Rw.cell {W : World} {g n j : Nat} {ys : List Int} (h : Rw W g n ys) (hj : j < n) : ∃ x, ys[j]? = some x ∧ W.cell? ⟨g, j, none⟩ = some (.int .u8 x) := by
  have hl := h.1
  exact ⟨_, List.getElem?_eq_getElem (by omega), h.2.1 j _ (List.getElem?_eq_getElem (by omega))⟩
/-- What stands from a place on, as a text. -/
theorem Rw.conv {W : World} {g n o m c : Nat} {ys : List Int} (h : Rw W g n ys) (hm : o + m = n) : (convert 28 9 (.slice (some ⟨g, o, none⟩) m c)).run Tryd.prog W = .ok (.string (strOfNums (ys.drop o))) W := by
  have hl := h.1
  refine run_convert_bytes_arg W 28 5 Tryd.underlying28 Tryd.underlying5 g o m c (ys.drop o) (by rw [List.length_drop]; omega) (fun i hi => ?_) 9 Tryd.underlying9
  have h1 := h.2.1 (o + i) ys[o + i] (List.getElem?_eq_getElem (by omega))
  rw [h1, List.getD, List.getElem?_drop, List.getElem?_eq_getElem (by omega)]
  rfl
theorem drop_set_lo {l : List Int} {k : Nat} {v : Int} (hk : k < l.length) : (l.set k v).drop k = v :: l.drop (k + 1) := by
  rw [List.drop_eq_getElem_cons (by rw [List.length_set]; exact hk)]
  simp [List.drop_set]
end Go.Proofs.YtlphlogliphhdaaDoor
