/- A reader's steps, told from the place in all bytes. -/
import Derived.Test.YtmjjbfcblmmipaaRdr
namespace Go.Proofs.Ytmjjbfcblmmipaa
set_option linter.unusedVariables false
set_option linter.unusedSimpArgs false

theorem tk_step (xs : List Int) (hr : Ran xs) (p : Nat) (hp : p ≤ xs.length) :
    (∃ e, tk xs (p : Int) = (0, 0, e) ∧ (e = 5 ∨ e = 3) ∧ tkN (xs.drop p) 0 = (0, 0, e)) ∨
    ∃ (n k : Nat), tk xs (p : Int) = ((n : Int), (k : Int), 0) ∧ (n : Int) ≤ 18446744073709551615 ∧ p < k ∧ k ≤ xs.length ∧ tkN (xs.drop p) 0 = ((n : Int), ((k - p : Nat) : Int), 0) := by
  rw [tk_nat hp]
  have hd := tkN_drop xs p hp
  rcases tkN_cases (xs.drop p) (hr.sub fun x hx => List.mem_of_mem_drop hx) 0 with ⟨e, ht, he⟩ | ⟨v, k, ht, hv0, hv1, hk0, hk1⟩
  · left
    refine ⟨e, ?_, he, ht⟩
    rw [hd, ht]
    have : e ≠ 0 := by rcases he with rfl | rfl <;> decide
    simp [this]
  · right
    obtain ⟨n, rfl⟩ := Int.eq_ofNat_of_zero_le hv0
    rw [List.length_drop] at hk1
    refine ⟨n, k + p, ?_, hv1, by omega, by omega, ?_⟩
    · rw [hd, ht]; simp
    · rw [ht]; congr 2; omega

theorem numS_err {xs : List Int} {e : Int} (h : tkN xs 0 = (0, 0, e)) (he : e = 5 ∨ e = 3) : numS xs 0 = (0, xs, e) := by
  unfold numS; rw [h]; rcases he with rfl | rfl <;> simp
theorem numS_ok {xs : List Int} {p k : Nat} {n : Int} (h : tkN (xs.drop p) 0 = (n, ((k - p : Nat) : Int), 0)) (hk : p < k) : numS (xs.drop p) 0 = (n, xs.drop k, 0) := by
  unfold numS; rw [h]
  simp only [ne_eq, not_true_eq_false, if_false, Int.toNat_natCast, List.drop_drop]
  rw [show p + (k - p) = k by omega]
theorem numS_bad {xs : List Int} {b : Int} (h : b ≠ 0) : numS xs b = (0, xs, b) := by unfold numS; rw [if_pos h]
theorem textS_err {xs : List Int} {e : Int} (h : tkN xs 0 = (0, 0, e)) (he : e = 5 ∨ e = 3) : textS xs 0 = ([], xs, e) := by
  unfold textS; rw [h]; rcases he with rfl | rfl <;> simp
theorem textS_bad {xs : List Int} {b : Int} (h : b ≠ 0) : textS xs b = ([], xs, b) := by unfold textS; rw [if_pos h]
theorem textS_long {xs : List Int} {p k n : Nat} (h : tkN (xs.drop p) 0 = ((n : Int), ((k - p : Nat) : Int), 0)) (hk : p < k) (hl : k ≤ xs.length) (hn : xs.length < k + n) : textS (xs.drop p) 0 = ([], xs.drop p, 5) := by
  unfold textS; rw [h, List.length_drop]
  have : ((xs.length - p : Nat) : Int) - ((k - p : Nat) : Int) < (n : Int) := by omega
  simp [this]
theorem textS_ok {xs : List Int} {p k n : Nat} (h : tkN (xs.drop p) 0 = ((n : Int), ((k - p : Nat) : Int), 0)) (hk : p < k) (hl : k ≤ xs.length) (hn : k + n ≤ xs.length) : textS (xs.drop p) 0 = ((xs.drop k).take n, xs.drop (k + n), 0) := by
  unfold textS; rw [h, List.length_drop]
  have h1 : ¬ ((xs.length - p : Nat) : Int) - ((k - p : Nat) : Int) < (n : Int) := by omega
  have h2 : (((k - p : Nat) : Int) + (n : Int)).toNat = k - p + n := by omega
  simp only [ne_eq, not_true_eq_false, if_false, h1, Int.toNat_natCast, h2, List.drop_drop]
  rw [show p + (k - p) = k by omega, show p + (k - p + n) = k + n by omega]
theorem flagS_bad {xs : List Int} {b : Int} (h : b ≠ 0) : flagS xs b = (false, xs, b) := by unfold flagS; rw [if_pos h]
theorem flagS_end {xs : List Int} {p : Nat} (h : p = xs.length) : flagS (xs.drop p) 0 = (false, xs.drop p, 5) := by
  have : xs.drop p = [] := List.drop_eq_nil_of_le (by omega)
  rw [this]; rfl
theorem flagS_form {xs : List Int} {p : Nat} {b : Int} (h : xs[p]? = some b) (hb : 1 < b) : flagS (xs.drop p) 0 = (false, xs.drop p, 3) := by
  obtain ⟨hp, rfl⟩ := List.getElem?_eq_some_iff.1 h
  rw [List.drop_eq_getElem_cons hp]; simp [flagS, hb]
theorem flagS_ok {xs : List Int} {p : Nat} {b : Int} (h : xs[p]? = some b) (hb : ¬ 1 < b) : flagS (xs.drop p) 0 = (b == 1, xs.drop (p + 1), 0) := by
  obtain ⟨hp, rfl⟩ := List.getElem?_eq_some_iff.1 h
  rw [List.drop_eq_getElem_cons hp]; simp [flagS, hb]

/-- A slice of ints that reads as a list; nil let in. -/
def Ins (w : World) (A : Option Addr) (n : Nat) (ls : List Int) : Prop := Rd w A n (ls.map (Value.int .i64)) ∧ ∀ x ∈ ls, -9223372036854775808 ≤ x ∧ x ≤ 9223372036854775807
section
variable {w w' : World} {A : Option Addr} {n : Nat} {ls : List Int}
theorem Ins.len (h : Ins w A n ls) : ls.length = n := by have := h.1.1; simpa using this
theorem Ins.at_ {k : Nat} (h : Ins w A n ls) (hk : k < n) : ∃ b off x, A = some ⟨b, off, none⟩ ∧ b < w.heap.size ∧ -9223372036854775808 ≤ x ∧ x ≤ 9223372036854775807 ∧ w.cell? ⟨b, off + k, none⟩ = some (.int .i64 x) := by
  obtain ⟨b, off, u, rfl, hb, hc, HU⟩ := h.1.at_ hk
  have hk' : k < ls.length := by have := h.len; omega
  have hx := h.2 ls[k] (List.getElem_mem hk')
  have hu := HU.out
  rw [List.getElem?_map, List.getElem?_eq_getElem hk'] at hu
  simp only [Option.map_some, Option.some.injEq] at hu
  subst hu
  exact ⟨b, off, ls[k], rfl, hb, hx.1, hx.2, hc⟩
theorem Ins.keep (h : Ins w A n ls) (hk : RowKit.Below w.heap.size w w') : Ins w' A n ls := ⟨h.1.keep hk, h.2⟩
theorem Rd.short {vs : List Value} {m : Nat} (h : Rd w A n vs) (hm : m ≤ n) : Rd w A m (vs.take m) := by
  refine ⟨by rw [List.length_take, h.1]; omega, fun hp => ?_⟩
  obtain ⟨b, off, rfl, hb, hc⟩ := h.2 (by omega)
  refine ⟨b, off, rfl, hb, fun j u hu => hc j u ?_⟩
  rw [List.getElem?_take] at hu
  split at hu
  · exact hu
  · cases hu
theorem Ins.short {m : Nat} (h : Ins w A n ls) (hm : m ≤ n) : Ins w A m (ls.take m) :=
  ⟨by rw [List.map_take]; exact h.1.short hm, fun x hx => h.2 x (List.mem_of_mem_take hx)⟩
end
end Go.Proofs.Ytmjjbfcblmmipaa
