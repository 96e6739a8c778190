/- Items that are put: how they read, and what their bytes are. -/
import Derived.Test.YtdlbghjclcdfmaaWtr
import Derived.Test.YtdlbghjclcdfmaaSpl
namespace Go.Proofs.Ytdlbghjclcdfmaa
set_option linter.unusedVariables false
set_option linter.unusedSimpArgs false
open Go.RowKit

/-- An item: its kind, number, text and flag. -/
structure It where
  kind : Int
  n : Int
  text : List Int
  flag : Bool

def Its (w : World) (A : Option Addr) (n : Nat) (its : List It) : Prop :=
  its.length = n ∧ (0 < n → ∃ b off, A = some ⟨b, off, none⟩ ∧ b < w.heap.size ∧ ∀ k x, its[k]? = some x →
    w.cell? ⟨b, off + k * 4, none⟩ = some (.int .i64 x.kind) ∧ w.cell? ⟨b, off + k * 4 + 1, none⟩ = some (.int .u64 x.n) ∧
    (∃ A' c', w.cell? ⟨b, off + k * 4 + 2, none⟩ = some (.slice A' x.text.length c') ∧ Bs w A' x.text.length x.text) ∧
    w.cell? ⟨b, off + k * 4 + 3, none⟩ = some (.bool x.flag) ∧ 0 ≤ x.n ∧ x.n ≤ 18446744073709551615)
section
variable {w w' : World} {A : Option Addr} {n : Nat} {its : List It}
theorem Its.len (h : Its w A n its) : its.length = n := h.1
theorem Its.keep (h : Its w A n its) (hb : Below w.heap.size w w') : Its w' A n its := by
  refine ⟨h.1, fun hn => ?_⟩
  obtain ⟨b, off, hA, hlt, hc⟩ := h.2 hn
  refine ⟨b, off, hA, Nat.lt_of_lt_of_le hlt hb.size, fun k x hx => ?_⟩
  obtain ⟨h0, h1, ⟨A', c', h2, hbs⟩, h3, h4, h5⟩ := hc k x hx
  refine ⟨?_, ?_, ⟨A', c', ?_, hbs.keep hb⟩, ?_, h4, h5⟩
  · rw [hb.cell (p := ⟨b, off + k * 4, none⟩) hlt]; exact h0
  · rw [hb.cell (p := ⟨b, off + k * 4 + 1, none⟩) hlt]; exact h1
  · rw [hb.cell (p := ⟨b, off + k * 4 + 2, none⟩) hlt]; exact h2
  · rw [hb.cell (p := ⟨b, off + k * 4 + 3, none⟩) hlt]; exact h3
theorem Its.at_ {k : Nat} (h : Its w A n its) (hk : k < n) : ∃ b off A' m c' x, A = some ⟨b, off, none⟩ ∧ b < w.heap.size ∧ Hid (its[k]? = some x) ∧ Hid (x.text.length = m) ∧
    w.cell? ⟨b, off + k * 4, none⟩ = some (.int .i64 x.kind) ∧ w.cell? ⟨b, off + k * 4 + 1, none⟩ = some (.int .u64 x.n) ∧ w.cell? ⟨b, off + k * 4 + 2, none⟩ = some (.slice A' m c') ∧
    w.cell? ⟨b, off + k * 4 + 3, none⟩ = some (.bool x.flag) ∧ Bs w A' m x.text ∧ 0 ≤ x.n ∧ x.n ≤ 18446744073709551615 := by
  obtain ⟨b, off, hA, hlt, hc⟩ := h.2 (by omega)
  have hx : its[k]? = some (its[k]'(by have := h.1; omega)) := List.getElem?_eq_getElem _
  obtain ⟨h0, h1, ⟨A', c', h2, hbs⟩, h3, h4, h5⟩ := hc k _ hx
  exact ⟨b, off, A', _, c', _, hA, hlt, hx, rfl, h0, h1, h2, h3, hbs, h4, h5⟩
theorem Its.short {m : Nat} (h : Its w A n its) (hm : m ≤ n) : Its w A m (its.take m) := by
  refine ⟨by rw [List.length_take, h.1]; omega, fun hp => ?_⟩
  obtain ⟨b, off, hA, hlt, hc⟩ := h.2 (by omega)
  refine ⟨b, off, hA, hlt, fun k x hx => hc k x ?_⟩
  have hi : k < m := by
    have := (List.getElem?_eq_some_iff.1 hx).1
    rw [List.length_take] at this; omega
  rwa [List.getElem?_take, if_pos hi] at hx
end

/-- An item's bytes. -/
def enc (x : It) : List Int := if x.kind = 0 then num x.n else if x.kind = 1 then num x.text.length ++ x.text else [flagB x.flag]
def encs (its : List It) : List Int := (its.map enc).flatten
theorem encs_snoc {its : List It} {k : Nat} {x : It} (h : its[k]? = some x) : encs (its.take (k + 1)) = encs (its.take k) ++ enc x := by
  obtain ⟨hk, rfl⟩ := List.getElem?_eq_some_iff.1 h
  rw [List.take_succ_eq_append_getElem hk]
  simp only [encs, List.map_append, List.flatten_append, List.map_cons, List.map_nil, List.flatten_cons, List.flatten_nil, List.append_nil]
theorem encs_drop {its : List It} {k : Nat} {x : It} (h : its[k]? = some x) : encs (its.drop k) = enc x ++ encs (its.drop (k + 1)) := by
  obtain ⟨hk, rfl⟩ := List.getElem?_eq_some_iff.1 h
  rw [List.drop_eq_getElem_cons hk]
  simp only [encs, List.map_cons, List.flatten_cons]
theorem enc_pos (x : It) : 1 ≤ (enc x).length := by
  unfold enc
  split
  · exact num_pos _
  · split
    · have := num_pos (x.text.length : Int); simp only [List.length_append]; omega
    · simp
theorem enc_le (x : It) : (enc x).length ≤ 9 + x.text.length := by
  unfold enc
  split
  · have := num_le x.n; omega
  · split
    · have := num_le (x.text.length : Int); simp only [List.length_append]; omega
    · simp; omega
theorem enc_ran (x : It) (h : 0 ≤ x.n) (hr : Ran x.text) : Ran (enc x) := by
  unfold enc
  split
  · exact num_ran _ h
  · split
    · exact (num_ran _ (by omega)).append hr
    · intro y hy
      have : y = flagB x.flag := by simpa using hy
      rw [this]; unfold flagB; split <;> omega
/-- All letters of the items, and ten more for each. -/
def itot : List It → Nat
  | [] => 0
  | x :: r => 10 + x.text.length + itot r
theorem encs_le : ∀ its : List It, (encs its).length ≤ itot its
  | [] => by simp [encs]
  | x :: r => by
    have ih := encs_le r
    have := enc_le x
    simp only [encs, List.map_cons, List.flatten_cons, List.length_append, itot] at ih ⊢
    omega
theorem itot_take (its : List It) (k : Nat) : itot (its.take k) ≤ itot its := by
  induction its generalizing k with
  | nil => simp
  | cons x r ih =>
    cases k with
    | zero => simp [itot]
    | succ k => have := ih k; simp only [List.take_succ_cons, itot]; omega
theorem itot_mem {its : List It} {x : It} (h : x ∈ its) : x.text.length ≤ itot its := by
  induction its with
  | nil => cases h
  | cons y r ih =>
    simp only [itot]
    rcases List.mem_cons.1 h with rfl | h
    · omega
    · have := ih h; omega
theorem encs_ran {its : List It} (h : ∀ x ∈ its, 0 ≤ x.n ∧ Ran x.text) : Ran (encs its) := by
  intro y hy
  obtain ⟨l, hl, hyl⟩ := List.mem_flatten.1 hy
  obtain ⟨x, hx, rfl⟩ := List.mem_map.1 hl
  exact enc_ran x (h x hx).1 (h x hx).2 y hyl
theorem Its.all {w : World} {A : Option Addr} {n : Nat} {its : List It} (h : Its w A n its) : ∀ x ∈ its, 0 ≤ x.n ∧ Ran x.text := by
  intro x hx
  obtain ⟨i, hi, rfl⟩ := List.getElem_of_mem hx
  obtain ⟨_, _, _, _, _, y, _, _, HY, _, _, _, _, _, hb, h0, _⟩ := h.at_ (k := i) (by have := h.len; omega)
  have := HY.out
  rw [List.getElem?_eq_getElem hi] at this
  injection this with this
  rw [this]; exact ⟨h0, hb.2⟩

/-! What a reader takes of them. -/
theorem numS_enc (n : Int) (post : List Int) (h0 : 0 ≤ n) (h1 : n ≤ 18446744073709551615) : numS (num n ++ post) 0 = (n, post, 0) := by
  unfold numS; rw [tkN_head n post h0 h1]; simp
theorem flagS_enc (f : Bool) (post : List Int) : flagS ([flagB f] ++ post) 0 = (f, post, 0) := by
  cases f <;> simp [flagS, flagB]
end Go.Proofs.Ytdlbghjclcdfmaa
