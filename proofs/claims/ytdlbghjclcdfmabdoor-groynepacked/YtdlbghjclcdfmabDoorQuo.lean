/- Quoted texts: plain mathematics; strings as lists of bytes. -/
import Derived.Test.YtdlbghjclcdfmabDoorMem
import Derived.Laws.BytesArg
import Derived.Laws.Strings3
namespace Go.Proofs.YtdlbghjclcdfmabDoor
set_option linter.unusedVariables false
set_option linter.unusedSimpArgs false
open Go.RowKit

/-- A digit to the base 16. -/
def hxd (d : Int) : Int := if d < 10 then 48 + d else 87 + d
/-- A byte, quoted. -/
def qb (c : Int) : List Int := if c < 32 ∨ 126 < c then [92, 120, hxd (c / 16), hxd (c % 16)] else if c = 92 ∨ c = 34 then [92, c] else [c]
def qs (xs : List Int) : List Int := (xs.map qb).flatten
def quo (xs : List Int) : List Int := 34 :: qs xs ++ [34]
theorem qb_bad {c : Int} (h : c < 32 ∨ 126 < c) : qb c = [92, 120, hxd (c / 16), hxd (c % 16)] := by unfold qb; rw [if_pos h]
theorem qb_esc {c : Int} (h : c = 92 ∨ c = 34) : qb c = [92, c] := by unfold qb; rw [if_neg (by omega), if_pos h]
theorem qb_own {c : Int} (h : 32 ≤ c) (h' : c ≤ 126) (h1 : c ≠ 92) (h2 : c ≠ 34) : qb c = [c] := by unfold qb; rw [if_neg (by omega), if_neg (by omega)]
theorem qs_snoc {xs : List Int} {k : Nat} {x : Int} (h : xs[k]? = some x) : qs (xs.take (k + 1)) = qs (xs.take k) ++ qb x := by
  obtain ⟨hk, rfl⟩ := List.getElem?_eq_some_iff.1 h
  rw [List.take_succ_eq_append_getElem hk]
  simp only [qs, List.map_append, List.flatten_append, List.map_cons, List.map_nil, List.flatten_cons, List.flatten_nil, List.append_nil]
theorem qs_drop {xs : List Int} {k : Nat} {x : Int} (h : xs[k]? = some x) : qs (xs.drop k) = qb x ++ qs (xs.drop (k + 1)) := by
  obtain ⟨hk, rfl⟩ := List.getElem?_eq_some_iff.1 h
  rw [List.drop_eq_getElem_cons hk]
  simp only [qs, List.map_cons, List.flatten_cons]
theorem qb_le (c : Int) : (qb c).length ≤ 4 := by unfold qb; split <;> (try split) <;> simp
theorem qs_le : ∀ xs : List Int, (qs xs).length ≤ 4 * xs.length
  | [] => by simp [qs]
  | x :: r => by
    have ih := qs_le r
    have := qb_le x
    simp only [qs, List.map_cons, List.flatten_cons, List.length_append, List.length_cons] at ih ⊢
    omega
theorem hxd_ran {d : Int} (h0 : 0 ≤ d) (h1 : d ≤ 15) : 48 ≤ hxd d ∧ hxd d ≤ 102 := by unfold hxd; split <;> omega
theorem qb_ran {c : Int} (h0 : 0 ≤ c) (h1 : c ≤ 255) : Ran (qb c) := by
  intro y hy
  have ha := hxd_ran (d := c / 16) (by omega) (by omega)
  have hb := hxd_ran (d := c % 16) (by omega) (by omega)
  unfold qb at hy
  split at hy
  · simp only [List.mem_cons, List.not_mem_nil, or_false] at hy
    rcases hy with rfl | rfl | rfl | rfl <;> omega
  · split at hy
    · simp only [List.mem_cons, List.not_mem_nil, or_false] at hy
      rcases hy with rfl | rfl <;> omega
    · simp only [List.mem_cons, List.not_mem_nil, or_false] at hy
      subst hy; omega
theorem qs_ran {xs : List Int} (h : Ran xs) : Ran (qs xs) := by
  intro y hy
  obtain ⟨l, hl, hyl⟩ := List.mem_flatten.1 hy
  obtain ⟨x, hx, rfl⟩ := List.mem_map.1 hl
  exact qb_ran (h x hx).1 (h x hx).2 y hyl
theorem quo_ran {xs : List Int} (h : Ran xs) : Ran (quo xs) := by
  have := qs_ran h
  intro y hy
  simp only [quo, List.cons_append, List.mem_cons, List.mem_append, List.not_mem_nil, or_false] at hy
  rcases hy with rfl | hy | rfl
  · omega
  · exact this y hy
  · omega

/-! Strings. -/
section
variable {P : Program}
theorem str_index (t : TypeId) (ht : P.underlying t = some .string) (xs : List Int) (k : Nat) (x : Int) (hx : xs[k]? = some x) (h0 : 0 ≤ x) (h1 : x ≤ 255) (W : World) :
    (Instr.index t (.string (strOfNums xs)) (.int .i64 (k : Int))).run P W = .ok (.int .u8 x) W := by
  obtain ⟨hk, hx'⟩ := List.getElem?_eq_some_iff.1 hx
  rw [run_index_string W t _ .i64 (k : Int) ht, dif_pos (by rw [strOfNums_size]; omega)]
  have : ((strOfNums xs)[(k : Int).toNat]'(by rw [strOfNums_size]; omega)) = UInt8.ofNat x.toNat := by
    simp [strOfNums, ByteArray.getElem_eq_getElem_data, hx']
  rw [this]
  have e : (UInt8.ofNat x.toNat).toNat = x.toNat := by simp; omega
  rw [e]
  have : ((x.toNat : Nat) : Int) = x := by omega
  rw [this]
theorem str_from (t : TypeId) (ht : P.underlying t = some .string) (xs : List Int) (k : Nat) (hk : k ≤ xs.length) (W : World) :
    (Instr.slice t (.string (strOfNums xs)) (some (.int .i64 (k : Int))) none none).run P W = .ok (.string (strOfNums (xs.drop k))) W := by
  rw [run_slice_string_from_if W t _ .i64 (k : Int) ht, if_pos (by rw [strOfNums_size]; omega)]
  have : (strOfNums xs).extract (k : Int).toNat (strOfNums xs).size = strOfNums (xs.drop k) := by
    apply ByteArray.ext
    simp [strOfNums, ByteArray.size]
    exact List.take_of_length_le (by simp)
  rw [this]
theorem str_list (xs : List Int) : (strOfNums xs).toList = xs.map fun n => UInt8.ofNat n.toNat := by
  rw [ByteArray.toList_eq]; rfl
end
end Go.Proofs.YtdlbghjclcdfmabDoor
