/- slices.Compact of texts in order: in order, each once. No program is named here. -/
import Derived.Test.YtdlbghjclcdfmabDoorSrt
import Derived.Lib.SlicesCompact
namespace Go.Proofs.YtdlbghjclcdfmabDoor
set_option linter.unusedVariables false
set_option linter.unusedSimpArgs false
open Go.Lib

/-- Bytes as numbers. -/
def nm (b : List UInt8) : List Int := b.map fun x => (x.toNat : Int)
theorem nm_inj : ∀ {a b : List UInt8}, nm a = nm b → a = b
  | [], [], _ => rfl
  | [], _ :: _, h => by simp [nm] at h
  | _ :: _, [], h => by simp [nm] at h
  | x :: a, y :: b, h => by
    simp only [nm, List.map_cons, List.cons.injEq] at h
    have h1 : x = y := UInt8.toNat_inj.1 (by omega)
    rw [h1, nm_inj (a := a) (b := b) h.2]
theorem nm_ran (b : List UInt8) : Ran (nm b) := by
  intro x hx
  obtain ⟨y, _, rfl⟩ := List.mem_map.1 hx
  have := y.toNat_lt
  omega
theorem nm_str (b : List UInt8) : strOfNums (nm b) = ⟨b.toArray⟩ := by
  apply ByteArray.ext
  apply Array.ext'
  simp only [strOfNums, nm, List.map_map]
  refine (List.map_congr_left fun y _ => ?_).trans (List.map_id _)
  simp
theorem str_nm {l : List Int} (h : Ran l) : nm ((strOfNums l).data.toList) = l := by
  rw [strOfNums_data]
  unfold nm
  rw [List.map_map]
  refine (List.map_congr_left fun x hx => ?_).trans (List.map_id _)
  have := h x hx
  simp only [Function.comp, UInt8.toNat_ofNat', id]
  omega
theorem get_bang {d : Array (List UInt8)} {j : Nat} (h : j < d.size) : d.toList[j]? = some d[j]! := by
  rw [Array.getElem?_toList, getElem!_pos d j h, Array.getElem?_eq_getElem h]
theorem wrt_get {M : List (List Int)} (h : Wrt M) {i j : Nat} {x y : List Int} (hi : M[i]? = some x) (hj : M[j]? = some y) (hij : i < j) : cmpS x y ≤ 0 := by
  obtain ⟨h1, rfl⟩ := List.getElem?_eq_some_iff.1 hi
  obtain ⟨h2, rfl⟩ := List.getElem?_eq_some_iff.1 hj
  exact List.pairwise_iff_getElem.1 h i j h1 h2 hij
theorem compactUp (d : Array (List UInt8)) (hw : Wrt (d.toList.map nm)) : ∀ m, m ≤ d.size → Srt ((compactUpTo d m).map nm) ∧ ∀ x, x ∈ compactUpTo d m ↔ x ∈ d.toList.take m
  | 0, _ => by simp [compactUpTo, Srt]
  | m + 1, hm => by
    obtain ⟨h1, h2⟩ := compactUp d hw m (by omega)
    have hg := get_bang (d := d) (j := m) (by omega)
    rw [compactUpTo_succ]
    by_cases hk : keeps d m = true
    · rw [if_pos hk]
      refine ⟨?_, fun x => ?_⟩
      · rw [List.map_append]
        unfold Srt
        rw [List.pairwise_append]
        refine ⟨h1, by simp, fun a ha b hb => ?_⟩
        obtain ⟨y, hy, rfl⟩ := List.mem_map.1 ha
        simp only [List.map_cons, List.map_nil, List.mem_singleton] at hb
        subst hb
        rw [h2] at hy
        have hm0 : 0 < m := by
          rcases Nat.eq_zero_or_pos m with h | h
          · subst h; simp at hy
          · exact h
        have hne : d[m]! ≠ d[m - 1]! := by
          simp only [keeps, decide_eq_true_eq] at hk
          rcases hk with hk | hk
          · omega
          · exact hk
        have hg1 := get_bang (d := d) (j := m - 1) (by omega)
        have hlt : cmpS (nm d[m - 1]!) (nm d[m]!) < 0 := by
          have := wrt_get hw (i := m - 1) (j := m) (x := nm d[m - 1]!) (y := nm d[m]!) (by rw [List.getElem?_map, hg1]; rfl) (by rw [List.getElem?_map, hg]; rfl) (by omega)
          rcases Int.lt_or_eq_of_le this with h | h
          · exact h
          · exact absurd (nm_inj (cmpS_zero h)).symm hne
        obtain ⟨i, hi, he⟩ := List.getElem_of_mem hy
        have hil : i < m := by rw [List.length_take] at hi; omega
        have hyi : d.toList[i]? = some y := by
          have := List.getElem?_eq_getElem hi
          rw [he, List.getElem?_take, if_pos hil] at this
          exact this
        by_cases hie : i = m - 1
        · subst hie
          rw [hg1] at hyi
          injection hyi with hyi
          rw [← hyi]; exact hlt
        · exact cmpS_le_lt_trans (wrt_get hw (i := i) (j := m - 1) (x := nm y) (y := nm d[m - 1]!) (by rw [List.getElem?_map, hyi]; rfl) (by rw [List.getElem?_map, hg1]; rfl) (by omega)) hlt
      · rw [List.mem_append, h2, List.take_add_one, List.mem_append, hg]
        simp
    · rw [if_neg hk, List.append_nil]
      refine ⟨h1, fun x => ?_⟩
      rw [h2, List.take_add_one, List.mem_append, hg]
      have hm0 : 0 < m := by
        rcases Nat.eq_zero_or_pos m with h | h
        · subst h; simp [keeps] at hk
        · exact h
      have heq : d[m]! = d[m - 1]! := by
        simp only [keeps, decide_eq_true_eq] at hk
        by_cases h : d[m]! = d[m - 1]!
        · exact h
        · exact absurd (.inr h) hk
      have hg1 := get_bang (d := d) (j := m - 1) (by omega)
      constructor
      · intro h; exact .inl h
      · rintro (h | h)
        · exact h
        · simp only [Option.toList_some, List.mem_singleton] at h
          rw [h, heq]
          have : (d.toList.take m)[m - 1]? = some d[m - 1]! := by rw [List.getElem?_take, if_pos (by omega)]; exact hg1
          exact List.mem_of_getElem? this
theorem compact_srt {zs : List (List UInt8)} (hw : Wrt (zs.map nm)) : Srt ((compact zs).map nm) ∧ ∀ x, x ∈ compact zs ↔ x ∈ zs := by
  have h := compactUp zs.toArray (by simpa using hw) zs.length (by simp)
  refine ⟨h.1, fun x => ?_⟩
  have := h.2 x
  simp only [List.take_length] at this
  exact this
end Go.Proofs.YtdlbghjclcdfmabDoor
