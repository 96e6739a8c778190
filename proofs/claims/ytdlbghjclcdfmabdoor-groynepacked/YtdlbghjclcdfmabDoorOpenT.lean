/- How an argument reads: a slice of texts. -/
import Derived.Test.YtdlbghjclcdfmabDoorOpen
import Derived.Test.YtdlbghjclcdfmabDoorStW
import Derived.Test.YtdlbghjclcdfmabDoorCpt
import Derived.SliceStrings
namespace Go.Proofs.YtdlbghjclcdfmabDoor
set_option linter.unusedVariables false
set_option linter.unusedSimpArgs false
open Go.ChangeShapes Go.WideShapes Go.ChangeAt Go.RowKit

section
variable {H : Type} {enc : TypeId × Value → H} {P : Program} {w : World} {held : Bool}
theorem open_strs {t e : TypeId} {a : Option Addr} {len cap : Nat} {d : DataW H} {p : List MemPlace} (ht : P.underlying t = some (.slice e)) (he : P.underlying e = some .string) (hc : P.cellsOf e = 1)
    (h : DataW.Trod enc P w 0 (fun _ => true) held t (.slice a len cap) d p) :
    ∃ z : List (List Int), Rd w a len (St z) ∧ (∀ l ∈ z, Ran l ∧ l.length ≤ 9223372036854775807) ∧ len ≤ cap ∧ len ≤ 9223372036854775807 := by
  obtain ⟨fuel, hf⟩ := h
  rcases open_strings ht he hc hf with ⟨hcs, hx⟩ | ⟨x, l, c, ss, hcs, _, hl, hm, hz, hx, hcell, hsz⟩
  · simp [Value.cells] at hcs
    obtain ⟨rfl, rfl, rfl⟩ := hcs
    exact ⟨[], Rd.nil_, (fun l hl => by cases hl), Nat.le_refl _, by omega⟩
  · simp [Value.cells] at hcs
    obtain ⟨rfl, rfl, rfl⟩ := hcs
    have hz' : ss.length = cap := by simpa using hz
    have hst : ∀ s : ByteArray, strOfNums (nm s.data.toList) = s := fun s => by rw [nm_str]
    refine ⟨(ss.take len).map fun s => nm s.data.toList, ⟨by rw [St_length, List.length_map, List.length_take]; omega, fun hn => ?_⟩, fun l hl => ?_, hl, by unfold maxLen at hm; omega⟩
    · obtain ⟨b, off, spot⟩ := x
      have h0 := hcell 0 (by omega)
      have hs : spot = none := by simpa [Addr.add] using World.cell?_spot h0
      subst hs
      refine ⟨b, off, rfl, World.block_lt_of_cell? w ⟨b, off, none⟩ (u := .string (ss.getD 0 ByteArray.empty)) (by simpa [Addr.add] using h0), fun j u hu => ?_⟩
      have hj : j < len := by
        have := (List.getElem?_eq_some_iff.1 hu).1
        rw [St_length, List.length_map, List.length_take] at this
        omega
      have hcj := hcell j (by omega)
      have e : (⟨b, off, none⟩ : Addr).add j = ⟨b, off + j, none⟩ := by unfold Addr.add; split <;> simp_all
      rw [e] at hcj
      rw [hcj]
      have hjs : j < ss.length := by omega
      simp only [St, List.getElem?_map, List.getElem?_take, if_pos hj, List.getElem?_eq_getElem hjs, Option.map_some, hst] at hu
      rw [← hu, List.getD, List.getElem?_eq_getElem hjs]; rfl
    · obtain ⟨s, hs, rfl⟩ := List.mem_map.1 hl
      have := hsz s (List.mem_of_mem_take hs)
      refine ⟨nm_ran _, ?_⟩
      have e1 : (nm s.data.toList).length = s.size := by
        unfold nm
        rw [List.length_map, Array.length_toList]; rfl
      rw [e1]; unfold maxLen at this; omega
end
theorem bounds_i64' {n : Int} (h : (Lit.int .i64 n).wf = true) : -9223372036854775808 ≤ n ∧ n ≤ 9223372036854775807 := by
  simp [Lit.wf, IntKind.min, IntKind.max, IntKind.signed, IntKind.bits] at h
  omega
end Go.Proofs.YtdlbghjclcdfmabDoor
