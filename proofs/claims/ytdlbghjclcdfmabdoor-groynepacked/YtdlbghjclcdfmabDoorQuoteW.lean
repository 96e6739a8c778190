/- label.Quote. -/
import Derived.Test.YtdlbghjclcdfmabDoorQuo
import Derived.Deep.RegionLaw
import Derived.Laws.BitsAllLaws
namespace Go.Proofs.YtdlbghjclcdfmabDoor
set_option linter.unusedVariables false
set_option linter.unusedSimpArgs false
open Go.RowKit

theorem below_alloc (w : World) (o : Obj) : Below w.heap.size w (w.alloc o) := (Below.refl _ _).alloc (Nat.le_refl _) _
/-- A new row of bytes. -/
theorem rd_new (w : World) (ks : List Int) : Rd (w.alloc (.cells (By ks).toArray 5)) (some ⟨w.heap.size, 0, none⟩) ks.length (By ks) := by
  refine ⟨By_length _, fun _ => ⟨_, _, rfl, by simp, fun j u hu => ?_⟩⟩
  rw [cell_of_row _ w.heap.size (0 + j) (By ks).toArray 5 (0, 0) (heap_alloc_new w _)]
  simpa using hu

theorem Own.alloc2 {w : World} {base : Nat} {e : TypeId} {A : Option Addr} {n c : Nat} {vs : List Value} (h : Own w base e A n c vs) (o : Obj) : Own (w.drew.alloc o) base e A n c vs := Own.alloc (w := w.drew) (h.drewN 1) o
/-- string(b), b a slice of the call's own. -/
theorem conv_own {w : World} {base : Nat} {A : Option Addr} {n c : Nat} {xs : List Int} (h : Own w base 5 A n c (By xs)) (hn : 0 < n) :
    (convert 34 9 (.slice A n c)).run Tryd.prog w = .ok (.string (strOfNums xs)) w := by
  obtain ⟨hl, hc⟩ := h.rd
  rw [By_length] at hl
  obtain ⟨b, off, rfl, hb, hcell⟩ := hc hn
  refine run_convert_bytes_arg w 34 5 Tryd.underlying34 Tryd.underlying5 b off n c xs hl (fun i hi => ?_) 9 Tryd.underlying9
  refine hcell i _ ?_
  rw [By, List.getElem?_map, List.getElem?_eq_getElem (by omega)]
  simp [List.getD, List.getElem?_eq_getElem (show i < xs.length by omega)]

end Go.Proofs.YtdlbghjclcdfmabDoor
