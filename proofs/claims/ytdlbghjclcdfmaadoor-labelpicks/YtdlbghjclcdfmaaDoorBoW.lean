/- Rows of bools. No program is named here. -/
import Derived.Test.YtdlbghjclcdfmaaDoorMt
namespace Go.Proofs.YtdlbghjclcdfmaaDoor
set_option linter.unusedVariables false
set_option linter.unusedSimpArgs false
open Go.RowKit

/-- Bools as values. -/
def Bo (bs : List Bool) : List Value := bs.map Value.bool
theorem Bo_length (bs : List Bool) : (Bo bs).length = bs.length := by simp [Bo]
def zerB (n : Nat) : List Value := List.replicate n (.bool false)
def zerBA (n : Nat) : Array Value := (zerB n).toArray
theorem zerB_eq (n : Nat) : zerB n = Bo (List.replicate n false) := by simp [zerB, Bo]
theorem run_make_bools {P : Program} (t e : TypeId) (i : TypeInfo) (ht : P.underlying t = some (.slice e)) (hi : P.info? e = some i) (hz : i.zero = some (.bool false)) (hsize : i.size = 1) (hby : i.bytes = 1)
    (l : Int) (n : Nat) (hl : l = (n : Int)) (hb : n ≤ 281474976710656) (w : World) :
    (Instr.makeSlice t (.int .i64 l) (.int .i64 l)).run P w = .ok (.slice (some ⟨w.heap.size, 0, none⟩) n n) (w.alloc (.cells (zerBA n) e)) := by
  subst hl
  rw [run_make w t e i _ ht hi hz .i64 .i64 (n : Int) (n : Int) (by omega) (by omega) (by rw [hby]; omega) (by omega)]
  have e1 : madeCells (Value.cells (.bool false)) (((n : Int)).toNat * i.size) = zerBA n := by
    rw [hsize, Nat.mul_one, Int.toNat_natCast]
    apply Array.toList_inj.1
    show (madeCells #[.bool false] n).toList = _
    rw [toList_madeCells_one]; rfl
  rw [e1, Int.toNat_natCast]
theorem Own.cellB {w : World} {base g n c k : Nat} {bs : List Bool} {x : Bool} {e : TypeId} (h : Own w base e (some ⟨g, 0, none⟩) n c (Bo bs)) (hx : bs[k]? = some x) : w.cell? ⟨g, k, none⟩ = some (.bool x) := by
  have hl : (Bo bs).length = n := by have := h.1; simpa using this
  rw [Bo_length] at hl
  have hk : k < n := by have := (List.getElem?_eq_some_iff.1 hx).1; omega
  rw [World.ownsRow.cellAt h k (by omega)]
  simp [Bo, hx]
theorem Own.putB {w : World} {base g n c k : Nat} {bs : List Bool} {e : TypeId} (h : Own w base e (some ⟨g, 0, none⟩) n c (Bo bs)) (v : Bool) : Own (w.setCell ⟨g, k, none⟩ (.bool v)) base e (some ⟨g, 0, none⟩) n c (Bo (bs.set k v)) := by
  have : Bo (bs.set k v) = (Bo bs).set k (.bool v) := by simp [Bo, List.map_set]
  rw [this]; exact (h.stored k (.bool v)).1
theorem Own.lenB {w : World} {base n c : Nat} {A : Option Addr} {bs : List Bool} {e : TypeId} (h : Own w base e A n c (Bo bs)) : bs.length = n := by
  have hl : (Bo bs).length = n := by have := h.1; simpa using this
  rwa [Bo_length] at hl
/-- Another row is written. -/
theorem Own.putOther {w : World} {base g g2 n c k n2 c2 base2 : Nat} {vs us : List Value} {e e2 : TypeId} (h : Own w base e (some ⟨g, 0, none⟩) n c vs) (k2 : Own w base2 e2 (some ⟨g2, 0, none⟩) n2 c2 us) (hne : g ≠ g2) (v : Value) : Own (w.setCell ⟨g2, k, none⟩ v) base e (some ⟨g, 0, none⟩) n c vs :=
  h.kept (k2.stored k v).2 (.inr (fun e => hne (by injection e)))
/-- The table of all beginnings. -/
def dp (p s : List Int) : List Bool := (List.range (p.length + 1)).map fun t => mt (p.take t) s
theorem dp_length (p s : List Int) : (dp p s).length = p.length + 1 := by simp [dp]
theorem dp_get {p s : List Int} {t : Nat} (h : t ≤ p.length) : (dp p s)[t]? = some (mt (p.take t) s) := by
  simp [dp, List.getElem?_range, show t < p.length + 1 by omega]
theorem dp_of {p s : List Int} {bs : List Bool} (hl : bs.length = p.length + 1) (h : ∀ t, t ≤ p.length → bs[t]? = some (mt (p.take t) s)) : bs = dp p s := by
  apply List.ext_getElem?
  intro t
  by_cases ht : t ≤ p.length
  · rw [h t ht, dp_get ht]
  · rw [List.getElem?_eq_none (by omega), List.getElem?_eq_none (by rw [dp_length]; omega)]
/-- The table up to a place. -/
def Upto (p s : List Int) (bs : List Bool) (k : Nat) : Prop := bs.length = p.length + 1 ∧ ∀ t, t ≤ k → bs[t]? = some (mt (p.take t) s)
theorem Upto.set {p s : List Int} {bs : List Bool} {k : Nat} {v : Bool} (h : Upto p s bs k) (hk : k < p.length) (hv : mt (p.take (k + 1)) s = v) : Upto p s (bs.set (k + 1) v) (k + 1) := by
  refine ⟨by rw [List.length_set]; exact h.1, fun t ht => ?_⟩
  by_cases e : t = k + 1
  · subst e
    rw [List.getElem?_set_self (by rw [h.1]; omega), hv]
  · rw [List.getElem?_set_ne (by omega)]
    exact h.2 t (by omega)
theorem take_get {p : List Int} {k : Nat} {x : Int} (h : p[k]? = some x) : p.take (k + 1) = p.take k ++ [x] := by rw [List.take_add_one, h]; rfl
end Go.Proofs.YtdlbghjclcdfmaaDoor
