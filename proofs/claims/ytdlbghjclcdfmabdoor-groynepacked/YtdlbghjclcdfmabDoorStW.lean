/- Rows of texts: reading, writing, sorting them in place. -/
import Derived.Test.YtdlbghjclcdfmabDoorSrt
import Derived.Test.YtdlbghjclcdfmabDoorMatchW
import Derived.Laws.IdiomCopy
import Derived.Sort.Grow
namespace Go.Proofs.YtdlbghjclcdfmabDoor
set_option linter.unusedVariables false
set_option linter.unusedSimpArgs false
open Go.RowKit

/-- Texts as values. -/
def St (L : List (List Int)) : List Value := L.map fun l => Value.string (strOfNums l)
theorem St_length (L : List (List Int)) : (St L).length = L.length := by simp [St]
theorem St_append (L M : List (List Int)) : St (L ++ M) = St L ++ St M := by simp [St]
theorem St_one (L : List (List Int)) : ∀ u ∈ St L, u.oneCell' = true := by
  intro u hu
  obtain ⟨x, _, rfl⟩ := List.mem_map.1 hu
  rfl
/-- Each is a text of bytes, none too long. -/
def Tx (L : List (List Int)) : Prop := ∀ l ∈ L, Ran l ∧ l.length ≤ 140737488355328
theorem Tx.sub {L M : List (List Int)} (h : Tx L) (k : ∀ l ∈ M, l ∈ L) : Tx M := fun l hl => h l (k l hl)
theorem info9 : (Tryd.prog.info? 9).map (fun i => (i.zero, i.size, i.bytes)) = some (some (.string .empty), 1, 16) := by kernel_rfl
theorem info9_parts : ∃ i, Tryd.prog.info? 9 = some i ∧ i.zero = some (.string .empty) ∧ i.size = 1 ∧ i.bytes = 16 := by
  have h := info9
  cases hi : Tryd.prog.info? 9 with
  | none => rw [hi] at h; cases h
  | some i =>
    rw [hi] at h
    simp only [Option.map_some, Option.some.injEq, Prod.mk.injEq] at h
    exact ⟨i, rfl, h.1, h.2.1, h.2.2⟩

section
variable {w : World} {base : Nat} {e : TypeId} {g n c : Nat} {vs : List Value}
theorem set_mid (vs us : List Value) (k : Nat) (v : Value) (h : k < vs.length) : (vs.set k v).take (k + 1) ++ us ++ (vs.set k v).drop (k + 1 + us.length) = vs.take k ++ (v :: us) ++ vs.drop (k + (v :: us).length) := by
  have e1 : (vs.set k v).take (k + 1) = vs.take k ++ [v] := by
    rw [List.take_add_one, List.take_set_of_le (Nat.le_refl k)]
    simp [h]
  have e2 : (vs.set k v).drop (k + 1 + us.length) = vs.drop (k + 1 + us.length) := List.drop_set_of_lt (by omega)
  rw [e1, e2]
  simp only [List.append_assoc, List.cons_append, List.nil_append, List.length_cons]
  congr 4
  omega
theorem Own.setCells_at : ∀ (us : List Value) (k : Nat) {w : World} {vs : List Value}, Own w base e (some ⟨g, 0, none⟩) n c vs → k + us.length ≤ n → Own (w.setCells g k us) base e (some ⟨g, 0, none⟩) n c (vs.take k ++ us ++ vs.drop (k + us.length)) ∧ w.grownBy (w.setCells g k us) (some g)
  | [], k, w, vs, h, _ => by
    refine ⟨?_, ⟨rfl, rfl, rfl, Nat.le_refl _, fun _ _ _ => rfl⟩⟩
    simp only [World.setCells, List.append_nil, List.length_nil, Nat.add_zero, List.take_append_drop]
    exact h
  | v :: us, k, w, vs, h, hk => by
    have hl : vs.length = n := by have := h.1; simpa using this
    simp only [List.length_cons] at hk
    obtain ⟨h1, g1⟩ := World.ownsRow.stored h k v
    obtain ⟨h2, g2⟩ := Own.setCells_at us (k + 1) (w := w.setCell ⟨g, k, none⟩ v) (vs := vs.set k v) h1 (by omega)
    rw [set_mid vs us k v (by omega)] at h2
    exact ⟨h2, g2.os.trans g1.os, g2.tape.trans g1.tape, g2.output.trans g1.output, Nat.le_trans g1.size g2.size, fun b hb hne => (g2.block b (Nat.lt_of_lt_of_le hb g1.size) hne).trans (g1.block b hb hne)⟩
theorem Own.setCells_all {us : List Value} (h : Own w base e (some ⟨g, 0, none⟩) n c vs) (hu : us.length = n) : Own (w.setCells g 0 us) base e (some ⟨g, 0, none⟩) n c us := by
  have hl : vs.length = n := by have := h.1; simpa using this
  have := (Own.setCells_at us 0 h (by omega)).1
  rwa [List.take_zero, List.nil_append, Nat.zero_add, List.drop_of_length_le (by omega), List.append_nil] at this
theorem Own.grow_ (h : Own w base e (some ⟨g, 0, none⟩) n c vs) (os : Array Obj) : Own (Go.Sort.grow w os) base e (some ⟨g, 0, none⟩) n c vs := by
  refine ⟨h.1, ?_⟩
  rcases h.2 with h2 | ⟨g', cap, cur, hv, hg, hh, r⟩
  · exact .inl h2
  · exact .inr ⟨g', cap, cur, hv, hg, (Go.Sort.heap_grow_old w os (Array.getElem?_eq_some_iff.1 hh).1).trans hh, r⟩
end
theorem below_sorted {w : World} {base g n c : Nat} {e : TypeId} {vs us : List Value} {B : Nat} (h : Own w base e (some ⟨g, 0, none⟩) n c vs) (hu : us.length ≤ n) (hB : B ≤ g) (hBs : B ≤ w.heap.size) (q : Nat) (os : Array Obj) : Below B w (Go.Sort.grow ((w.drewN q).setCells g 0 us) os) := by
  have h1 := (Own.setCells_at us 0 (h.drewN q) (by omega)).2
  have hb : Below B w ((w.drewN q).setCells g 0 us) := (below_n (Below.refl B w) q).grown h1 (by exact hBs) (fun k hk => by injection hk with hk; omega)
  have hs := hb.size
  refine ⟨hb.os, hb.tape, hb.output, ?_, fun k hk => ?_⟩
  · show w.heap.size ≤ (((w.drewN q).setCells g 0 us).heap ++ os).size
    rw [Array.size_append]; omega
  · rw [Go.Sort.heap_grow_old _ os (by omega)]; exact hb.block k hk
end Go.Proofs.YtdlbghjclcdfmabDoor
