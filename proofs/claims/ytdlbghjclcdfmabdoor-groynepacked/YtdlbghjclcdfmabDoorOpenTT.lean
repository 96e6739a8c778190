/- How an argument reads: a table of texts. -/
import Derived.Test.YtdlbghjclcdfmabDoorOpenT
import Derived.Test.YtdlbghjclcdfmabDoorPackedA
import Derived.Deep.Slices
namespace Go.Proofs.YtdlbghjclcdfmabDoor
set_option linter.unusedVariables false
set_option linter.unusedSimpArgs false
open Go.ChangeShapes Go.WideShapes Go.ChangeAt Go.RowKit Go.Deep

section
variable {H : Type} {enc : TypeId × Value → H} {P : Program} {w : World} {held : Bool}
/-- One row of texts, out of its cells. -/
theorem el_strs {t e : TypeId} {fuel : Nat} {cs : List Value} {x : DataW H × List MemPlace} (ht : P.underlying t = some (.slice e)) (he : P.underlying e = some .string) (hc : P.cellsOf e = 1)
    (h : DataW.trod enc P w 0 (fun _ => true) held fuel t cs = some x) :
    ∃ (z : List (List Int)) (A' : Option Addr) (c' : Nat), cs = [.slice A' z.length c'] ∧ Rd w A' z.length (St z) ∧ (∀ l ∈ z, Ran l ∧ l.length ≤ 9223372036854775807) ∧ z.length ≤ c' ∧ z.length ≤ 9223372036854775807 := by
  have h2 : ∃ (A' : Option Addr) (l c : Nat), cs = [.slice A' l c] := by
    rcases open_strings ht he hc h with ⟨hcs, _⟩ | ⟨a, l, c, _, hcs, _⟩
    · exact ⟨none, 0, 0, hcs⟩
    · exact ⟨some a, l, c, hcs⟩
  obtain ⟨A', l, c, rfl⟩ := h2
  obtain ⟨z, hz, hr, hl, hm⟩ := open_strs (a := A') (len := l) (cap := c) (d := x.1) (p := x.2) ht he hc ⟨fuel, by simpa [Value.cells] using h⟩
  have hzl : z.length = l := hz.lenS
  subst hzl
  exact ⟨z, A', c, rfl, hz, hr, hl, hm⟩
theorem open_strss {t s e : TypeId} {a : Option Addr} {len cap : Nat} {d : DataW H} {p : List MemPlace} (ht : P.underlying t = some (.slice s)) (hs : P.underlying s = some (.slice e)) (he : P.underlying e = some .string) (hc1 : P.cellsOf s = 1) (hc : P.cellsOf e = 1)
    (h : DataW.Trod enc P w 0 (fun _ => true) held t (.slice a len cap) d p) :
    ∃ rows, Tab w a len rows ∧ (∀ r ∈ rows, ∀ l ∈ r, Ran l ∧ l.length ≤ 9223372036854775807) ∧ len ≤ cap ∧ len ≤ 9223372036854775807 := by
  obtain ⟨fuel, hf⟩ := h
  rcases open_slice ht hf with ⟨hcs, hx⟩ | ⟨ad, l, c, m, n, D, Pl, hcs, _, hl, hm, hmm, hx, hel⟩
  · simp [Value.cells] at hcs
    obtain ⟨rfl, rfl, rfl⟩ := hcs
    exact ⟨[], ⟨rfl, fun h => absurd h (by omega)⟩, (fun r hr => by cases hr), Nat.le_refl _, by omega⟩
  · simp [Value.cells] at hcs
    obtain ⟨rfl, rfl, rfl⟩ := hcs
    have hmc : m = cap := by simpa using hmm
    have each : ∀ i, i < len → ∃ (z : List (List Int)) (A' : Option Addr) (c' : Nat), w.cell? (ad.add i) = some (.slice A' z.length c') ∧ Rd w A' z.length (St z) ∧ (∀ l ∈ z, Ran l ∧ l.length ≤ 9223372036854775807) ∧ z.length ≤ c' ∧ z.length ≤ 9223372036854775807 := by
      intro i hi
      obtain ⟨cs', hcell, htr⟩ := hel i (by omega)
      obtain ⟨z, A', c', hcs', r⟩ := el_strs hs he hc htr
      rw [hc1, Nat.mul_one] at hcell
      obtain ⟨_, _, hat⟩ := World.cells?_some hcell
      have h0 := hat 0 (by omega)
      have e0 : (ad.add i).add 0 = ad.add i := by unfold Addr.add; simp
      rw [e0, hcs'] at h0
      exact ⟨z, A', c', h0, r⟩
    let f : Nat → List (List Int) := fun i => if h : i < len then (each i h).choose else []
    have hfs : ∀ i, i < len → ∃ (A' : Option Addr) (c' : Nat), w.cell? (ad.add i) = some (.slice A' (f i).length c') ∧ Rd w A' (f i).length (St (f i)) ∧ (∀ l ∈ f i, Ran l ∧ l.length ≤ 9223372036854775807) ∧ (f i).length ≤ c' ∧ (f i).length ≤ 9223372036854775807 := by
      intro i hi
      have e : f i = (each i hi).choose := by simp [f, hi]
      rw [e]; exact (each i hi).choose_spec
    refine ⟨(List.range len).map f, ⟨by simp, fun hn => ?_⟩, fun r hr => ?_, hl, by unfold maxLen at hm; omega⟩
    · obtain ⟨b, off, spot⟩ := ad
      obtain ⟨A0, c0, h0, _⟩ := hfs 0 hn
      have hsp : spot = none := by simpa [Addr.add] using World.cell?_spot h0
      subst hsp
      refine ⟨b, off, rfl, World.block_lt_of_cell? w ⟨b, off, none⟩ (by simpa [Addr.add] using h0), fun k r hr => ?_⟩
      have hk : k < len := by
        have := (List.getElem?_eq_some_iff.1 hr).1
        simpa using this
      rw [List.getElem?_map, List.getElem?_range hk] at hr
      simp only [Option.map_some, Option.some.injEq] at hr
      subst hr
      obtain ⟨A', c', h1, h2, _, h3, h4⟩ := hfs k hk
      have e : (⟨b, off, none⟩ : Addr).add k = ⟨b, off + k, none⟩ := by unfold Addr.add; split <;> simp_all
      rw [e] at h1
      exact ⟨A', c', h1, h2, h3, h4⟩
    · obtain ⟨i, hi, rfl⟩ := List.mem_map.1 hr
      obtain ⟨_, _, _, _, h3, _⟩ := hfs i (by simpa using hi)
      exact h3
end
end Go.Proofs.YtdlbghjclcdfmabDoor
