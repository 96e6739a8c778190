/- How arguments read: a slice of slices of bytes. -/
import Derived.Test.YtmckgdjipkkklaaDoorOpen
import Derived.Test.YtmckgdjipkkklaaDoorSlc
import Derived.Deep.Slices
namespace Go.Proofs.YtmckgdjipkkklaaDoor
set_option linter.unusedVariables false
set_option linter.unusedSimpArgs false
open Go.ChangeShapes Go.WideShapes Go.ChangeAt Go.RowKit Go.Deep

section
variable {H : Type} {enc : TypeId × Value → H} {P : Program} {w : World} {held : Bool}
/-- One slice of bytes, out of its cells. -/
theorem el_bsm {t e : TypeId} {fuel : Nat} {cs : List Value} {x : DataW H × List MemPlace} (ht : P.underlying t = some (.slice e)) (he : P.underlying e = some (.int .u8)) (hc : P.cellsOf e = 1)
    (h : DataW.trod enc P w 0 (fun _ => true) held fuel t cs = some x) :
    ∃ xs A' c', cs = [.slice A' xs.length c'] ∧ Bs w A' xs.length xs ∧ xs.length ≤ c' ∧ xs.length ≤ maxLen := by
  rcases open_ints ht he hc h with ⟨hcs, hx⟩ | ⟨a, l, c, zs, hcs, _, hl, hm, hz, hx, hcell, hwz⟩
  · exact ⟨[], none, 0, hcs, Bs.nil_, Nat.le_refl _, Nat.zero_le _⟩
  · have hz' : zs.length = c := by simpa using hz
    have hlen : (zs.take l).length = l := by rw [List.length_take]; omega
    refine ⟨zs.take l, some a, c, by rw [hlen]; exact hcs, ?_, by omega, by omega⟩
    rw [hlen]
    exact ⟨rd_of_ints (by omega) hcell, fun x hx => bounds_u8 (hwz x (List.mem_of_mem_take hx))⟩
theorem open_bssm {t s e : TypeId} {a : Option Addr} {len cap : Nat} {d : DataW H} {p : List MemPlace} (ht : P.underlying t = some (.slice s)) (hs : P.underlying s = some (.slice e)) (he : P.underlying e = some (.int .u8)) (hc1 : P.cellsOf s = 1) (hc : P.cellsOf e = 1)
    (h : DataW.Trod enc P w 0 (fun _ => true) held t (.slice a len cap) d p) :
    ∃ xss, Bss w a len xss ∧ len ≤ cap ∧ cap ≤ maxLen ∧ ∀ xs ∈ xss, xs.length ≤ maxLen := by
  obtain ⟨fuel, hf⟩ := h
  rcases open_slice ht hf with ⟨hcs, hx⟩ | ⟨ad, l, c, m, n, D, Pl, hcs, _, hl, hm, hmm, hx, hel⟩
  · simp [Value.cells] at hcs
    obtain ⟨rfl, rfl, rfl⟩ := hcs
    exact ⟨[], ⟨rfl, [], ⟨rfl, fun h => absurd h (by omega)⟩, fun i v xs hv _ => by simp at hv⟩, Nat.le_refl _, Nat.zero_le _, fun _ h => by cases h⟩
  · simp [Value.cells] at hcs
    obtain ⟨rfl, rfl, rfl⟩ := hcs
    have hmc : m = cap := by simpa using hmm
    have each : ∀ i, i < len → ∃ (xs : List Int) (A' : Option Addr) (c' : Nat), w.cell? (ad.add i) = some (.slice A' xs.length c') ∧ Bs w A' xs.length xs ∧ xs.length ≤ c' ∧ xs.length ≤ maxLen := by
      intro i hi
      obtain ⟨cs', hcell, htr⟩ := hel i (by omega)
      obtain ⟨xs, A', c', hcs', hb, hc', hbk⟩ := el_bsm hs he hc htr
      rw [hc1, Nat.mul_one] at hcell
      obtain ⟨_, _, hat⟩ := World.cells?_some hcell
      have h0 := hat 0 (by omega)
      have e0 : (ad.add i).add 0 = ad.add i := by unfold Addr.add; simp
      rw [e0, hcs'] at h0
      exact ⟨xs, A', c', h0, hb, hc', hbk⟩
    let f : Nat → List Int := fun i => if h : i < len then (each i h).choose else []
    have hfs : ∀ i, i < len → ∃ (A' : Option Addr) (c' : Nat), w.cell? (ad.add i) = some (.slice A' (f i).length c') ∧ Bs w A' (f i).length (f i) ∧ (f i).length ≤ c' ∧ (f i).length ≤ maxLen := by
      intro i hi
      have e : f i = (each i hi).choose := by simp [f, hi]
      rw [e]; exact (each i hi).choose_spec
    have hrd : Rd w (some ad) len ((List.range len).map fun i => ((w.cell? (ad.add i)).getD (.slice none 0 0))) := by
      refine ⟨by simp, fun hn => ?_⟩
      obtain ⟨b, off, spot⟩ := ad
      obtain ⟨A', c', h0, _⟩ := hfs 0 hn
      have hsp : spot = none := by simpa [Addr.add] using World.cell?_spot h0
      subst hsp
      refine ⟨b, off, rfl, World.block_lt_of_cell? w ⟨b, off, none⟩ (u := _) (by simpa [Addr.add] using h0), fun j u hu => ?_⟩
      have hj : j < len := by have := (List.getElem?_eq_some_iff.1 hu).1; simpa using this
      obtain ⟨A', c', hcj, _⟩ := hfs j hj
      rw [List.getElem?_map, List.getElem?_range hj] at hu
      simp only [Option.map_some, Option.some.injEq, add_off] at hu
      rw [add_off] at hcj
      rw [hcj] at hu ⊢
      exact congrArg some hu
    refine ⟨(List.range len).map f, ⟨by simp, _, hrd, fun i v xs hv hx => ?_⟩, hl, hm, ?_⟩
    · have hi : i < len := by have := (List.getElem?_eq_some_iff.1 hv).1; simpa using this
      rw [List.getElem?_map, List.getElem?_range hi] at hv hx
      simp only [Option.map_some, Option.some.injEq] at hv hx
      obtain ⟨A', c', hci, hb, hc', _⟩ := hfs i hi
      subst hx
      rw [hci] at hv
      exact ⟨A', c', hv.symm, hb.bsP, hc'⟩
    · intro xs h
      obtain ⟨i, hi, rfl⟩ := List.mem_map.1 h
      obtain ⟨_, _, _, _, _, hb⟩ := hfs i (by simpa using hi)
      exact hb
end
end Go.Proofs.YtmckgdjipkkklaaDoor
