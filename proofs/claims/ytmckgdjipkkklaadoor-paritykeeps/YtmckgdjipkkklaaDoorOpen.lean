/- How arguments read: numbers, slices of bytes; the tables as the rows list them. -/
import Derived.Test.YtmckgdjipkkklaaDoorCheckW
import Derived.ProofKit
import Derived.OpenShut
import Derived.Stop.LaidErr
namespace Go.Proofs.YtmckgdjipkkklaaDoor
set_option linter.unusedVariables false
set_option linter.unusedSimpArgs false
open Go.ChangeShapes Go.WideShapes Go.ChangeAt Go.RowKit

theorem own : ownKnob Tryd.prog.godebug = none := by kernel_rfl
theorem laidOut : laidOutB Tryd.prog = true := by kernel_rfl
theorem bounds_i64' {n : Int} (h : (Lit.int .i64 n).wf = true) : -9223372036854775808 ≤ n ∧ n ≤ 9223372036854775807 := by
  simp [Lit.wf, IntKind.min, IntKind.max, IntKind.signed, IntKind.bits] at h
  omega

section
variable {H : Type} {enc : TypeId × Value → H} {P : Program} {w : World} {spare : Nat → Bool} {held : Bool}
theorem rd_of_ints {a : Addr} {k : IntKind} {zs : List Int} {len : Nat} (hl : len ≤ zs.length) (hc : ∀ i, i < zs.length → w.cell? (a.add i) = some (.int k (zs.getD i 0))) : Rd w (some a) len ((zs.take len).map (Value.int k)) := by
  refine ⟨by simp; omega, fun hn => ?_⟩
  obtain ⟨b, off, spot⟩ := a
  have h0 := hc 0 (by omega)
  have hs : spot = none := by simpa [Addr.add] using World.cell?_spot h0
  subst hs
  refine ⟨b, off, rfl, World.block_lt_of_cell? w ⟨b, off, none⟩ (u := .int k (zs.getD 0 0)) (by simpa [Addr.add] using h0), fun j u hu => ?_⟩
  have hj : j < len := by
    have := (List.getElem?_eq_some_iff.1 hu).1
    simp at this; omega
  have hcj := hc j (by omega)
  have e : (⟨b, off, none⟩ : Addr).add j = ⟨b, off + j, none⟩ := by unfold Addr.add; split <;> simp_all
  rw [e] at hcj
  rw [hcj]
  rw [List.getElem?_map, List.getElem?_take, if_pos hj, List.getElem?_eq_getElem (by omega)] at hu
  simp only [Option.map_some, Option.some.injEq] at hu
  rw [← hu, List.getD_eq_getElem?_getD, List.getElem?_eq_getElem (by omega)]
  rfl
/-- A slice of bytes that reads; what it may hold is below 2^63. -/
theorem open_bsm {t e : TypeId} {a : Option Addr} {len cap : Nat} {d : DataW H} {p : List MemPlace} (ht : P.underlying t = some (.slice e)) (he : P.underlying e = some (.int .u8)) (hc : P.cellsOf e = 1)
    (h : DataW.Trod enc P w 0 (fun _ => true) held t (.slice a len cap) d p) :
    ∃ xs, Bs w a len xs ∧ len ≤ cap ∧ cap ≤ maxLen := by
  obtain ⟨fuel, hf⟩ := h
  rcases open_ints ht he hc hf with ⟨hcs, hx⟩ | ⟨x, l, c, zs, hcs, _, hl, hm, hz, hx, hcell, hwz⟩
  · simp [Value.cells] at hcs
    obtain ⟨rfl, rfl, rfl⟩ := hcs
    exact ⟨[], Bs.nil_, Nat.le_refl _, Nat.zero_le _⟩
  · simp [Value.cells] at hcs
    obtain ⟨rfl, rfl, rfl⟩ := hcs
    have hz' : zs.length = cap := by simpa using hz
    exact ⟨zs.take len, ⟨rd_of_ints (by omega) hcell, fun x hx => bounds_u8 (hwz x (List.mem_of_mem_take hx))⟩, hl, hm⟩
theorem trod_lt' {t : TypeId} {v : Value} {d : DataW H} {p : List MemPlace} (h : DataW.Trod enc P w 0 spare held t v d p) : ∀ x ∈ p, x.block < w.heap.size := by
  obtain ⟨m, hm⟩ := h
  exact DataW.trod_lt m _ _ _ hm
end

theorem gLow : Tryd.prog.globalNamed "groyne/parity.lowProducts" = some 0 := by kernel_rfl
theorem gHigh : Tryd.prog.globalNamed "groyne/parity.highProducts" = some 1 := by kernel_rfl
theorem gLowT : (Tryd.prog.globals[0]?).map (·.type) = some 70 := by kernel_rfl
theorem gHighT : (Tryd.prog.globals[1]?).map (·.type) = some 70 := by kernel_rfl
theorem u70 : Tryd.prog.underlying 70 = some (.array 16 62) := by kernel_rfl
theorem tabs_of_laid {W : World} (h : laidMetH Tryd.prog [("groyne/parity.lowProducts", Rows.laid_groyne_parity_lowProducts), ("groyne/parity.highProducts", Rows.laid_groyne_parity_highProducts)] W) : Tabs W := by
  have h1 : Lib.TabIs Tryd.prog W "groyne/parity.lowProducts" .u32 (lowT.map Int.ofNat) := Lib.tabIs_of_head gLow gLowT u70 Tryd.underlying62 (by kernel_rfl) (by kernel_rfl) h
  have h2 : Lib.TabIs Tryd.prog W "groyne/parity.highProducts" .u32 (highT.map Int.ofNat) := Lib.tabIs_of_head gHigh gHighT u70 Tryd.underlying62 (by kernel_rfl) (by kernel_rfl) (laidMet.tail h)
  have c1 : ∀ i, i < 16 → W.cell? ⟨0, i, none⟩ = some (.int .u32 ((lowT.getD i 0 : Nat) : Int)) := by
    intro i hi
    have := h1.cell gLow i (by simpa [lowT] using hi)
    rw [this]
    simp [List.getD]
    have hl : i < lowT.length := hi
    rw [List.getElem?_eq_getElem hl]; simp
  have c2 : ∀ i, i < 16 → W.cell? ⟨1, i, none⟩ = some (.int .u32 ((highT.getD i 0 : Nat) : Int)) := by
    intro i hi
    have := h2.cell gHigh i (by simpa [highT] using hi)
    rw [this]
    simp [List.getD]
    have hl : i < highT.length := hi
    rw [List.getElem?_eq_getElem hl]; simp
  exact ⟨World.block_lt_of_cell? W ⟨1, 0, none⟩ (c2 0 (by omega)), fun i hi => ⟨c1 i hi, c2 i hi⟩⟩
end Go.Proofs.YtmckgdjipkkklaaDoor
