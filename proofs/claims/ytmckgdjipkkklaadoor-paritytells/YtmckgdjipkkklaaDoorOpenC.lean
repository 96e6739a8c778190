/- How arguments read: a slice of changes; a slice of slices of bytes. -/
import Derived.Test.YtmckgdjipkkklaaDoorOpen
import Derived.Test.YtmckgdjipkkklaaDoorTellsW
import Derived.Deep.Slices
namespace Go.Proofs.YtmckgdjipkkklaaDoor
set_option linter.unusedVariables false
set_option linter.unusedSimpArgs false
open Go.ChangeShapes Go.WideShapes Go.ChangeAt Go.RowKit Go.Deep

theorem u39 : Tryd.prog.underlying 39 = some (.struct #[⟨ "At", 3, 0, false, "", "", 0⟩, ⟨ "By", 5, 1, false, "", "", 8⟩]) := by kernel_rfl
section
variable {H : Type} {enc : TypeId × Value → H} {w : World} {held : Bool}
theorem el_change {fuel : Nat} {cs : List Value} {x : DataW H × List MemPlace} (h : DataW.trod enc Tryd.prog w 0 (fun _ => true) held fuel 39 cs = some x) :
    ∃ (i : Int) (y : Nat), cs = [.int .i64 i, .int .u8 (y : Int)] ∧ y < 256 := by
  obtain ⟨xs, n, _, rfl, hl, hlen, hf⟩ := DataW.trod_struct u39 h
  match xs, hlen with
  | [y0, y1], _ =>
    have h0 := hf 0 _ rfl
    have h1 := hf 1 _ rfl
    have hC : Tryd.prog.cellsOf 39 = 2 := by kernel_rfl
    have c3 : Tryd.prog.cellsOf 3 = 1 := by kernel_rfl
    have c5 : Tryd.prog.cellsOf 5 = 1 := by kernel_rfl
    rw [hC] at hl
    match cs, hl with
    | [v0, v1], _ =>
      simp only [c3, c5, List.getElem?_cons_zero, List.getElem?_cons_succ, List.drop_zero, List.drop_succ_cons, List.take_succ_cons, List.take_zero] at h0 h1
      obtain ⟨k, hk1, _, _⟩ := DataW.trod_int Tryd.underlying3 h0
      obtain ⟨m, hm1, _, hmw⟩ := DataW.trod_int Tryd.underlying5 h1
      have hmb := bounds_u8 hmw
      obtain ⟨y, rfl⟩ := Int.eq_ofNat_of_zero_le hmb.1
      injection hk1 with hk1; injection hm1 with hm1
      exact ⟨k, y, by rw [hk1, hm1], by omega⟩
theorem open_changes {a : Option Addr} {len cap : Nat} {d : DataW H} {p : List MemPlace} (hu : Tryd.prog.underlying 37 = some (.slice 39))
    (h : DataW.Trod enc Tryd.prog w 0 (fun _ => true) held 37 (.slice a len cap) d p) :
    ∃ cs, Chs w a len cs ∧ len ≤ cap ∧ cap ≤ maxLen := by
  obtain ⟨fuel, hf⟩ := h
  have hC : Tryd.prog.cellsOf 39 = 2 := by kernel_rfl
  rcases open_slice hu hf with ⟨hcs, hx⟩ | ⟨ad, l, c, m, n, D, Pl, hcs, _, hl, hm, hmm, hx, hel⟩
  · simp [Value.cells] at hcs
    obtain ⟨rfl, rfl, rfl⟩ := hcs
    exact ⟨[], ⟨rfl, fun h => absurd h (by omega)⟩, Nat.le_refl _, Nat.zero_le _⟩
  · simp [Value.cells] at hcs
    obtain ⟨rfl, rfl, rfl⟩ := hcs
    have hmc : m = cap := by simpa using hmm
    have each : ∀ i, i < len → ∃ x : Int × Nat, w.cells? 0 (ad.add (i * 2)) 2 = some [.int .i64 x.1, .int .u8 (x.2 : Int)] ∧ x.2 < 256 := by
      intro i hi
      obtain ⟨cs', hcell, htr⟩ := hel i (by omega)
      obtain ⟨k, y, hcs', hy⟩ := el_change htr
      rw [hC, hcs'] at hcell
      exact ⟨(k, y), hcell, hy⟩
    let f : Nat → Int × Nat := fun i => if h : i < len then (each i h).choose else (0, 0)
    have hfs : ∀ i, i < len → w.cells? 0 (ad.add (i * 2)) 2 = some [.int .i64 (f i).1, .int .u8 ((f i).2 : Int)] ∧ (f i).2 < 256 := by
      intro i hi
      have e : f i = (each i hi).choose := by simp [f, hi]
      rw [e]; exact (each i hi).choose_spec
    refine ⟨(List.range len).map f, ⟨by simp, fun hn => ?_⟩, hl, hm⟩
    obtain ⟨b, off, spot⟩ := ad
    obtain ⟨h0, _⟩ := hfs 0 hn
    obtain ⟨_, _, hat⟩ := World.cells?_some h0
    have h00 := hat 0 (by omega)
    have hsp : spot = none := by simpa [Addr.add] using World.cell?_spot h00
    subst hsp
    have ea : ∀ j k : Nat, ((⟨b, off, none⟩ : Addr).add j).add k = ⟨b, off + j + k, none⟩ := by
      intro j k
      rw [add_off, add_off]
    refine ⟨b, off, rfl, World.block_lt_of_cell? w ⟨b, off, none⟩ (u := _) (by simpa [Addr.add] using h00), fun j x hu => ?_⟩
    have hj : j < len := by have := (List.getElem?_eq_some_iff.1 hu).1; simpa using this
    rw [List.getElem?_map, List.getElem?_range hj] at hu
    simp only [Option.map_some, Option.some.injEq] at hu
    obtain ⟨hcj, hy⟩ := hfs j hj
    rw [hu] at hcj hy
    obtain ⟨_, _, hat⟩ := World.cells?_some hcj
    have g0 := hat 0 (by omega)
    have g1 := hat 1 (by omega)
    rw [ea] at g0 g1
    exact ⟨g0, g1, hy⟩
end
end Go.Proofs.YtmckgdjipkkklaaDoor
