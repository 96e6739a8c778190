/- How an argument reads: a node, with its bulk. -/
import Derived.Test.YtmjjbfcblmmipaaOpen3
import Derived.Test.YtmjjbfcblmmipaaCopiedW
namespace Go.Proofs.Ytmjjbfcblmmipaa
set_option linter.unusedVariables false
set_option linter.unusedSimpArgs false
open Go.ChangeShapes Go.WideShapes Go.ChangeAt Go.RowKit Go.Deep

theorem len4 {α : Type} {cs : List α} (h : cs.length = 4) : ∃ v0 v1 v2 v3, cs = [v0, v1, v2, v3] := by
  match cs, h with
  | [v0, v1, v2, v3], _ => exact ⟨v0, v1, v2, v3, rfl⟩
section
variable {H : Type} {enc : TypeId × Value → H} {w : World} {held : Bool}
theorem el_is {t e : TypeId} {fuel : Nat} {cs : List Value} {x : DataW H × List MemPlace} (ht : Try.prog.underlying t = some (.slice e)) (he : Try.prog.underlying e = some (.int .i64)) (hc : Try.prog.cellsOf e = 1)
    (h : DataW.trod enc Try.prog w 0 (fun _ => true) held fuel t cs = some x) :
    ∃ xs A' c', cs = [.slice A' xs.length c'] ∧ Ins w A' xs.length xs ∧ xs.length ≤ c' ∧ xs.length + 1 ≤ Rows.uptoBulk x.1 := by
  rcases open_ints ht he hc h with ⟨hcs, hx⟩ | ⟨a, l, c, zs, hcs, _, hl, hm, hz, hx, hcell, hwz⟩
  · exact ⟨[], none, 0, hcs, ⟨Rd.nil_, fun _ h => by cases h⟩, Nat.le_refl _, by rw [hx]; simp [Rows.uptoBulk]⟩
  · have hz' : zs.length = c := by simpa using hz
    have hlen : (zs.take l).length = l := by rw [List.length_take]; omega
    refine ⟨zs.take l, some a, c, by rw [hlen]; exact hcs, ?_, by omega, ?_⟩
    · rw [hlen]
      exact ⟨rd_of_ints (by omega) hcell, fun x hx => bounds_i64' (hwz x (List.mem_of_mem_take hx))⟩
    · rw [hx, hlen]
      have := bulk_slice (H := H) (lits .i64 (zs.take l)) (lits .i64 (zs.drop l))
      have e : (lits (H := H) .i64 (zs.take l)).length = l := by simp [lits]; omega
      rw [e] at this; exact this
theorem cz3 : Try.prog.cellsOf 3 = 1 := by kernel_rfl
theorem cz4 : Try.prog.cellsOf 4 = 1 := by kernel_rfl
theorem cz5 : Try.prog.cellsOf 5 = 1 := by kernel_rfl
theorem cz27 : Try.prog.cellsOf 27 = 1 := by kernel_rfl
theorem cz28 : Try.prog.cellsOf 28 = 1 := by kernel_rfl
/-- One slice of slices of bytes, out of its cell. -/
theorem el_bss {P : Program} {t s e : TypeId} {fuel : Nat} {cs : List Value} {x : DataW H × List MemPlace} (ht : P.underlying t = some (.slice s)) (hs : P.underlying s = some (.slice e)) (he : P.underlying e = some (.int .u8)) (hc1 : P.cellsOf s = 1) (hc : P.cellsOf e = 1)
    (hf : DataW.trod enc P w 0 (fun _ => true) held fuel t cs = some x) :
    ∃ (xss : List (List Int)) (a : Option Addr) (len cap : Nat), cs = [.slice a len cap] ∧ Bss w a len xss ∧ len ≤ cap ∧ tot xss ≤ Rows.uptoBulk x.1 := by
  rcases open_slice ht hf with ⟨hcs, hx⟩ | ⟨ad, l, c, m, n, D, Pl, hcs, _, hl, hm, hmm, hx, hel⟩
  · exact ⟨[], none, 0, 0, hcs, ⟨rfl, [], ⟨rfl, fun h => absurd h (by omega)⟩, fun i v xs hv _ => by simp at hv⟩, Nat.le_refl _, by simp [tot]⟩
  · have hmc : m = c := by simpa using hmm
    have each : ∀ i, i < l → ∃ (xs : List Int) (A' : Option Addr) (c' : Nat), w.cell? (ad.add i) = some (.slice A' xs.length c') ∧ Bs w A' xs.length xs ∧ xs.length ≤ c' ∧ xs.length + 1 ≤ Rows.uptoBulk (D i) := by
      intro i hi
      obtain ⟨cs', hcell, htr⟩ := hel i (by omega)
      obtain ⟨xs, A', c', hcs', hb, hc', hbk⟩ := el_bs hs he hc htr
      rw [hc1, Nat.mul_one] at hcell
      obtain ⟨_, _, hat⟩ := World.cells?_some hcell
      have h0 := hat 0 (by omega)
      have e0 : (ad.add i).add 0 = ad.add i := by unfold Addr.add; simp
      rw [e0, hcs'] at h0
      exact ⟨xs, A', c', h0, hb, hc', hbk⟩
    let f : Nat → List Int := fun i => if h : i < l then (each i h).choose else []
    have hfs : ∀ i, i < l → ∃ (A' : Option Addr) (c' : Nat), w.cell? (ad.add i) = some (.slice A' (f i).length c') ∧ Bs w A' (f i).length (f i) ∧ (f i).length ≤ c' ∧ (f i).length + 1 ≤ Rows.uptoBulk (D i) := by
      intro i hi
      have e : f i = (each i hi).choose := by simp [f, hi]
      rw [e]; exact (each i hi).choose_spec
    have hrd : Rd w (some ad) l ((List.range l).map fun i => ((w.cell? (ad.add i)).getD (.slice none 0 0))) := by
      refine ⟨by simp, fun hn => ?_⟩
      obtain ⟨b, off, spot⟩ := ad
      obtain ⟨A', c', h0, _⟩ := hfs 0 hn
      have hsp : spot = none := by simpa [Addr.add] using World.cell?_spot h0
      subst hsp
      refine ⟨b, off, rfl, World.block_lt_of_cell? w ⟨b, off, none⟩ (u := _) (by simpa [Addr.add] using h0), fun j u hu => ?_⟩
      have hj : j < l := by have := (List.getElem?_eq_some_iff.1 hu).1; simpa using this
      obtain ⟨A', c', hcj, _⟩ := hfs j hj
      have e : (⟨b, off, none⟩ : Addr).add j = ⟨b, off + j, none⟩ := by unfold Addr.add; split <;> simp_all
      rw [List.getElem?_map, List.getElem?_range hj] at hu
      simp only [Option.map_some, Option.some.injEq, e] at hu
      rw [e] at hcj
      rw [hcj] at hu ⊢
      exact congrArg some hu
    refine ⟨(List.range l).map f, some ad, l, c, hcs, ⟨by simp, _, hrd.rdP, fun i v xs hv hx => ?_⟩, hl, ?_⟩
    · have hi : i < l := by have := (List.getElem?_eq_some_iff.1 hv).1; simpa using this
      rw [List.getElem?_map, List.getElem?_range hi] at hv hx
      simp only [Option.map_some, Option.some.injEq] at hv hx
      obtain ⟨A', c', hci, hb, hc', _⟩ := hfs i hi
      subst hx
      rw [hci] at hv
      exact ⟨A', c', hv.symm, hb.bsP, hc'⟩
    · rw [hx]
      have hbm := bulk_map D f (List.range l) (fun i hi => by
        obtain ⟨_, _, _, _, _, hb⟩ := hfs i (by simpa using hi)
        exact hb)
      simp only [Rows.uptoBulk]; omega
theorem open4 {P : Program} {t T0 T1 T2 T3 : TypeId} {f0 f1 f2 f3 : Field} {fuel : Nat} {cs : List Value} {x : DataW H × List MemPlace}
    (ht : P.underlying t = some (.struct #[f0, f1, f2, f3])) (hC : P.cellsOf t = 4) (e0 : f0.type = T0 ∧ f0.offset = 0) (e1 : f1.type = T1 ∧ f1.offset = 1) (e2 : f2.type = T2 ∧ f2.offset = 2) (e3 : f3.type = T3 ∧ f3.offset = 3)
    (c0 : P.cellsOf T0 = 1) (c1 : P.cellsOf T1 = 1) (c2 : P.cellsOf T2 = 1) (c3 : P.cellsOf T3 = 1) (h : DataW.trod enc P w 0 (fun _ => true) held fuel t cs = some x) :
    ∃ v0 v1 v2 v3 y0 y1 y2 y3 n, cs = [v0, v1, v2, v3] ∧ x.1 = .agg [y0.1, y1.1, y2.1, y3.1] ∧ DataW.trod enc P w 0 (fun _ => true) held n T0 [v0] = some y0 ∧ DataW.trod enc P w 0 (fun _ => true) held n T1 [v1] = some y1 ∧ DataW.trod enc P w 0 (fun _ => true) held n T2 [v2] = some y2 ∧ DataW.trod enc P w 0 (fun _ => true) held n T3 [v3] = some y3 := by
  obtain ⟨xs, n, _, rfl, hl, hlen, hf⟩ := DataW.trod_struct ht h
  obtain ⟨y0, y1, y2, y3, rfl⟩ := len4 hlen
  have h0 := hf 0 f0 rfl
  have h1 := hf 1 f1 rfl
  have h2 := hf 2 f2 rfl
  have h3 := hf 3 f3 rfl
  rw [hC] at hl
  obtain ⟨v0, v1, v2, v3, rfl⟩ := len4 hl
  rw [e0.1, e0.2, c0] at h0
  rw [e1.1, e1.2, c1] at h1
  rw [e2.1, e2.2, c2] at h2
  rw [e3.1, e3.2, c3] at h3
  simp only [List.getElem?_cons_zero, List.getElem?_cons_succ, List.drop_zero, List.drop_succ_cons, List.take_succ_cons, List.take_zero] at h0 h1 h2 h3
  exact ⟨v0, v1, v2, v3, y0, y1, y2, y3, n, rfl, rfl, h0, h1, h2, h3⟩
theorem u66 : Try.prog.underlying 66 = some (.struct #[⟨ "Leaf", 4, 0, false, "", "", 0⟩, ⟨ "Keys", 62, 1, false, "", "", 8⟩, ⟨ "Values", 62, 2, false, "", "", 32⟩, ⟨ "Kids", 27, 3, false, "", "", 56⟩]) := by kernel_rfl
theorem cz62 : Try.prog.cellsOf 62 = 1 := by kernel_rfl
theorem cz66 : Try.prog.cellsOf 66 = 4 := by kernel_rfl
/-- A node, out of its cells. -/
theorem el_node {fuel : Nat} {cs : List Value} {x : DataW H × List MemPlace} (h : DataW.trod enc Try.prog w 0 (fun _ => true) held fuel 66 cs = some x) :
    ∃ (lf : Bool) (AK : Option Addr) (nK cK : Nat) (AV : Option Addr) (nV cV : Nat) (AD : Option Addr) (nD cD : Nat) (ks vs : List (List Int)) (ds : List Int), cs = (ndV lf AK nK cK AV nV cV AD nD cD).toList ∧
      Bss w AK nK ks ∧ nK ≤ cK ∧ Bss w AV nV vs ∧ nV ≤ cV ∧ Ins w AD nD ds ∧ nD ≤ cD ∧ tot ks + tot vs + ds.length ≤ Rows.uptoBulk x.1 := by
  obtain ⟨v0, v1, v2, v3, y0, y1, y2, y3, n, rfl, hx, h0, h1, h2, h3⟩ := open4 u66 cz66 ⟨rfl, rfl⟩ ⟨rfl, rfl⟩ ⟨rfl, rfl⟩ ⟨rfl, rfl⟩ cz4 cz62 cz62 cz27 h
  obtain ⟨lf, l1, _⟩ := DataW.trod_bool Try.underlying4 h0
  obtain ⟨ks, AK, nK, cK, k1, k2, k3, k4⟩ := el_bss Try.underlying62 Try.underlying28 Try.underlying5 cz28 cz5 h1
  obtain ⟨vs, AV, nV, cV, w1, w2, w3, w4⟩ := el_bss Try.underlying62 Try.underlying28 Try.underlying5 cz28 cz5 h2
  obtain ⟨ds, AD, cD, s1, s2, s3, s4⟩ := el_is Try.underlying27 Try.underlying3 cz3 h3
  injection l1 with l1; injection k1 with k1; injection w1 with w1; injection s1 with s1
  refine ⟨lf, AK, nK, cK, AV, nV, cV, AD, ds.length, cD, ks, vs, ds, by simp only [ndV, l1, k1, w1, s1], k2, k3, w2, w3, s2, s3, ?_⟩
  rw [hx]
  simp only [List.map_cons, List.map_nil, Rows.uptoBulk, Rows.uptoBulkAll]
  omega
end
end Go.Proofs.Ytmjjbfcblmmipaa
