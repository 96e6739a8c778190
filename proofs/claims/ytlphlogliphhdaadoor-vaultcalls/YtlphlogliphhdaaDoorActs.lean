/- How the argument reads: a slice of acts. -/
import Derived.Test.YtlphlogliphhdaaDoorOpen
import Derived.Deep.Slices
import Derived.SizedLaws
namespace Go.Proofs.YtlphlogliphhdaaDoor
set_option linter.unusedVariables false
set_option linter.unusedSimpArgs false
open Go.ChangeShapes Go.WideShapes Go.ChangeAt Go.RowKit Go.Deep

abbrev Acts := List (Int × ByteArray × ByteArray × List Int)
/-- One of them, in its cells. -/
structure Ac (w : World) (b off : Nat) (q : Int × ByteArray × ByteArray × List Int) : Prop where
  c0 : w.cell? ⟨b, off, none⟩ = some (.int .i64 q.1)
  c1 : w.cell? ⟨b, off + 1, none⟩ = some (.string q.2.1)
  c2 : w.cell? ⟨b, off + 2, none⟩ = some (.string q.2.2.1)
  c3 : ∃ B d, w.cell? ⟨b, off + 3, none⟩ = some (.slice B q.2.2.2.length d) ∧ Bs w B q.2.2.2.length q.2.2.2
  n1 : q.2.1.size ≤ maxLen
  n2 : q.2.2.1.size ≤ maxLen
  n3 : q.2.2.2.length ≤ 140737488355328
def Ax (w : World) (A : Option Addr) (n : Nat) (us : Acts) : Prop :=
  us.length = n ∧ (0 < n → ∃ b off, A = some ⟨b, off, none⟩ ∧ b < w.heap.size ∧ ∀ i q, us[i]? = some q → Ac w b (off + i * 4) q)
theorem mem_all {H : Type} {P : Program} {e : TypeId} {d : DataW H} {n : Nat} : ∀ {ds : List (DataW H)}, d ∈ ds → n ∈ d.weights P e → n ∈ DataW.weightsAll P e ds
  | d0 :: ds, hd, hn => by
    unfold DataW.weightsAll
    rcases List.mem_cons.1 hd with rfl | hd
    · exact List.mem_append_left _ hn
    · exact List.mem_append_right _ (mem_all hd hn)
section
variable {H : Type} {enc : TypeId × Value → H} {w : World}
theorem list4 {α : Type} {l : List α} (h : l.length = 4) : ∃ a b c d, l = [a, b, c, d] := by
  match l, h with
  | [a, b, c, d], _ => exact ⟨a, b, c, d, rfl⟩
theorem el_act {fuel : Nat} {cs : List Value} {x : DataW H × List MemPlace} {a : Addr} (hcell : ∀ i, i < 4 → w.cell? (a.add i) = cs[i]?) (h : DataW.trod enc Tryd.prog w 0 (fun _ => true) true fuel 30 cs = some x) (hlen : cs.length = 4) (hw : ∀ n ∈ x.1.weights Tryd.prog 30, n ≤ reachBytes) :
    ∃ b off q, a = ⟨b, off, none⟩ ∧ Ac w b off q := by
  obtain ⟨xs, k, hk, rfl, _, hxl, hf⟩ := DataW.trod_struct Tryd.underlying30 h
  obtain ⟨v0, v1, v2, v3, rfl⟩ := list4 hlen
  obtain ⟨y0, y1, y2, y3, rfl⟩ := list4 (l := xs) (by simpa using hxl)
  have g0 := hf 0 _ rfl
  have g1 := hf 1 _ rfl
  have g2 := hf 2 _ rfl
  have g3 := hf 3 _ rfl
  have k3 : Tryd.prog.cellsOf 3 = 1 := by kernel_rfl
  have k9 : Tryd.prog.cellsOf 9 = 1 := by kernel_rfl
  have k28 : Tryd.prog.cellsOf 28 = 1 := by kernel_rfl
  simp [k3, k9, k28] at g0 g1 g2 g3
  obtain ⟨z, h0, _, _⟩ := DataW.trod_int Tryd.underlying3 g0
  obtain ⟨N, h1, _, hN⟩ := DataW.trod_string Tryd.underlying9 g1
  obtain ⟨T, h2, _, hT⟩ := DataW.trod_string Tryd.underlying9 g2
  have e0 := hcell 0 (by omega)
  have e1 := hcell 1 (by omega)
  have e2 := hcell 2 (by omega)
  have e3 := hcell 3 (by omega)
  simp only [List.cons.injEq, and_true] at h0 h1 h2
  subst h0; subst h1; subst h2
  obtain ⟨b, off, spot⟩ := a
  have e00 : w.cell? ((⟨b, off, spot⟩ : Addr).add 0) = some (.int .i64 z) := e0
  have hs := World.cell?_spot e00
  simp only [Addr.add, if_true] at hs
  have hs : spot = none := hs
  subst hs
  have ea : ∀ j, (⟨b, off, none⟩ : Addr).add j = ⟨b, off + j, none⟩ := fun j => by unfold Addr.add; split <;> simp_all
  simp only [ea] at e0 e1 e2 e3
  have sh : ∃ B l d, v3 = .slice B l d ∧ l ≤ 140737488355328 := by
    rcases open_slice Tryd.underlying28 g3 with ⟨hcs, _⟩ | ⟨ad, l, c, m, n, D, Pl, hcs, _, hl, hm, hmm, hx, _⟩
    · simp only [List.cons.injEq, and_true] at hcs
      exact ⟨none, 0, 0, hcs, by omega⟩
    · simp only [List.cons.injEq, and_true] at hcs
      refine ⟨some ad, l, c, hcs, ?_⟩
      have hb5 : Tryd.prog.bytesOf 5 = 1 := by kernel_rfl
      have h3 : ((List.range l).length + ((List.range (m - l))).length) * 1 ≤ reachBytes := by
        refine hw _ ?_
        simp only [DataW.weights, Tryd.underlying30]
        refine DataW.weights_mem_each (j := 3) (t := 28) (d := y3.1) rfl rfl _ ?_
        rw [hx]
        simp only [DataW.weights, Tryd.underlying28, List.length_map, hb5]
        exact List.mem_cons_self ..
      simp only [List.length_range] at h3
      unfold reachBytes at h3
      omega
  obtain ⟨B, l, d, rfl, hl⟩ := sh
  obtain ⟨zs, hz, _, _⟩ := open_bsm (enc := enc) (P := Tryd.prog) (w := w) (held := true) (a := B) (len := l) (cap := d) (d := y3.1) (p := y3.2) Tryd.underlying28 Tryd.underlying5 (by kernel_rfl) ⟨k, by simpa [Value.cells] using g3⟩
  have hzl : zs.length = l := hz.len
  subst hzl
  exact ⟨b, off, (z, N, T, zs), rfl, by simpa using e0, by simpa using e1, by simpa using e2, ⟨B, d, by simpa using e3, hz⟩, hN, hT, hl⟩
theorem open_acts {a : Option Addr} {len cap : Nat} {d : DataW H} {p : List MemPlace} (h : DataW.Trod enc Tryd.prog w 0 (fun _ => true) true 22 (.slice a len cap) d p) (hw : ∀ n ∈ d.weights Tryd.prog 22, n ≤ reachBytes) :
    ∃ us, Ax w a len us ∧ len ≤ cap ∧ cap ≤ maxLen := by
  obtain ⟨fuel, hf⟩ := h
  have k30 : Tryd.prog.cellsOf 30 = 4 := by kernel_rfl
  rcases open_slice Tryd.underlying22 hf with ⟨hcs, hx⟩ | ⟨ad, l, c, m, n, D, Pl, hcs, _, hl, hm, hmm, hx, hel⟩
  · simp [Value.cells] at hcs
    obtain ⟨rfl, rfl, rfl⟩ := hcs
    exact ⟨[], ⟨rfl, fun h => absurd h (by omega)⟩, Nat.le_refl _, Nat.zero_le _⟩
  · simp [Value.cells] at hcs
    obtain ⟨rfl, rfl, rfl⟩ := hcs
    have hmc : m = cap := by simpa using hmm
    have hd : d = .slice ((List.range len).map D) ((List.range (m - len)).map fun j => D (len + j)) := congrArg Prod.fst hx
    have each : ∀ i, i < len → ∃ q : Int × ByteArray × ByteArray × List Int, ∃ b off, ad.add (i * 4) = ⟨b, off, none⟩ ∧ Ac w b off q := by
      intro i hi
      obtain ⟨cs', hcell, htr⟩ := hel i (by omega)
      rw [k30] at hcell
      obtain ⟨_, hlen, hat⟩ := World.cells?_some hcell
      obtain ⟨b, off, q, h1, h2⟩ := el_act hat htr hlen (fun n hn => hw n (by
        rw [hd]
        simp only [DataW.weights, Tryd.underlying22]
        refine List.mem_cons_of_mem _ (List.mem_append_left _ (mem_all (d := D i) ?_ hn))
        exact List.mem_map.2 ⟨i, List.mem_range.2 hi, rfl⟩))
      exact ⟨q, b, off, h1, h2⟩
    obtain ⟨f, hfs⟩ := choose_lt each
    refine ⟨(List.range len).map f, ⟨by simp, fun hn => ?_⟩, hl, hm⟩
    obtain ⟨b, off, hA, hq⟩ := hfs 0 hn
    have e0 : ad.add (0 * 4) = ad := by unfold Addr.add; simp
    rw [e0] at hA
    subst hA
    refine ⟨b, off, rfl, World.block_lt_of_cell? w ⟨b, off, none⟩ hq.c0, fun i q' hq' => ?_⟩
    have hi : i < len := by
      have := (List.getElem?_eq_some_iff.1 hq').1
      simpa using this
    rw [List.getElem?_map, List.getElem?_range hi] at hq'
    simp only [Option.map_some, Option.some.injEq] at hq'
    obtain ⟨b2, off2, h1, h2⟩ := hfs i hi
    rw [hq'] at h2
    have e1 : (⟨b, off, none⟩ : Addr).add (i * 4) = ⟨b, off + i * 4, none⟩ := by
      unfold Addr.add
      by_cases h : i = 0
      · simp [h]
      · rw [if_neg (show ¬ i * 4 = 0 by omega)]
    rw [e1] at h1
    injection h1 with q1 q2
    rw [← q1, ← q2] at h2
    exact h2
end
end Go.Proofs.YtlphlogliphhdaaDoor
