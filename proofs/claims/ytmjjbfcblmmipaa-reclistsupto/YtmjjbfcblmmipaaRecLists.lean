/- RecLists, where the arguments hold together at most 1048576 values: the law returns true and each argument reads afterwards as it read before. -/
import Derived.Test.YtmjjbfcblmmipaaOpen3
import Derived.Test.YtmjjbfcblmmipaaTwiceL
import Derived.Test.YtmjjbfcblmmipaaListsM
import Derived.Test.YtmjjbfcblmmipaaListsB
import Derived.ChangeOld
import Derived.SizedLaws
import Derived.JoinedCond
namespace Go.Proofs.Ytmjjbfcblmmipaa
set_option linter.unusedVariables false
set_option linter.unusedSimpArgs false
open Go.ChangeShapes Go.WideShapes Go.ChangeAt Go.RowKit Go.Deep

def nm (b : List UInt8) : List Int := b.map fun x => (x.toNat : Int)
theorem nm_str (b : List UInt8) : strOfNums (nm b) = ⟨b.toArray⟩ := by
  apply ByteArray.ext
  apply Array.ext'
  simp only [strOfNums, nm, List.map_map]
  refine (List.map_congr_left fun y _ => ?_).trans (List.map_id _)
  simp
theorem nm_ran (b : List UInt8) : Ran (nm b) := by
  intro x hx
  obtain ⟨y, _, rfl⟩ := List.mem_map.1 hx
  have := y.toNat_lt
  omega
theorem len3 {α : Type} {cs : List α} (h : cs.length = 3) : ∃ v0 v1 v2, cs = [v0, v1, v2] := by
  match cs, h with
  | [v0, v1, v2], _ => exact ⟨v0, v1, v2, rfl⟩
theorem len9 {α : Type} {cs : List α} (h : cs.length = 9) : ∃ v0 v1 v2 v3 v4 v5 v6 v7 v8, cs = [v0, v1, v2, v3, v4, v5, v6, v7, v8] := by
  match cs, h with
  | [v0, v1, v2, v3, v4, v5, v6, v7, v8], _ => exact ⟨v0, v1, v2, v3, v4, v5, v6, v7, v8, rfl⟩
theorem len11 {α : Type} {cs : List α} (h : cs.length = 11) : ∃ v0 v1 v2 v3 v4 v5 v6 v7 v8 v9 v10, cs = [v0, v1, v2, v3, v4, v5, v6, v7, v8, v9, v10] := by
  match cs, h with
  | [v0, v1, v2, v3, v4, v5, v6, v7, v8, v9, v10], _ => exact ⟨v0, v1, v2, v3, v4, v5, v6, v7, v8, v9, v10, rfl⟩
section
variable {H : Type} {enc : TypeId × Value → H} {w : World} {held : Bool}
theorem bulk_threes (D : Nat → DataW H) (f : Nat → Tr) : ∀ l : List Nat, (∀ i ∈ l, (f i).a.length + (f i).b.length + 4 ≤ Rows.uptoBulk (D i)) → tot (trP (l.map f)) ≤ Rows.uptoBulkAll (l.map D)
  | [], _ => by simp [tot, trP]
  | x :: r, h => by
    have ih := bulk_threes D f r (fun i hi => h i (by simp [hi]))
    have := h x (by simp)
    have e : trP ((x :: r).map f) = [flagB (f x).f] :: (f x).a :: (f x).b :: trP (r.map f) := rfl
    rw [e]
    simp only [List.map_cons, tot, Rows.uptoBulkAll, List.length_cons, List.length_nil]; omega
theorem open3 {P : Program} {t T0 T1 T2 : TypeId} {f0 f1 f2 : Field} {fuel : Nat} {cs : List Value} {x : DataW H × List MemPlace}
    (ht : P.underlying t = some (.struct #[f0, f1, f2])) (hC : P.cellsOf t = 3) (e0 : f0.type = T0 ∧ f0.offset = 0) (e1 : f1.type = T1 ∧ f1.offset = 1) (e2 : f2.type = T2 ∧ f2.offset = 2)
    (c0 : P.cellsOf T0 = 1) (c1 : P.cellsOf T1 = 1) (c2 : P.cellsOf T2 = 1) (h : DataW.trod enc P w 0 (fun _ => true) held fuel t cs = some x) :
    ∃ v0 v1 v2 y0 y1 y2 n, cs = [v0, v1, v2] ∧ x.1 = .agg [y0.1, y1.1, y2.1] ∧ DataW.trod enc P w 0 (fun _ => true) held n T0 [v0] = some y0 ∧ DataW.trod enc P w 0 (fun _ => true) held n T1 [v1] = some y1 ∧ DataW.trod enc P w 0 (fun _ => true) held n T2 [v2] = some y2 := by
  obtain ⟨xs, n, _, rfl, hl, hlen, hf⟩ := DataW.trod_struct ht h
  obtain ⟨y0, y1, y2, rfl⟩ := len3 hlen
  have h0 := hf 0 f0 rfl
  have h1 := hf 1 f1 rfl
  have h2 := hf 2 f2 rfl
  rw [hC] at hl
  obtain ⟨v0, v1, v2, rfl⟩ := len3 hl
  rw [e0.1, e0.2, c0] at h0
  rw [e1.1, e1.2, c1] at h1
  rw [e2.1, e2.2, c2] at h2
  simp only [List.getElem?_cons_zero, List.getElem?_cons_succ, List.drop_zero, List.drop_succ_cons, List.take_succ_cons, List.take_zero] at h0 h1 h2
  exact ⟨v0, v1, v2, y0, y1, y2, n, rfl, rfl, h0, h1, h2⟩
theorem open9 {P : Program} {t T0 T1 T2 T3 T4 T5 T6 T7 T8 : TypeId} {f0 f1 f2 f3 f4 f5 f6 f7 f8 : Field} {fuel : Nat} {cs : List Value} {x : DataW H × List MemPlace}
    (ht : P.underlying t = some (.struct #[f0, f1, f2, f3, f4, f5, f6, f7, f8])) (hC : P.cellsOf t = 11) (e0 : f0.type = T0 ∧ f0.offset = 0) (e1 : f1.type = T1 ∧ f1.offset = 1) (e2 : f2.type = T2 ∧ f2.offset = 4) (e3 : f3.type = T3 ∧ f3.offset = 5) (e4 : f4.type = T4 ∧ f4.offset = 6) (e5 : f5.type = T5 ∧ f5.offset = 7) (e6 : f6.type = T6 ∧ f6.offset = 8) (e7 : f7.type = T7 ∧ f7.offset = 9) (e8 : f8.type = T8 ∧ f8.offset = 10)
    (c0 : P.cellsOf T0 = 1) (c1 : P.cellsOf T1 = 3) (c2 : P.cellsOf T2 = 1) (c3 : P.cellsOf T3 = 1) (c4 : P.cellsOf T4 = 1) (c5 : P.cellsOf T5 = 1) (c6 : P.cellsOf T6 = 1) (c7 : P.cellsOf T7 = 1) (c8 : P.cellsOf T8 = 1) (h : DataW.trod enc P w 0 (fun _ => true) held fuel t cs = some x) :
    ∃ v0 v1 v2 v3 v4 v5 v6 v7 v8 v9 v10 y0 y1 y2 y3 y4 y5 y6 y7 y8 n, cs = [v0, v1, v2, v3, v4, v5, v6, v7, v8, v9, v10] ∧ x.1 = .agg [y0.1, y1.1, y2.1, y3.1, y4.1, y5.1, y6.1, y7.1, y8.1] ∧ DataW.trod enc P w 0 (fun _ => true) held n T0 [v0] = some y0 ∧ DataW.trod enc P w 0 (fun _ => true) held n T1 [v1, v2, v3] = some y1 ∧ DataW.trod enc P w 0 (fun _ => true) held n T2 [v4] = some y2 ∧ DataW.trod enc P w 0 (fun _ => true) held n T3 [v5] = some y3 ∧ DataW.trod enc P w 0 (fun _ => true) held n T4 [v6] = some y4 ∧ DataW.trod enc P w 0 (fun _ => true) held n T5 [v7] = some y5 ∧ DataW.trod enc P w 0 (fun _ => true) held n T6 [v8] = some y6 ∧ DataW.trod enc P w 0 (fun _ => true) held n T7 [v9] = some y7 ∧ DataW.trod enc P w 0 (fun _ => true) held n T8 [v10] = some y8 := by
  obtain ⟨xs, n, _, rfl, hl, hlen, hf⟩ := DataW.trod_struct ht h
  obtain ⟨y0, y1, y2, y3, y4, y5, y6, y7, y8, rfl⟩ := len9 hlen
  have h0 := hf 0 f0 rfl
  have h1 := hf 1 f1 rfl
  have h2 := hf 2 f2 rfl
  have h3 := hf 3 f3 rfl
  have h4 := hf 4 f4 rfl
  have h5 := hf 5 f5 rfl
  have h6 := hf 6 f6 rfl
  have h7 := hf 7 f7 rfl
  have h8 := hf 8 f8 rfl
  rw [hC] at hl
  obtain ⟨v0, v1, v2, v3, v4, v5, v6, v7, v8, v9, v10, rfl⟩ := len11 hl
  rw [e0.1, e0.2, c0] at h0
  rw [e1.1, e1.2, c1] at h1
  rw [e2.1, e2.2, c2] at h2
  rw [e3.1, e3.2, c3] at h3
  rw [e4.1, e4.2, c4] at h4
  rw [e5.1, e5.2, c5] at h5
  rw [e6.1, e6.2, c6] at h6
  rw [e7.1, e7.2, c7] at h7
  rw [e8.1, e8.2, c8] at h8
  simp only [List.getElem?_cons_zero, List.getElem?_cons_succ, List.drop_zero, List.drop_succ_cons, List.take_succ_cons, List.take_zero] at h0 h1 h2 h3 h4 h5 h6 h7 h8
  exact ⟨v0, v1, v2, v3, v4, v5, v6, v7, v8, v9, v10, y0, y1, y2, y3, y4, y5, y6, y7, y8, n, rfl, rfl, h0, h1, h2, h3, h4, h5, h6, h7, h8⟩
/-- One three, out of its cells. -/
theorem el_three {t : TypeId} {f0 f1 f2 : Field} {fuel : Nat} {cs : List Value} {x : DataW H × List MemPlace}
    (ht : Try.prog.underlying t = some (.struct #[f0, f1, f2])) (hC : Try.prog.cellsOf t = 3) (e0 : f0.type = 28 ∧ f0.offset = 0) (e1 : f1.type = 28 ∧ f1.offset = 1) (e2 : f2.type = 4 ∧ f2.offset = 2)
    (c28 : Try.prog.cellsOf 28 = 1) (c5 : Try.prog.cellsOf 5 = 1) (c4 : Try.prog.cellsOf 4 = 1)
    (h : DataW.trod enc Try.prog w 0 (fun _ => true) held fuel t cs = some x) :
    ∃ (y : Tr) (A1 : Option Addr) (c1 : Nat) (A2 : Option Addr) (c2 : Nat), cs = [.slice A1 y.a.length c1, .slice A2 y.b.length c2, .bool y.f] ∧ Bs w A1 y.a.length y.a ∧ y.a.length ≤ c1 ∧ Bs w A2 y.b.length y.b ∧ y.b.length ≤ c2 ∧ y.a.length + y.b.length + 4 ≤ Rows.uptoBulk x.1 := by
  obtain ⟨xs, n, _, rfl, hl, hlen, hf⟩ := DataW.trod_struct ht h
  obtain ⟨y0, y1, y2, rfl⟩ := len3 hlen
  · skip
    have h0 := hf 0 f0 rfl
    have h1 := hf 1 f1 rfl
    have h2 := hf 2 f2 rfl
    rw [hC] at hl
    obtain ⟨v0, v1, v2, rfl⟩ := len3 hl
    · skip
      rw [e0.1, e0.2, c28] at h0
      rw [e1.1, e1.2, c28] at h1
      rw [e2.1, e2.2, c4] at h2
      simp only [List.getElem?_cons_zero, List.getElem?_cons_succ, List.drop_zero, List.drop_succ_cons, List.take_succ_cons, List.take_zero] at h0 h1 h2
      obtain ⟨ys, A1, c1, hy1, hy2, hy3, hy4⟩ := el_bs Try.underlying28 Try.underlying5 c5 h0
      obtain ⟨zs, A2, c2, hz1, hz2, hz3, hz4⟩ := el_bs Try.underlying28 Try.underlying5 c5 h1
      obtain ⟨b, hb1, hb2⟩ := DataW.trod_bool Try.underlying4 h2
      injection hy1 with hy1; injection hz1 with hz1; injection hb1 with hb1
      refine ⟨⟨ys, zs, b⟩, A1, c1, A2, c2, by rw [hy1, hz1, hb1], hy2, hy3, hz2, hz3, ?_⟩
      rw [hb2]
      simp only [List.map_cons, List.map_nil, Rows.uptoBulk, Rows.uptoBulkAll]
      omega
theorem el_trs {t u : TypeId} {f0 f1 f2 : Field} {fuel : Nat} {cs : List Value} {x : DataW H × List MemPlace} (hu : Try.prog.underlying u = some (.slice t))
    (ht : Try.prog.underlying t = some (.struct #[f0, f1, f2])) (hC : Try.prog.cellsOf t = 3) (e0 : f0.type = 28 ∧ f0.offset = 0) (e1 : f1.type = 28 ∧ f1.offset = 1) (e2 : f2.type = 4 ∧ f2.offset = 2)
    (c28 : Try.prog.cellsOf 28 = 1) (c5 : Try.prog.cellsOf 5 = 1) (c4 : Try.prog.cellsOf 4 = 1)
    (hf : DataW.trod enc Try.prog w 0 (fun _ => true) held fuel u cs = some x) :
    ∃ (l : List Tr) (a : Option Addr) (len cap : Nat), cs = [.slice a len cap] ∧ Trs w a len l ∧ len ≤ cap ∧ tot (trP l) ≤ Rows.uptoBulk x.1 := by
  rcases open_slice hu hf with ⟨hcs, hx⟩ | ⟨ad, len, cap, m, n, D, Pl, hcs, _, hl, hm, hmm, hx, hel⟩
  · exact ⟨[], none, 0, 0, hcs, Trs.nil_, Nat.le_refl _, by simp [tot, trP]⟩
  · have hmc : m = cap := by simpa using hmm
    have each : ∀ i, i < len → ∃ (y : Tr), ∃ (A1 : Option Addr) (c1 : Nat) (A2 : Option Addr) (c2 : Nat), w.cells? 0 (ad.add (i * 3)) 3 = some [.slice A1 y.a.length c1, .slice A2 y.b.length c2, .bool y.f] ∧ Bs w A1 y.a.length y.a ∧ y.a.length ≤ c1 ∧ Bs w A2 y.b.length y.b ∧ y.b.length ≤ c2 ∧ y.a.length + y.b.length + 4 ≤ Rows.uptoBulk (D i) := by
      intro i hi
      obtain ⟨cs', hcell, htr⟩ := hel i (by omega)
      obtain ⟨y, A1, c1, A2, c2, hcs', r⟩ := el_three ht hC e0 e1 e2 c28 c5 c4 htr
      rw [hC, hcs'] at hcell
      exact ⟨y, A1, c1, A2, c2, hcell, r⟩
    let f : Nat → Tr := fun i => if h : i < len then (each i h).choose else ⟨[], [], false⟩
    have hfs : ∀ i, i < len → ∃ (A1 : Option Addr) (c1 : Nat) (A2 : Option Addr) (c2 : Nat), w.cells? 0 (ad.add (i * 3)) 3 = some [.slice A1 (f i).a.length c1, .slice A2 (f i).b.length c2, .bool (f i).f] ∧ Bs w A1 (f i).a.length (f i).a ∧ (f i).a.length ≤ c1 ∧ Bs w A2 (f i).b.length (f i).b ∧ (f i).b.length ≤ c2 ∧ (f i).a.length + (f i).b.length + 4 ≤ Rows.uptoBulk (D i) := by
      intro i hi
      have e : f i = (each i hi).choose := by simp [f, hi]
      rw [e]; exact (each i hi).choose_spec
    refine ⟨(List.range len).map f, some ad, len, cap, hcs, ⟨by simp, fun hn => ?_⟩, hl, ?_⟩
    · obtain ⟨b, off, spot⟩ := ad
      obtain ⟨_, _, _, _, h0, _⟩ := hfs 0 hn
      obtain ⟨_, _, hat⟩ := World.cells?_some h0
      have h00 := hat 0 (by omega)
      have hsp : spot = none := by simpa [Addr.add] using World.cell?_spot h00
      subst hsp
      have ea : ∀ j k : Nat, ((⟨b, off, none⟩ : Addr).add j).add k = ⟨b, off + j + k, none⟩ := by
        intro j k
        have e1 : ∀ (o i : Nat), (⟨b, o, none⟩ : Addr).add i = ⟨b, o + i, none⟩ := by intro o i; unfold Addr.add; split <;> simp_all
        rw [e1, e1]
      refine ⟨b, off, rfl, World.block_lt_of_cell? w ⟨b, off, none⟩ (u := _) (by simpa [Addr.add] using h00), fun j x hu => ?_⟩
      have hj : j < len := by have := (List.getElem?_eq_some_iff.1 hu).1; simpa using this
      rw [List.getElem?_map, List.getElem?_range hj] at hu
      simp only [Option.map_some, Option.some.injEq] at hu
      obtain ⟨A1, c1, A2, c2, hcj, b1, k1, b2, k2, _⟩ := hfs j hj
      rw [hu] at hcj b1 k1 b2 k2
      obtain ⟨_, _, hat⟩ := World.cells?_some hcj
      have g0 := hat 0 (by omega)
      have g1 := hat 1 (by omega)
      have g2 := hat 2 (by omega)
      rw [ea] at g0 g1 g2
      exact ⟨A1, c1, A2, c2, g0, g1, g2, b1, k1, b2, k2⟩
    · rw [hx]
      have hbm := bulk_threes D f (List.range len) (fun i hi => by
        obtain ⟨_, _, _, _, _, _, _, _, _, hb⟩ := hfs i (by simpa using hi)
        exact hb)
      simp only [Rows.uptoBulk]; omega
theorem el_is {t e : TypeId} {fuel : Nat} {cs : List Value} {x : DataW H × List MemPlace} (ht : Try.prog.underlying t = some (.slice e)) (he : Try.prog.underlying e = some (.int .i64)) (hc : Try.prog.cellsOf e = 1)
    (h : DataW.trod enc Try.prog w 0 (fun _ => true) held fuel t cs = some x) :
    ∃ xs A' c', cs = [.slice A' xs.length c'] ∧ Ins w A' xs.length xs ∧ xs.length ≤ c' ∧ xs.length + 1 ≤ Rows.uptoBulk x.1 := by
  rcases open_ints ht he hc h with ⟨hcs, hx⟩ | ⟨a, l, c, zs, hcs, _, hl, hm, hz, hx, hcell, hwz⟩
  · exact ⟨[], none, 0, hcs, ⟨Rd.nil_, fun _ h => by cases h⟩, Nat.le_refl _, by rw [hx]; simp [Rows.uptoBulk]⟩
  · have hz' : zs.length = c := by simpa using hz
    have hlen : (zs.take l).length = l := by rw [List.length_take]; omega
    refine ⟨zs.take l, some a, c, by rw [hlen]; exact hcs, ?_, by omega, ?_⟩
    · rw [hlen]
      exact ⟨rd_of_ints (by omega) hcell, fun x hx => bounds_i64' (hwz x (List.mem_of_mem_take hx))⟩
    · rw [hx, hlen]
      have := bulk_slice (H := H) (lits .i64 (zs.take l)) (lits .i64 (zs.drop l))
      have e : (lits (H := H) .i64 (zs.take l)).length = l := by simp [lits]; omega
      rw [e] at this; exact this
theorem u30 : Try.prog.underlying 30 = some (.struct #[⟨ "Kind", 3, 0, false, "", "", 0⟩, ⟨ "Txn", 24, 1, false, "", "", 8⟩, ⟨ "Writes", 25, 4, false, "", "", 32⟩, ⟨ "Ranges", 26, 5, false, "", "", 56⟩, ⟨ "Commit", 4, 6, false, "", "", 80⟩, ⟨ "Shards", 27, 7, false, "", "", 88⟩, ⟨ "Reply", 28, 8, false, "", "", 112⟩, ⟨ "Id", 22, 9, false, "", "", 136⟩, ⟨ "Name", 9, 10, false, "", "", 144⟩]) := by kernel_rfl
theorem u24 : Try.prog.underlying 24 = some (.struct #[⟨ "Boot", 22, 0, false, "", "", 0⟩, ⟨ "Session", 22, 1, false, "", "", 8⟩, ⟨ "Seq", 22, 2, false, "", "", 16⟩]) := by kernel_rfl
theorem u61 : Try.prog.underlying 61 = some (.struct #[⟨ "Key", 28, 0, false, "", "", 0⟩, ⟨ "Value", 28, 1, false, "", "", 24⟩, ⟨ "Gone", 4, 2, false, "", "", 48⟩]) := by kernel_rfl
theorem u99 : Try.prog.underlying 99 = some (.struct #[⟨ "From", 28, 0, false, "", "", 0⟩, ⟨ "To", 28, 1, false, "", "", 24⟩, ⟨ "Excl", 4, 2, false, "", "", 48⟩]) := by kernel_rfl
theorem cz3 : Try.prog.cellsOf 3 = 1 := by kernel_rfl
theorem cz4 : Try.prog.cellsOf 4 = 1 := by kernel_rfl
theorem cz5 : Try.prog.cellsOf 5 = 1 := by kernel_rfl
theorem cz9 : Try.prog.cellsOf 9 = 1 := by kernel_rfl
theorem cz22 : Try.prog.cellsOf 22 = 1 := by kernel_rfl
theorem cz24 : Try.prog.cellsOf 24 = 3 := by kernel_rfl
theorem cz25 : Try.prog.cellsOf 25 = 1 := by kernel_rfl
theorem cz26 : Try.prog.cellsOf 26 = 1 := by kernel_rfl
theorem cz27 : Try.prog.cellsOf 27 = 1 := by kernel_rfl
theorem cz28 : Try.prog.cellsOf 28 = 1 := by kernel_rfl
theorem cz30 : Try.prog.cellsOf 30 = 11 := by kernel_rfl
theorem cz61 : Try.prog.cellsOf 61 = 3 := by kernel_rfl
theorem cz99 : Try.prog.cellsOf 99 = 3 := by kernel_rfl
/-- A transaction's number, out of its three cells. -/
theorem el_txn {fuel : Nat} {cs : List Value} {x : DataW H × List MemPlace} (h : DataW.trod enc Try.prog w 0 (fun _ => true) held fuel 24 cs = some x) :
    ∃ b s q : Int, cs = [.int .u64 b, .int .u64 s, .int .u64 q] ∧ (0 ≤ b ∧ b ≤ 18446744073709551615) ∧ (0 ≤ s ∧ s ≤ 18446744073709551615) ∧ (0 ≤ q ∧ q ≤ 18446744073709551615) := by
  obtain ⟨v0, v1, v2, y0, y1, y2, n, rfl, hx, h0, h1, h2⟩ := open3 u24 cz24 ⟨rfl, rfl⟩ ⟨rfl, rfl⟩ ⟨rfl, rfl⟩ cz22 cz22 cz22 h
  · skip
    obtain ⟨b, hb1, _, hbw⟩ := DataW.trod_int Try.underlying22 h0
    obtain ⟨s, hs1, _, hsw⟩ := DataW.trod_int Try.underlying22 h1
    obtain ⟨q, hq1, _, hqw⟩ := DataW.trod_int Try.underlying22 h2
    injection hb1 with hb1; injection hs1 with hs1; injection hq1 with hq1
    exact ⟨b, s, q, by rw [hb1, hs1, hq1], bounds_u64' hbw, bounds_u64' hsw, bounds_u64' hqw⟩
/-- A record, out of its eleven cells. -/
theorem el_rec {fuel : Nat} {cs : List Value} {x : DataW H × List MemPlace} (h : DataW.trod enc Try.prog w 0 (fun _ => true) held fuel 30 cs = some x) :
    ∃ (y : Rc) (s : Sl), cs = [.int .i64 y.kind, .int .u64 y.boot, .int .u64 y.sess, .int .u64 y.seq, .slice s.AW s.nW s.cW, .slice s.AR s.nR s.cR, .bool y.commit, .slice s.AS s.nS s.cS, .slice s.AP s.nP s.cP, .int .u64 y.id, .string (strOfNums y.name)] ∧
      RcT w y s ∧ RcB y ∧ Ran y.name ∧ tot (trP y.ws) + tot (trP y.rs) + y.shards.length + y.reply.length + y.name.length ≤ Rows.uptoBulk x.1 := by
  obtain ⟨v0, v1, v2, v3, v4, v5, v6, v7, v8, v9, v10, y0, y1, y2, y3, y4, y5, y6, y7, y8, n, rfl, hx, h0, h1, h2, h3, h4, h5, h6, h7, h8⟩ := open9 u30 cz30 ⟨rfl, rfl⟩ ⟨rfl, rfl⟩ ⟨rfl, rfl⟩ ⟨rfl, rfl⟩ ⟨rfl, rfl⟩ ⟨rfl, rfl⟩ ⟨rfl, rfl⟩ ⟨rfl, rfl⟩ ⟨rfl, rfl⟩ cz3 cz24 cz25 cz26 cz4 cz27 cz28 cz22 cz9 h
  obtain ⟨k, k1, _, _⟩ := DataW.trod_int Try.underlying3 h0
  obtain ⟨b, s, q, t1, tb, ts, tq⟩ := el_txn h1
  obtain ⟨ws, AW, nW, cW, w1, w2, w3, w4⟩ := el_trs Try.underlying25 u61 cz61 ⟨rfl, rfl⟩ ⟨rfl, rfl⟩ ⟨rfl, rfl⟩ cz28 cz5 cz4 h2
  obtain ⟨rs, AR, nR, cR, r1, r2, r3, r4⟩ := el_trs Try.underlying26 u99 cz99 ⟨rfl, rfl⟩ ⟨rfl, rfl⟩ ⟨rfl, rfl⟩ cz28 cz5 cz4 h3
  obtain ⟨f, f1, _⟩ := DataW.trod_bool Try.underlying4 h4
  obtain ⟨sh, AS, cS, s1, s2, s3, s4⟩ := el_is Try.underlying27 Try.underlying3 cz3 h5
  obtain ⟨rp, AP, cP, p1, p2, p3, p4⟩ := el_bs Try.underlying28 Try.underlying5 cz5 h6
  obtain ⟨i, i1, _, iw⟩ := DataW.trod_int Try.underlying22 h7
  obtain ⟨S, S1, S2, _⟩ := DataW.trod_string Try.underlying9 h8
  injection k1 with k1; injection w1 with w1; injection r1 with r1; injection f1 with f1; injection s1 with s1; injection p1 with p1; injection i1 with i1; injection S1 with S1
  injection t1 with ta t1; injection t1 with tb' t1; injection t1 with tc' _
  have e : strOfNums (nm S.data.toList) = S := by rw [nm_str]
  refine ⟨⟨k, b, s, q, ws, rs, f, sh, rp, i, nm S.data.toList⟩, ⟨AW, nW, cW, AR, nR, cR, AS, sh.length, cS, AP, rp.length, cP⟩, by simp only [e, k1, ta, tb', tc', w1, r1, f1, s1, p1, i1, S1], ⟨w2, r2, s2, p2, p3⟩, ⟨tb, ts, tq, bounds_u64' iw, s2.2⟩, nm_ran _, ?_⟩
  rw [hx, S2]
  have hb8 : (nm S.data.toList).length = S.data.toList.length := by simp [nm]
  simp only [List.map_cons, List.map_nil, Rows.uptoBulk, Rows.uptoBulkAll, hb8]
  omega
end
/-- How long a record's bytes can be. -/
theorem trs_tot (l : List Tr) : (trs l).length ≤ 9 + 10 * tot (trP l) := joinL_tot _
theorem nums_bd (l : List Int) : (nums l).length ≤ 9 * l.length := by
  induction l with
  | nil => simp [nums]
  | cons x r ih => rw [nums_cons, List.length_append, List.length_cons]; have := num_le x; omega
theorem partL_bd (y : Rc) (c : Int) : (partL y c).length ≤ 30 + 10 * tot (trP y.ws) + 10 * tot (trP y.rs) + 9 * y.shards.length + y.reply.length + y.name.length := by
  have h1 := trs_tot y.ws; have h2 := trs_tot y.rs
  have h3 : (txB y).length ≤ 27 := by unfold txB; have := nums_bd [y.boot, y.sess, y.seq]; simpa using this
  have h4 : (shB y).length ≤ 9 * y.shards.length := by unfold shB; have := nums_bd (y.shards.map uw); rwa [List.length_map] at this
  have h5 := num_le y.id
  unfold partL
  split
  · omega
  · split
    · omega
    · split
      · omega
      · split
        · simp; omega
        · split
          · omega
          · split
            · omega
            · split
              · omega
              · split
                · omega
                · simp
theorem tot_app (a b : List (List Int)) : tot (a ++ b) = tot a + tot b := by
  induction a with
  | nil => simp [tot]
  | cons x r ih => simp only [List.cons_append, tot, ih]; omega
theorem recL_bd (y : Rc) (hn : tot (trP y.ws) + tot (trP y.rs) + y.shards.length + y.reply.length + y.name.length ≤ 1048576) : (recL y).length ≤ 12000000 := by
  have h1 := trs_tot y.ws; have h2 := trs_tot y.rs
  have h3 : (txB y).length ≤ 27 := by unfold txB; have := nums_bd [y.boot, y.sess, y.seq]; simpa using this
  have h4 : (shB y).length ≤ 9 * y.shards.length := by unfold shB; have := nums_bd (y.shards.map uw); rwa [List.length_map] at this
  have h5 := num_le y.id
  have tc : ∀ l : List (List Int), (texts l).length ≤ 9 * l.length + (l.map List.length).sum := by
    intro l
    induction l with
    | nil => simp [texts]
    | cons p l ih =>
      have e : (texts (p :: l)).length = (num (p.length : Int)).length + p.length + (texts l).length := by
        unfold texts
        simp only [List.map_cons, List.flatten_cons, List.length_append]
      have := num_le (p.length : Int)
      rw [e]
      simp only [List.length_cons, List.map_cons, List.sum_cons]; omega
  have e : (recL y).length = (num ((parts y).length : Int)).length + (texts (parts y)).length := by unfold recL joinL; rw [List.length_append]
  have e0 := num_le ((parts y).length : Int)
  have e1 := tc (parts y)
  have hp : ∃ fs, parts y = [y.kind % 256] :: fs.map (partL y) ∧ (fs = [116, 119, 114] ∨ fs = [116] ∨ fs = [116, 119, 97] ∨ fs = [105, 110] ∨ fs = [116, 99, 115, 97] ∨ fs = []) := by
    refine ⟨fl y.kind, rfl, ?_⟩
    unfold fl
    split
    · simp
    · split
      · simp
      · split
        · simp
        · split
          · simp
          · split
            · simp
            · simp
  have p1 : partL y 116 = txB y := rfl
  have p2 : partL y 119 = trs y.ws := rfl
  have p3 : partL y 114 = trs y.rs := rfl
  have p4 : partL y 97 = y.reply := rfl
  have p5 : partL y 105 = num y.id := rfl
  have p6 : partL y 110 = y.name := rfl
  have p7 : partL y 99 = [flagB y.commit] := rfl
  have p8 : partL y 115 = shB y := rfl
  obtain ⟨fs, hfs, hc⟩ := hp
  generalize (texts (parts y)).length = M at e e1
  rw [hfs] at e1
  rcases hc with rfl | rfl | rfl | rfl | rfl | rfl <;> simp only [List.map_cons, List.map_nil, p1, p2, p3, p4, p5, p6, p7, p8, List.length_cons, List.length_nil, List.sum_cons, List.sum_nil] at e1 <;> omega
end Go.Proofs.Ytmjjbfcblmmipaa
namespace Go.Proofs.Ytmjjbfcblmmipaa
set_option linter.unusedVariables false
set_option linter.unusedSimpArgs false
open Go.ChangeShapes Go.WideShapes Go.ChangeAt Go.RowKit Go.Deep

section
variable {H : Type} {enc : TypeId × Value → H} {w : World} {held : Bool}
theorem bulk_mem (d : DataW H) : ∀ l : List (DataW H), d ∈ l → Rows.uptoBulk d ≤ Rows.uptoBulkAll l
  | [], h => by cases h
  | e :: l, h => by
    simp only [Rows.uptoBulkAll]
    rcases List.mem_cons.1 h with rfl | h
    · omega
    · have := bulk_mem d l h; omega
theorem argR_of {y : Rc} {s : Sl} (h : RcT w y s) (hB : RcB y) (hn : tot (trP y.ws) + tot (trP y.rs) + y.shards.length + y.reply.length + y.name.length ≤ 1048576) : ArgR w y s := by
  have h1 := trs_tot y.ws; have h2 := trs_tot y.rs
  have l1 := trs_len y.ws; have l2 := trs_len y.rs
  have a1 : y.ws.length = s.nW := h.ws.1
  have a2 : y.rs.length = s.nR := h.rs.1
  have a3 : y.shards.length = s.nS := h.sh.len
  have a4 : y.reply.length = s.nP := h.rp.len
  exact ⟨h, hB, by omega, by omega, by omega, by omega, by omega, by omega⟩
theorem el_recs {u : TypeId} {fuel : Nat} {cs : List Value} {x : DataW H × List MemPlace} (hu : Try.prog.underlying u = some (.slice 30)) (hf : DataW.trod enc Try.prog w 0 (fun _ => true) held fuel u cs = some x) (hB : Rows.uptoBulk x.1 ≤ 1048576) :
    ∃ (l : List (Rc × Sl)) (a : Option Addr) (len cap : Nat), cs = [.slice a len cap] ∧ ArgL w a len l ∧ len ≤ cap := by
  rcases open_slice hu hf with ⟨hcs, hx⟩ | ⟨ad, len, cap, m, n, D, Pl, hcs, _, hl, hm, hmm, hx, hel⟩
  · exact ⟨[], none, 0, 0, hcs, ⟨⟨rfl, fun h => absurd h (by omega)⟩, fun p h => by cases h⟩, Nat.le_refl _⟩
  · have hmc : m = cap := by simpa using hmm
    rw [hx] at hB
    have hD : ∀ i, i < len → Rows.uptoBulk (D i) ≤ 1048576 := by
      intro i hi
      have := bulk_mem (D i) ((List.range len).map D) (List.mem_map.2 ⟨i, by simpa using hi, rfl⟩)
      have hB2 : Rows.uptoBulkAll ((List.range len).map D) + Rows.uptoBulkAll ((List.range (m - len)).map fun j => D (len + j)) + 1 ≤ 1048576 := hB
      omega
    have each : ∀ i, i < len → ∃ p : Rc × Sl, w.cells? 0 (ad.add (i * 11)) 11 = some (rcVs p.1 p.2).toList ∧ ArgR w p.1 p.2 := by
      intro i hi
      obtain ⟨cs', hcell, htr⟩ := hel i (by omega)
      obtain ⟨y, s, hcs', hT, hB', hR, hn⟩ := el_rec htr
      rw [cz30, hcs'] at hcell
      exact ⟨(y, s), hcell, argR_of hT hB' (Nat.le_trans hn (hD i hi))⟩
    let f : Nat → Rc × Sl := fun i => if h : i < len then (each i h).choose else (⟨0, 0, 0, 0, [], [], false, [], [], 0, []⟩, ⟨none, 0, 0, none, 0, 0, none, 0, 0, none, 0, 0⟩)
    have hfs : ∀ i, i < len → w.cells? 0 (ad.add (i * 11)) 11 = some (rcVs (f i).1 (f i).2).toList ∧ ArgR w (f i).1 (f i).2 := by
      intro i hi
      have e : f i = (each i hi).choose := by simp [f, hi]
      rw [e]; exact (each i hi).choose_spec
    refine ⟨(List.range len).map f, some ad, len, cap, hcs, ⟨⟨by simp, fun hn => ?_⟩, fun p hp => ?_⟩, hl⟩
    · obtain ⟨b, off, spot⟩ := ad
      obtain ⟨h0, _⟩ := hfs 0 hn
      obtain ⟨_, _, hat⟩ := World.cells?_some h0
      have h00 := hat 0 (by omega)
      have hsp : spot = none := by simpa [Addr.add] using World.cell?_spot h00
      subst hsp
      have ea : ∀ j k : Nat, ((⟨b, off, none⟩ : Addr).add j).add k = ⟨b, off + j + k, none⟩ := by
        intro j k
        have e1 : ∀ (o i : Nat), (⟨b, o, none⟩ : Addr).add i = ⟨b, o + i, none⟩ := by intro o i; unfold Addr.add; split <;> simp_all
        rw [e1, e1]
      refine ⟨b, off, rfl, World.block_lt_of_cell? w ⟨b, off, none⟩ (u := .int .i64 (f 0).1.kind) (by simpa [Addr.add, rcVs] using h00), fun j p hu i u hi => ?_⟩
      have hj : j < len := by have := (List.getElem?_eq_some_iff.1 hu).1; simpa using this
      rw [List.getElem?_map, List.getElem?_range hj] at hu
      simp only [Option.map_some, Option.some.injEq] at hu
      obtain ⟨hcj, _⟩ := hfs j hj
      rw [hu] at hcj
      obtain ⟨_, _, hat⟩ := World.cells?_some hcj
      have hi11 : i < 11 := by have := (Array.getElem?_eq_some_iff.1 hi).1; simpa [rcVs] using this
      have g0 := hat i hi11
      rw [ea] at g0
      exact g0.trans (by simpa using hi)
    · obtain ⟨i, hi, rfl⟩ := List.mem_map.1 hp
      exact (hfs i (by simpa using hi)).2
theorem open_recs {a : Option Addr} {len cap : Nat} {d : DataW H} {p : List MemPlace} (hu : Try.prog.underlying 48 = some (.slice 30)) (h : DataW.Trod enc Try.prog w 0 (fun _ => true) held 48 (.slice a len cap) d p) (hB : Rows.uptoBulk d ≤ 1048576) :
    ∃ l : List (Rc × Sl), ArgL w a len l ∧ len ≤ cap := by
  obtain ⟨fu, hf⟩ := h
  obtain ⟨l, a', len', cap', hcs, hL, hc⟩ := el_recs hu hf hB
  have hcs' : Value.slice a len cap = .slice a' len' cap' := by simpa [Value.cells] using hcs
  injection hcs' with e1 e2 e3
  subst e1 e2 e3
  exact ⟨l, hL, hc⟩
end
end Go.Proofs.Ytmjjbfcblmmipaa
namespace Go.Proofs.Ytmjjbfcblmmipaa
set_option linter.unusedVariables false
set_option linter.unusedSimpArgs false
open Go.RowKit
theorem un48 : Try.prog.underlying 48 = some (.slice 30) := by kernel_rfl
theorem u64_bd {n : Int} (h : (Lit.int .u64 n).wf = true) : 0 ≤ n ∧ n ≤ 18446744073709551615 := by
  simp only [Lit.wf, IntKind.min, IntKind.max, IntKind.signed, IntKind.bits, Bool.and_eq_true, decide_eq_true_eq, if_true, Bool.false_eq_true, if_false] at h; omega
theorem ArgL.take {w : World} {A : Option Addr} {n m : Nat} {l : List (Rc × Sl)} (h : ArgL w A n l) (hm : m ≤ n) : ArgL w A m (l.take m) := by
  refine ⟨⟨by rw [List.length_take]; have := h.1.1; omega, fun hn => ?_⟩, fun p hp => h.2 p (List.mem_of_mem_take hp)⟩
  obtain ⟨b, off, hA, hb, hc⟩ := h.1.2 (by omega)
  refine ⟨b, off, hA, hb, fun k p hp => hc k p ?_⟩
  rw [List.getElem?_take] at hp
  split at hp
  · exact hp
  · cases hp
theorem lists_any (A : Option Addr) (n c : Nat) (l : List (Rc × Sl)) (fr tt : Int) (w : World) (hx : ArgL w A n l) (hnc : n ≤ c) (h1 : (Lit.int .u64 fr).wf = true) (h2 : (Lit.int .u64 tt).wf = true) :
    Calls Try.prog 5 #[.slice A n c, .int .u64 fr, .int .u64 tt] w fun e w' => e = .returned (.bool true) ∧ Below w.heap.size w w' := by
  obtain ⟨f0, f1⟩ := u64_bd h1
  obtain ⟨t0, t1⟩ := u64_bd h2
  by_cases hn : n ≤ 40
  · exact lists_core A n c l fr tt w hx hn f0 f1 t0 t1
  · exact lists_big A n 40 c (l.take 40) fr tt w (hx.take (by omega)) (by omega) rfl (by omega) (by omega) f0 f1 t0 t1
end Go.Proofs.Ytmjjbfcblmmipaa
namespace Go.Proofs.Ytmjjbfcblmmipaa.recLists
open Go.ChangeShapes Go.WideShapes Go.ChangeAt Go.RowKit
open Go.ChangeMaps (open_string shut_string)
set_option linter.unusedVariables false
set_option linter.unusedSimpArgs false

theorem own : ownKnob Try.prog.godebug = none := by kernel_rfl
theorem laidOut : laidOutB Try.prog = true := by kernel_rfl

set_option maxRecDepth 100000 in
theorem contract (H : Type) (enc : TypeId × Value → H) (W : World) (base : Nat) (args : Array Value) (ds gs : List (DataW H)) (before : List MemPlace)
    (hval : ∀ (j : Nat) t v, Try.f5.params[j]? = some t → args[j]? = some v → Value.okWide Try.prog W .any base t v)
    (hW : DataW.Whole enc Try.prog Try.f5.params.toList Rows.recListsSpec.vars false W args.toList ds gs before)
    (hk : Rows.uptoSmall H (ds ++ gs) = true) :
    Calls Try.prog 5 args W fun e W' => ∃ v, e = .returned v ∧ Rows.recListsSpec.post enc Try.prog Try.f5 false true false false W args v W' := by
  have hW' := hW
  obtain ⟨p, q, hA0, hV, rfl, hfz, hnd⟩ := hW
  have hA : DataW.TrodAll enc Try.prog W 0 (fun _ => true) true Try.f5.params.toList args.toList ds p := hA0
  rw [Try.params5] at hA hval
  obtain ⟨v0, vs0, d0, ds0, p0, q0, hargs, rfl, rfl, h0, r0⟩ := trodAll_cons hA
  obtain ⟨v1, vs1, d1, ds1, p1, q1, rfl, rfl, rfl, h1, r1⟩ := trodAll_cons r0
  obtain ⟨v2, vs2, d2, ds2, p2, q2, rfl, rfl, rfl, h2, r2⟩ := trodAll_cons r1
  obtain ⟨rfl, rfl, rfl⟩ := trodAll_nil r2
  obtain rfl : args = #[v0, v1, v2] := Array.toList_inj.1 hargs
  obtain ⟨rfl, rfl⟩ := trodVars_none hV
  obtain ⟨a0, len0, cap0, rfl⟩ := okWide_slice Try.underlying48 (hval 0 48 v0 rfl rfl)
  have lt0 := trod_lt' h0
  simp only [List.append_nil] at hW' hk
  have hbk : Rows.uptoBulkAll [d0, d1, d2] ≤ 1048576 := of_decide_eq_true hk
  simp only [Rows.uptoBulkAll] at hbk
  obtain ⟨z0, w0, s0⟩ := open_recs un48 h0 (by omega)
  obtain ⟨x1, rfl, rfl, rfl, wf1⟩ := open_int Try.underlying22 (hval 1 22 v1 rfl rfl) h1
  obtain ⟨x2, rfl, rfl, rfl, wf2⟩ := open_int Try.underlying22 (hval 2 22 v2 rfl rfl) h2
  clear hA0
  refine (lists_any a0 len0 cap0 z0 x1 x2 W w0 s0 wf1 wf2).mono fun e W' ⟨he, bel⟩ => ?_
  subst he
  exact ⟨_, rfl, _, _, _, [], _, [], hW', trodAll_mk1 (shut_bool Try.underlying4 _), (trodAll_cons_mk (Below.trod laidOut (by kernel_rfl) (of_decide_eq_true (by kernel_rfl)) h0 bel lt0) (trodAll_cons_mk (shut_int Try.underlying22 wf1) (trodAll_cons_mk (shut_int Try.underlying22 wf2) trodAll_mk0))), rfl, bel.frame _, fun h => by cases h⟩

set_option maxRecDepth 100000 in
theorem lifted (os : Os) (started : os.Started) (H : Type) (enc : TypeId × Value → H) (F : Stop.Interp) :
    ReturnsInHanded {} Try.checked os 5 .any ((Rows.OpenSpec.upto Rows.recListsSpec).pre6 enc Try.prog Try.f5 Rows.recListsUptoRow.domain false) (((Rows.OpenSpec.upto Rows.recListsSpec).at F).post enc Try.prog Try.f5 false true false false) := by
  refine returnsInHanded_of_cond (C := Try.checked) (s := Rows.OpenSpec.upto Rows.recListsSpec) (k := Rows.uptoSmall) rfl own started (by kernel_rfl) Try.func5
    (OpenSpec.witness (enc := enc) (C := Try.checked) (s := Rows.OpenSpec.upto Rows.recListsSpec) (k := Rows.uptoSmall) rfl false ⟨#[], #[.slice none 0 0, .int .u64 0, .int .u64 0], []⟩ 8 (by kernel_rfl) (by kernel_rfl) (by kernel_rfl)
      (x := ([.nil, .lit (.int .u64 0), .lit (.int .u64 0)], [], [])) (by kernel_rfl) rfl (by kernel_rfl)) ?_
  intro W base args ds gs before hval hW _ hk _
  exact contract H enc W base args ds gs before hval hW hk
end Go.Proofs.Ytmjjbfcblmmipaa.recLists
namespace Go.Proofs.Ytmjjbfcblmmipaa
theorem recListsUpto_holds : Rows.RecListsUptoSaid :=
  OpenClaim.holds_of_cond 5 Try.f5 rfl rfl rfl rfl rfl rfl rfl ⟨rfl, rfl, rfl, rfl, rfl⟩ rfl rfl rfl rfl rfl (by kernel_rfl) Try.func5 (by kernel_rfl)
    (of_decide_eq_true (by kernel_rfl)) (by unfold Func.isWrapper; first | (rw [if_pos (by decide +kernel)]; kernel_rfl) | (rw [if_neg (by decide +kernel)]; exact ⟨rfl, rfl⟩))
    (fun os started H enc _ F => recLists.lifted os started H enc F)
#print axioms recListsUpto_holds
end Go.Proofs.Ytmjjbfcblmmipaa
