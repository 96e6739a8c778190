/- How arguments read: a slice of items, with its bulk. -/
import Derived.Test.YtdlbghjclcdfmaaOpen3
import Derived.Test.YtdlbghjclcdfmaaIts
namespace Go.Proofs.Ytdlbghjclcdfmaa
set_option linter.unusedVariables false
set_option linter.unusedSimpArgs false
open Go.ChangeShapes Go.WideShapes Go.ChangeAt Go.RowKit Go.Deep

section
variable {H : Type} {enc : TypeId × Value → H} {P : Program} {w : World} {held : Bool}

theorem bulk_items (D : Nat → DataW H) (f : Nat → It) : ∀ l : List Nat, (∀ i ∈ l, (f i).text.length + 1 ≤ Rows.uptoBulk (D i)) → itot (l.map f) ≤ 10 * Rows.uptoBulkAll (l.map D)
  | [], _ => by simp [itot]
  | x :: r, h => by
    have ih := bulk_items D f r (fun i hi => h i (by simp [hi]))
    have := h x (by simp)
    simp only [List.map_cons, itot, Rows.uptoBulkAll]; omega

/-- One item, out of its four cells. -/
theorem el_item {t s e tk tn tb : TypeId} {f0 f1 f2 f3 : Field} {fuel : Nat} {cs : List Value} {x : DataW H × List MemPlace}
    (ht : P.underlying t = some (.struct #[f0, f1, f2, f3])) (hC : P.cellsOf t = 4)
    (e0 : f0.type = tk ∧ f0.offset = 0) (e1 : f1.type = tn ∧ f1.offset = 1) (e2 : f2.type = s ∧ f2.offset = 2) (e3 : f3.type = tb ∧ f3.offset = 3)
    (hk : P.underlying tk = some (.int .i64)) (hn : P.underlying tn = some (.int .u64)) (hs : P.underlying s = some (.slice e)) (he : P.underlying e = some (.int .u8)) (hb : P.underlying tb = some .bool)
    (ck : P.cellsOf tk = 1) (cn : P.cellsOf tn = 1) (cs1 : P.cellsOf s = 1) (ce : P.cellsOf e = 1) (cb : P.cellsOf tb = 1)
    (h : DataW.trod enc P w 0 (fun _ => true) held fuel t cs = some x) :
    ∃ (i : It) (A' : Option Addr) (c' : Nat), cs = [.int .i64 i.kind, .int .u64 i.n, .slice A' i.text.length c', .bool i.flag] ∧ Bs w A' i.text.length i.text ∧ 0 ≤ i.n ∧ i.n ≤ 18446744073709551615 ∧ i.text.length + 1 ≤ Rows.uptoBulk x.1 := by
  obtain ⟨xs, n, _, rfl, hl, hlen, hf⟩ := DataW.trod_struct ht h
  match xs, hlen with
  | [y0, y1, y2, y3], _ =>
    have h0 := hf 0 f0 rfl
    have h1 := hf 1 f1 rfl
    have h2 := hf 2 f2 rfl
    have h3 := hf 3 f3 rfl
    rw [hC] at hl
    match cs, hl with
    | [v0, v1, v2, v3], _ =>
      rw [e0.1, e0.2, ck] at h0
      rw [e1.1, e1.2, cn] at h1
      rw [e2.1, e2.2, cs1] at h2
      rw [e3.1, e3.2, cb] at h3
      simp only [List.getElem?_cons_zero, List.getElem?_cons_succ, List.drop_zero, List.drop_succ_cons, List.take_succ_cons, List.take_zero] at h0 h1 h2 h3
      obtain ⟨k, hk1, hk2, _⟩ := DataW.trod_int hk h0
      obtain ⟨m, hm1, hm2, hmw⟩ := DataW.trod_int hn h1
      obtain ⟨ys, A', c', hy1, hy2, hy3, hy4⟩ := el_bs hs he ce h2
      obtain ⟨b, hb1, hb2⟩ := DataW.trod_bool hb h3
      have hmb := bounds_u64' hmw
      injection hk1 with hk1; injection hm1 with hm1; injection hy1 with hy1; injection hb1 with hb1
      refine ⟨⟨k, m, ys, b⟩, A', c', by rw [hk1, hm1, hy1, hb1], hy2, hmb.1, hmb.2, ?_⟩
      simp only [List.map_cons, List.map_nil, Rows.uptoBulk, Rows.uptoBulkAll]
      omega

theorem open_items {t u s e tk tn tb : TypeId} {f0 f1 f2 f3 : Field} {a : Option Addr} {len cap : Nat} {d : DataW H} {p : List MemPlace} (hu : P.underlying u = some (.slice t))
    (ht : P.underlying t = some (.struct #[f0, f1, f2, f3])) (hC : P.cellsOf t = 4)
    (e0 : f0.type = tk ∧ f0.offset = 0) (e1 : f1.type = tn ∧ f1.offset = 1) (e2 : f2.type = s ∧ f2.offset = 2) (e3 : f3.type = tb ∧ f3.offset = 3)
    (hk : P.underlying tk = some (.int .i64)) (hn : P.underlying tn = some (.int .u64)) (hs : P.underlying s = some (.slice e)) (he : P.underlying e = some (.int .u8)) (hb : P.underlying tb = some .bool)
    (ck : P.cellsOf tk = 1) (cn : P.cellsOf tn = 1) (cs1 : P.cellsOf s = 1) (ce : P.cellsOf e = 1) (cb : P.cellsOf tb = 1)
    (h : DataW.Trod enc P w 0 (fun _ => true) held u (.slice a len cap) d p) :
    ∃ its, Its w a len its ∧ len ≤ cap ∧ itot its ≤ 10 * Rows.uptoBulk d := by
  obtain ⟨fuel, hf⟩ := h
  rcases open_slice hu hf with ⟨hcs, hx⟩ | ⟨ad, l, c, m, n, D, Pl, hcs, _, hl, hm, hmm, hx, hel⟩
  · simp [Value.cells] at hcs
    obtain ⟨rfl, rfl, rfl⟩ := hcs
    exact ⟨[], ⟨rfl, fun h => absurd h (by omega)⟩, Nat.le_refl _, by simp [itot]⟩
  · simp [Value.cells] at hcs
    obtain ⟨rfl, rfl, rfl⟩ := hcs
    simp only [Prod.mk.injEq] at hx
    have hmc : m = cap := by simpa using hmm
    have each : ∀ i, i < len → ∃ (x : It), ∃ (A' : Option Addr) (c' : Nat), w.cells? 0 (ad.add (i * 4)) 4 = some [.int .i64 x.kind, .int .u64 x.n, .slice A' x.text.length c', .bool x.flag] ∧ Bs w A' x.text.length x.text ∧ 0 ≤ x.n ∧ x.n ≤ 18446744073709551615 ∧ x.text.length + 1 ≤ Rows.uptoBulk (D i) := by
      intro i hi
      obtain ⟨cs', hcell, htr⟩ := hel i (by omega)
      obtain ⟨x, A', c', hcs', r⟩ := el_item ht hC e0 e1 e2 e3 hk hn hs he hb ck cn cs1 ce cb htr
      rw [hC, hcs'] at hcell
      exact ⟨x, A', c', hcell, r⟩
    let f : Nat → It := fun i => if h : i < len then (each i h).choose else ⟨0, 0, [], false⟩
    have hfs : ∀ i, i < len → ∃ (A' : Option Addr) (c' : Nat), w.cells? 0 (ad.add (i * 4)) 4 = some [.int .i64 (f i).kind, .int .u64 (f i).n, .slice A' (f i).text.length c', .bool (f i).flag] ∧ Bs w A' (f i).text.length (f i).text ∧ 0 ≤ (f i).n ∧ (f i).n ≤ 18446744073709551615 ∧ (f i).text.length + 1 ≤ Rows.uptoBulk (D i) := by
      intro i hi
      have e : f i = (each i hi).choose := by simp [f, hi]
      rw [e]; exact (each i hi).choose_spec
    refine ⟨(List.range len).map f, ⟨by simp, fun hn => ?_⟩, hl, ?_⟩
    · obtain ⟨b, off, spot⟩ := ad
      obtain ⟨A', c', h0, _⟩ := hfs 0 hn
      obtain ⟨_, _, hat⟩ := World.cells?_some h0
      have h00 := hat 0 (by omega)
      have hsp : spot = none := by simpa [Addr.add] using World.cell?_spot h00
      subst hsp
      have ea : ∀ j k : Nat, ((⟨b, off, none⟩ : Addr).add j).add k = ⟨b, off + j + k, none⟩ := by
        intro j k
        have e1 : ∀ (o i : Nat), (⟨b, o, none⟩ : Addr).add i = ⟨b, o + i, none⟩ := by intro o i; unfold Addr.add; split <;> simp_all
        rw [e1, e1]
      refine ⟨b, off, rfl, World.block_lt_of_cell? w ⟨b, off, none⟩ (u := _) (by simpa [Addr.add] using h00), fun j x hu => ?_⟩
      have hj : j < len := by have := (List.getElem?_eq_some_iff.1 hu).1; simpa using this
      rw [List.getElem?_map, List.getElem?_range hj] at hu
      simp only [Option.map_some, Option.some.injEq] at hu
      obtain ⟨A', c', hcj, hbs, r0, r1, _⟩ := hfs j hj
      rw [hu] at hcj hbs r0 r1
      obtain ⟨_, _, hat⟩ := World.cells?_some hcj
      have g0 := hat 0 (by omega)
      have g1 := hat 1 (by omega)
      have g2 := hat 2 (by omega)
      have g3 := hat 3 (by omega)
      rw [ea] at g0 g1 g2 g3
      exact ⟨g0, g1, ⟨A', c', g2, hbs⟩, g3, r0, r1⟩
    · rw [hx.1]
      have hbm := bulk_items D f (List.range len) (fun i hi => by
        obtain ⟨_, _, _, _, _, _, hb⟩ := hfs i (by simpa using hi)
        exact hb)
      simp only [Rows.uptoBulk]; omega
end
end Go.Proofs.Ytdlbghjclcdfmaa
