/- Plain words of memory and lists for the proofs of this seat: no program is named here. -/
import Derived.WalkKit
import Derived.WalkLawsBesides
import Derived.Deep.Draws
import Derived.Deep.AppendLies
import Derived.Lib.Hide
import Derived.Laws.MakeOwn
import Derived.Laws.OwnMore
namespace Go.Proofs.YtlphlogliphhdaaDoor
set_option linter.unusedVariables false
set_option linter.unusedSimpArgs false
open Go.RowKit

/-- A slice that reads as a list of values of one cell each; nil let in. -/
def Rd (w : World) (A : Option Addr) (n : Nat) (vs : List Value) : Prop :=
  vs.length = n ∧ (0 < n → ∃ b off, A = some ⟨b, off, none⟩ ∧ b < w.heap.size ∧ ∀ j u, vs[j]? = some u → w.cell? ⟨b, off + j, none⟩ = some u)

/-- Bytes as values. -/
def By (xs : List Int) : List Value := xs.map (Value.int .u8)
theorem By_length (xs : List Int) : (By xs).length = xs.length := by simp [By]
theorem By_append (xs ys : List Int) : By (xs ++ ys) = By xs ++ By ys := by simp [By]
theorem By_one (xs : List Int) : ∀ u ∈ By xs, u.oneCell' = true := by
  intro u hu
  obtain ⟨x, _, rfl⟩ := List.mem_map.1 hu
  rfl

/-- Each is a byte. -/
def Ran (xs : List Int) : Prop := ∀ x ∈ xs, 0 ≤ x ∧ x ≤ 255
theorem Ran.append {xs ys : List Int} (h : Ran xs) (k : Ran ys) : Ran (xs ++ ys) := fun x hx => (List.mem_append.1 hx).elim (h x) (k x)
theorem Ran.nil : Ran [] := fun _ h => by cases h
theorem Ran.sub {xs ys : List Int} (h : Ran xs) (k : ∀ x ∈ ys, x ∈ xs) : Ran ys := fun x hx => h x (k x hx)

/-- A slice of bytes that reads as a list; nil let in. -/
def Bs (w : World) (A : Option Addr) (n : Nat) (xs : List Int) : Prop := Rd w A n (By xs) ∧ Ran xs

section
variable {w w' : World} {A : Option Addr} {n : Nat} {xs : List Int} {vs : List Value}

theorem Rd.at_ {k : Nat} (h : Rd w A n vs) (hk : k < n) : ∃ b off u, A = some ⟨b, off, none⟩ ∧ b < w.heap.size ∧ w.cell? ⟨b, off + k, none⟩ = some u ∧ Hid (vs[k]? = some u) := by
  obtain ⟨hl, hc⟩ := h
  obtain ⟨b, off, rfl, hb, hcell⟩ := hc (by omega)
  have hk' : k < vs.length := by omega
  exact ⟨b, off, vs[k], rfl, hb, hcell k _ (List.getElem?_eq_getElem hk'), List.getElem?_eq_getElem hk'⟩
theorem Rd.keep (h : Rd w A n vs) (hk : Below w.heap.size w w') : Rd w' A n vs := by
  obtain ⟨hl, hc⟩ := h
  refine ⟨hl, fun hn => ?_⟩
  obtain ⟨b, off, rfl, hb, hcell⟩ := hc hn
  refine ⟨b, off, rfl, Nat.lt_of_lt_of_le hb hk.size, fun j u hu => ?_⟩
  rw [hk.cell (p := ⟨b, off + j, none⟩) hb]; exact hcell j u hu
theorem Rd.nil_ : Rd w A 0 [] := ⟨rfl, fun h => absurd h (by omega)⟩

theorem Bs.len (h : Bs w A n xs) : xs.length = n := by have := h.1.1; simpa [By] using this
theorem Bs.at_ {k : Nat} (h : Bs w A n xs) (hk : k < n) : ∃ b off x, A = some ⟨b, off, none⟩ ∧ b < w.heap.size ∧ 0 ≤ x ∧ x ≤ 255 ∧ w.cell? ⟨b, off + k, none⟩ = some (.int .u8 x) ∧ Hid (xs[k]? = some x) := by
  obtain ⟨b, off, u, rfl, hb, hc, HU⟩ := h.1.at_ hk
  have hk' : k < xs.length := by have := h.len; omega
  have hx := h.2 xs[k] (List.getElem_mem hk')
  have hu := HU.out
  rw [By, List.getElem?_map, List.getElem?_eq_getElem hk'] at hu
  simp only [Option.map_some, Option.some.injEq] at hu
  subst hu
  exact ⟨b, off, xs[k], rfl, hb, hx.1, hx.2, hc, List.getElem?_eq_getElem hk'⟩
theorem Bs.keep (h : Bs w A n xs) (hk : Below w.heap.size w w') : Bs w' A n xs := ⟨h.1.keep hk, h.2⟩
theorem Bs.nil_ : Bs w A 0 [] := ⟨Rd.nil_, Ran.nil⟩
end

/-- The block of a slice's row. -/
def blk (A : Option Addr) : Option Nat := A.map (·.block)
/-- Only that slice's row, and what is new, has turned; the new slice lies in the old row or in a new block. -/
def Grows (w w' : World) (A A' : Option Addr) : Prop := w.grownBy w' (blk A) ∧ (blk A' = blk A ∨ ∃ g, blk A' = some g ∧ w.heap.size ≤ g)
theorem Grows.refl (w : World) (A : Option Addr) : Grows w w A A := ⟨⟨rfl, rfl, rfl, Nat.le_refl _, fun _ _ _ => rfl⟩, .inl rfl⟩
theorem Grows.size {w w' : World} {A A' : Option Addr} (h : Grows w w' A A') : w.heap.size ≤ w'.heap.size := h.1.size
theorem Grows.trans {w w1 w2 : World} {A A1 A2 : Option Addr} (h : Grows w w1 A A1) (k : Grows w1 w2 A1 A2) : Grows w w2 A A2 := by
  obtain ⟨g1, b1⟩ := h
  obtain ⟨g2, b2⟩ := k
  refine ⟨⟨g2.os.trans g1.os, g2.tape.trans g1.tape, g2.output.trans g1.output, Nat.le_trans g1.size g2.size, fun i hi hne => ?_⟩, ?_⟩
  · refine (g2.block i (Nat.lt_of_lt_of_le hi g1.size) ?_).trans (g1.block i hi hne)
    rcases b1 with b1 | ⟨g, b1, hg⟩
    · rw [b1]; exact hne
    · rw [b1]; intro e; injection e with e; omega
  · rcases b2 with b2 | ⟨g, b2, hg⟩
    · rcases b1 with b1 | ⟨g, b1, hg⟩
      · exact .inl (b2.trans b1)
      · exact .inr ⟨g, b2.trans b1, hg⟩
    · exact .inr ⟨g, b2, Nat.le_trans g1.size hg⟩
theorem Grows.pre {w w1 w2 : World} {A A2 : Option Addr} (h : Below w.heap.size w w1) (k : Grows w1 w2 A A2) : Grows w w2 A A2 :=
  Grows.trans ⟨⟨h.os, h.tape, h.output, h.size, fun i hi _ => h.block i hi⟩, .inl rfl⟩ k
theorem Grows.post {w w1 w2 : World} {A A1 : Option Addr} (h : Grows w w1 A A1) (k : Below w1.heap.size w1 w2) : Grows w w2 A A1 :=
  h.trans ⟨⟨k.os, k.tape, k.output, k.size, fun i hi _ => k.block i hi⟩, .inl rfl⟩
theorem Grows.below {w w' : World} {A A' : Option Addr} {B : Nat} (h : Grows w w' A A') (hB : B ≤ w.heap.size) (hr : ∀ k, blk A = some k → B ≤ k) : Below B w w' :=
  (Below.refl B w).grown h.1 hB hr

/-- A slice of the call's own, from block 'base' on. -/
def Own (w : World) (base : Nat) (e : TypeId) (A : Option Addr) (n c : Nat) (vs : List Value) : Prop := w.ownsRow base e 1 (.slice A n c) n vs

section
variable {P : Program} {w w' : World} {base : Nat} {e : TypeId} {A : Option Addr} {n c : Nat} {vs : List Value}
theorem Own.rd (h : Own w base e A n c vs) : Rd w A n vs := by
  refine ⟨by have := h.1; simpa using this, fun hn => ?_⟩
  obtain ⟨g, cap, hv, _, hlt⟩ := World.ownsRow.form h hn
  have hA : A = some ⟨g, 0, none⟩ := by injection hv
  subst hA
  refine ⟨g, 0, rfl, hlt, fun j u hu => ?_⟩
  have := World.ownsRow.cells h (g := g) rfl j u hu
  have e : (⟨g, 0, none⟩ : Addr).add j = ⟨g, 0 + j, none⟩ := by unfold Addr.add; split <;> simp_all
  rwa [e] at this
theorem Own.bs {xs : List Int} (h : Own w base e A n c (By xs)) (hr : Ran xs) : Bs w A n xs := ⟨h.rd, hr⟩
theorem Own.mono {b : Nat} (h : Own w base e A n c vs) (hb : b ≤ base) : Own w b e A n c vs := by
  refine ⟨h.1, ?_⟩
  rcases h.2 with h2 | ⟨g, cap, cur, hv, hg, r⟩
  · exact .inl h2
  · exact .inr ⟨g, cap, cur, hv, by omega, r⟩
theorem Own.lies (h : Own w base e A n c vs) : ∀ k, blk A = some k → base ≤ k ∧ k < w.heap.size := by
  intro k hk
  refine World.ownsRow.lt h k ?_
  cases A with
  | none => cases hk
  | some a => exact hk
theorem ownBlock_eq (A : Option Addr) (n c : Nat) : (Value.slice A n c).ownBlock = blk A := by cases A <;> rfl
theorem Own.kept {row : Option Nat} (h : Own w base e A n c vs) (hg : w.grownBy w' row) (hne : blk A = none ∨ blk A ≠ row) : Own w' base e A n c vs :=
  World.ownsRow.kept h hg (by rw [ownBlock_eq]; exact hne)
theorem Own.below {B : Nat} (h : Own w base e A n c vs) (hb : Below B w w') (hB : ∀ k, blk A = some k → k < B) : Own w' base e A n c vs := by
  refine ⟨h.1, ?_⟩
  rcases h.2 with h2 | ⟨g, cap, cur, hv, hg, hh, r⟩
  · exact .inl h2
  · refine .inr ⟨g, cap, cur, hv, hg, ?_, r⟩
    have hA : A = some ⟨g, 0, none⟩ := by injection hv
    rw [hb.block g (hB g (by rw [hA]; rfl))]; exact hh
theorem Own.alloc (h : Own w base e A n c vs) (o : Obj) : Own (w.alloc o) base e A n c vs := World.ownsRow.alloc h o
theorem Own.drewN (h : Own w base e A n c vs) (q : Nat) : Own (w.drewN q) base e A n c vs := h
theorem Own.nil_ : Own w base e none 0 0 [] := World.ownsRow_nil w base e 1
theorem below_grown {B : Nat} {a : World} {row : Option Nat} (h : Below B a w) (hg : w.grownBy w' row) (hB : B ≤ w.heap.size) (hr : ∀ k, row = some k → B ≤ k) : Below B a w' := h.grown hg hB hr

/-- append onto a slice of the call's own, from whatever slice that reads. -/
theorem run_append_rd (t ty : TypeId) (i : TypeInfo) (z : Value) (bytes : Nat) (ht : P.underlying t = some (.slice e)) (hi : P.info? e = some i) (hz : i.zero = some z)
    (hsize : i.size = 1) (hby : i.bytes = bytes) (hzs : z.cells.size = 1) (hown : Own w base e A n c vs)
    (A2 : Option Addr) (m c2 : Nat) (us : List Value) (hr : Rd w A2 m us) (h1 : ∀ u ∈ us, u.oneCell' = true)
    (h63 : n + m ≤ maxLen) (hbytes : (n + m) * bytes ≤ 140737488355328) (hbase : base ≤ w.heap.size) :
    ∃ A' c' w', (Builtin.append_ #[t, t] ty #[.slice A n c, .slice A2 m c2]).run P w = .ok (.slice A' (n + m) c') w' ∧ Own w' base e A' (n + m) c' (vs ++ us) ∧
      Grows w w' A A' := by
  have key : ∀ v' w', w'.ownsRow base e 1 v' (n + m) (vs ++ us) → (v'.ownBlock = (Value.slice A n c).ownBlock ∨ v'.ownBlock = some w.heap.size) →
      ∃ A' c', v' = .slice A' (n + m) c' ∧ Own w' base e A' (n + m) c' (vs ++ us) ∧ (blk A' = blk A ∨ blk A' = some w.heap.size) := by
    intro v' w' ho hb
    rcases ho.2 with ⟨rfl, h0⟩ | ⟨g, cap, cur, rfl, _⟩
    · refine ⟨none, 0, by rw [h0], ?_, ?_⟩
      · unfold Own; rw [h0] at ho ⊢; exact ho
      · rw [← ownBlock_eq A n c]; exact hb
    · refine ⟨some ⟨g, 0, none⟩, cap, rfl, ho, ?_⟩
      rw [← ownBlock_eq A n c]; exact hb
  rcases A2 with _ | ad
  · have hm : m = 0 := by
      rcases Nat.eq_zero_or_pos m with h0 | h0
      · exact h0
      · obtain ⟨_, _, h, _⟩ := hr.2 h0
        cases h
    subst hm
    have hus : us = [] := List.eq_nil_of_length_eq_zero hr.1
    subst hus
    have hrun : (Builtin.append_ #[t, t] ty #[.slice A n c, .slice none 0 c2]).run P w = .ok (.slice A n c) w := by
      rcases hown.2 with ⟨hv, h0⟩ | ⟨g, cap, cur, hv, _, _, hnc, _⟩
      · rw [hv]; simp [Builtin.append_, run_underlying ht, sizeOf, typeInfo, hi, Builtin.lenOf, Builtin.firstCells]
      · rw [hv]; simp [Builtin.append_, run_underlying ht, sizeOf, typeInfo, hi, Builtin.lenOf, Builtin.firstCells, hnc, storeCells]
    exact ⟨A, c, w, hrun, by simpa using hown, Grows.refl _ _⟩
  · have hcells : ∀ j u, us[j]? = some u → w.cell? (ad.add j) = some u := by
      intro j u hu
      have hj : 0 < m := by have := hr.1; have := (List.getElem?_eq_some_iff.1 hu).1; omega
      obtain ⟨b, off, hA, _, hc⟩ := hr.2 hj
      have : ad = ⟨b, off, none⟩ := by injection hA
      subst this
      have e : (⟨b, off, none⟩ : Addr).add j = ⟨b, off + j, none⟩ := by unfold Addr.add; split <;> simp_all
      rw [e]; exact hc j u hu
    obtain ⟨v', w', hrun, ho, hg, _, hb⟩ := run_append_own_at (P := P) w base t ty e i z 1 bytes ht hi hz hsize hby hzs (by decide) (.slice A n c) n vs hown ad m c2 us (by rw [hr.1]; simp) hcells h1 h63 hbytes hbase
    obtain ⟨A', c', rfl, h2, h3⟩ := key v' w' ho hb
    exact ⟨A', c', w', hrun, h2, by rw [← ownBlock_eq A n c]; exact hg, h3.imp id fun h => ⟨_, h, Nat.le_refl _⟩⟩

theorem wp_append_rd {o : Oper} {a : Act} {K : Act → World → Prop} {Q : Exit → Act → World → Prop} (s x : Operand) (t : TypeId)
    (ho : o.op = .call { callee := .builtin .append, args := #[s, x], argTypes := #[t, t] })
    (i : TypeInfo) (z : Value) (bytes : Nat) (ht : P.underlying t = some (.slice e)) (hi : P.info? e = some i) (hz : i.zero = some z)
    (hsize : i.size = 1) (hby : i.bytes = bytes) (hzs : z.cells.size = 1) (hs : a.eval s = .slice A n c) (hown : Own w base e A n c vs)
    (A2 : Option Addr) (m c2 : Nat) (us : List Value) (hx : a.eval x = .slice A2 m c2) (hr : Rd w A2 m us) (h1 : ∀ u ∈ us, u.oneCell' = true)
    (h63 : n + m ≤ maxLen) (hbytes : (n + m) * bytes ≤ 140737488355328) (hbase : base ≤ w.heap.size)
    (h : ∀ A' c' w', Own w' base e A' (n + m) c' (vs ++ us) → Grows w w' A A' → K (a.put o.dst (.slice A' (n + m) c')) w') : o.wp P a w K Q := by
  obtain ⟨A', c', w', hrun, h2, h3⟩ := run_append_rd (P := P) t o.type i z bytes ht hi hz hsize hby hzs hown A2 m c2 us hr h1 h63 hbytes hbase
  unfold Oper.wp execOp
  simp only [ho, resolve, invoke, builtin, Sem.run_bind, Sem.run_pure, Result.andThen_ok, List.map_toArray, List.map_cons, List.map_nil, hs, hx, hrun]
  exact h A' c' w' h2 h3

theorem wpList_append_rd {ops : Array Oper} {rest : List Oper} {o : Oper} {a : Act} {Q : Exit → Act → World → Prop} (hgd : o.guard = none) (s x : Operand) (t : TypeId)
    (ho : o.op = .call { callee := .builtin .append, args := #[s, x], argTypes := #[t, t] })
    (i : TypeInfo) (z : Value) (bytes : Nat) (ht : P.underlying t = some (.slice e)) (hi : P.info? e = some i) (hz : i.zero = some z)
    (hsize : i.size = 1) (hby : i.bytes = bytes) (hzs : z.cells.size = 1) (hs : a.eval s = .slice A n c) (hown : Own w base e A n c vs)
    (A2 : Option Addr) (m c2 : Nat) (us : List Value) (hx : a.eval x = .slice A2 m c2) (hr : Rd w A2 m us) (h1 : ∀ u ∈ us, u.oneCell' = true)
    (h63 : n + m ≤ maxLen) (hbytes : (n + m) * bytes ≤ 140737488355328) (hbase : base ≤ w.heap.size)
    (h : ∀ A' c' w', Own w' base e A' (n + m) c' (vs ++ us) → Grows w w' A A' → wpList P ops Q rest (a.put o.dst (.slice A' (n + m) c')) w') :
    wpList P ops Q (o :: rest) a w :=
  wpList_plain hgd fun _ hK => wp_append_rd s x t ho i z bytes ht hi hz hsize hby hzs hs hown A2 m c2 us hx hr h1 h63 hbytes hbase fun A' c' w' h2 h3 => hK _ _ (h A' c' w' h2 h3)

theorem step_append_rd {ops : Array Oper} {o : Oper} {a : Act} {K : Act → World → Prop} {Q : Exit → Act → World → Prop} {E : Prop} (hgd : o.guard = none) (s x : Operand) (t : TypeId)
    (ho : o.op = .call { callee := .builtin .append, args := #[s, x], argTypes := #[t, t] })
    (i : TypeInfo) (z : Value) (bytes : Nat) (ht : P.underlying t = some (.slice e)) (hi : P.info? e = some i) (hz : i.zero = some z)
    (hsize : i.size = 1) (hby : i.bytes = bytes) (hzs : z.cells.size = 1) (hs : a.eval s = .slice A n c) (hown : Own w base e A n c vs)
    (A2 : Option Addr) (m c2 : Nat) (us : List Value) (hx : a.eval x = .slice A2 m c2) (hr : Rd w A2 m us) (h1 : ∀ u ∈ us, u.oneCell' = true)
    (h63 : n + m ≤ maxLen) (hbytes : (n + m) * bytes ≤ 140737488355328) (hbase : base ≤ w.heap.size)
    (h : ∀ A' c' w', Own w' base e A' (n + m) c' (vs ++ us) → Grows w w' A A' → K (a.put o.dst (.slice A' (n + m) c')) w') :
    if Region.wanted o (yielded ops a.tmps) = true then Oper.wp P o a w K Q else E := by
  have hw : Region.wanted o (yielded ops a.tmps) = true := by simp [Region.wanted, hgd]
  rw [if_pos hw]
  exact wp_append_rd s x t ho i z bytes ht hi hz hsize hby hzs hs hown A2 m c2 us hx hr h1 h63 hbytes hbase h
end

/-- A row of noughts, behind a name. -/
def zer (n : Nat) : List Value := List.replicate n (.int .u8 0)
def zerA (n : Nat) : Array Value := (zer n).toArray
theorem run_make_bytes {P : Program} (t e : TypeId) (i : TypeInfo) (ht : P.underlying t = some (.slice e)) (hi : P.info? e = some i) (hz : i.zero = some (.int .u8 0)) (hsize : i.size = 1) (hby : i.bytes = 1)
    (l : Int) (n : Nat) (hl : l = (n : Int)) (hb : n ≤ 281474976710656) (w : World) :
    (Instr.makeSlice t (.int .i64 l) (.int .i64 l)).run P w = .ok (.slice (some ⟨w.heap.size, 0, none⟩) n n) (w.alloc (.cells (zerA n) e)) := by
  subst hl
  rw [run_make w t e i _ ht hi hz .i64 .i64 (n : Int) (n : Int) (by omega) (by omega) (by rw [hby]; omega) (by omega)]
  have e1 : madeCells (Value.cells (.int .u8 0)) (((n : Int)).toNat * i.size) = zerA n := by
    rw [hsize, Nat.mul_one, Int.toNat_natCast]
    apply Array.toList_inj.1
    show (madeCells #[.int .u8 0] n).toList = _
    rw [toList_madeCells_one]; rfl
  rw [e1, Int.toNat_natCast]
/-- A block that is known whole owns its cells. -/
theorem Own.of_block {w : World} {base g n : Nat} {e : TypeId} {vs : List Value} (h : w.heap[g]? = some (.cells vs.toArray e (0, 0))) (hb : base ≤ g) (hn : vs.length = n) (hm : n ≤ maxLen) : Own w base e (some ⟨g, 0, none⟩) n n vs :=
  ⟨by simpa using hn, .inr ⟨g, n, vs.toArray, rfl, hb, h, Nat.le_refl _, hm, by simpa using hn, by simp [← hn]⟩⟩

theorem Rd.of_block {w : World} {g n : Nat} {t : TypeId} {cs : Array Value} {fr : Nat × Nat} (h : w.heap[g]? = some (.cells cs t fr)) (hn : cs.size = n) : Rd w (some ⟨g, 0, none⟩) n cs.toList := by
  refine ⟨by simpa using hn, fun _ => ⟨g, 0, rfl, (Array.getElem?_eq_some_iff.1 h).1, fun j u hu => ?_⟩⟩
  rw [Nat.zero_add, cell_of_row w g j cs t fr h]
  simpa using hu

/-- Only draws were made. -/
def Dr (w w' : World) : Prop := ∃ q, w' = w.drewN q
theorem Dr.refl (w : World) : Dr w w := ⟨0, rfl⟩
theorem Dr.n {a w : World} (h : Dr a w) (q : Nat) : Dr a (w.drewN q) := by
  obtain ⟨k, rfl⟩ := h
  exact ⟨k + q, World.drewN_drewN ..⟩
theorem Dr.one {a w : World} (h : Dr a w) : Dr a w.drew := h.n 1
theorem Dr.trans {a b c : World} (h : Dr a b) (k : Dr b c) : Dr a c := by
  obtain ⟨q, rfl⟩ := k
  exact h.n q
theorem Dr.below {a b : World} (h : Dr a b) (B : Nat) : Below B a b := by
  obtain ⟨q, rfl⟩ := h
  exact ⟨rfl, rfl, rfl, Nat.le_refl _, fun _ _ => rfl⟩
theorem below_n {B : Nat} {a w : World} (h : Below B a w) (q : Nat) : Below B a (w.drewN q) := ⟨h.os, h.tape, h.output, h.size, h.block⟩

theorem Bs.dr {w w' : World} {A : Option Addr} {n : Nat} {xs : List Int} (h : Bs w A n xs) (hd : Dr w w') : Bs w' A n xs := by
  obtain ⟨q, rfl⟩ := hd
  exact h
theorem Dr.size {w w' : World} (hd : Dr w w') : w'.heap.size = w.heap.size := by
  obtain ⟨q, rfl⟩ := hd
  rfl

/-! Calls that leave the world alone, or only draw, inside a region that draws. -/
theorem still_call {P : Program} {f : FuncId} {args : Array Value} {v : Value} (h : ∀ W : World, Calls P f args W fun e w' => e = .returned v ∧ W = w') {w : World} {k : Nat} :
    Calls P f args (w.drewN k) fun e w'' => e = .returned v ∧ ∃ m, w'' = w.drewN m :=
  (h _).mono fun _ _ ⟨he, hm⟩ => ⟨he, k, hm.symm⟩
theorem still_call_add {P : Program} {f : FuncId} {args : Array Value} {v : Value} (h : ∀ W : World, Calls P f args W fun e w' => e = .returned v ∧ W = w') {w : World} {k l : Nat} :
    Calls P f args (w.drewN (k + l)) fun e w'' => e = .returned v ∧ ∃ m, w'' = w.drewN (k + m) :=
  (h _).mono fun _ _ ⟨he, hm⟩ => ⟨he, l, hm.symm⟩

theorem draw_call {P : Program} {f : FuncId} {args : Array Value} {v : Value} {w : World} {k : Nat} (h : Calls P f args (w.drewN k) fun e w' => e = .returned v ∧ Dr (w.drewN k) w') :
    Calls P f args (w.drewN k) fun e w'' => e = .returned v ∧ ∃ m, w'' = w.drewN m :=
  h.mono fun _ _ ⟨he, hm⟩ => ⟨he, ((Dr.refl w).n k).trans hm⟩
theorem draw_call_add {P : Program} {f : FuncId} {args : Array Value} {v : Value} {w : World} {k l : Nat} (h : Calls P f args (w.drewN (k + l)) fun e w' => e = .returned v ∧ Dr (w.drewN (k + l)) w') :
    Calls P f args (w.drewN (k + l)) fun e w'' => e = .returned v ∧ ∃ m, w'' = w.drewN (k + m) :=
  h.mono fun _ _ ⟨he, q, hm⟩ => ⟨he, l + q, by rw [hm, World.drewN_drewN, Nat.add_assoc]⟩

theorem ret_int {k : IntKind} {a b : Int} (h : a = b) : Ending.returned (.int k a) = .returned (.int k b) := by rw [h]
theorem ret_bool {a b : Bool} (h : a = b) : Ending.returned (.bool a) = .returned (.bool b) := by rw [h]

/-- The order of lists of numbers. -/
def cmpI (a b : Int) : Int := if a < b then -1 else if b < a then 1 else 0
def cmpL : List Int → List Int → Int
  | [], [] => 0
  | [], _ :: _ => -1
  | _ :: _, [] => 1
  | a :: as, b :: bs => if a < b then -1 else if b < a then 1 else cmpL as bs

theorem cmpL_drop_eq {xs ys : List Int} {k : Nat} {x : Int} (hx : xs[k]? = some x) (hy : ys[k]? = some x) : cmpL (xs.drop k) (ys.drop k) = cmpL (xs.drop (k + 1)) (ys.drop (k + 1)) := by
  obtain ⟨h1, e1⟩ := List.getElem?_eq_some_iff.1 hx
  obtain ⟨h2, e2⟩ := List.getElem?_eq_some_iff.1 hy
  rw [List.drop_eq_getElem_cons h1, List.drop_eq_getElem_cons h2, e1, e2]
  simp [cmpL]

theorem cmpL_drop_ne {xs ys : List Int} {k : Nat} {x y : Int} (hx : xs[k]? = some x) (hy : ys[k]? = some y) (h : x ≠ y) : cmpL (xs.drop k) (ys.drop k) = cmpI x y := by
  obtain ⟨h1, e1⟩ := List.getElem?_eq_some_iff.1 hx
  obtain ⟨h2, e2⟩ := List.getElem?_eq_some_iff.1 hy
  rw [List.drop_eq_getElem_cons h1, List.drop_eq_getElem_cons h2, e1, e2]
  unfold cmpI; simp only [cmpL]
  by_cases h3 : x < y
  · simp [h3]
  · have : y < x := by omega
    simp [h3, this]

theorem cmpL_end {xs ys : List Int} {k : Nat} (hk : k = min xs.length ys.length) : cmpL (xs.drop k) (ys.drop k) = cmpI xs.length ys.length := by
  unfold cmpI
  by_cases h : xs.length < ys.length
  · have e : xs.drop k = [] := List.drop_eq_nil_of_le (by omega)
    have h2 : k < ys.length := by omega
    rw [e, List.drop_eq_getElem_cons h2]; simp [cmpL]; omega
  · by_cases h' : ys.length < xs.length
    · have e : ys.drop k = [] := List.drop_eq_nil_of_le (by omega)
      have h2 : k < xs.length := by omega
      rw [e, List.drop_eq_getElem_cons h2]; simp [cmpL]; omega
    · have e : xs.drop k = [] := List.drop_eq_nil_of_le (by omega)
      have e' : ys.drop k = [] := List.drop_eq_nil_of_le (by omega)
      rw [e, e']; simp [cmpL]; omega

/-- Is a key from one on and below another (empty: no end)? -/
def inL (k f t : List Int) : Bool := decide (0 ≤ cmpL k f) && (decide (t.length = 0) || decide (cmpL k t < 0))

theorem cmpL_swap : ∀ xs ys : List Int, cmpL ys xs = - cmpL xs ys
  | [], [] => by simp [cmpL]
  | [], _ :: _ => by simp [cmpL]
  | _ :: _, [] => by simp [cmpL]
  | a :: as, b :: bs => by
    have h := cmpL_swap as bs
    simp only [cmpL]
    by_cases h1 : a < b
    · have : ¬ b < a := by omega
      simp [h1, this]
    · by_cases h2 : b < a <;> simp [h1, h2, h]

theorem cmpL_self : ∀ xs : List Int, cmpL xs xs = 0
  | [] => by simp [cmpL]
  | a :: as => by simp [cmpL, cmpL_self as]
theorem cmpL_zero : ∀ {xs ys : List Int}, cmpL xs ys = 0 → xs = ys
  | [], [], _ => rfl
  | [], _ :: _, h => by simp [cmpL] at h
  | _ :: _, [], h => by simp [cmpL] at h
  | a :: as, b :: bs, h => by
    simp only [cmpL] at h
    by_cases h1 : a < b
    · simp [h1] at h
    · by_cases h2 : b < a
      · simp [h1, h2] at h
      · simp only [h1, h2, if_false] at h
        have : a = b := by omega
        rw [this, cmpL_zero h]
theorem cmpL_eq_zero (xs ys : List Int) : (cmpL xs ys == 0) = decide (xs = ys) := by
  by_cases h : xs = ys
  · subst h; simp [cmpL_self]
  · have : ¬ cmpL xs ys = 0 := fun e => h (cmpL_zero e)
    simp [h, this]
theorem cmpL_range : ∀ xs ys : List Int, -1 ≤ cmpL xs ys ∧ cmpL xs ys ≤ 1
  | [], [] => by simp [cmpL]
  | [], _ :: _ => by simp [cmpL]
  | _ :: _, [] => by simp [cmpL]
  | a :: as, b :: bs => by
    have h := cmpL_range as bs
    simp only [cmpL]
    by_cases h1 : a < b
    · simp [h1]
    · by_cases h2 : b < a
      · simp [h1, h2]
      · simp only [h1, h2, if_false]; exact h
theorem cmpL_after : ∀ xs : List Int, cmpL xs (xs ++ [0]) = -1
  | [] => by simp [cmpL]
  | a :: as => by simp [cmpL, cmpL_after as]
theorem cmpL_least : ∀ {xs ys : List Int}, Ran ys → cmpL xs ys < 0 → cmpL (xs ++ [0]) ys ≤ 0
  | [], [], _, h => by simp [cmpL] at h
  | [], b :: bs, hr, _ => by
    have hb := hr b (by simp)
    simp only [List.nil_append, cmpL]
    by_cases h1 : (0 : Int) < b
    · simp [h1]
    · have h2 : ¬ b < 0 := by omega
      simp only [h1, h2, if_false]
      cases bs <;> simp [cmpL]
  | _ :: _, [], _, h => by simp [cmpL] at h
  | a :: as, b :: bs, hr, h => by
    simp only [List.cons_append, cmpL] at h ⊢
    by_cases h1 : a < b
    · simp [h1]
    · by_cases h2 : b < a
      · simp [h1, h2] at h
      · simp only [h1, h2, if_false] at h ⊢
        exact cmpL_least (fun x hx => hr x (by simp [hx])) h

theorem cmpI_range (a b : Int) : cmpI a b = -1 ∨ cmpI a b = 0 ∨ cmpI a b = 1 := by
  unfold cmpI
  split
  · simp
  · split <;> simp
end Go.Proofs.YtlphlogliphhdaaDoor
