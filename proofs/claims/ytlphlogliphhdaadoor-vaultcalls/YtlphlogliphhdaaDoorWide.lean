/- Rows of wide elements. -/
import Derived.Test.YtlphlogliphhdaaDoorBss
import Derived.Maps.AppendAt
namespace Go.Proofs.YtlphlogliphhdaaDoor
set_option linter.unusedVariables false
set_option linter.unusedSimpArgs false
open Go.RowKit

/-- A row of the call's own, with elements of s cells. -/
def OwnK (s : Nat) (w : World) (base : Nat) (e : TypeId) (A : Option Addr) (n c : Nat) (vs : List Value) : Prop := w.ownsRow base e s (.slice A n c) n vs
section
variable {P : Program} {s : Nat} {w w' : World} {base : Nat} {e : TypeId} {A : Option Addr} {n c : Nat} {vs : List Value}
theorem OwnK.nil_ : OwnK s w base e none 0 0 [] := World.ownsRow_nil w base e s
theorem OwnK.mono {b : Nat} (h : OwnK s w base e A n c vs) (hb : b ≤ base) : OwnK s w b e A n c vs := by
  refine ⟨h.1, ?_⟩
  rcases h.2 with h2 | ⟨g, cap, cur, hv, hg, r⟩
  · exact .inl h2
  · exact .inr ⟨g, cap, cur, hv, by omega, r⟩
theorem OwnK.lies (h : OwnK s w base e A n c vs) : ∀ k, blk A = some k → base ≤ k ∧ k < w.heap.size := by
  intro k hk
  refine World.ownsRow.lt h k ?_
  cases A with
  | none => cases hk
  | some a => exact hk
theorem OwnK.kept {row : Option Nat} (h : OwnK s w base e A n c vs) (hg : w.grownBy w' row) (hne : blk A = none ∨ blk A ≠ row) : OwnK s w' base e A n c vs :=
  World.ownsRow.kept h hg (by rw [ownBlock_eq]; exact hne)
theorem OwnK.onl {g : Nat} (h : OwnK s w base e A n c vs) (hg : Onl g w w') (hne : blk A ≠ some g) : OwnK s w' base e A n c vs := h.kept hg (.inr hne)
theorem OwnK.alloc (h : OwnK s w base e A n c vs) (o : Obj) : OwnK s (w.alloc o) base e A n c vs := World.ownsRow.alloc h o
theorem OwnK.below {B : Nat} (h : OwnK s w base e A n c vs) (hb : Below B w w') (hB : ∀ k, blk A = some k → k < B) : OwnK s w' base e A n c vs := by
  refine ⟨h.1, ?_⟩
  rcases h.2 with h2 | ⟨g, cap, cur, hv, hg, hh, r⟩
  · exact .inl h2
  · refine .inr ⟨g, cap, cur, hv, hg, ?_, r⟩
    have hA : A = some ⟨g, 0, none⟩ := by injection hv
    rw [hb.block g (hB g (by rw [hA]; rfl))]; exact hh
theorem OwnK.keep (h : OwnK s w base e A n c vs) (hb : Below w.heap.size w w') : OwnK s w' base e A n c vs := h.below hb fun k hk => (h.lies k hk).2
theorem OwnK.ne_blk {t : TypeId} {L : Nat} {cs : Array Value} {fr : Nat × Nat} (h : OwnK s w base e A n c vs) (hL : w.heap[L]? = some (.cells cs t fr)) (ht : t ≠ e) : blk A ≠ some L := by
  intro he
  rcases h.2 with ⟨hv, _⟩ | ⟨g, cap, cur, hv, _, hh, _⟩
  · have : A = none := by injection hv
    subst this; cases he
  · have hA : A = some ⟨g, 0, none⟩ := by injection hv
    subst hA
    simp only [blk, Option.map_some, Option.some.injEq] at he
    subst he
    rw [hL] at hh
    injection hh with hh
    injection hh with _ hh
    exact ht hh
theorem OwnK.cap (h : OwnK s w base e A n c vs) : n ≤ c := by
  rcases h.2 with ⟨hv, h0⟩ | ⟨g, cap, cur, hv, _, _, hh, _⟩
  · omega
  · have : c = cap := by injection hv
    omega
theorem OwnK.len (h : OwnK s w base e A n c vs) : vs.length = n * s := h.1
/-- Its cells, where it isn't empty. -/
theorem OwnK.cells (h : OwnK s w base e A n c vs) (hn : 0 < n) : ∃ g, A = some ⟨g, 0, none⟩ ∧ base ≤ g ∧ g < w.heap.size ∧ ∀ j u, vs[j]? = some u → w.cell? ⟨g, j, none⟩ = some u := by
  obtain ⟨g, cap, hv, hg, hlt⟩ := World.ownsRow.form h hn
  have hA : A = some ⟨g, 0, none⟩ := by injection hv
  subst hA
  refine ⟨g, rfl, (h.lies g rfl).1, hlt, fun j u hu => ?_⟩
  have := World.ownsRow.cells h (g := g) rfl j u hu
  have e : (⟨g, 0, none⟩ : Addr).add j = ⟨g, j, none⟩ := by unfold Addr.add; split <;> simp_all
  rwa [e] at this
theorem run_append_wide (t ty : TypeId) (i : TypeInfo) (z : Value) (bytes : Nat) (ht : P.underlying t = some (.slice e)) (hi : P.info? e = some i) (hz : i.zero = some z)
    (hsize : i.size = s) (hby : i.bytes = bytes) (hzs : z.cells.size = s) (hs0 : 0 < s) (hown : OwnK s w base e A n c vs)
    (b off m c2 : Nat) (us : List Value) (hl : us.length = m * s) (hr : ∀ j u, us[j]? = some u → w.cell? ⟨b, off + j, none⟩ = some u) (h1 : ∀ u ∈ us, u.oneCell' = true)
    (h63 : n + m ≤ maxLen) (hbytes : (n + m) * bytes ≤ 140737488355328) (hbase : base ≤ w.heap.size) :
    ∃ A' c' w', (Builtin.append_ #[t, t] ty #[.slice A n c, .slice (some ⟨b, off, none⟩) m c2]).run P w = .ok (.slice A' (n + m) c') w' ∧ OwnK s w' base e A' (n + m) c' (vs ++ us) ∧ Grows w w' A A' := by
  have hcells : ∀ j u, us[j]? = some u → w.cell? ((⟨b, off, none⟩ : Addr).add j) = some u := by
    intro j u hu
    have e : (⟨b, off, none⟩ : Addr).add j = ⟨b, off + j, none⟩ := by unfold Addr.add; split <;> simp_all
    rw [e]; exact hr j u hu
  obtain ⟨v', w', hrun, ho, hg, _, hb⟩ := run_append_own_at (P := P) w base t ty e i z s bytes ht hi hz hsize hby hzs hs0 (.slice A n c) n vs hown ⟨b, off, none⟩ m c2 us hl hcells h1 h63 hbytes hbase
  have key : ∃ A' c', v' = .slice A' (n + m) c' ∧ OwnK s w' base e A' (n + m) c' (vs ++ us) ∧ (blk A' = blk A ∨ blk A' = some w.heap.size) := by
    rcases ho.2 with ⟨rfl, h0⟩ | ⟨g, cap, cur, rfl, _⟩
    · refine ⟨none, 0, by rw [h0], ?_, ?_⟩
      · unfold OwnK; rw [h0] at ho ⊢; exact ho
      · rw [← ownBlock_eq A n c]; exact hb
    · refine ⟨some ⟨g, 0, none⟩, cap, rfl, ho, ?_⟩
      rw [← ownBlock_eq A n c]; exact hb
  obtain ⟨A', c', rfl, h2, h3⟩ := key
  exact ⟨A', c', w', hrun, h2, by rw [← ownBlock_eq A n c]; exact hg, h3.imp id fun h => ⟨_, h, Nat.le_refl _⟩⟩
theorem wp_append_wide {o : Oper} {a : Act} {K : Act → World → Prop} {Q : Exit → Act → World → Prop} (sl x : Operand) (t : TypeId)
    (ho : o.op = .call { callee := .builtin .append, args := #[sl, x], argTypes := #[t, t] })
    (i : TypeInfo) (z : Value) (bytes : Nat) (ht : P.underlying t = some (.slice e)) (hi : P.info? e = some i) (hz : i.zero = some z)
    (hsize : i.size = s) (hby : i.bytes = bytes) (hzs : z.cells.size = s) (hs0 : 0 < s) (hs : a.eval sl = .slice A n c) (hown : OwnK s w base e A n c vs)
    (b off m c2 : Nat) (us : List Value) (hx : a.eval x = .slice (some ⟨b, off, none⟩) m c2) (hl : us.length = m * s) (hr : ∀ j u, us[j]? = some u → w.cell? ⟨b, off + j, none⟩ = some u) (h1 : ∀ u ∈ us, u.oneCell' = true)
    (h63 : n + m ≤ maxLen) (hbytes : (n + m) * bytes ≤ 140737488355328) (hbase : base ≤ w.heap.size)
    (h : ∀ A' c' w', OwnK s w' base e A' (n + m) c' (vs ++ us) → Grows w w' A A' → K (a.put o.dst (.slice A' (n + m) c')) w') : o.wp P a w K Q := by
  obtain ⟨A', c', w', hrun, h2, h3⟩ := run_append_wide (P := P) t o.type i z bytes ht hi hz hsize hby hzs hs0 hown b off m c2 us hl hr h1 h63 hbytes hbase
  unfold Oper.wp execOp
  simp only [ho, resolve, invoke, builtin, Sem.run_bind, Sem.run_pure, Result.andThen_ok, List.map_toArray, List.map_cons, List.map_nil, hs, hx, hrun]
  exact h A' c' w' h2 h3
theorem wpList_append_wide {ops : Array Oper} {rest : List Oper} {o : Oper} {a : Act} {Q : Exit → Act → World → Prop} (hgd : o.guard = none) (sl x : Operand) (t : TypeId)
    (ho : o.op = .call { callee := .builtin .append, args := #[sl, x], argTypes := #[t, t] })
    (i : TypeInfo) (z : Value) (bytes : Nat) (ht : P.underlying t = some (.slice e)) (hi : P.info? e = some i) (hz : i.zero = some z)
    (hsize : i.size = s) (hby : i.bytes = bytes) (hzs : z.cells.size = s) (hs0 : 0 < s) (hs : a.eval sl = .slice A n c) (hown : OwnK s w base e A n c vs)
    (b off m c2 : Nat) (us : List Value) (hx : a.eval x = .slice (some ⟨b, off, none⟩) m c2) (hl : us.length = m * s) (hr : ∀ j u, us[j]? = some u → w.cell? ⟨b, off + j, none⟩ = some u) (h1 : ∀ u ∈ us, u.oneCell' = true)
    (h63 : n + m ≤ maxLen) (hbytes : (n + m) * bytes ≤ 140737488355328) (hbase : base ≤ w.heap.size)
    (h : ∀ A' c' w', OwnK s w' base e A' (n + m) c' (vs ++ us) → Grows w w' A A' → wpList P ops Q rest (a.put o.dst (.slice A' (n + m) c')) w') :
    wpList P ops Q (o :: rest) a w :=
  wpList_plain hgd fun _ hK => wp_append_wide sl x t ho i z bytes ht hi hz hsize hby hzs hs0 hs hown b off m c2 us hx hl hr h1 h63 hbytes hbase fun A' c' w' h2 h3 => hK _ _ (h A' c' w' h2 h3)
theorem step_append_wide {ops : Array Oper} {o : Oper} {a : Act} {K : Act → World → Prop} {Q : Exit → Act → World → Prop} {E : Prop} (hgd : o.guard = none) (sl x : Operand) (t : TypeId)
    (ho : o.op = .call { callee := .builtin .append, args := #[sl, x], argTypes := #[t, t] })
    (i : TypeInfo) (z : Value) (bytes : Nat) (ht : P.underlying t = some (.slice e)) (hi : P.info? e = some i) (hz : i.zero = some z)
    (hsize : i.size = s) (hby : i.bytes = bytes) (hzs : z.cells.size = s) (hs0 : 0 < s) (hs : a.eval sl = .slice A n c) (hown : OwnK s w base e A n c vs)
    (b off m c2 : Nat) (us : List Value) (hx : a.eval x = .slice (some ⟨b, off, none⟩) m c2) (hl : us.length = m * s) (hr : ∀ j u, us[j]? = some u → w.cell? ⟨b, off + j, none⟩ = some u) (h1 : ∀ u ∈ us, u.oneCell' = true)
    (h63 : n + m ≤ maxLen) (hbytes : (n + m) * bytes ≤ 140737488355328) (hbase : base ≤ w.heap.size)
    (h : ∀ A' c' w', OwnK s w' base e A' (n + m) c' (vs ++ us) → Grows w w' A A' → K (a.put o.dst (.slice A' (n + m) c')) w') :
    if Region.wanted o (yielded ops a.tmps) = true then Oper.wp P o a w K Q else E := by
  have hw : Region.wanted o (yielded ops a.tmps) = true := by simp [Region.wanted, hgd]
  rw [if_pos hw]
  exact wp_append_wide sl x t ho i z bytes ht hi hz hsize hby hzs hs0 hs hown b off m c2 us hx hl hr h1 h63 hbytes hbase h
/-- append of nothing. -/
theorem run_append_none (t ty : TypeId) (i : TypeInfo) (ht : P.underlying t = some (.slice e)) (hi : P.info? e = some i) (hown : OwnK s w base e A n c vs) (c2 : Nat) :
    (Builtin.append_ #[t, t] ty #[.slice A n c, .slice none 0 c2]).run P w = .ok (.slice A n c) w := by
  rcases hown.2 with ⟨hv, h0⟩ | ⟨g, cap, cur, hv, _, _, hnc, _⟩
  · rw [hv]; simp [Builtin.append_, run_underlying ht, sizeOf, typeInfo, hi, Builtin.lenOf, Builtin.firstCells]
  · rw [hv]; simp [Builtin.append_, run_underlying ht, sizeOf, typeInfo, hi, Builtin.lenOf, Builtin.firstCells, hnc, storeCells]
/-- A slice of wide elements that reads. -/
def RdW (s : Nat) (w : World) (Pd : Nat → Prop) (A : Option Addr) (n : Nat) (us : List Value) : Prop :=
  us.length = n * s ∧ (0 < n → ∃ b off, A = some ⟨b, off, none⟩ ∧ Pd b ∧ b < w.heap.size ∧ ∀ j u, us[j]? = some u → w.cell? ⟨b, off + j, none⟩ = some u)
theorem wpList_append_rw {ops : Array Oper} {rest : List Oper} {o : Oper} {a : Act} {Q : Exit → Act → World → Prop} (hgd : o.guard = none) (sl x : Operand) (t : TypeId)
    (ho : o.op = .call { callee := .builtin .append, args := #[sl, x], argTypes := #[t, t] })
    (i : TypeInfo) (z : Value) (bytes : Nat) (ht : P.underlying t = some (.slice e)) (hi : P.info? e = some i) (hz : i.zero = some z)
    (hsize : i.size = s) (hby : i.bytes = bytes) (hzs : z.cells.size = s) (hs0 : 0 < s) (hs : a.eval sl = .slice A n c) (hown : OwnK s w base e A n c vs)
    (Pd : Nat → Prop) (A2 : Option Addr) (m c2 : Nat) (us : List Value) (hx : a.eval x = .slice A2 m c2) (hr : RdW s w Pd A2 m us) (hA2 : A2 = none ∨ ∃ b off, A2 = some ⟨b, off, none⟩) (h1 : ∀ u ∈ us, u.oneCell' = true)
    (h63 : n + m ≤ maxLen) (hbytes : (n + m) * bytes ≤ 140737488355328) (hbase : base ≤ w.heap.size)
    (h : ∀ A' c' w', OwnK s w' base e A' (n + m) c' (vs ++ us) → Grows w w' A A' → wpList P ops Q rest (a.put o.dst (.slice A' (n + m) c')) w') :
    wpList P ops Q (o :: rest) a w := by
  rcases hA2 with rfl | ⟨b, off, rfl⟩
  · have hm : m = 0 := by
      rcases Nat.eq_zero_or_pos m with h0 | h0
      · exact h0
      · obtain ⟨_, _, h, _⟩ := hr.2 h0; cases h
    subst hm
    have hus : us = [] := List.eq_nil_of_length_eq_zero (by rw [hr.1, Nat.zero_mul])
    subst hus
    have hrun := run_append_none (P := P) t o.type i ht hi hown c2
    refine wpList_plain hgd fun K hK => ?_
    unfold Oper.wp execOp
    simp only [ho, resolve, invoke, builtin, Sem.run_bind, Sem.run_pure, Result.andThen_ok, List.map_toArray, List.map_cons, List.map_nil, hs, hx, hrun]
    exact hK _ _ (h A c w (by simpa using hown) (Grows.refl _ _))
  · refine wpList_append_wide hgd sl x t ho i z bytes ht hi hz hsize hby hzs hs0 hs hown b off m c2 us hx hr.1 (fun j u hu => ?_) h1 h63 hbytes hbase h
    rcases Nat.eq_zero_or_pos m with h0 | h0
    · subst h0
      have := hr.1
      have hj := (List.getElem?_eq_some_iff.1 hu).1
      omega
    · obtain ⟨b', off', he, _, _, hc⟩ := hr.2 h0
      injection he with he
      injection he with e1 e2
      subst e1; subst e2
      exact hc j u hu
end
end Go.Proofs.YtlphlogliphhdaaDoor
