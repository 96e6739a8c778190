/- The closures of take: one three more. -/
import Derived.Test.YtmjjbfcblmmipaaEff
import Derived.Deep.RegionHeld3
namespace Go.Proofs.Ytmjjbfcblmmipaa
set_option linter.unusedVariables false
set_option linter.unusedSimpArgs false
open Go.RowKit

theorem info61 : (Try.prog.info? 61).map (fun i => (i.zero, i.size, i.bytes)) = some (some (.agg #[.slice none 0 0, .slice none 0 0, .bool false]), 3, 56) := by kernel_rfl
theorem info99 : (Try.prog.info? 99).map (fun i => (i.zero, i.size, i.bytes)) = some (some (.agg #[.slice none 0 0, .slice none 0 0, .bool false]), 3, 56) := by kernel_rfl
theorem three_cells (w : World) (u v x : Value) (t : TypeId) : ∀ j y, [u, v, x][j]? = some y → (w.alloc (.cells #[u, v, x] t)).cell? ⟨w.heap.size, 0 + j, none⟩ = some y := by
  intro j y h
  rw [Nat.zero_add, cell_of_row _ _ j _ t (0, 0) (heap_alloc_new w _)]
  simpa using h
theorem three_one (A1 : Option Addr) (n1 c1 : Nat) (A2 : Option Addr) (n2 c2 : Nat) (f : Bool) : ∀ u ∈ [Value.slice A1 n1 c1, .slice A2 n2 c2, .bool f], u.oneCell' = true := by
  intro u hu
  simp only [List.mem_cons, List.not_mem_nil, or_false] at hu
  rcases hu with rfl | rfl | rfl <;> rfl
theorem ne_of_type {w : World} {a b : Nat} {cs cs' : Array Value} {t t' : TypeId} {fr fr' : Nat × Nat} (h : w.heap[a]? = some (.cells cs t fr)) (k : w.heap[b]? = some (.cells cs' t' fr')) (hne : t ≠ t') : a ≠ b := by
  intro e; subst e; rw [h] at k; injection k with k; injection k with _ k; exact hne k
theorem set_other {a : Nat} (w : World) (g i : Nat) (v : Value) (h : a ≠ g) : (w.setCell ⟨g, i, none⟩ v).heap[a]? = w.heap[a]? := Below.heap_setCell _ _ _ _ h
theorem rc_cell {w : World} {g : Nat} {cs : Array Value} {t : TypeId} (j : Nat) (v : Value) (h : w.heap[g]? = some (.cells cs t (0, 0))) (hv : cs[j]? = some v) : w.cell? ⟨g, j, none⟩ = some v := by
  rw [cell_of_row w g j _ t (0, 0) h]; exact hv
theorem rc_set {w : World} {g : Nat} {cs cs' : Array Value} {t : TypeId} (j : Nat) (v : Value) (h : w.heap[g]? = some (.cells cs t (0, 0))) (hv : cs.setIfInBounds j v = cs') : (w.setCell ⟨g, j, none⟩ v).heap[g]? = some (.cells cs' t (0, 0)) := by
  subst hv
  simp [World.setCell, Array.getElem?_modify, h]
set_option maxRecDepth 100000 in
set_option maxHeartbeats 2000000 in
theorem cl_w (g bx base : Nat) (k b s q : Int) (AW : Option Addr) (nW cW : Nat) (AR : Option Addr) (nR cR : Nat) (f : Bool) (AS : Option Addr) (nS cS : Nat) (AP : Option Addr) (nP cP : Nat) (i : Int) (S : ByteArray) (l : List Tr) (t : Tr) (A1 : Option Addr) (c1 : Nat) (A2 : Option Addr) (c2 : Nat) (w : World)
    (hbx : w.heap[bx]? = some (.cells #[.pointer (some ⟨g, 0, none⟩)] 154 (0, 0))) (hg : w.heap[g]? = some (.cells (rcV k b s q AW nW cW AR nR cR f AS nS cS AP nP cP i S) 32 (0, 0)))
    (hO : TrO w base 61 AW nW cW l) (o1 : Own w base 5 A1 t.a.length c1 (By t.a)) (r1 : Ran t.a) (o2 : Own w base 5 A2 t.b.length c2 (By t.b)) (r2 : Ran t.b) (hd : blk A1 = none ∨ blk A1 ≠ blk A2) (hn : nW ≤ 20000000) (hb : base ≤ w.heap.size) :
    Calls Try.prog 112 #[.bool t.f, .slice A1 t.a.length c1, .slice A2 t.b.length c2, .pointer (some ⟨bx, 0, none⟩)] w fun e w' => ∃ A' c', e = .returned (.tuple #[]) ∧
      w'.heap[g]? = some (.cells (rcV k b s q A' (nW + 1) c' AR nR cR f AS nS cS AP nP cP i S) 32 (0, 0)) ∧ TrO w' base 61 A' (nW + 1) c' (l ++ [t]) ∧ Ef [32, 61] g base w w' := by
  obtain ⟨i0, hi, hz0, hz1, hz2⟩ := info_parts info61
  obtain ⟨hl, vs, ho, he⟩ := hO
  have HSN : Hid (∀ (w2 : World) (A' : Option Addr) (c' : Nat), OwnK 3 w2 base 61 A' (nW + 1) c' (vs ++ [.slice A1 t.a.length c1, .slice A2 t.b.length c2, .bool t.f]) → Grows (w.drew.alloc (.cells #[.slice A1 t.a.length c1, .slice A2 t.b.length c2, .bool t.f] 61)) w2 AW A' → TrO w2 base 61 A' (nW + 1) c' (l ++ [t])) := by
    intro w2 A' c' h1 h2
    refine TrO.snoc (by decide) hl (OwnK.alloc (w := w.drew) ho _) (fun k t0 ht0 => ?_) ((show Own w.drew base 5 A1 t.a.length c1 (By t.a) from o1).alloc _) r1 ((show Own w.drew base 5 A2 t.b.length c2 (By t.b) from o2).alloc _) r2 hd h1 h2
    obtain ⟨B1, d1, B2, d2, h0, h1, h2, p1, q1, p2, q2⟩ := he k t0 ht0
    exact ⟨B1, d1, B2, d2, h0, h1, h2, (show Own w.drew base 5 B1 t0.a.length d1 (By t0.a) from p1).alloc _, q1, (show Own w.drew base 5 B2 t0.b.length d2 (By t0.b) from p2).alloc _, q2⟩
  have hob := OwnK.alloc (w := w.drew) ho (.cells #[.slice A1 t.a.length c1, .slice A2 t.b.length c2, .bool t.f] 61)
  have hba := below_alloc w.drew (.cells #[.slice A1 t.a.length c1, .slice A2 t.b.length c2, .bool t.f] 61)
  have hgd : w.drew.heap[g]? = some (.cells (rcV k b s q AW nW cW AR nR cR f AS nS cS AP nP cP i S) 32 (0, 0)) := hg
  have hbd : w.drew.heap[bx]? = some (.cells #[.pointer (some ⟨g, 0, none⟩)] 154 (0, 0)) := hbx
  have hga := (hba.block g (lt_of_heap hgd)).trans hgd
  have hxa := (hba.block bx (lt_of_heap hbd)).trans hbd
  have e0 : w.drew.cell? ⟨bx, 0, none⟩ = some (.pointer (some ⟨g, 0, none⟩)) := rc_cell 0 _ hbd rfl
  have e1 : w.drew.cell? ⟨g, 4, none⟩ = some (.slice AW nW cW) := rc_cell 4 _ hgd rfl
  have f0 := rc_cell 0 (.pointer (some ⟨g, 0, none⟩)) hxa rfl
  have f1 := rc_cell 4 (.slice AW nW cW) hga rfl
  have f1x : (w.alloc (.cells #[.slice A1 t.a.length c1, .slice A2 t.b.length c2, .bool t.f] 61)).cell? ⟨g, 4, none⟩ = some (.slice AW nW cW) := f1
  have hba' : base ≤ (w.drew.alloc (.cells #[.slice A1 t.a.length c1, .slice A2 t.b.length c2, .bool t.f] 61)).heap.size := Nat.le_trans hb hba.size
  have HE0 : Hid (Ef [32, 61] g base w (w.drew.alloc (.cells #[.slice A1 t.a.length c1, .slice A2 t.b.length c2, .bool t.f] 61))) := Ef.of_below (w := w) ((Dr.refl w).one.below _ |>.trans hba) hb
  have HXG := Lib.hid hga; have HXB := Lib.hid hxa
  clear he ho hl hg hbx hgd hbd hga hxa o1 o2 r1 r2 hba
  go_enter Try.func112, Try.ntmps112
  refine wp_region_held_drew (S := fun w' => w'.cell? ⟨bx, 0, none⟩ = some (.pointer (some ⟨g, 0, none⟩))) (by kernel_rfl) e0 (fun hH0 => ?_)
  refine wpAnyH_take (i := 0) (oi := { dst := some 7, op := Op.load 154 (Operand.tmp 3), type := 154, pos := _, after := #[], guard := none }) (v := ?v112a_0) rfl (by kernel_rfl) (by kernel_rfl) (by kernel_rfl) (fun _ _ _ h => h) (Or.inl ⟨by rfl, ?y112a_0⟩) hH0 ?r112a_0
  case y112a_0 => (intro w hSw; (try dsimp only at hSw); go_simp; try (with_reducible rfl))
  try simp only [Act.put, List.setIfInBounds_toArray, List.set_cons_zero, List.set_cons_succ]
  refine wpAnyH_take (i := 1) (oi := { dst := some 8, op := Op.load 154 (Operand.tmp 3), type := 154, pos := _, after := #[], guard := none }) (v := ?v112a_1) rfl (by kernel_rfl) (by kernel_rfl) (by kernel_rfl) (fun _ _ _ h => h) (Or.inl ⟨by rfl, ?y112a_1⟩) hH0 ?r112a_1
  case y112a_1 => (intro w hSw; (try dsimp only at hSw); go_simp; try (with_reducible rfl))
  try simp only [Act.put, List.setIfInBounds_toArray, List.set_cons_zero, List.set_cons_succ]
  refine wpAnyH_take (i := 2) (oi := { dst := some 9, op := Op.nilCheck (Operand.tmp 8), type := 0, pos := _, after := #[{ on := 1, ground := Ground.data }], guard := none }) (v := ?v112a_2) rfl (by kernel_rfl) (by kernel_rfl) (by kernel_rfl) (fun _ _ _ h => h) (Or.inl ⟨by rfl, ?y112a_2⟩) hH0 ?r112a_2
  case y112a_2 => (intro w hSw; (try dsimp only at hSw); go_simp; try (with_reducible rfl))
  try simp only [Act.put, List.setIfInBounds_toArray, List.set_cons_zero, List.set_cons_succ]
  refine wpAnyH_take (i := 3) (oi := { dst := some 10, op := Op.fieldAddr 32 (Operand.tmp 9) 2, type := 0, pos := _, after := #[{ on := 2, ground := Ground.data }], guard := none }) (v := ?v112a_3) rfl (by kernel_rfl) (by kernel_rfl) (by kernel_rfl) (fun _ _ _ h => h) (Or.inl ⟨by rfl, ?y112a_3⟩) hH0 ?r112a_3
  case y112a_3 => (intro w hSw; (try dsimp only at hSw); go_simp; try (with_reducible rfl))
  try simp only [Act.put, List.setIfInBounds_toArray, List.set_cons_zero, List.set_cons_succ]
  refine wpAnyH_take (i := 5) (oi := { dst := some 12, op := Op.move (Operand.tmp 1), type := 28, pos := _, after := #[], guard := none }) (v := ?v112a_5) rfl (by kernel_rfl) (by kernel_rfl) (by kernel_rfl) (fun _ _ _ h => h) (Or.inl ⟨by rfl, ?y112a_5⟩) hH0 ?r112a_5
  case y112a_5 => (intro w hSw; (try dsimp only at hSw); go_simp; try (with_reducible rfl))
  try simp only [Act.put, List.setIfInBounds_toArray, List.set_cons_zero, List.set_cons_succ]
  refine wpAnyH_take (i := 6) (oi := { dst := some 13, op := Op.move (Operand.tmp 2), type := 28, pos := _, after := #[], guard := none }) (v := ?v112a_6) rfl (by kernel_rfl) (by kernel_rfl) (by kernel_rfl) (fun _ _ _ h => h) (Or.inl ⟨by rfl, ?y112a_6⟩) hH0 ?r112a_6
  case y112a_6 => (intro w hSw; (try dsimp only at hSw); go_simp; try (with_reducible rfl))
  try simp only [Act.put, List.setIfInBounds_toArray, List.set_cons_zero, List.set_cons_succ]
  refine wpAnyH_take (i := 7) (oi := { dst := some 14, op := Op.move (Operand.tmp 0), type := 4, pos := _, after := #[], guard := none }) (v := ?v112a_7) rfl (by kernel_rfl) (by kernel_rfl) (by kernel_rfl) (fun _ _ _ h => h) (Or.inl ⟨by rfl, ?y112a_7⟩) hH0 ?r112a_7
  case y112a_7 => (intro w hSw; (try dsimp only at hSw); go_simp; try (with_reducible rfl))
  try simp only [Act.put, List.setIfInBounds_toArray, List.set_cons_zero, List.set_cons_succ]
  refine wpAnyH_take (i := 8) (oi := { dst := some 15, op := Op.build 61 #[(0, Operand.tmp 12), (1, Operand.tmp 13), (2, Operand.tmp 14)], type := 61, pos := _, after := #[{ on := 5, ground := Ground.data }, { on := 6, ground := Ground.data }, { on := 7, ground := Ground.data }], guard := none }) (v := ?v112a_8) rfl (by kernel_rfl) (by kernel_rfl) (by kernel_rfl) (fun _ _ _ h => h) (Or.inl ⟨by rfl, ?y112a_8⟩) hH0 ?r112a_8
  case y112a_8 => (intro w hSw; (try dsimp only at hSw); go_simp; try (with_reducible rfl))
  try simp only [Act.put, List.setIfInBounds_toArray, List.set_cons_zero, List.set_cons_succ]
  refine wpAnyH_ready (rs := [4, 9]) (by kernel_rfl) (by simp) ?_
  refine (AllReadyH.cons (o := { dst := some 11, op := Op.load 25 (Operand.tmp 10), type := 25, pos := _, after := #[{ on := 3, ground := Ground.data }], guard := none }) rfl (fun K hK => ?_) (AllReadyH.cons (o := { dst := some 16, op := Op.buildSlice 25 1 #[(0, Operand.tmp 15)], type := 25, pos := _, after := #[{ on := 8, ground := Ground.data }], guard := none }) rfl (fun K hK => ?_) AllReadyH.nil))
  · go_simp
    refine hK.out _ _ e0 (fun hH1 => ?_)
    clear hK K
    try simp only [Act.put, List.setIfInBounds_toArray, List.set_cons_zero, List.set_cons_succ]
    refine wpAnyH_ready (rs := [9]) (by kernel_rfl) (by simp) ?_
    refine (AllReadyH.cons (o := { dst := some 16, op := Op.buildSlice 25 1 #[(0, Operand.tmp 15)], type := 25, pos := _, after := #[{ on := 8, ground := Ground.data }], guard := none }) rfl (fun K hK => ?_) AllReadyH.nil)
    go_simp
    refine hK.out _ _ f0 (fun hH2 => ?_)
    clear hK K
    try simp only [Act.put, List.setIfInBounds_toArray, List.set_cons_zero, List.set_cons_succ]
    refine wpAnyH_ready (rs := [10]) (by kernel_rfl) (by simp) ?_
    refine (AllReadyH.cons (o := { dst := some 17, op := Op.call { callee := Callee.builtin Builtin.append, args := #[Operand.tmp 11, Operand.tmp 16], argTypes := #[25, 25] }, type := 25, pos := _, after := #[{ on := 4, ground := Ground.data }, { on := 9, ground := Ground.data }], guard := none }) rfl (fun K hK => ?_) AllReadyH.nil)
    refine step_append_wide rfl (.tmp 11) (.tmp 16) 25 rfl i0 _ 56 Try.underlying25 hi hz0 hz1 hz2 rfl (by decide) (by simp [Act.eval, Act.put]) hob w.heap.size 0 1 1 [.slice A1 t.a.length c1, .slice A2 t.b.length c2, .bool t.f] (by simp [Act.eval, Act.put]) rfl (three_cells w.drew _ _ _ 61) (three_one _ _ _ _ _ _ _) (by unfold maxLen; omega) (by omega) hba' ?_
    intro A5 c5 w5 ho5 hg5
    have HE5 := Lib.hid (Ef.of_grows (g := g) (ex := [32, 61]) hg5 hob hba' (by decide))
    have hG5 := (hg5.1.block g (lt_of_heap HXG.out) (fun e => hob.ne_blk HXG.out (by decide) e.symm)).trans HXG.out
    have hX5 := (hg5.1.block bx (lt_of_heap HXB.out) (fun e => hob.ne_blk HXB.out (by decide) e.symm)).trans HXB.out
    have g0 := rc_cell 0 (.pointer (some ⟨g, 0, none⟩)) hX5 rfl
    have g1 := rc_cell 4 (.slice AW nW cW) hG5 rfl
    have fz := two_frozen (i := 4) hG5
    have i0' := fun v => rc_cell 0 (.pointer (some ⟨g, 0, none⟩)) ((set_other w5 g 4 v (ne_of_type hX5 hG5 (by decide))).trans hX5) rfl
    have HT5 := Lib.hid (HSN.out w5 A5 c5 ho5 hg5)
    have HG5 := Lib.hid hG5
    clear hG5 hX5
    refine hK.out _ _ g0 (fun hH3 => ?_)
    clear hK K
    try simp only [Act.put, List.setIfInBounds_toArray, List.set_cons_zero, List.set_cons_succ]
    refine wpAnyH_take (i := 11) (oi := { dst := some 18, op := Op.nilCheck (Operand.tmp 7), type := 0, pos := _, after := #[{ on := 0, ground := Ground.data }, { on := 0, ground := Ground.phase }, { on := 1, ground := Ground.phase }, { on := 2, ground := Ground.phase }, { on := 3, ground := Ground.phase }, { on := 4, ground := Ground.phase }, { on := 5, ground := Ground.phase }, { on := 6, ground := Ground.phase }, { on := 7, ground := Ground.phase }, { on := 8, ground := Ground.phase }, { on := 9, ground := Ground.phase }, { on := 10, ground := Ground.phase }], guard := none }) (v := ?v112b_11) rfl (by kernel_rfl) (by kernel_rfl) (by kernel_rfl) (fun _ _ _ h => h) (Or.inl ⟨by rfl, ?y112b_11⟩) hH3 ?r112b_11
    case y112b_11 => (intro w hSw; (try dsimp only at hSw); go_simp; try (with_reducible rfl))
    try simp only [Act.put, List.setIfInBounds_toArray, List.set_cons_zero, List.set_cons_succ]
    refine wpAnyH_take (i := 12) (oi := { dst := some 19, op := Op.fieldAddr 32 (Operand.tmp 18) 2, type := 0, pos := _, after := #[{ on := 11, ground := Ground.data }, { on := 0, ground := Ground.phase }, { on := 1, ground := Ground.phase }, { on := 2, ground := Ground.phase }, { on := 3, ground := Ground.phase }, { on := 4, ground := Ground.phase }, { on := 5, ground := Ground.phase }, { on := 6, ground := Ground.phase }, { on := 7, ground := Ground.phase }, { on := 8, ground := Ground.phase }, { on := 9, ground := Ground.phase }, { on := 10, ground := Ground.phase }], guard := none }) (v := ?v112b_12) rfl (by kernel_rfl) (by kernel_rfl) (by kernel_rfl) (fun _ _ _ h => h) (Or.inl ⟨by rfl, ?y112b_12⟩) hH3 ?r112b_12
    case y112b_12 => (intro w hSw; (try dsimp only at hSw); go_simp; try (with_reducible rfl))
    try simp only [Act.put, List.setIfInBounds_toArray, List.set_cons_zero, List.set_cons_succ]
    refine wpAnyH_ready (rs := [13]) (by kernel_rfl) (by simp) ?_
    refine (AllReadyH.cons (o := { dst := none, op := Op.store 25 (Operand.tmp 19) (Operand.tmp 17), type := 0, pos := _, after := #[{ on := 12, ground := Ground.data }, { on := 10, ground := Ground.data }, { on := 10, ground := Ground.chain }, { on := 0, ground := Ground.phase }, { on := 1, ground := Ground.phase }, { on := 2, ground := Ground.phase }, { on := 3, ground := Ground.phase }, { on := 4, ground := Ground.phase }, { on := 5, ground := Ground.phase }, { on := 6, ground := Ground.phase }, { on := 7, ground := Ground.phase }, { on := 8, ground := Ground.phase }, { on := 9, ground := Ground.phase }, { on := 10, ground := Ground.phase }], guard := none }) rfl (fun K hK => ?_) AllReadyH.nil)
    go_simp
    refine hK.out _ _ (i0' _) (fun hH4 => ?_)
    clear hK K
    try simp only [Act.put, List.setIfInBounds_toArray, List.set_cons_zero, List.set_cons_succ]
    refine wpAnyH_done (by kernel_rfl) ?_ _
    go_end0
    exact ⟨A5, c5, rfl, rc_set 4 _ HG5.out rfl, HT5.out.set (onl_set _ _ _ _) HG5.out (by decide) (by decide), (HE0.out.trans HE5.out).trans (Ef.of_onl (onl_set _ _ _ _) (Nat.le_trans hba' HE5.out.size) HG5.out (by decide))⟩
  · go_simp
    refine hK.out _ _ f0 (fun hH1 => ?_)
    clear hK K
    try simp only [Act.put, List.setIfInBounds_toArray, List.set_cons_zero, List.set_cons_succ]
    refine wpAnyH_ready (rs := [4]) (by kernel_rfl) (by simp) ?_
    refine (AllReadyH.cons (o := { dst := some 11, op := Op.load 25 (Operand.tmp 10), type := 25, pos := _, after := #[{ on := 3, ground := Ground.data }], guard := none }) rfl (fun K hK => ?_) AllReadyH.nil)
    go_simp
    refine hK.out _ _ f0 (fun hH2 => ?_)
    clear hK K
    try simp only [Act.put, List.setIfInBounds_toArray, List.set_cons_zero, List.set_cons_succ]
    refine wpAnyH_ready (rs := [10]) (by kernel_rfl) (by simp) ?_
    refine (AllReadyH.cons (o := { dst := some 17, op := Op.call { callee := Callee.builtin Builtin.append, args := #[Operand.tmp 11, Operand.tmp 16], argTypes := #[25, 25] }, type := 25, pos := _, after := #[{ on := 4, ground := Ground.data }, { on := 9, ground := Ground.data }], guard := none }) rfl (fun K hK => ?_) AllReadyH.nil)
    refine step_append_wide rfl (.tmp 11) (.tmp 16) 25 rfl i0 _ 56 Try.underlying25 hi hz0 hz1 hz2 rfl (by decide) (by simp [Act.eval, Act.put]) hob w.heap.size 0 1 1 [.slice A1 t.a.length c1, .slice A2 t.b.length c2, .bool t.f] (by simp [Act.eval, Act.put]) rfl (three_cells w.drew _ _ _ 61) (three_one _ _ _ _ _ _ _) (by unfold maxLen; omega) (by omega) hba' ?_
    intro A5 c5 w5 ho5 hg5
    have HE5 := Lib.hid (Ef.of_grows (g := g) (ex := [32, 61]) hg5 hob hba' (by decide))
    have hG5 := (hg5.1.block g (lt_of_heap HXG.out) (fun e => hob.ne_blk HXG.out (by decide) e.symm)).trans HXG.out
    have hX5 := (hg5.1.block bx (lt_of_heap HXB.out) (fun e => hob.ne_blk HXB.out (by decide) e.symm)).trans HXB.out
    have g0 := rc_cell 0 (.pointer (some ⟨g, 0, none⟩)) hX5 rfl
    have g1 := rc_cell 4 (.slice AW nW cW) hG5 rfl
    have fz := two_frozen (i := 4) hG5
    have i0' := fun v => rc_cell 0 (.pointer (some ⟨g, 0, none⟩)) ((set_other w5 g 4 v (ne_of_type hX5 hG5 (by decide))).trans hX5) rfl
    have HT5 := Lib.hid (HSN.out w5 A5 c5 ho5 hg5)
    have HG5 := Lib.hid hG5
    clear hG5 hX5
    refine hK.out _ _ g0 (fun hH3 => ?_)
    clear hK K
    try simp only [Act.put, List.setIfInBounds_toArray, List.set_cons_zero, List.set_cons_succ]
    refine wpAnyH_take (i := 11) (oi := { dst := some 18, op := Op.nilCheck (Operand.tmp 7), type := 0, pos := _, after := #[{ on := 0, ground := Ground.data }, { on := 0, ground := Ground.phase }, { on := 1, ground := Ground.phase }, { on := 2, ground := Ground.phase }, { on := 3, ground := Ground.phase }, { on := 4, ground := Ground.phase }, { on := 5, ground := Ground.phase }, { on := 6, ground := Ground.phase }, { on := 7, ground := Ground.phase }, { on := 8, ground := Ground.phase }, { on := 9, ground := Ground.phase }, { on := 10, ground := Ground.phase }], guard := none }) (v := ?v112c_11) rfl (by kernel_rfl) (by kernel_rfl) (by kernel_rfl) (fun _ _ _ h => h) (Or.inl ⟨by rfl, ?y112c_11⟩) hH3 ?r112c_11
    case y112c_11 => (intro w hSw; (try dsimp only at hSw); go_simp; try (with_reducible rfl))
    try simp only [Act.put, List.setIfInBounds_toArray, List.set_cons_zero, List.set_cons_succ]
    refine wpAnyH_take (i := 12) (oi := { dst := some 19, op := Op.fieldAddr 32 (Operand.tmp 18) 2, type := 0, pos := _, after := #[{ on := 11, ground := Ground.data }, { on := 0, ground := Ground.phase }, { on := 1, ground := Ground.phase }, { on := 2, ground := Ground.phase }, { on := 3, ground := Ground.phase }, { on := 4, ground := Ground.phase }, { on := 5, ground := Ground.phase }, { on := 6, ground := Ground.phase }, { on := 7, ground := Ground.phase }, { on := 8, ground := Ground.phase }, { on := 9, ground := Ground.phase }, { on := 10, ground := Ground.phase }], guard := none }) (v := ?v112c_12) rfl (by kernel_rfl) (by kernel_rfl) (by kernel_rfl) (fun _ _ _ h => h) (Or.inl ⟨by rfl, ?y112c_12⟩) hH3 ?r112c_12
    case y112c_12 => (intro w hSw; (try dsimp only at hSw); go_simp; try (with_reducible rfl))
    try simp only [Act.put, List.setIfInBounds_toArray, List.set_cons_zero, List.set_cons_succ]
    refine wpAnyH_ready (rs := [13]) (by kernel_rfl) (by simp) ?_
    refine (AllReadyH.cons (o := { dst := none, op := Op.store 25 (Operand.tmp 19) (Operand.tmp 17), type := 0, pos := _, after := #[{ on := 12, ground := Ground.data }, { on := 10, ground := Ground.data }, { on := 10, ground := Ground.chain }, { on := 0, ground := Ground.phase }, { on := 1, ground := Ground.phase }, { on := 2, ground := Ground.phase }, { on := 3, ground := Ground.phase }, { on := 4, ground := Ground.phase }, { on := 5, ground := Ground.phase }, { on := 6, ground := Ground.phase }, { on := 7, ground := Ground.phase }, { on := 8, ground := Ground.phase }, { on := 9, ground := Ground.phase }, { on := 10, ground := Ground.phase }], guard := none }) rfl (fun K hK => ?_) AllReadyH.nil)
    go_simp
    refine hK.out _ _ (i0' _) (fun hH4 => ?_)
    clear hK K
    try simp only [Act.put, List.setIfInBounds_toArray, List.set_cons_zero, List.set_cons_succ]
    refine wpAnyH_done (by kernel_rfl) ?_ _
    go_end0
    exact ⟨A5, c5, rfl, rc_set 4 _ HG5.out rfl, HT5.out.set (onl_set _ _ _ _) HG5.out (by decide) (by decide), (HE0.out.trans HE5.out).trans (Ef.of_onl (onl_set _ _ _ _) (Nat.le_trans hba' HE5.out.size) HG5.out (by decide))⟩
set_option maxRecDepth 100000 in
set_option maxHeartbeats 2000000 in
theorem cl_r (g bx base : Nat) (k b s q : Int) (AW : Option Addr) (nW cW : Nat) (AR : Option Addr) (nR cR : Nat) (f : Bool) (AS : Option Addr) (nS cS : Nat) (AP : Option Addr) (nP cP : Nat) (i : Int) (S : ByteArray) (l : List Tr) (t : Tr) (A1 : Option Addr) (c1 : Nat) (A2 : Option Addr) (c2 : Nat) (w : World)
    (hbx : w.heap[bx]? = some (.cells #[.pointer (some ⟨g, 0, none⟩)] 154 (0, 0))) (hg : w.heap[g]? = some (.cells (rcV k b s q AW nW cW AR nR cR f AS nS cS AP nP cP i S) 32 (0, 0)))
    (hO : TrO w base 99 AR nR cR l) (o1 : Own w base 5 A1 t.a.length c1 (By t.a)) (r1 : Ran t.a) (o2 : Own w base 5 A2 t.b.length c2 (By t.b)) (r2 : Ran t.b) (hd : blk A1 = none ∨ blk A1 ≠ blk A2) (hn : nR ≤ 20000000) (hb : base ≤ w.heap.size) :
    Calls Try.prog 113 #[.bool t.f, .slice A1 t.a.length c1, .slice A2 t.b.length c2, .pointer (some ⟨bx, 0, none⟩)] w fun e w' => ∃ A' c', e = .returned (.tuple #[]) ∧
      w'.heap[g]? = some (.cells (rcV k b s q AW nW cW A' (nR + 1) c' f AS nS cS AP nP cP i S) 32 (0, 0)) ∧ TrO w' base 99 A' (nR + 1) c' (l ++ [t]) ∧ Ef [32, 99] g base w w' := by
  obtain ⟨i0, hi, hz0, hz1, hz2⟩ := info_parts info99
  obtain ⟨hl, vs, ho, he⟩ := hO
  have HSN : Hid (∀ (w2 : World) (A' : Option Addr) (c' : Nat), OwnK 3 w2 base 99 A' (nR + 1) c' (vs ++ [.slice A1 t.a.length c1, .slice A2 t.b.length c2, .bool t.f]) → Grows (w.drew.alloc (.cells #[.slice A1 t.a.length c1, .slice A2 t.b.length c2, .bool t.f] 99)) w2 AR A' → TrO w2 base 99 A' (nR + 1) c' (l ++ [t])) := by
    intro w2 A' c' h1 h2
    refine TrO.snoc (by decide) hl (OwnK.alloc (w := w.drew) ho _) (fun k t0 ht0 => ?_) ((show Own w.drew base 5 A1 t.a.length c1 (By t.a) from o1).alloc _) r1 ((show Own w.drew base 5 A2 t.b.length c2 (By t.b) from o2).alloc _) r2 hd h1 h2
    obtain ⟨B1, d1, B2, d2, h0, h1, h2, p1, q1, p2, q2⟩ := he k t0 ht0
    exact ⟨B1, d1, B2, d2, h0, h1, h2, (show Own w.drew base 5 B1 t0.a.length d1 (By t0.a) from p1).alloc _, q1, (show Own w.drew base 5 B2 t0.b.length d2 (By t0.b) from p2).alloc _, q2⟩
  have hob := OwnK.alloc (w := w.drew) ho (.cells #[.slice A1 t.a.length c1, .slice A2 t.b.length c2, .bool t.f] 99)
  have hba := below_alloc w.drew (.cells #[.slice A1 t.a.length c1, .slice A2 t.b.length c2, .bool t.f] 99)
  have hgd : w.drew.heap[g]? = some (.cells (rcV k b s q AW nW cW AR nR cR f AS nS cS AP nP cP i S) 32 (0, 0)) := hg
  have hbd : w.drew.heap[bx]? = some (.cells #[.pointer (some ⟨g, 0, none⟩)] 154 (0, 0)) := hbx
  have hga := (hba.block g (lt_of_heap hgd)).trans hgd
  have hxa := (hba.block bx (lt_of_heap hbd)).trans hbd
  have e0 : w.drew.cell? ⟨bx, 0, none⟩ = some (.pointer (some ⟨g, 0, none⟩)) := rc_cell 0 _ hbd rfl
  have e1 : w.drew.cell? ⟨g, 5, none⟩ = some (.slice AR nR cR) := rc_cell 5 _ hgd rfl
  have f0 := rc_cell 0 (.pointer (some ⟨g, 0, none⟩)) hxa rfl
  have f1 := rc_cell 5 (.slice AR nR cR) hga rfl
  have f1x : (w.alloc (.cells #[.slice A1 t.a.length c1, .slice A2 t.b.length c2, .bool t.f] 99)).cell? ⟨g, 5, none⟩ = some (.slice AR nR cR) := f1
  have hba' : base ≤ (w.drew.alloc (.cells #[.slice A1 t.a.length c1, .slice A2 t.b.length c2, .bool t.f] 99)).heap.size := Nat.le_trans hb hba.size
  have HE0 : Hid (Ef [32, 99] g base w (w.drew.alloc (.cells #[.slice A1 t.a.length c1, .slice A2 t.b.length c2, .bool t.f] 99))) := Ef.of_below (w := w) ((Dr.refl w).one.below _ |>.trans hba) hb
  have HXG := Lib.hid hga; have HXB := Lib.hid hxa
  clear he ho hl hg hbx hgd hbd hga hxa o1 o2 r1 r2 hba
  go_enter Try.func113, Try.ntmps113
  refine wp_region_held_drew (S := fun w' => w'.cell? ⟨bx, 0, none⟩ = some (.pointer (some ⟨g, 0, none⟩))) (by kernel_rfl) e0 (fun hH0 => ?_)
  refine wpAnyH_take (i := 0) (oi := { dst := some 7, op := Op.load 154 (Operand.tmp 3), type := 154, pos := _, after := #[], guard := none }) (v := ?v113a_0) rfl (by kernel_rfl) (by kernel_rfl) (by kernel_rfl) (fun _ _ _ h => h) (Or.inl ⟨by rfl, ?y113a_0⟩) hH0 ?r113a_0
  case y113a_0 => (intro w hSw; (try dsimp only at hSw); go_simp; try (with_reducible rfl))
  try simp only [Act.put, List.setIfInBounds_toArray, List.set_cons_zero, List.set_cons_succ]
  refine wpAnyH_take (i := 1) (oi := { dst := some 8, op := Op.load 154 (Operand.tmp 3), type := 154, pos := _, after := #[], guard := none }) (v := ?v113a_1) rfl (by kernel_rfl) (by kernel_rfl) (by kernel_rfl) (fun _ _ _ h => h) (Or.inl ⟨by rfl, ?y113a_1⟩) hH0 ?r113a_1
  case y113a_1 => (intro w hSw; (try dsimp only at hSw); go_simp; try (with_reducible rfl))
  try simp only [Act.put, List.setIfInBounds_toArray, List.set_cons_zero, List.set_cons_succ]
  refine wpAnyH_take (i := 2) (oi := { dst := some 9, op := Op.nilCheck (Operand.tmp 8), type := 0, pos := _, after := #[{ on := 1, ground := Ground.data }], guard := none }) (v := ?v113a_2) rfl (by kernel_rfl) (by kernel_rfl) (by kernel_rfl) (fun _ _ _ h => h) (Or.inl ⟨by rfl, ?y113a_2⟩) hH0 ?r113a_2
  case y113a_2 => (intro w hSw; (try dsimp only at hSw); go_simp; try (with_reducible rfl))
  try simp only [Act.put, List.setIfInBounds_toArray, List.set_cons_zero, List.set_cons_succ]
  refine wpAnyH_take (i := 3) (oi := { dst := some 10, op := Op.fieldAddr 32 (Operand.tmp 9) 3, type := 0, pos := _, after := #[{ on := 2, ground := Ground.data }], guard := none }) (v := ?v113a_3) rfl (by kernel_rfl) (by kernel_rfl) (by kernel_rfl) (fun _ _ _ h => h) (Or.inl ⟨by rfl, ?y113a_3⟩) hH0 ?r113a_3
  case y113a_3 => (intro w hSw; (try dsimp only at hSw); go_simp; try (with_reducible rfl))
  try simp only [Act.put, List.setIfInBounds_toArray, List.set_cons_zero, List.set_cons_succ]
  refine wpAnyH_take (i := 5) (oi := { dst := some 12, op := Op.move (Operand.tmp 1), type := 28, pos := _, after := #[], guard := none }) (v := ?v113a_5) rfl (by kernel_rfl) (by kernel_rfl) (by kernel_rfl) (fun _ _ _ h => h) (Or.inl ⟨by rfl, ?y113a_5⟩) hH0 ?r113a_5
  case y113a_5 => (intro w hSw; (try dsimp only at hSw); go_simp; try (with_reducible rfl))
  try simp only [Act.put, List.setIfInBounds_toArray, List.set_cons_zero, List.set_cons_succ]
  refine wpAnyH_take (i := 6) (oi := { dst := some 13, op := Op.move (Operand.tmp 2), type := 28, pos := _, after := #[], guard := none }) (v := ?v113a_6) rfl (by kernel_rfl) (by kernel_rfl) (by kernel_rfl) (fun _ _ _ h => h) (Or.inl ⟨by rfl, ?y113a_6⟩) hH0 ?r113a_6
  case y113a_6 => (intro w hSw; (try dsimp only at hSw); go_simp; try (with_reducible rfl))
  try simp only [Act.put, List.setIfInBounds_toArray, List.set_cons_zero, List.set_cons_succ]
  refine wpAnyH_take (i := 7) (oi := { dst := some 14, op := Op.move (Operand.tmp 0), type := 4, pos := _, after := #[], guard := none }) (v := ?v113a_7) rfl (by kernel_rfl) (by kernel_rfl) (by kernel_rfl) (fun _ _ _ h => h) (Or.inl ⟨by rfl, ?y113a_7⟩) hH0 ?r113a_7
  case y113a_7 => (intro w hSw; (try dsimp only at hSw); go_simp; try (with_reducible rfl))
  try simp only [Act.put, List.setIfInBounds_toArray, List.set_cons_zero, List.set_cons_succ]
  refine wpAnyH_take (i := 8) (oi := { dst := some 15, op := Op.build 99 #[(0, Operand.tmp 12), (1, Operand.tmp 13), (2, Operand.tmp 14)], type := 99, pos := _, after := #[{ on := 5, ground := Ground.data }, { on := 6, ground := Ground.data }, { on := 7, ground := Ground.data }], guard := none }) (v := ?v113a_8) rfl (by kernel_rfl) (by kernel_rfl) (by kernel_rfl) (fun _ _ _ h => h) (Or.inl ⟨by rfl, ?y113a_8⟩) hH0 ?r113a_8
  case y113a_8 => (intro w hSw; (try dsimp only at hSw); go_simp; try (with_reducible rfl))
  try simp only [Act.put, List.setIfInBounds_toArray, List.set_cons_zero, List.set_cons_succ]
  refine wpAnyH_ready (rs := [4, 9]) (by kernel_rfl) (by simp) ?_
  refine (AllReadyH.cons (o := { dst := some 11, op := Op.load 26 (Operand.tmp 10), type := 26, pos := _, after := #[{ on := 3, ground := Ground.data }], guard := none }) rfl (fun K hK => ?_) (AllReadyH.cons (o := { dst := some 16, op := Op.buildSlice 26 1 #[(0, Operand.tmp 15)], type := 26, pos := _, after := #[{ on := 8, ground := Ground.data }], guard := none }) rfl (fun K hK => ?_) AllReadyH.nil))
  · go_simp
    refine hK.out _ _ e0 (fun hH1 => ?_)
    clear hK K
    try simp only [Act.put, List.setIfInBounds_toArray, List.set_cons_zero, List.set_cons_succ]
    refine wpAnyH_ready (rs := [9]) (by kernel_rfl) (by simp) ?_
    refine (AllReadyH.cons (o := { dst := some 16, op := Op.buildSlice 26 1 #[(0, Operand.tmp 15)], type := 26, pos := _, after := #[{ on := 8, ground := Ground.data }], guard := none }) rfl (fun K hK => ?_) AllReadyH.nil)
    go_simp
    refine hK.out _ _ f0 (fun hH2 => ?_)
    clear hK K
    try simp only [Act.put, List.setIfInBounds_toArray, List.set_cons_zero, List.set_cons_succ]
    refine wpAnyH_ready (rs := [10]) (by kernel_rfl) (by simp) ?_
    refine (AllReadyH.cons (o := { dst := some 17, op := Op.call { callee := Callee.builtin Builtin.append, args := #[Operand.tmp 11, Operand.tmp 16], argTypes := #[26, 26] }, type := 26, pos := _, after := #[{ on := 4, ground := Ground.data }, { on := 9, ground := Ground.data }], guard := none }) rfl (fun K hK => ?_) AllReadyH.nil)
    refine step_append_wide rfl (.tmp 11) (.tmp 16) 26 rfl i0 _ 56 Try.underlying26 hi hz0 hz1 hz2 rfl (by decide) (by simp [Act.eval, Act.put]) hob w.heap.size 0 1 1 [.slice A1 t.a.length c1, .slice A2 t.b.length c2, .bool t.f] (by simp [Act.eval, Act.put]) rfl (three_cells w.drew _ _ _ 99) (three_one _ _ _ _ _ _ _) (by unfold maxLen; omega) (by omega) hba' ?_
    intro A5 c5 w5 ho5 hg5
    have HE5 := Lib.hid (Ef.of_grows (g := g) (ex := [32, 99]) hg5 hob hba' (by decide))
    have hG5 := (hg5.1.block g (lt_of_heap HXG.out) (fun e => hob.ne_blk HXG.out (by decide) e.symm)).trans HXG.out
    have hX5 := (hg5.1.block bx (lt_of_heap HXB.out) (fun e => hob.ne_blk HXB.out (by decide) e.symm)).trans HXB.out
    have g0 := rc_cell 0 (.pointer (some ⟨g, 0, none⟩)) hX5 rfl
    have g1 := rc_cell 5 (.slice AR nR cR) hG5 rfl
    have fz := two_frozen (i := 5) hG5
    have i0' := fun v => rc_cell 0 (.pointer (some ⟨g, 0, none⟩)) ((set_other w5 g 5 v (ne_of_type hX5 hG5 (by decide))).trans hX5) rfl
    have HT5 := Lib.hid (HSN.out w5 A5 c5 ho5 hg5)
    have HG5 := Lib.hid hG5
    clear hG5 hX5
    refine hK.out _ _ g0 (fun hH3 => ?_)
    clear hK K
    try simp only [Act.put, List.setIfInBounds_toArray, List.set_cons_zero, List.set_cons_succ]
    refine wpAnyH_take (i := 11) (oi := { dst := some 18, op := Op.nilCheck (Operand.tmp 7), type := 0, pos := _, after := #[{ on := 0, ground := Ground.data }, { on := 0, ground := Ground.phase }, { on := 1, ground := Ground.phase }, { on := 2, ground := Ground.phase }, { on := 3, ground := Ground.phase }, { on := 4, ground := Ground.phase }, { on := 5, ground := Ground.phase }, { on := 6, ground := Ground.phase }, { on := 7, ground := Ground.phase }, { on := 8, ground := Ground.phase }, { on := 9, ground := Ground.phase }, { on := 10, ground := Ground.phase }], guard := none }) (v := ?v113b_11) rfl (by kernel_rfl) (by kernel_rfl) (by kernel_rfl) (fun _ _ _ h => h) (Or.inl ⟨by rfl, ?y113b_11⟩) hH3 ?r113b_11
    case y113b_11 => (intro w hSw; (try dsimp only at hSw); go_simp; try (with_reducible rfl))
    try simp only [Act.put, List.setIfInBounds_toArray, List.set_cons_zero, List.set_cons_succ]
    refine wpAnyH_take (i := 12) (oi := { dst := some 19, op := Op.fieldAddr 32 (Operand.tmp 18) 3, type := 0, pos := _, after := #[{ on := 11, ground := Ground.data }, { on := 0, ground := Ground.phase }, { on := 1, ground := Ground.phase }, { on := 2, ground := Ground.phase }, { on := 3, ground := Ground.phase }, { on := 4, ground := Ground.phase }, { on := 5, ground := Ground.phase }, { on := 6, ground := Ground.phase }, { on := 7, ground := Ground.phase }, { on := 8, ground := Ground.phase }, { on := 9, ground := Ground.phase }, { on := 10, ground := Ground.phase }], guard := none }) (v := ?v113b_12) rfl (by kernel_rfl) (by kernel_rfl) (by kernel_rfl) (fun _ _ _ h => h) (Or.inl ⟨by rfl, ?y113b_12⟩) hH3 ?r113b_12
    case y113b_12 => (intro w hSw; (try dsimp only at hSw); go_simp; try (with_reducible rfl))
    try simp only [Act.put, List.setIfInBounds_toArray, List.set_cons_zero, List.set_cons_succ]
    refine wpAnyH_ready (rs := [13]) (by kernel_rfl) (by simp) ?_
    refine (AllReadyH.cons (o := { dst := none, op := Op.store 26 (Operand.tmp 19) (Operand.tmp 17), type := 0, pos := _, after := #[{ on := 12, ground := Ground.data }, { on := 10, ground := Ground.data }, { on := 10, ground := Ground.chain }, { on := 0, ground := Ground.phase }, { on := 1, ground := Ground.phase }, { on := 2, ground := Ground.phase }, { on := 3, ground := Ground.phase }, { on := 4, ground := Ground.phase }, { on := 5, ground := Ground.phase }, { on := 6, ground := Ground.phase }, { on := 7, ground := Ground.phase }, { on := 8, ground := Ground.phase }, { on := 9, ground := Ground.phase }, { on := 10, ground := Ground.phase }], guard := none }) rfl (fun K hK => ?_) AllReadyH.nil)
    go_simp
    refine hK.out _ _ (i0' _) (fun hH4 => ?_)
    clear hK K
    try simp only [Act.put, List.setIfInBounds_toArray, List.set_cons_zero, List.set_cons_succ]
    refine wpAnyH_done (by kernel_rfl) ?_ _
    go_end0
    exact ⟨A5, c5, rfl, rc_set 5 _ HG5.out rfl, HT5.out.set (onl_set _ _ _ _) HG5.out (by decide) (by decide), (HE0.out.trans HE5.out).trans (Ef.of_onl (onl_set _ _ _ _) (Nat.le_trans hba' HE5.out.size) HG5.out (by decide))⟩
  · go_simp
    refine hK.out _ _ f0 (fun hH1 => ?_)
    clear hK K
    try simp only [Act.put, List.setIfInBounds_toArray, List.set_cons_zero, List.set_cons_succ]
    refine wpAnyH_ready (rs := [4]) (by kernel_rfl) (by simp) ?_
    refine (AllReadyH.cons (o := { dst := some 11, op := Op.load 26 (Operand.tmp 10), type := 26, pos := _, after := #[{ on := 3, ground := Ground.data }], guard := none }) rfl (fun K hK => ?_) AllReadyH.nil)
    go_simp
    refine hK.out _ _ f0 (fun hH2 => ?_)
    clear hK K
    try simp only [Act.put, List.setIfInBounds_toArray, List.set_cons_zero, List.set_cons_succ]
    refine wpAnyH_ready (rs := [10]) (by kernel_rfl) (by simp) ?_
    refine (AllReadyH.cons (o := { dst := some 17, op := Op.call { callee := Callee.builtin Builtin.append, args := #[Operand.tmp 11, Operand.tmp 16], argTypes := #[26, 26] }, type := 26, pos := _, after := #[{ on := 4, ground := Ground.data }, { on := 9, ground := Ground.data }], guard := none }) rfl (fun K hK => ?_) AllReadyH.nil)
    refine step_append_wide rfl (.tmp 11) (.tmp 16) 26 rfl i0 _ 56 Try.underlying26 hi hz0 hz1 hz2 rfl (by decide) (by simp [Act.eval, Act.put]) hob w.heap.size 0 1 1 [.slice A1 t.a.length c1, .slice A2 t.b.length c2, .bool t.f] (by simp [Act.eval, Act.put]) rfl (three_cells w.drew _ _ _ 99) (three_one _ _ _ _ _ _ _) (by unfold maxLen; omega) (by omega) hba' ?_
    intro A5 c5 w5 ho5 hg5
    have HE5 := Lib.hid (Ef.of_grows (g := g) (ex := [32, 99]) hg5 hob hba' (by decide))
    have hG5 := (hg5.1.block g (lt_of_heap HXG.out) (fun e => hob.ne_blk HXG.out (by decide) e.symm)).trans HXG.out
    have hX5 := (hg5.1.block bx (lt_of_heap HXB.out) (fun e => hob.ne_blk HXB.out (by decide) e.symm)).trans HXB.out
    have g0 := rc_cell 0 (.pointer (some ⟨g, 0, none⟩)) hX5 rfl
    have g1 := rc_cell 5 (.slice AR nR cR) hG5 rfl
    have fz := two_frozen (i := 5) hG5
    have i0' := fun v => rc_cell 0 (.pointer (some ⟨g, 0, none⟩)) ((set_other w5 g 5 v (ne_of_type hX5 hG5 (by decide))).trans hX5) rfl
    have HT5 := Lib.hid (HSN.out w5 A5 c5 ho5 hg5)
    have HG5 := Lib.hid hG5
    clear hG5 hX5
    refine hK.out _ _ g0 (fun hH3 => ?_)
    clear hK K
    try simp only [Act.put, List.setIfInBounds_toArray, List.set_cons_zero, List.set_cons_succ]
    refine wpAnyH_take (i := 11) (oi := { dst := some 18, op := Op.nilCheck (Operand.tmp 7), type := 0, pos := _, after := #[{ on := 0, ground := Ground.data }, { on := 0, ground := Ground.phase }, { on := 1, ground := Ground.phase }, { on := 2, ground := Ground.phase }, { on := 3, ground := Ground.phase }, { on := 4, ground := Ground.phase }, { on := 5, ground := Ground.phase }, { on := 6, ground := Ground.phase }, { on := 7, ground := Ground.phase }, { on := 8, ground := Ground.phase }, { on := 9, ground := Ground.phase }, { on := 10, ground := Ground.phase }], guard := none }) (v := ?v113c_11) rfl (by kernel_rfl) (by kernel_rfl) (by kernel_rfl) (fun _ _ _ h => h) (Or.inl ⟨by rfl, ?y113c_11⟩) hH3 ?r113c_11
    case y113c_11 => (intro w hSw; (try dsimp only at hSw); go_simp; try (with_reducible rfl))
    try simp only [Act.put, List.setIfInBounds_toArray, List.set_cons_zero, List.set_cons_succ]
    refine wpAnyH_take (i := 12) (oi := { dst := some 19, op := Op.fieldAddr 32 (Operand.tmp 18) 3, type := 0, pos := _, after := #[{ on := 11, ground := Ground.data }, { on := 0, ground := Ground.phase }, { on := 1, ground := Ground.phase }, { on := 2, ground := Ground.phase }, { on := 3, ground := Ground.phase }, { on := 4, ground := Ground.phase }, { on := 5, ground := Ground.phase }, { on := 6, ground := Ground.phase }, { on := 7, ground := Ground.phase }, { on := 8, ground := Ground.phase }, { on := 9, ground := Ground.phase }, { on := 10, ground := Ground.phase }], guard := none }) (v := ?v113c_12) rfl (by kernel_rfl) (by kernel_rfl) (by kernel_rfl) (fun _ _ _ h => h) (Or.inl ⟨by rfl, ?y113c_12⟩) hH3 ?r113c_12
    case y113c_12 => (intro w hSw; (try dsimp only at hSw); go_simp; try (with_reducible rfl))
    try simp only [Act.put, List.setIfInBounds_toArray, List.set_cons_zero, List.set_cons_succ]
    refine wpAnyH_ready (rs := [13]) (by kernel_rfl) (by simp) ?_
    refine (AllReadyH.cons (o := { dst := none, op := Op.store 26 (Operand.tmp 19) (Operand.tmp 17), type := 0, pos := _, after := #[{ on := 12, ground := Ground.data }, { on := 10, ground := Ground.data }, { on := 10, ground := Ground.chain }, { on := 0, ground := Ground.phase }, { on := 1, ground := Ground.phase }, { on := 2, ground := Ground.phase }, { on := 3, ground := Ground.phase }, { on := 4, ground := Ground.phase }, { on := 5, ground := Ground.phase }, { on := 6, ground := Ground.phase }, { on := 7, ground := Ground.phase }, { on := 8, ground := Ground.phase }, { on := 9, ground := Ground.phase }, { on := 10, ground := Ground.phase }], guard := none }) rfl (fun K hK => ?_) AllReadyH.nil)
    go_simp
    refine hK.out _ _ (i0' _) (fun hH4 => ?_)
    clear hK K
    try simp only [Act.put, List.setIfInBounds_toArray, List.set_cons_zero, List.set_cons_succ]
    refine wpAnyH_done (by kernel_rfl) ?_ _
    go_end0
    exact ⟨A5, c5, rfl, rc_set 5 _ HG5.out rfl, HT5.out.set (onl_set _ _ _ _) HG5.out (by decide) (by decide), (HE0.out.trans HE5.out).trans (Ef.of_onl (onl_set _ _ _ _) (Nat.le_trans hba' HE5.out.size) HG5.out (by decide))⟩
end Go.Proofs.Ytmjjbfcblmmipaa
