/- The program's record of the document's: Own. -/
import Derived.Test.YtmjjbfcblmmipaaTrimW
import Derived.Deep.DeepCutAuto
namespace Go.Proofs.Ytmjjbfcblmmipaa
set_option linter.unusedVariables false
set_option linter.unusedSimpArgs false
open Go.RowKit

theorem box_S {w W : World} {k b s q : Int} {AW : Option Addr} {nW cW : Nat} {AR : Option Addr} {nR cR : Nat} {f : Bool} {AS : Option Addr} {nS cS : Nat} {AP : Option Addr} {nP cP : Nat} {i : Int} {S : ByteArray} (h : W.heap[w.heap.size]? = some (.cells (rcV k b s q AW nW cW AR nR cR f AS nS cS AP nP cP i S) 30 (0, 0))) :
    W.cell? ⟨w.heap.size, 0, none⟩ = some (.int .i64 k) ∧ W.cell? ⟨w.heap.size, 1, none⟩ = some (.int .u64 b) ∧ W.cell? ⟨w.heap.size, 2, none⟩ = some (.int .u64 s) ∧ W.cell? ⟨w.heap.size, 3, none⟩ = some (.int .u64 q) ∧ W.cell? ⟨w.heap.size, 6, none⟩ = some (.bool f) ∧ W.cell? ⟨w.heap.size, 7, none⟩ = some (.slice AS nS cS) ∧ W.cell? ⟨w.heap.size, 8, none⟩ = some (.slice AP nP cP) ∧ W.cell? ⟨w.heap.size, 9, none⟩ = some (.int .u64 i) ∧ W.cell? ⟨w.heap.size, 10, none⟩ = some (.string S) :=
  ⟨rc_cell 0 _ h rfl, rc_cell 1 _ h rfl, rc_cell 2 _ h rfl, rc_cell 3 _ h rfl, rc_cell 6 _ h rfl, rc_cell 7 _ h rfl, rc_cell 8 _ h rfl, rc_cell 9 _ h rfl, rc_cell 10 _ h rfl⟩
/-- The state of Own. -/
structure OS (w : World) (g3 : Nat) (V cs : Array Value) (AS : Option Addr) (nS cS : Nat) (sh : List Value) (AP : Option Addr) (nP cP : Nat) (rp : List Value) (W : World) : Prop where
  bx : W.heap[w.heap.size]? = some (.cells V 30 (0, 0))
  rs : W.heap[w.heap.size + 1]? = some (.cells zeroV 32 (0, 0))
  hg : W.heap[g3]? = some (.cells cs 32 (0, 0))
  sh : Own W w.heap.size 3 AS nS cS sh
  rp : Own W w.heap.size 5 AP nP cP rp
  hb : Below w.heap.size w W
  gl : w.heap.size + 1 < g3
section
variable {w W W' : World} {g3 : Nat} {V cs cs' : Array Value} {AS : Option Addr} {nS cS : Nat} {sh : List Value} {AP : Option Addr} {nP cP : Nat} {rp : List Value}
theorem OS.keep (h : OS w g3 V cs AS nS cS sh AP nP cP rp W) (hb : Below W.heap.size W W') : OS w g3 V cs AS nS cS sh AP nP cP rp W' :=
  ⟨(hb.block _ (lt_of_heap h.bx)).trans h.bx, (hb.block _ (lt_of_heap h.rs)).trans h.rs, (hb.block _ (lt_of_heap h.hg)).trans h.hg, h.sh.below hb (fun k hk => (h.sh.lies k hk).2), h.rp.below hb (fun k hk => (h.rp.lies k hk).2), h.hb.trans (hb.mono h.hb.size), h.gl⟩
theorem OS.grow {T : TypeId} {A A' : Option Addr} {n c : Nat} {vs : List Value} (h : OS w g3 V cs AS nS cS sh AP nP cP rp W) (hg : Grows W W' A A') (ho : OwnK 3 W w.heap.size T A n c vs) (hT : T = 61 ∨ T = 99) : OS w g3 V cs AS nS cS sh AP nP cP rp W' := by
  have hE : Ef [61, 99] 0 0 W W' := Ef.of_grows hg (ho.mono (Nat.zero_le _)) (Nat.zero_le _) (by rcases hT with rfl | rfl <;> decide)
  exact ⟨hE.ty _ _ _ _ h.bx (by decide), hE.ty _ _ _ _ h.rs (by decide), hE.ty _ _ _ _ h.hg (by decide), h.sh.ef hE (by decide), h.rp.ef hE (by decide), h.hb.trans (hg.below h.hb.size (fun k hk => (ho.lies k hk).1)), h.gl⟩
theorem OS.set (j : Nat) (v : Value) (h : OS w g3 V cs AS nS cS sh AP nP cP rp W) (hv : cs.setIfInBounds j v = cs') : OS w g3 V cs' AS nS cS sh AP nP cP rp (W.setCell ⟨g3, j, none⟩ v) := by
  have hgl := h.gl
  have ho := onl_set W g3 j v
  exact ⟨(set_other W g3 j v (ne_of_type h.bx h.hg (by decide))).trans h.bx, (set_other W g3 j v (by omega)).trans h.rs, rc_set j v h.hg hv, h.sh.onl ho (h.sh.ne_blk h.hg (by decide)), h.rp.onl ho (h.rp.ne_blk h.hg (by decide)), h.hb.trans ((ho.below (Nat.le_of_lt (lt_of_heap h.hg))).mono (by omega)), h.gl⟩
end
/-- Three texts' lengths. -/
theorem trs_bd (l : List Tr) (m : Nat) (h : (trs l).length ≤ m) : ∀ t ∈ l, t.a.length ≤ m ∧ t.b.length ≤ m := by
  intro t ht
  obtain ⟨_, h2⟩ := joinL_bd (trP l)
  have h3 : (joinL (trP l)).length ≤ m := h
  have ha : t.a ∈ trP l := by unfold trP; exact List.mem_flatten.2 ⟨_, List.mem_map.2 ⟨t, ht, rfl⟩, by simp⟩
  have hb : t.b ∈ trP l := by unfold trP; exact List.mem_flatten.2 ⟨_, List.mem_map.2 ⟨t, ht, rfl⟩, by simp⟩
  exact ⟨Nat.le_trans (h2 _ ha) h3, Nat.le_trans (h2 _ hb) h3⟩
theorem ints_one (l : List Int) : ∀ u ∈ l.map (Value.int .i64), u.oneCell' = true := by
  intro u hu
  obtain ⟨x, _, rfl⟩ := List.mem_map.1 hu
  rfl
theorem t5S {W : World} {g : Nat} {v0 v1 v2 : Value} {T : TypeId} (h : W.heap[g]? = some (.cells #[v0, v1, v2] T (0, 0))) : W.cell? ⟨g, 0, none⟩ = some v0 ∧ W.cell? ⟨g, 1, none⟩ = some v1 ∧ W.cell? ⟨g, 2, none⟩ = some v2 := ⟨rc_cell 0 _ h rfl, rc_cell 1 _ h rfl, rc_cell 2 _ h rfl⟩
set_option maxRecDepth 100000 in
set_option maxHeartbeats 16000000 in
theorem own_core (k b s q : Int) (f : Bool) (i : Int) (S : ByteArray) (AW : Option Addr) (nW cW : Nat) (AR : Option Addr) (nR cR : Nat) (AS : Option Addr) (nS cS : Nat) (AP : Option Addr) (nP cP : Nat) (ws rs : List Tr) (sh rp : List Int) (w : World)
    (hw : Trs w AW nW ws) (hr : Trs w AR nR rs) (hs : Ins w AS nS sh) (hp : Bs w AP nP rp) (bW : nW ≤ 10000000) (bR : nR ≤ 10000000) (bS : nS ≤ 10000000) (bP : nP ≤ 140737488355328)
    (tW : (trs ws).length ≤ 140737488355328) (tR : (trs rs).length ≤ 140737488355328) :
    Calls Try.prog 14 #[.agg (rcV k b s q AW nW cW AR nR cR f AS nS cS AP nP cP i S)] w fun e w' => ∃ A6 c6 A7 c7 A9 c9 A12 c12, e = .returned (.agg (rcV k b s q A6 nW c6 A7 nR c7 f A9 nS c9 A12 nP c12 i S)) ∧ TrO w' w.heap.size 61 A6 nW c6 ws ∧ TrO w' w.heap.size 99 A7 nR c7 rs ∧ Own w' w.heap.size 3 A9 nS c9 (sh.map (Value.int .i64)) ∧ Own w' w.heap.size 5 A12 nP c12 (By rp) ∧ Below w.heap.size w w' := by
  obtain ⟨i0, hi, hz0, hz1, hz2⟩ := info_parts info3
  obtain ⟨i61, hi61, hz610, hz611, hz612⟩ := info_parts info61
  obtain ⟨i99, hi99, hz990, hz991, hz992⟩ := info_parts info99
  have HW := Lib.hid hw; have HR := Lib.hid hr; have HSH := Lib.hid hs; have HRP := Lib.hid hp
  have HLW := Lib.hid hw.1; have HLR := Lib.hid hr.1
  have HBW := Lib.hid (trs_bd ws _ tW); have HBR := Lib.hid (trs_bd rs _ tR)
  have hsz : (w.alloc (.cells (rcV k b s q AW nW cW AR nR cR f AS nS cS AP nP cP i S) 30)).heap.size = w.heap.size + 1 := by simp
  have hb1 := below_alloc w (.cells (rcV k b s q AW nW cW AR nR cR f AS nS cS AP nP cP i S) 30)
  have hb2 := below_alloc (w.alloc (.cells (rcV k b s q AW nW cW AR nR cR f AS nS cS AP nP cP i S) 30)) (.cells zeroV 32)
  have BX := Lib.hid ((hb2.block w.heap.size (by omega)).trans (heap_alloc_new w (.cells (rcV k b s q AW nW cW AR nR cR f AS nS cS AP nP cP i S) 30)))
  have hr2 := heap_alloc_new (w.alloc (.cells (rcV k b s q AW nW cW AR nR cR f AS nS cS AP nP cP i S) 30)) (.cells zeroV 32)
  rw [hsz] at hr2
  have RSd' := Lib.hid hr2
  have HBd' := Lib.hid (hb1.trans (hb2.mono (by omega)))
  clear hw hr hs hp tW tR hsz hb1 hb2 hr2
  go_enter Try.func14, Try.ntmps14
  go_upto_region 1 with fail
  generalize ((w.alloc (.cells (rcV k b s q AW nW cW AR nR cR f AS nS cS AP nP cP i S) 30)).alloc (.cells zeroV 32)) = x0 at *
  have BXd : Hid (x0.drew.heap[w.heap.size]? = some (.cells (rcV k b s q AW nW cW AR nR cR f AS nS cS AP nP cP i S) 30 (0, 0))) := BX
  have RSd : Hid (x0.drew.heap[w.heap.size + 1]? = some (.cells zeroV 32 (0, 0))) := RSd'
  have HBd : Hid (Below w.heap.size w x0.drew) := Lib.hid (below_n HBd'.out 1)
  clear RSd' HBd'
  go_cut [3] (fun p wx => ∃ (g3 : Nat) (A9 : Option Addr) (c9 : Nat) (A12 : Option Addr) (c12 : Nat), p = .pointer (some ⟨g3, 0, none⟩) ∧ OS w g3 (rcV k b s q AW nW cW AR nR cR f AS nS cS AP nP cP i S) (rcV k b s q none 0 0 none 0 0 f A9 nS c9 A12 nP c12 i S) A9 nS c9 (sh.map (Value.int .i64)) A12 nP c12 (By rp) wx)
  case first =>
    refine wp_region_held_drew (S := fun w' => w'.cell? ⟨w.heap.size, 0, none⟩ = some (.int .i64 k) ∧ w'.cell? ⟨w.heap.size, 1, none⟩ = some (.int .u64 b) ∧ w'.cell? ⟨w.heap.size, 2, none⟩ = some (.int .u64 s) ∧ w'.cell? ⟨w.heap.size, 3, none⟩ = some (.int .u64 q) ∧ w'.cell? ⟨w.heap.size, 6, none⟩ = some (.bool f) ∧ w'.cell? ⟨w.heap.size, 7, none⟩ = some (.slice AS nS cS) ∧ w'.cell? ⟨w.heap.size, 8, none⟩ = some (.slice AP nP cP) ∧ w'.cell? ⟨w.heap.size, 9, none⟩ = some (.int .u64 i) ∧ w'.cell? ⟨w.heap.size, 10, none⟩ = some (.string S)) (by kernel_rfl) (box_S (show x0.drew.heap[w.heap.size]? = _ from BX.out)) (fun hH0 => ?_)
    generalize x0.drew = xd at *
    refine wpAnyH_take (i := 0) (oi := { dst := some 8, op := Op.fieldAddr 30 (Operand.tmp 1) 0, type := 0, pos := _, after := #[], guard := none }) (v := ?vr1u1_0) rfl (by kernel_rfl) (by kernel_rfl) (by kernel_rfl) (fun _ _ _ h => h) (Or.inl ⟨by rfl, ?yr1u1_0⟩) hH0 ?rr1u1_0
    case yr1u1_0 => (intro w hSw; (try dsimp only at hSw); go_simp; try (with_reducible rfl))
    try simp only [Act.put, List.setIfInBounds_toArray, List.set_cons_zero, List.set_cons_succ]
    refine wpAnyH_take (i := 1) (oi := { dst := some 9, op := Op.load 3 (Operand.tmp 8), type := 3, pos := _, after := #[{ on := 0, ground := Ground.data }], guard := none }) (v := ?vr1u2_1) rfl (by kernel_rfl) (by kernel_rfl) (by kernel_rfl) (fun _ _ _ h => h) (Or.inl ⟨by rfl, ?yr1u2_1⟩) hH0 ?rr1u2_1
    case yr1u2_1 => (intro w hSw; (try dsimp only at hSw); go_simp; try (with_reducible rfl))
    try simp only [Act.put, List.setIfInBounds_toArray, List.set_cons_zero, List.set_cons_succ]
    refine wpAnyH_take (i := 2) (oi := { dst := some 10, op := Op.fieldAddr 30 (Operand.tmp 1) 1, type := 0, pos := _, after := #[], guard := none }) (v := ?vr1u3_2) rfl (by kernel_rfl) (by kernel_rfl) (by kernel_rfl) (fun _ _ _ h => h) (Or.inl ⟨by rfl, ?yr1u3_2⟩) hH0 ?rr1u3_2
    case yr1u3_2 => (intro w hSw; (try dsimp only at hSw); go_simp; try (with_reducible rfl))
    try simp only [Act.put, List.setIfInBounds_toArray, List.set_cons_zero, List.set_cons_succ]
    refine wpAnyH_take (i := 3) (oi := { dst := some 11, op := Op.load 24 (Operand.tmp 10), type := 24, pos := _, after := #[{ on := 2, ground := Ground.data }], guard := none }) (v := ?vr1u4_3) rfl (by kernel_rfl) (by kernel_rfl) (by kernel_rfl) (fun _ _ _ h => h) (Or.inl ⟨by rfl, ?yr1u4_3⟩) hH0 ?rr1u4_3
    case yr1u4_3 => (intro w hSw; (try dsimp only at hSw); go_simp; try (with_reducible rfl))
    try simp only [Act.put, List.setIfInBounds_toArray, List.set_cons_zero, List.set_cons_succ]
    refine wpAnyH_take (i := 4) (oi := { dst := some 12, op := Op.fieldAddr 30 (Operand.tmp 1) 4, type := 0, pos := _, after := #[], guard := none }) (v := ?vr1u5_4) rfl (by kernel_rfl) (by kernel_rfl) (by kernel_rfl) (fun _ _ _ h => h) (Or.inl ⟨by rfl, ?yr1u5_4⟩) hH0 ?rr1u5_4
    case yr1u5_4 => (intro w hSw; (try dsimp only at hSw); go_simp; try (with_reducible rfl))
    try simp only [Act.put, List.setIfInBounds_toArray, List.set_cons_zero, List.set_cons_succ]
    refine wpAnyH_take (i := 5) (oi := { dst := some 13, op := Op.load 4 (Operand.tmp 12), type := 4, pos := _, after := #[{ on := 4, ground := Ground.data }], guard := none }) (v := ?vr1u6_5) rfl (by kernel_rfl) (by kernel_rfl) (by kernel_rfl) (fun _ _ _ h => h) (Or.inl ⟨by rfl, ?yr1u6_5⟩) hH0 ?rr1u6_5
    case yr1u6_5 => (intro w hSw; (try dsimp only at hSw); go_simp; try (with_reducible rfl))
    try simp only [Act.put, List.setIfInBounds_toArray, List.set_cons_zero, List.set_cons_succ]
    refine wpAnyH_take (i := 7) (oi := { dst := some 15, op := Op.fieldAddr 30 (Operand.tmp 1) 5, type := 0, pos := _, after := #[], guard := none }) (v := ?vr1u7_7) rfl (by kernel_rfl) (by kernel_rfl) (by kernel_rfl) (fun _ _ _ h => h) (Or.inl ⟨by rfl, ?yr1u7_7⟩) hH0 ?rr1u7_7
    case yr1u7_7 => (intro w hSw; (try dsimp only at hSw); go_simp; try (with_reducible rfl))
    try simp only [Act.put, List.setIfInBounds_toArray, List.set_cons_zero, List.set_cons_succ]
    refine wpAnyH_take (i := 8) (oi := { dst := some 16, op := Op.load 27 (Operand.tmp 15), type := 27, pos := _, after := #[{ on := 7, ground := Ground.data }], guard := none }) (v := ?vr1u8_8) rfl (by kernel_rfl) (by kernel_rfl) (by kernel_rfl) (fun _ _ _ h => h) (Or.inl ⟨by rfl, ?yr1u8_8⟩) hH0 ?rr1u8_8
    case yr1u8_8 => (intro w hSw; (try dsimp only at hSw); go_simp; try (with_reducible rfl))
    try simp only [Act.put, List.setIfInBounds_toArray, List.set_cons_zero, List.set_cons_succ]
    refine wpAnyH_take (i := 10) (oi := { dst := some 18, op := Op.fieldAddr 30 (Operand.tmp 1) 6, type := 0, pos := _, after := #[], guard := none }) (v := ?vr1u9_10) rfl (by kernel_rfl) (by kernel_rfl) (by kernel_rfl) (fun _ _ _ h => h) (Or.inl ⟨by rfl, ?yr1u9_10⟩) hH0 ?rr1u9_10
    case yr1u9_10 => (intro w hSw; (try dsimp only at hSw); go_simp; try (with_reducible rfl))
    try simp only [Act.put, List.setIfInBounds_toArray, List.set_cons_zero, List.set_cons_succ]
    refine wpAnyH_take (i := 11) (oi := { dst := some 19, op := Op.load 28 (Operand.tmp 18), type := 28, pos := _, after := #[{ on := 10, ground := Ground.data }], guard := none }) (v := ?vr1u10_11) rfl (by kernel_rfl) (by kernel_rfl) (by kernel_rfl) (fun _ _ _ h => h) (Or.inl ⟨by rfl, ?yr1u10_11⟩) hH0 ?rr1u10_11
    case yr1u10_11 => (intro w hSw; (try dsimp only at hSw); go_simp; try (with_reducible rfl))
    try simp only [Act.put, List.setIfInBounds_toArray, List.set_cons_zero, List.set_cons_succ]
    refine wpAnyH_take (i := 13) (oi := { dst := some 21, op := Op.fieldAddr 30 (Operand.tmp 1) 7, type := 0, pos := _, after := #[], guard := none }) (v := ?vr1u11_13) rfl (by kernel_rfl) (by kernel_rfl) (by kernel_rfl) (fun _ _ _ h => h) (Or.inl ⟨by rfl, ?yr1u11_13⟩) hH0 ?rr1u11_13
    case yr1u11_13 => (intro w hSw; (try dsimp only at hSw); go_simp; try (with_reducible rfl))
    try simp only [Act.put, List.setIfInBounds_toArray, List.set_cons_zero, List.set_cons_succ]
    refine wpAnyH_take (i := 14) (oi := { dst := some 22, op := Op.load 22 (Operand.tmp 21), type := 22, pos := _, after := #[{ on := 13, ground := Ground.data }], guard := none }) (v := ?vr1u12_14) rfl (by kernel_rfl) (by kernel_rfl) (by kernel_rfl) (fun _ _ _ h => h) (Or.inl ⟨by rfl, ?yr1u12_14⟩) hH0 ?rr1u12_14
    case yr1u12_14 => (intro w hSw; (try dsimp only at hSw); go_simp; try (with_reducible rfl))
    try simp only [Act.put, List.setIfInBounds_toArray, List.set_cons_zero, List.set_cons_succ]
    refine wpAnyH_take (i := 15) (oi := { dst := some 23, op := Op.fieldAddr 30 (Operand.tmp 1) 8, type := 0, pos := _, after := #[], guard := none }) (v := ?vr1u13_15) rfl (by kernel_rfl) (by kernel_rfl) (by kernel_rfl) (fun _ _ _ h => h) (Or.inl ⟨by rfl, ?yr1u13_15⟩) hH0 ?rr1u13_15
    case yr1u13_15 => (intro w hSw; (try dsimp only at hSw); go_simp; try (with_reducible rfl))
    try simp only [Act.put, List.setIfInBounds_toArray, List.set_cons_zero, List.set_cons_succ]
    refine wpAnyH_take (i := 16) (oi := { dst := some 24, op := Op.load 9 (Operand.tmp 23), type := 9, pos := _, after := #[{ on := 15, ground := Ground.data }], guard := none }) (v := ?vr1u14_16) rfl (by kernel_rfl) (by kernel_rfl) (by kernel_rfl) (fun _ _ _ h => h) (Or.inl ⟨by rfl, ?yr1u14_16⟩) hH0 ?rr1u14_16
    case yr1u14_16 => (intro w hSw; (try dsimp only at hSw); go_simp; try (with_reducible rfl))
    try simp only [Act.put, List.setIfInBounds_toArray, List.set_cons_zero, List.set_cons_succ]
    refine wpAnyH_ready (rs := [6, 18]) (by kernel_rfl) (by simp) ?_
    refine (AllReadyH.cons (o := { dst := some 14, op := Op.buildSlice 27 0 #[], type := 27, pos := _, after := #[], guard := none }) rfl (fun K hK => ?_) (AllReadyH.cons (o := { dst := some 3, op := Op.alloc 32, type := 0, pos := _, after := #[], guard := none }) rfl (fun K hK => ?_) AllReadyH.nil))
    · go_simp
      have ba1 := below_alloc xd (.cells #[] 3)
      have BX1 := Lib.hid ((ba1.block _ (lt_of_heap BXd.out)).trans BXd.out)
      have RS1 := Lib.hid ((ba1.block _ (lt_of_heap RSd.out)).trans RSd.out)
      have HB1 := Lib.hid (HBd.out.trans (ba1.mono HBd.out.size))
      have RW1 : Hid (Own (xd.alloc (.cells #[] 3)) w.heap.size 3 (some ⟨xd.heap.size, 0, none⟩) 0 0 []) := Lib.hid (World.ownsRow_made (e := 3) (size := 1) xd #[] 0 HBd.out.size (Nat.zero_le _) rfl)
      refine hK.out _ _ (box_S (show (xd.alloc (.cells #[] 3)).heap[w.heap.size]? = _ from BX1.out)) (fun hH1 => ?_)
      clear hK K
      try simp only [Act.put, List.setIfInBounds_toArray, List.set_cons_zero, List.set_cons_succ]
      clear ba1
      generalize xd.alloc (.cells #[] 3) = x1 at *
      refine wpAnyH_ready (rs := [9, 18]) (by kernel_rfl) (by simp) ?_
      refine (AllReadyH.cons (o := { dst := some 17, op := Op.call { callee := Callee.builtin Builtin.append, args := #[Operand.tmp 14, Operand.tmp 16], argTypes := #[27, 27] }, type := 27, pos := _, after := #[{ on := 6, ground := Ground.data }, { on := 8, ground := Ground.data }], guard := none }) rfl (fun K hK => ?_) (AllReadyH.cons (o := { dst := some 3, op := Op.alloc 32, type := 0, pos := _, after := #[], guard := none }) rfl (fun K hK => ?_) AllReadyH.nil))
      · refine step_append_rd rfl (.tmp 14) (.tmp 16) 27 rfl i0 (.int .i64 0) 8 Try.underlying27 hi hz0 hz1 hz2 rfl (by simp [Act.eval, Act.put]) RW1.out AS nS cS (sh.map (Value.int .i64)) (by simp [Act.eval, Act.put]) (HSH.out.keep HB1.out).1 (ints_one _) (by unfold maxLen; omega) (by omega) HB1.out.size ?_
        intro A9 c9 x2 ho2 hg2
        have eF2 : Ef [3] 0 0 x1 x2 := Ef.of_grows (s := 1) hg2 (RW1.out.mono (Nat.zero_le _)) (Nat.zero_le _) (by decide)
        have BX2 := Lib.hid (eF2.ty _ _ _ _ BX1.out (by decide))
        have RS2 := Lib.hid (eF2.ty _ _ _ _ RS1.out (by decide))
        have HB2 := Lib.hid (HB1.out.trans (hg2.below HB1.out.size (fun k hk => (RW1.out.lies k hk).1)))
        simp only [Nat.zero_add, List.nil_append] at ho2
        simp only [Nat.zero_add]
        have RW2 := Lib.hid ho2
        clear eF2 ho2 hg2
        refine hK.out _ _ (box_S BX2.out) (fun hH2 => ?_)
        clear hK K
        try simp only [Act.put, List.setIfInBounds_toArray, List.set_cons_zero, List.set_cons_succ]
        refine wpAnyH_ready (rs := [12, 18]) (by kernel_rfl) (by simp) ?_
        refine (AllReadyH.cons (o := { dst := some 20, op := Op.call { callee := Callee.value (Operand.func 22), args := #[Operand.tmp 19], argTypes := #[28] }, type := 28, pos := _, after := #[{ on := 11, ground := Ground.data }, { on := 9, ground := Ground.chain }], guard := none }) rfl (fun K hK => ?_) (AllReadyH.cons (o := { dst := some 3, op := Op.alloc 32, type := 0, pos := _, after := #[], guard := none }) rfl (fun K hK => ?_) AllReadyH.nil))
        · go_simp
          refine (copy_any AP nP cP rp x2 (HRP.out.keep HB2.out) (by omega)).mono ?_
          rintro e x3 ⟨A12, c12, rfl, ho3, hb3⟩
          have BX3 := Lib.hid ((hb3.block _ (lt_of_heap BX2.out)).trans BX2.out)
          have RS3 := Lib.hid ((hb3.block _ (lt_of_heap RS2.out)).trans RS2.out)
          have HB3 := Lib.hid (HB2.out.trans (hb3.mono HB2.out.size))
          have RW3 := Lib.hid (RW2.out.below hb3 (fun k hk => (RW2.out.lies k hk).2))
          have RP3 := Lib.hid (ho3.mono (b := w.heap.size) HB2.out.size)
          clear ho3 hb3
          go_wp2_with fail
          refine hK.out _ _ (box_S BX3.out) (fun hH3 => ?_)
          clear hK K
          try simp only [Act.put, List.setIfInBounds_toArray, List.set_cons_zero, List.set_cons_succ]
          refine wpAnyH_take (i := 17) (oi := { dst := some 25, op := Op.build 32 #[(0, Operand.tmp 9), (1, Operand.tmp 11), (4, Operand.tmp 13), (5, Operand.tmp 17), (6, Operand.tmp 20), (7, Operand.tmp 22), (8, Operand.tmp 24)], type := 32, pos := _, after := #[{ on := 1, ground := Ground.data }, { on := 3, ground := Ground.data }, { on := 5, ground := Ground.data }, { on := 9, ground := Ground.data }, { on := 12, ground := Ground.data }, { on := 14, ground := Ground.data }, { on := 16, ground := Ground.data }], guard := none }) (v := ?vr1t2u15_17) rfl (by kernel_rfl) (by kernel_rfl) (by kernel_rfl) (fun _ _ _ h => h) (Or.inl ⟨by rfl, ?yr1t2u15_17⟩) hH3 ?rr1t2u15_17
          case yr1t2u15_17 => (intro w hSw; (try dsimp only at hSw); go_simp; try (with_reducible rfl))
          try simp only [Act.put, List.setIfInBounds_toArray, List.set_cons_zero, List.set_cons_succ]
          refine wpAnyH_ready (rs := [18]) (by kernel_rfl) (by simp) ?_
          refine (AllReadyH.cons (o := { dst := some 3, op := Op.alloc 32, type := 0, pos := _, after := #[], guard := none }) rfl (fun K hK => ?_) AllReadyH.nil)
          go_simp
          have ba4 := below_alloc x3 (.cells zeroV 32)
          have BX4 := Lib.hid ((ba4.block _ (lt_of_heap BX3.out)).trans BX3.out)
          have RS4 := Lib.hid ((ba4.block _ (lt_of_heap RS3.out)).trans RS3.out)
          have HB4 := Lib.hid (HB3.out.trans (ba4.mono HB3.out.size))
          have RW4 := Lib.hid (RW3.out.below ba4 (fun k hk => (RW3.out.lies k hk).2))
          have RP4 := Lib.hid (RP3.out.below ba4 (fun k hk => (RP3.out.lies k hk).2))
          have GG4 := Lib.hid (heap_alloc_new x3 (.cells zeroV 32))
          have GL4 : Hid (w.heap.size + 1 < x3.heap.size) := Lib.hid (lt_of_heap RS3.out)
          refine hK.out _ _ (box_S (show (x3.alloc (.cells zeroV 32)).heap[w.heap.size]? = _ from BX4.out)) (fun hH4 => ?_)
          clear hK K
          try simp only [Act.put, List.setIfInBounds_toArray, List.set_cons_zero, List.set_cons_succ]
          clear ba4
          generalize x3.alloc (.cells zeroV 32) = x4 at *
          have zz0 := rc_cell 0 (.int .i64 0) GG4.out rfl
          have yy0 := two_frozen (i := 0) GG4.out
          have zz1 := rc_cell 1 (.int .u64 0) GG4.out rfl
          have yy1 := two_frozen (i := 1) GG4.out
          have zz2 := rc_cell 2 (.int .u64 0) GG4.out rfl
          have yy2 := two_frozen (i := 2) GG4.out
          have zz3 := rc_cell 3 (.int .u64 0) GG4.out rfl
          have yy3 := two_frozen (i := 3) GG4.out
          have zz4 := rc_cell 4 (.slice none 0 0) GG4.out rfl
          have yy4 := two_frozen (i := 4) GG4.out
          have zz5 := rc_cell 5 (.slice none 0 0) GG4.out rfl
          have yy5 := two_frozen (i := 5) GG4.out
          have zz6 := rc_cell 6 (.bool false) GG4.out rfl
          have yy6 := two_frozen (i := 6) GG4.out
          have zz7 := rc_cell 7 (.slice none 0 0) GG4.out rfl
          have yy7 := two_frozen (i := 7) GG4.out
          have zz8 := rc_cell 8 (.slice none 0 0) GG4.out rfl
          have yy8 := two_frozen (i := 8) GG4.out
          have zz9 := rc_cell 9 (.int .u64 0) GG4.out rfl
          have yy9 := two_frozen (i := 9) GG4.out
          have zz10 := rc_cell 10 (.string ⟨#[]⟩) GG4.out rfl
          have yy10 := two_frozen (i := 10) GG4.out
          have HZ := Lib.hid (set11 x4 x3.heap.size (.int .i64 k) (.int .u64 b) (.int .u64 s) (.int .u64 q) (.slice none 0 0) (.slice none 0 0) (.bool f) (.slice A9 nS c9) (.slice A12 nP c12) (.int .u64 i) (.string S) GG4.out)
          have hgl := GL4.out
          have BZ := Lib.hid ((HZ.out.2.block _ (lt_of_heap BX4.out) (fun e => by injection e with e; omega)).trans BX4.out)
          refine wpAnyH_ready (rs := [19]) (by kernel_rfl) (by simp) ?_
          refine (AllReadyH.cons (o := { dst := none, op := Op.store 32 (Operand.tmp 3) (Operand.tmp 25), type := 0, pos := _, after := #[{ on := 18, ground := Ground.data }, { on := 17, ground := Ground.data }, { on := 12, ground := Ground.chain }, { on := 0, ground := Ground.phase }, { on := 1, ground := Ground.phase }, { on := 2, ground := Ground.phase }, { on := 3, ground := Ground.phase }, { on := 4, ground := Ground.phase }, { on := 5, ground := Ground.phase }, { on := 6, ground := Ground.phase }, { on := 7, ground := Ground.phase }, { on := 8, ground := Ground.phase }, { on := 9, ground := Ground.phase }, { on := 10, ground := Ground.phase }, { on := 11, ground := Ground.phase }, { on := 12, ground := Ground.phase }, { on := 13, ground := Ground.phase }, { on := 14, ground := Ground.phase }, { on := 15, ground := Ground.phase }, { on := 16, ground := Ground.phase }, { on := 17, ground := Ground.phase }, { on := 18, ground := Ground.phase }], guard := none }) rfl (fun K hK => ?_) AllReadyH.nil)
          go_simp
          refine hK.out _ _ (box_S BZ.out) (fun hHz => ?_)
          clear hK K
          refine wpAnyH_done (by kernel_rfl) ?_ _
          go_wp2_with fail
          go_meet
          case rel => exact ⟨x3.heap.size, A9, c9, A12, c12, rfl, ⟨BZ.out, (HZ.out.2.block _ (lt_of_heap RS4.out) (fun e => by injection e with e; omega)).trans RS4.out, HZ.out.1, RW4.out.onl HZ.out.2 (RW4.out.ne_blk GG4.out (by decide)), RP4.out.onl HZ.out.2 (RP4.out.ne_blk GG4.out (by decide)), HB4.out.trans ((HZ.out.2.below (Nat.le_of_lt (lt_of_heap GG4.out))).mono (by omega)), hgl⟩⟩
        · go_simp
          have ba3 := below_alloc x2 (.cells zeroV 32)
          have BX3 := Lib.hid ((ba3.block _ (lt_of_heap BX2.out)).trans BX2.out)
          have RS3 := Lib.hid ((ba3.block _ (lt_of_heap RS2.out)).trans RS2.out)
          have HB3 := Lib.hid (HB2.out.trans (ba3.mono HB2.out.size))
          have RW3 := Lib.hid (RW2.out.below ba3 (fun k hk => (RW2.out.lies k hk).2))
          have GG3 := Lib.hid (heap_alloc_new x2 (.cells zeroV 32))
          have GL3 : Hid (w.heap.size + 1 < x2.heap.size) := Lib.hid (lt_of_heap RS2.out)
          refine hK.out _ _ (box_S (show (x2.alloc (.cells zeroV 32)).heap[w.heap.size]? = _ from BX3.out)) (fun hH3 => ?_)
          clear hK K
          try simp only [Act.put, List.setIfInBounds_toArray, List.set_cons_zero, List.set_cons_succ]
          clear ba3
          generalize x2.alloc (.cells zeroV 32) = x3 at *
          refine wpAnyH_ready (rs := [12]) (by kernel_rfl) (by simp) ?_
          refine (AllReadyH.cons (o := { dst := some 20, op := Op.call { callee := Callee.value (Operand.func 22), args := #[Operand.tmp 19], argTypes := #[28] }, type := 28, pos := _, after := #[{ on := 11, ground := Ground.data }, { on := 9, ground := Ground.chain }], guard := none }) rfl (fun K hK => ?_) AllReadyH.nil)
          go_simp
          refine (copy_any AP nP cP rp x3 (HRP.out.keep HB3.out) (by omega)).mono ?_
          rintro e x4 ⟨A12, c12, rfl, ho4, hb4⟩
          have BX4 := Lib.hid ((hb4.block _ (lt_of_heap BX3.out)).trans BX3.out)
          have RS4 := Lib.hid ((hb4.block _ (lt_of_heap RS3.out)).trans RS3.out)
          have HB4 := Lib.hid (HB3.out.trans (hb4.mono HB3.out.size))
          have RW4 := Lib.hid (RW3.out.below hb4 (fun k hk => (RW3.out.lies k hk).2))
          have RP4 := Lib.hid (ho4.mono (b := w.heap.size) HB3.out.size)
          have GG4 := Lib.hid ((hb4.block _ (lt_of_heap GG3.out)).trans GG3.out)
          clear ho4 hb4
          go_wp2_with fail
          refine hK.out _ _ (box_S BX4.out) (fun hH4 => ?_)
          clear hK K
          try simp only [Act.put, List.setIfInBounds_toArray, List.set_cons_zero, List.set_cons_succ]
          refine wpAnyH_take (i := 17) (oi := { dst := some 25, op := Op.build 32 #[(0, Operand.tmp 9), (1, Operand.tmp 11), (4, Operand.tmp 13), (5, Operand.tmp 17), (6, Operand.tmp 20), (7, Operand.tmp 22), (8, Operand.tmp 24)], type := 32, pos := _, after := #[{ on := 1, ground := Ground.data }, { on := 3, ground := Ground.data }, { on := 5, ground := Ground.data }, { on := 9, ground := Ground.data }, { on := 12, ground := Ground.data }, { on := 14, ground := Ground.data }, { on := 16, ground := Ground.data }], guard := none }) (v := ?vr1t3u16_17) rfl (by kernel_rfl) (by kernel_rfl) (by kernel_rfl) (fun _ _ _ h => h) (Or.inl ⟨by rfl, ?yr1t3u16_17⟩) hH4 ?rr1t3u16_17
          case yr1t3u16_17 => (intro w hSw; (try dsimp only at hSw); go_simp; try (with_reducible rfl))
          try simp only [Act.put, List.setIfInBounds_toArray, List.set_cons_zero, List.set_cons_succ]
          have zz0 := rc_cell 0 (.int .i64 0) GG4.out rfl
          have yy0 := two_frozen (i := 0) GG4.out
          have zz1 := rc_cell 1 (.int .u64 0) GG4.out rfl
          have yy1 := two_frozen (i := 1) GG4.out
          have zz2 := rc_cell 2 (.int .u64 0) GG4.out rfl
          have yy2 := two_frozen (i := 2) GG4.out
          have zz3 := rc_cell 3 (.int .u64 0) GG4.out rfl
          have yy3 := two_frozen (i := 3) GG4.out
          have zz4 := rc_cell 4 (.slice none 0 0) GG4.out rfl
          have yy4 := two_frozen (i := 4) GG4.out
          have zz5 := rc_cell 5 (.slice none 0 0) GG4.out rfl
          have yy5 := two_frozen (i := 5) GG4.out
          have zz6 := rc_cell 6 (.bool false) GG4.out rfl
          have yy6 := two_frozen (i := 6) GG4.out
          have zz7 := rc_cell 7 (.slice none 0 0) GG4.out rfl
          have yy7 := two_frozen (i := 7) GG4.out
          have zz8 := rc_cell 8 (.slice none 0 0) GG4.out rfl
          have yy8 := two_frozen (i := 8) GG4.out
          have zz9 := rc_cell 9 (.int .u64 0) GG4.out rfl
          have yy9 := two_frozen (i := 9) GG4.out
          have zz10 := rc_cell 10 (.string ⟨#[]⟩) GG4.out rfl
          have yy10 := two_frozen (i := 10) GG4.out
          have HZ := Lib.hid (set11 x4 x2.heap.size (.int .i64 k) (.int .u64 b) (.int .u64 s) (.int .u64 q) (.slice none 0 0) (.slice none 0 0) (.bool f) (.slice A9 nS c9) (.slice A12 nP c12) (.int .u64 i) (.string S) GG4.out)
          have hgl := GL3.out
          have BZ := Lib.hid ((HZ.out.2.block _ (lt_of_heap BX4.out) (fun e => by injection e with e; omega)).trans BX4.out)
          refine wpAnyH_ready (rs := [19]) (by kernel_rfl) (by simp) ?_
          refine (AllReadyH.cons (o := { dst := none, op := Op.store 32 (Operand.tmp 3) (Operand.tmp 25), type := 0, pos := _, after := #[{ on := 18, ground := Ground.data }, { on := 17, ground := Ground.data }, { on := 12, ground := Ground.chain }, { on := 0, ground := Ground.phase }, { on := 1, ground := Ground.phase }, { on := 2, ground := Ground.phase }, { on := 3, ground := Ground.phase }, { on := 4, ground := Ground.phase }, { on := 5, ground := Ground.phase }, { on := 6, ground := Ground.phase }, { on := 7, ground := Ground.phase }, { on := 8, ground := Ground.phase }, { on := 9, ground := Ground.phase }, { on := 10, ground := Ground.phase }, { on := 11, ground := Ground.phase }, { on := 12, ground := Ground.phase }, { on := 13, ground := Ground.phase }, { on := 14, ground := Ground.phase }, { on := 15, ground := Ground.phase }, { on := 16, ground := Ground.phase }, { on := 17, ground := Ground.phase }, { on := 18, ground := Ground.phase }], guard := none }) rfl (fun K hK => ?_) AllReadyH.nil)
          go_simp
          refine hK.out _ _ (box_S BZ.out) (fun hHz => ?_)
          clear hK K
          refine wpAnyH_done (by kernel_rfl) ?_ _
          go_wp2_with fail
          go_meet
          case rel => exact ⟨x2.heap.size, A9, c9, A12, c12, rfl, ⟨BZ.out, (HZ.out.2.block _ (lt_of_heap RS4.out) (fun e => by injection e with e; omega)).trans RS4.out, HZ.out.1, RW4.out.onl HZ.out.2 (RW4.out.ne_blk GG4.out (by decide)), RP4.out.onl HZ.out.2 (RP4.out.ne_blk GG4.out (by decide)), HB4.out.trans ((HZ.out.2.below (Nat.le_of_lt (lt_of_heap GG4.out))).mono (by omega)), hgl⟩⟩
      · go_simp
        have ba2 := below_alloc x1 (.cells zeroV 32)
        have BX2 := Lib.hid ((ba2.block _ (lt_of_heap BX1.out)).trans BX1.out)
        have RS2 := Lib.hid ((ba2.block _ (lt_of_heap RS1.out)).trans RS1.out)
        have HB2 := Lib.hid (HB1.out.trans (ba2.mono HB1.out.size))
        have RW2 := Lib.hid (RW1.out.below ba2 (fun k hk => (RW1.out.lies k hk).2))
        have GG2 := Lib.hid (heap_alloc_new x1 (.cells zeroV 32))
        have GL2 : Hid (w.heap.size + 1 < x1.heap.size) := Lib.hid (lt_of_heap RS1.out)
        refine hK.out _ _ (box_S (show (x1.alloc (.cells zeroV 32)).heap[w.heap.size]? = _ from BX2.out)) (fun hH2 => ?_)
        clear hK K
        try simp only [Act.put, List.setIfInBounds_toArray, List.set_cons_zero, List.set_cons_succ]
        clear ba2
        generalize x1.alloc (.cells zeroV 32) = x2 at *
        refine wpAnyH_ready (rs := [9]) (by kernel_rfl) (by simp) ?_
        refine (AllReadyH.cons (o := { dst := some 17, op := Op.call { callee := Callee.builtin Builtin.append, args := #[Operand.tmp 14, Operand.tmp 16], argTypes := #[27, 27] }, type := 27, pos := _, after := #[{ on := 6, ground := Ground.data }, { on := 8, ground := Ground.data }], guard := none }) rfl (fun K hK => ?_) AllReadyH.nil)
        refine step_append_rd rfl (.tmp 14) (.tmp 16) 27 rfl i0 (.int .i64 0) 8 Try.underlying27 hi hz0 hz1 hz2 rfl (by simp [Act.eval, Act.put]) RW2.out AS nS cS (sh.map (Value.int .i64)) (by simp [Act.eval, Act.put]) (HSH.out.keep HB2.out).1 (ints_one _) (by unfold maxLen; omega) (by omega) HB2.out.size ?_
        intro A9 c9 x3 ho3 hg3
        have eF3 : Ef [3] 0 0 x2 x3 := Ef.of_grows (s := 1) hg3 (RW2.out.mono (Nat.zero_le _)) (Nat.zero_le _) (by decide)
        have BX3 := Lib.hid (eF3.ty _ _ _ _ BX2.out (by decide))
        have RS3 := Lib.hid (eF3.ty _ _ _ _ RS2.out (by decide))
        have HB3 := Lib.hid (HB2.out.trans (hg3.below HB2.out.size (fun k hk => (RW2.out.lies k hk).1)))
        simp only [Nat.zero_add, List.nil_append] at ho3
        simp only [Nat.zero_add]
        have RW3 := Lib.hid ho3
        have GG3 := Lib.hid (eF3.ty _ _ _ _ GG2.out (by decide))
        clear eF3 ho3 hg3
        refine hK.out _ _ (box_S BX3.out) (fun hH3 => ?_)
        clear hK K
        try simp only [Act.put, List.setIfInBounds_toArray, List.set_cons_zero, List.set_cons_succ]
        refine wpAnyH_ready (rs := [12]) (by kernel_rfl) (by simp) ?_
        refine (AllReadyH.cons (o := { dst := some 20, op := Op.call { callee := Callee.value (Operand.func 22), args := #[Operand.tmp 19], argTypes := #[28] }, type := 28, pos := _, after := #[{ on := 11, ground := Ground.data }, { on := 9, ground := Ground.chain }], guard := none }) rfl (fun K hK => ?_) AllReadyH.nil)
        go_simp
        refine (copy_any AP nP cP rp x3 (HRP.out.keep HB3.out) (by omega)).mono ?_
        rintro e x4 ⟨A12, c12, rfl, ho4, hb4⟩
        have BX4 := Lib.hid ((hb4.block _ (lt_of_heap BX3.out)).trans BX3.out)
        have RS4 := Lib.hid ((hb4.block _ (lt_of_heap RS3.out)).trans RS3.out)
        have HB4 := Lib.hid (HB3.out.trans (hb4.mono HB3.out.size))
        have RW4 := Lib.hid (RW3.out.below hb4 (fun k hk => (RW3.out.lies k hk).2))
        have RP4 := Lib.hid (ho4.mono (b := w.heap.size) HB3.out.size)
        have GG4 := Lib.hid ((hb4.block _ (lt_of_heap GG3.out)).trans GG3.out)
        clear ho4 hb4
        go_wp2_with fail
        refine hK.out _ _ (box_S BX4.out) (fun hH4 => ?_)
        clear hK K
        try simp only [Act.put, List.setIfInBounds_toArray, List.set_cons_zero, List.set_cons_succ]
        refine wpAnyH_take (i := 17) (oi := { dst := some 25, op := Op.build 32 #[(0, Operand.tmp 9), (1, Operand.tmp 11), (4, Operand.tmp 13), (5, Operand.tmp 17), (6, Operand.tmp 20), (7, Operand.tmp 22), (8, Operand.tmp 24)], type := 32, pos := _, after := #[{ on := 1, ground := Ground.data }, { on := 3, ground := Ground.data }, { on := 5, ground := Ground.data }, { on := 9, ground := Ground.data }, { on := 12, ground := Ground.data }, { on := 14, ground := Ground.data }, { on := 16, ground := Ground.data }], guard := none }) (v := ?vr1t3u17_17) rfl (by kernel_rfl) (by kernel_rfl) (by kernel_rfl) (fun _ _ _ h => h) (Or.inl ⟨by rfl, ?yr1t3u17_17⟩) hH4 ?rr1t3u17_17
        case yr1t3u17_17 => (intro w hSw; (try dsimp only at hSw); go_simp; try (with_reducible rfl))
        try simp only [Act.put, List.setIfInBounds_toArray, List.set_cons_zero, List.set_cons_succ]
        have zz0 := rc_cell 0 (.int .i64 0) GG4.out rfl
        have yy0 := two_frozen (i := 0) GG4.out
        have zz1 := rc_cell 1 (.int .u64 0) GG4.out rfl
        have yy1 := two_frozen (i := 1) GG4.out
        have zz2 := rc_cell 2 (.int .u64 0) GG4.out rfl
        have yy2 := two_frozen (i := 2) GG4.out
        have zz3 := rc_cell 3 (.int .u64 0) GG4.out rfl
        have yy3 := two_frozen (i := 3) GG4.out
        have zz4 := rc_cell 4 (.slice none 0 0) GG4.out rfl
        have yy4 := two_frozen (i := 4) GG4.out
        have zz5 := rc_cell 5 (.slice none 0 0) GG4.out rfl
        have yy5 := two_frozen (i := 5) GG4.out
        have zz6 := rc_cell 6 (.bool false) GG4.out rfl
        have yy6 := two_frozen (i := 6) GG4.out
        have zz7 := rc_cell 7 (.slice none 0 0) GG4.out rfl
        have yy7 := two_frozen (i := 7) GG4.out
        have zz8 := rc_cell 8 (.slice none 0 0) GG4.out rfl
        have yy8 := two_frozen (i := 8) GG4.out
        have zz9 := rc_cell 9 (.int .u64 0) GG4.out rfl
        have yy9 := two_frozen (i := 9) GG4.out
        have zz10 := rc_cell 10 (.string ⟨#[]⟩) GG4.out rfl
        have yy10 := two_frozen (i := 10) GG4.out
        have HZ := Lib.hid (set11 x4 x1.heap.size (.int .i64 k) (.int .u64 b) (.int .u64 s) (.int .u64 q) (.slice none 0 0) (.slice none 0 0) (.bool f) (.slice A9 nS c9) (.slice A12 nP c12) (.int .u64 i) (.string S) GG4.out)
        have hgl := GL2.out
        have BZ := Lib.hid ((HZ.out.2.block _ (lt_of_heap BX4.out) (fun e => by injection e with e; omega)).trans BX4.out)
        refine wpAnyH_ready (rs := [19]) (by kernel_rfl) (by simp) ?_
        refine (AllReadyH.cons (o := { dst := none, op := Op.store 32 (Operand.tmp 3) (Operand.tmp 25), type := 0, pos := _, after := #[{ on := 18, ground := Ground.data }, { on := 17, ground := Ground.data }, { on := 12, ground := Ground.chain }, { on := 0, ground := Ground.phase }, { on := 1, ground := Ground.phase }, { on := 2, ground := Ground.phase }, { on := 3, ground := Ground.phase }, { on := 4, ground := Ground.phase }, { on := 5, ground := Ground.phase }, { on := 6, ground := Ground.phase }, { on := 7, ground := Ground.phase }, { on := 8, ground := Ground.phase }, { on := 9, ground := Ground.phase }, { on := 10, ground := Ground.phase }, { on := 11, ground := Ground.phase }, { on := 12, ground := Ground.phase }, { on := 13, ground := Ground.phase }, { on := 14, ground := Ground.phase }, { on := 15, ground := Ground.phase }, { on := 16, ground := Ground.phase }, { on := 17, ground := Ground.phase }, { on := 18, ground := Ground.phase }], guard := none }) rfl (fun K hK => ?_) AllReadyH.nil)
        go_simp
        refine hK.out _ _ (box_S BZ.out) (fun hHz => ?_)
        clear hK K
        refine wpAnyH_done (by kernel_rfl) ?_ _
        go_wp2_with fail
        go_meet
        case rel => exact ⟨x1.heap.size, A9, c9, A12, c12, rfl, ⟨BZ.out, (HZ.out.2.block _ (lt_of_heap RS4.out) (fun e => by injection e with e; omega)).trans RS4.out, HZ.out.1, RW4.out.onl HZ.out.2 (RW4.out.ne_blk GG4.out (by decide)), RP4.out.onl HZ.out.2 (RP4.out.ne_blk GG4.out (by decide)), HB4.out.trans ((HZ.out.2.below (Nat.le_of_lt (lt_of_heap GG4.out))).mono (by omega)), hgl⟩⟩
    · go_simp
      have ba1 := below_alloc xd (.cells zeroV 32)
      have BX1 := Lib.hid ((ba1.block _ (lt_of_heap BXd.out)).trans BXd.out)
      have RS1 := Lib.hid ((ba1.block _ (lt_of_heap RSd.out)).trans RSd.out)
      have HB1 := Lib.hid (HBd.out.trans (ba1.mono HBd.out.size))
      have GG1 := Lib.hid (heap_alloc_new xd (.cells zeroV 32))
      have GL1 : Hid (w.heap.size + 1 < xd.heap.size) := Lib.hid (lt_of_heap RSd.out)
      refine hK.out _ _ (box_S (show (xd.alloc (.cells zeroV 32)).heap[w.heap.size]? = _ from BX1.out)) (fun hH1 => ?_)
      clear hK K
      try simp only [Act.put, List.setIfInBounds_toArray, List.set_cons_zero, List.set_cons_succ]
      clear ba1
      generalize xd.alloc (.cells zeroV 32) = x1 at *
      refine wpAnyH_ready (rs := [6]) (by kernel_rfl) (by simp) ?_
      refine (AllReadyH.cons (o := { dst := some 14, op := Op.buildSlice 27 0 #[], type := 27, pos := _, after := #[], guard := none }) rfl (fun K hK => ?_) AllReadyH.nil)
      go_simp
      have ba2 := below_alloc x1 (.cells #[] 3)
      have BX2 := Lib.hid ((ba2.block _ (lt_of_heap BX1.out)).trans BX1.out)
      have RS2 := Lib.hid ((ba2.block _ (lt_of_heap RS1.out)).trans RS1.out)
      have HB2 := Lib.hid (HB1.out.trans (ba2.mono HB1.out.size))
      have GG2 := Lib.hid ((ba2.block _ (lt_of_heap GG1.out)).trans GG1.out)
      have RW2 : Hid (Own (x1.alloc (.cells #[] 3)) w.heap.size 3 (some ⟨x1.heap.size, 0, none⟩) 0 0 []) := Lib.hid (World.ownsRow_made (e := 3) (size := 1) x1 #[] 0 HB1.out.size (Nat.zero_le _) rfl)
      refine hK.out _ _ (box_S (show (x1.alloc (.cells #[] 3)).heap[w.heap.size]? = _ from BX2.out)) (fun hH2 => ?_)
      clear hK K
      try simp only [Act.put, List.setIfInBounds_toArray, List.set_cons_zero, List.set_cons_succ]
      clear ba2
      generalize x1.alloc (.cells #[] 3) = x2 at *
      refine wpAnyH_ready (rs := [9]) (by kernel_rfl) (by simp) ?_
      refine (AllReadyH.cons (o := { dst := some 17, op := Op.call { callee := Callee.builtin Builtin.append, args := #[Operand.tmp 14, Operand.tmp 16], argTypes := #[27, 27] }, type := 27, pos := _, after := #[{ on := 6, ground := Ground.data }, { on := 8, ground := Ground.data }], guard := none }) rfl (fun K hK => ?_) AllReadyH.nil)
      refine step_append_rd rfl (.tmp 14) (.tmp 16) 27 rfl i0 (.int .i64 0) 8 Try.underlying27 hi hz0 hz1 hz2 rfl (by simp [Act.eval, Act.put]) RW2.out AS nS cS (sh.map (Value.int .i64)) (by simp [Act.eval, Act.put]) (HSH.out.keep HB2.out).1 (ints_one _) (by unfold maxLen; omega) (by omega) HB2.out.size ?_
      intro A9 c9 x3 ho3 hg3
      have eF3 : Ef [3] 0 0 x2 x3 := Ef.of_grows (s := 1) hg3 (RW2.out.mono (Nat.zero_le _)) (Nat.zero_le _) (by decide)
      have BX3 := Lib.hid (eF3.ty _ _ _ _ BX2.out (by decide))
      have RS3 := Lib.hid (eF3.ty _ _ _ _ RS2.out (by decide))
      have HB3 := Lib.hid (HB2.out.trans (hg3.below HB2.out.size (fun k hk => (RW2.out.lies k hk).1)))
      simp only [Nat.zero_add, List.nil_append] at ho3
      simp only [Nat.zero_add]
      have RW3 := Lib.hid ho3
      have GG3 := Lib.hid (eF3.ty _ _ _ _ GG2.out (by decide))
      clear eF3 ho3 hg3
      refine hK.out _ _ (box_S BX3.out) (fun hH3 => ?_)
      clear hK K
      try simp only [Act.put, List.setIfInBounds_toArray, List.set_cons_zero, List.set_cons_succ]
      refine wpAnyH_ready (rs := [12]) (by kernel_rfl) (by simp) ?_
      refine (AllReadyH.cons (o := { dst := some 20, op := Op.call { callee := Callee.value (Operand.func 22), args := #[Operand.tmp 19], argTypes := #[28] }, type := 28, pos := _, after := #[{ on := 11, ground := Ground.data }, { on := 9, ground := Ground.chain }], guard := none }) rfl (fun K hK => ?_) AllReadyH.nil)
      go_simp
      refine (copy_any AP nP cP rp x3 (HRP.out.keep HB3.out) (by omega)).mono ?_
      rintro e x4 ⟨A12, c12, rfl, ho4, hb4⟩
      have BX4 := Lib.hid ((hb4.block _ (lt_of_heap BX3.out)).trans BX3.out)
      have RS4 := Lib.hid ((hb4.block _ (lt_of_heap RS3.out)).trans RS3.out)
      have HB4 := Lib.hid (HB3.out.trans (hb4.mono HB3.out.size))
      have RW4 := Lib.hid (RW3.out.below hb4 (fun k hk => (RW3.out.lies k hk).2))
      have RP4 := Lib.hid (ho4.mono (b := w.heap.size) HB3.out.size)
      have GG4 := Lib.hid ((hb4.block _ (lt_of_heap GG3.out)).trans GG3.out)
      clear ho4 hb4
      go_wp2_with fail
      refine hK.out _ _ (box_S BX4.out) (fun hH4 => ?_)
      clear hK K
      try simp only [Act.put, List.setIfInBounds_toArray, List.set_cons_zero, List.set_cons_succ]
      refine wpAnyH_take (i := 17) (oi := { dst := some 25, op := Op.build 32 #[(0, Operand.tmp 9), (1, Operand.tmp 11), (4, Operand.tmp 13), (5, Operand.tmp 17), (6, Operand.tmp 20), (7, Operand.tmp 22), (8, Operand.tmp 24)], type := 32, pos := _, after := #[{ on := 1, ground := Ground.data }, { on := 3, ground := Ground.data }, { on := 5, ground := Ground.data }, { on := 9, ground := Ground.data }, { on := 12, ground := Ground.data }, { on := 14, ground := Ground.data }, { on := 16, ground := Ground.data }], guard := none }) (v := ?vr1t3u18_17) rfl (by kernel_rfl) (by kernel_rfl) (by kernel_rfl) (fun _ _ _ h => h) (Or.inl ⟨by rfl, ?yr1t3u18_17⟩) hH4 ?rr1t3u18_17
      case yr1t3u18_17 => (intro w hSw; (try dsimp only at hSw); go_simp; try (with_reducible rfl))
      try simp only [Act.put, List.setIfInBounds_toArray, List.set_cons_zero, List.set_cons_succ]
      have zz0 := rc_cell 0 (.int .i64 0) GG4.out rfl
      have yy0 := two_frozen (i := 0) GG4.out
      have zz1 := rc_cell 1 (.int .u64 0) GG4.out rfl
      have yy1 := two_frozen (i := 1) GG4.out
      have zz2 := rc_cell 2 (.int .u64 0) GG4.out rfl
      have yy2 := two_frozen (i := 2) GG4.out
      have zz3 := rc_cell 3 (.int .u64 0) GG4.out rfl
      have yy3 := two_frozen (i := 3) GG4.out
      have zz4 := rc_cell 4 (.slice none 0 0) GG4.out rfl
      have yy4 := two_frozen (i := 4) GG4.out
      have zz5 := rc_cell 5 (.slice none 0 0) GG4.out rfl
      have yy5 := two_frozen (i := 5) GG4.out
      have zz6 := rc_cell 6 (.bool false) GG4.out rfl
      have yy6 := two_frozen (i := 6) GG4.out
      have zz7 := rc_cell 7 (.slice none 0 0) GG4.out rfl
      have yy7 := two_frozen (i := 7) GG4.out
      have zz8 := rc_cell 8 (.slice none 0 0) GG4.out rfl
      have yy8 := two_frozen (i := 8) GG4.out
      have zz9 := rc_cell 9 (.int .u64 0) GG4.out rfl
      have yy9 := two_frozen (i := 9) GG4.out
      have zz10 := rc_cell 10 (.string ⟨#[]⟩) GG4.out rfl
      have yy10 := two_frozen (i := 10) GG4.out
      have HZ := Lib.hid (set11 x4 xd.heap.size (.int .i64 k) (.int .u64 b) (.int .u64 s) (.int .u64 q) (.slice none 0 0) (.slice none 0 0) (.bool f) (.slice A9 nS c9) (.slice A12 nP c12) (.int .u64 i) (.string S) GG4.out)
      have hgl := GL1.out
      have BZ := Lib.hid ((HZ.out.2.block _ (lt_of_heap BX4.out) (fun e => by injection e with e; omega)).trans BX4.out)
      refine wpAnyH_ready (rs := [19]) (by kernel_rfl) (by simp) ?_
      refine (AllReadyH.cons (o := { dst := none, op := Op.store 32 (Operand.tmp 3) (Operand.tmp 25), type := 0, pos := _, after := #[{ on := 18, ground := Ground.data }, { on := 17, ground := Ground.data }, { on := 12, ground := Ground.chain }, { on := 0, ground := Ground.phase }, { on := 1, ground := Ground.phase }, { on := 2, ground := Ground.phase }, { on := 3, ground := Ground.phase }, { on := 4, ground := Ground.phase }, { on := 5, ground := Ground.phase }, { on := 6, ground := Ground.phase }, { on := 7, ground := Ground.phase }, { on := 8, ground := Ground.phase }, { on := 9, ground := Ground.phase }, { on := 10, ground := Ground.phase }, { on := 11, ground := Ground.phase }, { on := 12, ground := Ground.phase }, { on := 13, ground := Ground.phase }, { on := 14, ground := Ground.phase }, { on := 15, ground := Ground.phase }, { on := 16, ground := Ground.phase }, { on := 17, ground := Ground.phase }, { on := 18, ground := Ground.phase }], guard := none }) rfl (fun K hK => ?_) AllReadyH.nil)
      go_simp
      refine hK.out _ _ (box_S BZ.out) (fun hHz => ?_)
      clear hK K
      refine wpAnyH_done (by kernel_rfl) ?_ _
      go_wp2_with fail
      go_meet
      case rel => exact ⟨xd.heap.size, A9, c9, A12, c12, rfl, ⟨BZ.out, (HZ.out.2.block _ (lt_of_heap RS4.out) (fun e => by injection e with e; omega)).trans RS4.out, HZ.out.1, RW4.out.onl HZ.out.2 (RW4.out.ne_blk GG4.out (by decide)), RP4.out.onl HZ.out.2 (RP4.out.ne_blk GG4.out (by decide)), HB4.out.trans ((HZ.out.2.below (Nat.le_of_lt (lt_of_heap GG4.out))).mono (by omega)), hgl⟩⟩
  case rest =>
    obtain ⟨g3, A9, c9, A12, c12, rfl, hOS⟩ := hcut
    have HOS0 := Lib.hid hOS
    have l4 := rc_cell 4 (.slice AW nW cW) HOS0.out.bx rfl
    clear hOS BX BXd RSd HBd
    go_wp2_with fail
    clear l4
    go_loopw [29] (fun iv wr => ∃ (kk n' c' : Nat) (A' : Option Addr), iv = .int .i64 kk ∧ kk ≤ nW ∧ Hid (n' = kk) ∧ n' ≤ 10000000 ∧ TrO wr w.heap.size 61 A' n' c' (ws.take kk) ∧ Hid (OS w g3 (rcV k b s q AW nW cW AR nR cR f AS nS cS AP nP cP i S) (rcV k b s q A' n' c' none 0 0 f A9 nS c9 A12 nP c12 i S) A9 nS c9 (sh.map (Value.int .i64)) A12 nP c12 (By rp) wr)) (fun iv _ => nW - (intOf iv).toNat)
    case atStart => exact ⟨0, 0, 0, none, rfl, by omega, Lib.hid rfl, by omega, TrO.nil_, HOS0⟩
    case round =>
      clear HOS0
      obtain ⟨kk, n', c', A', rfl, hk, HNK, hnb, hO, HOS⟩ := hrel
      by_cases hlt : kk < nW
      · have hTr := HW.out.keep HOS.out.hb
        obtain ⟨bb, off, A1, n1, c1, A2, n2, c2, t, rfl, hbl, HX, HNA', HNB', hc0, hc1, hc2, hb1, hn1, hb2, hn2⟩ := hTr.at_ hlt
        have hbd := HBW.out t (List.mem_of_getElem? HX.out)
        have hm1 : n1 ≤ 140737488355328 := by rw [← HNA'.out]; exact hbd.1
        have hm2 : n2 ≤ 140737488355328 := by rw [← HNB'.out]; exact hbd.2
        have HNA := Lib.hid HNA'.out; have HNB := Lib.hid HNB'.out
        obtain ⟨tf, HTF⟩ : ∃ tf, Hid (t.f = tf) := ⟨_, rfl⟩
        rw [HTF.out] at hc2
        have z0 : (0 : Int) ≤ (kk : Int) := by omega
        have z1 : (kk : Int) < (nW : Int) := by omega
        have HTK : Hid (ws.take kk ++ [t] = ws.take (kk + 1)) := by show _ = _; rw [List.take_add_one, HX.out]; rfl
        have hbt := below_alloc wr (.cells #[.slice A1 n1 c1, .slice A2 n2 c2, .bool tf] 61)
        have T5 := Lib.hid (heap_alloc_new wr (.cells #[.slice A1 n1 c1, .slice A2 n2 c2, .bool tf] 61))
        have OSy := Lib.hid (HOS.out.keep hbt)
        have TRy := Lib.hid (hO.keep hbt)
        have HA := Lib.hid (hb1.keep hbt); have HBB := Lib.hid (hb2.keep hbt)
        have HLI : Hid (∀ j, blk A' = some j → j < wr.heap.size) := fun j hj => (hO.lies j hj).2
        have hn'b : n' ≤ 20000000 := by omega
        clear hbd hb1 hb2 HNA' HNB' hTr hO HX hbt
        go_wp2_with fail
        generalize wr.alloc (.cells #[.slice A1 n1 c1, .slice A2 n2 c2, .bool tf] 61) = y at *
        have OSd := Lib.hid (OSy.out.keep ((Dr.refl y).one.below _))
        have TRd := Lib.hid (TRy.out.keep ((Dr.refl y).one.below _))
        have T5d : Hid (y.drew.heap[wr.heap.size]? = some (.cells #[.slice A1 n1 c1, .slice A2 n2 c2, .bool tf] 61 (0, 0))) := T5
        have BLd : Hid (Below y.heap.size y y.drew) := Lib.hid ((Dr.refl y).one.below _)
        have hys := OSy.out.hb.size
        refine wp_region_held_drew (S := fun w' => w'.cell? ⟨wr.heap.size, 0, none⟩ = some (.slice A1 n1 c1) ∧ w'.cell? ⟨wr.heap.size, 1, none⟩ = some (.slice A2 n2 c2) ∧ w'.cell? ⟨wr.heap.size, 2, none⟩ = some (.bool tf)) (by kernel_rfl) (t5S (show y.drew.heap[wr.heap.size]? = _ from T5.out)) (fun hH0 => ?_)
        generalize y.drew = yd at *
        refine wpAnyH_take (i := 0) (oi := { dst := some 33, op := Op.fieldAddr 32 (Operand.tmp 3) 2, type := 0, pos := _, after := #[], guard := none }) (v := ?vpu19_0) rfl (by kernel_rfl) (by kernel_rfl) (by kernel_rfl) (fun _ _ _ h => h) (Or.inl ⟨by rfl, ?ypu19_0⟩) hH0 ?rpu19_0
        case ypu19_0 => (intro w hSw; (try dsimp only at hSw); go_simp; try (with_reducible rfl))
        try simp only [Act.put, List.setIfInBounds_toArray, List.set_cons_zero, List.set_cons_succ]
        refine wpAnyH_take (i := 2) (oi := { dst := some 35, op := Op.fieldAddr 61 (Operand.tmp 5) 0, type := 0, pos := _, after := #[], guard := none }) (v := ?vpu20_2) rfl (by kernel_rfl) (by kernel_rfl) (by kernel_rfl) (fun _ _ _ h => h) (Or.inl ⟨by rfl, ?ypu20_2⟩) hH0 ?rpu20_2
        case ypu20_2 => (intro w hSw; (try dsimp only at hSw); go_simp; try (with_reducible rfl))
        try simp only [Act.put, List.setIfInBounds_toArray, List.set_cons_zero, List.set_cons_succ]
        refine wpAnyH_take (i := 3) (oi := { dst := some 36, op := Op.load 28 (Operand.tmp 35), type := 28, pos := _, after := #[{ on := 2, ground := Ground.data }], guard := none }) (v := ?vpu21_3) rfl (by kernel_rfl) (by kernel_rfl) (by kernel_rfl) (fun _ _ _ h => h) (Or.inl ⟨by rfl, ?ypu21_3⟩) hH0 ?rpu21_3
        case ypu21_3 => (intro w hSw; (try dsimp only at hSw); go_simp; try (with_reducible rfl))
        try simp only [Act.put, List.setIfInBounds_toArray, List.set_cons_zero, List.set_cons_succ]
        refine wpAnyH_take (i := 5) (oi := { dst := some 38, op := Op.fieldAddr 61 (Operand.tmp 5) 1, type := 0, pos := _, after := #[], guard := none }) (v := ?vpu22_5) rfl (by kernel_rfl) (by kernel_rfl) (by kernel_rfl) (fun _ _ _ h => h) (Or.inl ⟨by rfl, ?ypu22_5⟩) hH0 ?rpu22_5
        case ypu22_5 => (intro w hSw; (try dsimp only at hSw); go_simp; try (with_reducible rfl))
        try simp only [Act.put, List.setIfInBounds_toArray, List.set_cons_zero, List.set_cons_succ]
        refine wpAnyH_take (i := 6) (oi := { dst := some 39, op := Op.load 28 (Operand.tmp 38), type := 28, pos := _, after := #[{ on := 5, ground := Ground.data }], guard := none }) (v := ?vpu23_6) rfl (by kernel_rfl) (by kernel_rfl) (by kernel_rfl) (fun _ _ _ h => h) (Or.inl ⟨by rfl, ?ypu23_6⟩) hH0 ?rpu23_6
        case ypu23_6 => (intro w hSw; (try dsimp only at hSw); go_simp; try (with_reducible rfl))
        try simp only [Act.put, List.setIfInBounds_toArray, List.set_cons_zero, List.set_cons_succ]
        refine wpAnyH_take (i := 8) (oi := { dst := some 41, op := Op.fieldAddr 61 (Operand.tmp 5) 2, type := 0, pos := _, after := #[], guard := none }) (v := ?vpu24_8) rfl (by kernel_rfl) (by kernel_rfl) (by kernel_rfl) (fun _ _ _ h => h) (Or.inl ⟨by rfl, ?ypu24_8⟩) hH0 ?rpu24_8
        case ypu24_8 => (intro w hSw; (try dsimp only at hSw); go_simp; try (with_reducible rfl))
        try simp only [Act.put, List.setIfInBounds_toArray, List.set_cons_zero, List.set_cons_succ]
        refine wpAnyH_take (i := 9) (oi := { dst := some 42, op := Op.load 4 (Operand.tmp 41), type := 4, pos := _, after := #[{ on := 8, ground := Ground.data }], guard := none }) (v := ?vpu25_9) rfl (by kernel_rfl) (by kernel_rfl) (by kernel_rfl) (fun _ _ _ h => h) (Or.inl ⟨by rfl, ?ypu25_9⟩) hH0 ?rpu25_9
        case ypu25_9 => (intro w hSw; (try dsimp only at hSw); go_simp; try (with_reducible rfl))
        try simp only [Act.put, List.setIfInBounds_toArray, List.set_cons_zero, List.set_cons_succ]
        refine wpAnyH_ready (rs := [1, 4]) (by kernel_rfl) (by simp) ?_
        refine (AllReadyH.cons (o := { dst := some 34, op := Op.load 25 (Operand.tmp 33), type := 25, pos := _, after := #[{ on := 0, ground := Ground.data }], guard := none }) rfl (fun K hK => ?_) (AllReadyH.cons (o := { dst := some 37, op := Op.call { callee := Callee.value (Operand.func 22), args := #[Operand.tmp 36], argTypes := #[28] }, type := 28, pos := _, after := #[{ on := 3, ground := Ground.data }], guard := none }) rfl (fun K hK => ?_) AllReadyH.nil))
        · have lc11 := rc_cell (w := yd) 4 (.slice A' n' c') OSd.out.hg rfl
          go_simp
          refine hK.out _ _ (t5S T5d.out) (fun hH11 => ?_)
          clear hK K
          try simp only [Act.put, List.setIfInBounds_toArray, List.set_cons_zero, List.set_cons_succ]
          refine wpAnyH_ready (rs := [4]) (by kernel_rfl) (by simp) ?_
          refine (AllReadyH.cons (o := { dst := some 37, op := Op.call { callee := Callee.value (Operand.func 22), args := #[Operand.tmp 36], argTypes := #[28] }, type := 28, pos := _, after := #[{ on := 3, ground := Ground.data }], guard := none }) rfl (fun K hK => ?_) AllReadyH.nil)
          go_simp
          refine (copy_any A1 n1 c1 t.a yd (HA.out.keep BLd.out) (by omega)).mono ?_
          rintro e x12 ⟨D4, f4, rfl, ho12, hb12⟩
          have OS12 := Lib.hid (OSd.out.keep hb12)
          have T512 := Lib.hid ((hb12.block _ (lt_of_heap T5d.out)).trans T5d.out)
          have TR12 := Lib.hid (TRd.out.keep hb12)
          have BL12 := Lib.hid (BLd.out.trans (hb12.mono BLd.out.size))
          have CP4 := Lib.hid (ho12.mono (b := w.heap.size) (Nat.le_trans hys BLd.out.size))
          clear ho12 hb12
          go_wp2_with fail
          refine hK.out _ _ (t5S T512.out) (fun hH12 => ?_)
          clear hK K
          try simp only [Act.put, List.setIfInBounds_toArray, List.set_cons_zero, List.set_cons_succ]
          refine wpAnyH_ready (rs := [7]) (by kernel_rfl) (by simp) ?_
          refine (AllReadyH.cons (o := { dst := some 40, op := Op.call { callee := Callee.value (Operand.func 22), args := #[Operand.tmp 39], argTypes := #[28] }, type := 28, pos := _, after := #[{ on := 6, ground := Ground.data }, { on := 4, ground := Ground.chain }], guard := none }) rfl (fun K hK => ?_) AllReadyH.nil)
          go_simp
          refine (copy_any A2 n2 c2 t.b x12 (HBB.out.keep BL12.out) (by omega)).mono ?_
          rintro e x13 ⟨D7, f7, rfl, ho13, hb13⟩
          have OS13 := Lib.hid (OS12.out.keep hb13)
          have T513 := Lib.hid ((hb13.block _ (lt_of_heap T512.out)).trans T512.out)
          have TR13 := Lib.hid (TR12.out.keep hb13)
          have BL13 := Lib.hid (BL12.out.trans (hb13.mono BL12.out.size))
          have CP7 := Lib.hid (ho13.mono (b := w.heap.size) (Nat.le_trans hys BL12.out.size))
          have HDI := Lib.hid (dist_new CP4.out ho13)
          have CP413 := Lib.hid (CP4.out.below hb13 (fun k hk => (CP4.out.lies k hk).2))
          clear ho13 hb13
          go_wp2_with fail
          refine hK.out _ _ (t5S T513.out) (fun hH13 => ?_)
          clear hK K
          try simp only [Act.put, List.setIfInBounds_toArray, List.set_cons_zero, List.set_cons_succ]
          refine wpAnyH_take (i := 10) (oi := { dst := some 43, op := Op.build 61 #[(0, Operand.tmp 37), (1, Operand.tmp 40), (2, Operand.tmp 42)], type := 61, pos := _, after := #[{ on := 4, ground := Ground.data }, { on := 7, ground := Ground.data }, { on := 9, ground := Ground.data }], guard := none }) (v := ?vpx000u26_10) rfl (by kernel_rfl) (by kernel_rfl) (by kernel_rfl) (fun _ _ _ h => h) (Or.inl ⟨by rfl, ?ypx000u26_10⟩) hH13 ?rpx000u26_10
          case ypx000u26_10 => (intro w hSw; (try dsimp only at hSw); go_simp; try (with_reducible rfl))
          try simp only [Act.put, List.setIfInBounds_toArray, List.set_cons_zero, List.set_cons_succ]
          refine wpAnyH_ready (rs := [11]) (by kernel_rfl) (by simp) ?_
          refine (AllReadyH.cons (o := { dst := some 44, op := Op.buildSlice 25 1 #[(0, Operand.tmp 43)], type := 25, pos := _, after := #[{ on := 10, ground := Ground.data }], guard := none }) rfl (fun K hK => ?_) AllReadyH.nil)
          go_simp
          have ba14 := below_alloc x13 (.cells #[.slice D4 n1 f4, .slice D7 n2 f7, .bool tf] 61)
          have OS14 := Lib.hid (OS13.out.keep ba14)
          have T514 := Lib.hid ((ba14.block _ (lt_of_heap T513.out)).trans T513.out)
          have TR14 := Lib.hid (TR13.out.keep ba14)
          have BL14 := Lib.hid (BL13.out.trans (ba14.mono BL13.out.size))
          have CP414 := Lib.hid (CP413.out.alloc (.cells #[.slice D4 n1 f4, .slice D7 n2 f7, .bool tf] 61))
          have CP714 := Lib.hid (CP7.out.alloc (.cells #[.slice D4 n1 f4, .slice D7 n2 f7, .bool tf] 61))
          have NC14 := Lib.hid (three_cells x13 (.slice D4 n1 f4) (.slice D7 n2 f7) (.bool tf) 61)
          refine hK.out _ _ (t5S T514.out) (fun hH14 => ?_)
          clear hK K
          try simp only [Act.put, List.setIfInBounds_toArray, List.set_cons_zero, List.set_cons_succ]
          clear ba14
          generalize x13.alloc (.cells #[.slice D4 n1 f4, .slice D7 n2 f7, .bool tf] 61) = x14 at *
          refine wpAnyH_ready (rs := [12]) (by kernel_rfl) (by simp) ?_
          refine (AllReadyH.cons (o := { dst := some 45, op := Op.call { callee := Callee.builtin Builtin.append, args := #[Operand.tmp 34, Operand.tmp 44], argTypes := #[25, 25] }, type := 25, pos := _, after := #[{ on := 1, ground := Ground.data }, { on := 11, ground := Ground.data }, { on := 7, ground := Ground.chain }], guard := none }) rfl (fun K hK => ?_) AllReadyH.nil)
          obtain ⟨hl, vs, ho, he⟩ := TR14.out
          refine step_append_wide rfl (.tmp 34) (.tmp 44) 25 rfl i61 _ 56 Try.underlying25 hi61 hz610 hz611 hz612 rfl (by decide) (by simp [Act.eval, Act.put]) ho x13.heap.size 0 1 1 [.slice D4 n1 f4, .slice D7 n2 f7, .bool tf] (by simp [Act.eval, Act.put]) rfl NC14.out (three_one _ _ _ _ _ _ _) (by unfold maxLen; omega) (by omega) OS14.out.hb.size ?_
          intro A5 c5 x5 ho5 hg5
          have OSg := Lib.hid (OS14.out.grow hg5 ho (by decide))
          have T5g := Lib.hid ((hg5.1.block _ (lt_of_heap T514.out) (fun e => absurd (HLI.out _ e.symm) (Nat.lt_irrefl _))).trans T514.out)
          have TRg : Hid (TrO x5 w.heap.size 61 A5 (n' + 1) c5 (ws.take kk ++ [t])) := by
            have o1 := CP414.out; have o2 := CP714.out
            have e1 := HNA.out; have e2 := HNB.out; have e3 := HTF.out
            subst e1 e2 e3
            exact TrO.snoc (by decide) hl ho he o1 HA.out.2 o2 HBB.out.2 HDI.out ho5 hg5
          have lg := rc_cell (w := x5) 4 (.slice A' n' c') OSg.out.hg rfl
          have fg := two_frozen (i := 4) OSg.out.hg
          have T5z : Hid ((x5.setCell ⟨g3, 4, none⟩ (.slice A5 (n' + 1) c5)).heap[wr.heap.size]? = some (.cells #[.slice A1 n1 c1, .slice A2 n2 c2, .bool tf] 61 (0, 0))) := Lib.hid ((set_other x5 g3 4 _ (ne_of_type T5g.out OSg.out.hg (by decide))).trans T5g.out)
          clear ho5 hg5 ho he hl
          refine hK.out _ _ (t5S T5g.out) (fun hHy => ?_)
          clear hK K
          try simp only [Act.put, List.setIfInBounds_toArray, List.set_cons_zero, List.set_cons_succ]
          refine wpAnyH_take (i := 13) (oi := { dst := some 46, op := Op.fieldAddr 32 (Operand.tmp 3) 2, type := 0, pos := _, after := #[{ on := 0, ground := Ground.phase }, { on := 1, ground := Ground.phase }, { on := 2, ground := Ground.phase }, { on := 3, ground := Ground.phase }, { on := 4, ground := Ground.phase }, { on := 5, ground := Ground.phase }, { on := 6, ground := Ground.phase }, { on := 7, ground := Ground.phase }, { on := 8, ground := Ground.phase }, { on := 9, ground := Ground.phase }, { on := 10, ground := Ground.phase }, { on := 11, ground := Ground.phase }, { on := 12, ground := Ground.phase }], guard := none }) (v := ?vpy0000u27_13) rfl (by kernel_rfl) (by kernel_rfl) (by kernel_rfl) (fun _ _ _ h => h) (Or.inl ⟨by rfl, ?ypy0000u27_13⟩) hHy ?rpy0000u27_13
          case ypy0000u27_13 => (intro w hSw; (try dsimp only at hSw); go_simp; try (with_reducible rfl))
          try simp only [Act.put, List.setIfInBounds_toArray, List.set_cons_zero, List.set_cons_succ]
          refine wpAnyH_ready (rs := [14]) (by kernel_rfl) (by simp) ?_
          refine (AllReadyH.cons (o := { dst := none, op := Op.store 25 (Operand.tmp 46) (Operand.tmp 45), type := 0, pos := _, after := #[{ on := 13, ground := Ground.data }, { on := 12, ground := Ground.data }, { on := 12, ground := Ground.chain }, { on := 0, ground := Ground.phase }, { on := 1, ground := Ground.phase }, { on := 2, ground := Ground.phase }, { on := 3, ground := Ground.phase }, { on := 4, ground := Ground.phase }, { on := 5, ground := Ground.phase }, { on := 6, ground := Ground.phase }, { on := 7, ground := Ground.phase }, { on := 8, ground := Ground.phase }, { on := 9, ground := Ground.phase }, { on := 10, ground := Ground.phase }, { on := 11, ground := Ground.phase }, { on := 12, ground := Ground.phase }], guard := none }) rfl (fun K hK => ?_) AllReadyH.nil)
          go_simp
          refine hK.out _ _ (t5S T5z.out) (fun hHz => ?_)
          clear hK K
          try simp only [Act.put, List.setIfInBounds_toArray, List.set_cons_zero, List.set_cons_succ]
          refine wpAnyH_done (by kernel_rfl) ?_ _
          have OSz : Hid (OS w g3 _ (rcV k b s q A5 (n' + 1) c5 none 0 0 f A9 nS c9 A12 nP c12 i S) A9 nS c9 (sh.map (Value.int .i64)) A12 nP c12 (By rp) (x5.setCell ⟨g3, 4, none⟩ (.slice A5 (n' + 1) c5))) := OSg.out.set 4 _ rfl
          have TRz := Lib.hid (TRg.out.set (onl_set x5 g3 4 (.slice A5 (n' + 1) c5)) OSg.out.hg (by decide) (by decide))
          rw [HTK.out] at TRz
          go_wp2
          go_roundw
          case rel => exact ⟨kk + 1, n' + 1, c5, A5, by go_num, by omega, Lib.hid (by rw [HNK.out]), by have h1 := HNK.out; omega, TRz.out, OSz⟩
          case measure => simp [intOf]; omega
        · go_simp
          refine (copy_any A1 n1 c1 t.a yd (HA.out.keep BLd.out) (by omega)).mono ?_
          rintro e x11 ⟨D4, f4, rfl, ho11, hb11⟩
          have OS11 := Lib.hid (OSd.out.keep hb11)
          have T511 := Lib.hid ((hb11.block _ (lt_of_heap T5d.out)).trans T5d.out)
          have TR11 := Lib.hid (TRd.out.keep hb11)
          have BL11 := Lib.hid (BLd.out.trans (hb11.mono BLd.out.size))
          have CP4 := Lib.hid (ho11.mono (b := w.heap.size) (Nat.le_trans hys BLd.out.size))
          clear ho11 hb11
          go_wp2_with fail
          refine hK.out _ _ (t5S T511.out) (fun hH11 => ?_)
          clear hK K
          try simp only [Act.put, List.setIfInBounds_toArray, List.set_cons_zero, List.set_cons_succ]
          refine wpAnyH_ready (rs := [1, 7]) (by kernel_rfl) (by simp) ?_
          refine (AllReadyH.cons (o := { dst := some 34, op := Op.load 25 (Operand.tmp 33), type := 25, pos := _, after := #[{ on := 0, ground := Ground.data }], guard := none }) rfl (fun K hK => ?_) (AllReadyH.cons (o := { dst := some 40, op := Op.call { callee := Callee.value (Operand.func 22), args := #[Operand.tmp 39], argTypes := #[28] }, type := 28, pos := _, after := #[{ on := 6, ground := Ground.data }, { on := 4, ground := Ground.chain }], guard := none }) rfl (fun K hK => ?_) AllReadyH.nil))
          · have lc12 := rc_cell (w := x11) 4 (.slice A' n' c') OS11.out.hg rfl
            go_simp
            refine hK.out _ _ (t5S T511.out) (fun hH12 => ?_)
            clear hK K
            try simp only [Act.put, List.setIfInBounds_toArray, List.set_cons_zero, List.set_cons_succ]
            refine wpAnyH_ready (rs := [7]) (by kernel_rfl) (by simp) ?_
            refine (AllReadyH.cons (o := { dst := some 40, op := Op.call { callee := Callee.value (Operand.func 22), args := #[Operand.tmp 39], argTypes := #[28] }, type := 28, pos := _, after := #[{ on := 6, ground := Ground.data }, { on := 4, ground := Ground.chain }], guard := none }) rfl (fun K hK => ?_) AllReadyH.nil)
            go_simp
            refine (copy_any A2 n2 c2 t.b x11 (HBB.out.keep BL11.out) (by omega)).mono ?_
            rintro e x13 ⟨D7, f7, rfl, ho13, hb13⟩
            have OS13 := Lib.hid (OS11.out.keep hb13)
            have T513 := Lib.hid ((hb13.block _ (lt_of_heap T511.out)).trans T511.out)
            have TR13 := Lib.hid (TR11.out.keep hb13)
            have BL13 := Lib.hid (BL11.out.trans (hb13.mono BL11.out.size))
            have CP7 := Lib.hid (ho13.mono (b := w.heap.size) (Nat.le_trans hys BL11.out.size))
            have HDI := Lib.hid (dist_new CP4.out ho13)
            have CP413 := Lib.hid (CP4.out.below hb13 (fun k hk => (CP4.out.lies k hk).2))
            clear ho13 hb13
            go_wp2_with fail
            refine hK.out _ _ (t5S T513.out) (fun hH13 => ?_)
            clear hK K
            try simp only [Act.put, List.setIfInBounds_toArray, List.set_cons_zero, List.set_cons_succ]
            refine wpAnyH_take (i := 10) (oi := { dst := some 43, op := Op.build 61 #[(0, Operand.tmp 37), (1, Operand.tmp 40), (2, Operand.tmp 42)], type := 61, pos := _, after := #[{ on := 4, ground := Ground.data }, { on := 7, ground := Ground.data }, { on := 9, ground := Ground.data }], guard := none }) (v := ?vpx100u28_10) rfl (by kernel_rfl) (by kernel_rfl) (by kernel_rfl) (fun _ _ _ h => h) (Or.inl ⟨by rfl, ?ypx100u28_10⟩) hH13 ?rpx100u28_10
            case ypx100u28_10 => (intro w hSw; (try dsimp only at hSw); go_simp; try (with_reducible rfl))
            try simp only [Act.put, List.setIfInBounds_toArray, List.set_cons_zero, List.set_cons_succ]
            refine wpAnyH_ready (rs := [11]) (by kernel_rfl) (by simp) ?_
            refine (AllReadyH.cons (o := { dst := some 44, op := Op.buildSlice 25 1 #[(0, Operand.tmp 43)], type := 25, pos := _, after := #[{ on := 10, ground := Ground.data }], guard := none }) rfl (fun K hK => ?_) AllReadyH.nil)
            go_simp
            have ba14 := below_alloc x13 (.cells #[.slice D4 n1 f4, .slice D7 n2 f7, .bool tf] 61)
            have OS14 := Lib.hid (OS13.out.keep ba14)
            have T514 := Lib.hid ((ba14.block _ (lt_of_heap T513.out)).trans T513.out)
            have TR14 := Lib.hid (TR13.out.keep ba14)
            have BL14 := Lib.hid (BL13.out.trans (ba14.mono BL13.out.size))
            have CP414 := Lib.hid (CP413.out.alloc (.cells #[.slice D4 n1 f4, .slice D7 n2 f7, .bool tf] 61))
            have CP714 := Lib.hid (CP7.out.alloc (.cells #[.slice D4 n1 f4, .slice D7 n2 f7, .bool tf] 61))
            have NC14 := Lib.hid (three_cells x13 (.slice D4 n1 f4) (.slice D7 n2 f7) (.bool tf) 61)
            refine hK.out _ _ (t5S T514.out) (fun hH14 => ?_)
            clear hK K
            try simp only [Act.put, List.setIfInBounds_toArray, List.set_cons_zero, List.set_cons_succ]
            clear ba14
            generalize x13.alloc (.cells #[.slice D4 n1 f4, .slice D7 n2 f7, .bool tf] 61) = x14 at *
            refine wpAnyH_ready (rs := [12]) (by kernel_rfl) (by simp) ?_
            refine (AllReadyH.cons (o := { dst := some 45, op := Op.call { callee := Callee.builtin Builtin.append, args := #[Operand.tmp 34, Operand.tmp 44], argTypes := #[25, 25] }, type := 25, pos := _, after := #[{ on := 1, ground := Ground.data }, { on := 11, ground := Ground.data }, { on := 7, ground := Ground.chain }], guard := none }) rfl (fun K hK => ?_) AllReadyH.nil)
            obtain ⟨hl, vs, ho, he⟩ := TR14.out
            refine step_append_wide rfl (.tmp 34) (.tmp 44) 25 rfl i61 _ 56 Try.underlying25 hi61 hz610 hz611 hz612 rfl (by decide) (by simp [Act.eval, Act.put]) ho x13.heap.size 0 1 1 [.slice D4 n1 f4, .slice D7 n2 f7, .bool tf] (by simp [Act.eval, Act.put]) rfl NC14.out (three_one _ _ _ _ _ _ _) (by unfold maxLen; omega) (by omega) OS14.out.hb.size ?_
            intro A5 c5 x5 ho5 hg5
            have OSg := Lib.hid (OS14.out.grow hg5 ho (by decide))
            have T5g := Lib.hid ((hg5.1.block _ (lt_of_heap T514.out) (fun e => absurd (HLI.out _ e.symm) (Nat.lt_irrefl _))).trans T514.out)
            have TRg : Hid (TrO x5 w.heap.size 61 A5 (n' + 1) c5 (ws.take kk ++ [t])) := by
              have o1 := CP414.out; have o2 := CP714.out
              have e1 := HNA.out; have e2 := HNB.out; have e3 := HTF.out
              subst e1 e2 e3
              exact TrO.snoc (by decide) hl ho he o1 HA.out.2 o2 HBB.out.2 HDI.out ho5 hg5
            have lg := rc_cell (w := x5) 4 (.slice A' n' c') OSg.out.hg rfl
            have fg := two_frozen (i := 4) OSg.out.hg
            have T5z : Hid ((x5.setCell ⟨g3, 4, none⟩ (.slice A5 (n' + 1) c5)).heap[wr.heap.size]? = some (.cells #[.slice A1 n1 c1, .slice A2 n2 c2, .bool tf] 61 (0, 0))) := Lib.hid ((set_other x5 g3 4 _ (ne_of_type T5g.out OSg.out.hg (by decide))).trans T5g.out)
            clear ho5 hg5 ho he hl
            refine hK.out _ _ (t5S T5g.out) (fun hHy => ?_)
            clear hK K
            try simp only [Act.put, List.setIfInBounds_toArray, List.set_cons_zero, List.set_cons_succ]
            refine wpAnyH_take (i := 13) (oi := { dst := some 46, op := Op.fieldAddr 32 (Operand.tmp 3) 2, type := 0, pos := _, after := #[{ on := 0, ground := Ground.phase }, { on := 1, ground := Ground.phase }, { on := 2, ground := Ground.phase }, { on := 3, ground := Ground.phase }, { on := 4, ground := Ground.phase }, { on := 5, ground := Ground.phase }, { on := 6, ground := Ground.phase }, { on := 7, ground := Ground.phase }, { on := 8, ground := Ground.phase }, { on := 9, ground := Ground.phase }, { on := 10, ground := Ground.phase }, { on := 11, ground := Ground.phase }, { on := 12, ground := Ground.phase }], guard := none }) (v := ?vpy1000u29_13) rfl (by kernel_rfl) (by kernel_rfl) (by kernel_rfl) (fun _ _ _ h => h) (Or.inl ⟨by rfl, ?ypy1000u29_13⟩) hHy ?rpy1000u29_13
            case ypy1000u29_13 => (intro w hSw; (try dsimp only at hSw); go_simp; try (with_reducible rfl))
            try simp only [Act.put, List.setIfInBounds_toArray, List.set_cons_zero, List.set_cons_succ]
            refine wpAnyH_ready (rs := [14]) (by kernel_rfl) (by simp) ?_
            refine (AllReadyH.cons (o := { dst := none, op := Op.store 25 (Operand.tmp 46) (Operand.tmp 45), type := 0, pos := _, after := #[{ on := 13, ground := Ground.data }, { on := 12, ground := Ground.data }, { on := 12, ground := Ground.chain }, { on := 0, ground := Ground.phase }, { on := 1, ground := Ground.phase }, { on := 2, ground := Ground.phase }, { on := 3, ground := Ground.phase }, { on := 4, ground := Ground.phase }, { on := 5, ground := Ground.phase }, { on := 6, ground := Ground.phase }, { on := 7, ground := Ground.phase }, { on := 8, ground := Ground.phase }, { on := 9, ground := Ground.phase }, { on := 10, ground := Ground.phase }, { on := 11, ground := Ground.phase }, { on := 12, ground := Ground.phase }], guard := none }) rfl (fun K hK => ?_) AllReadyH.nil)
            go_simp
            refine hK.out _ _ (t5S T5z.out) (fun hHz => ?_)
            clear hK K
            try simp only [Act.put, List.setIfInBounds_toArray, List.set_cons_zero, List.set_cons_succ]
            refine wpAnyH_done (by kernel_rfl) ?_ _
            have OSz : Hid (OS w g3 _ (rcV k b s q A5 (n' + 1) c5 none 0 0 f A9 nS c9 A12 nP c12 i S) A9 nS c9 (sh.map (Value.int .i64)) A12 nP c12 (By rp) (x5.setCell ⟨g3, 4, none⟩ (.slice A5 (n' + 1) c5))) := OSg.out.set 4 _ rfl
            have TRz := Lib.hid (TRg.out.set (onl_set x5 g3 4 (.slice A5 (n' + 1) c5)) OSg.out.hg (by decide) (by decide))
            rw [HTK.out] at TRz
            go_wp2
            go_roundw
            case rel => exact ⟨kk + 1, n' + 1, c5, A5, by go_num, by omega, Lib.hid (by rw [HNK.out]), by have h1 := HNK.out; omega, TRz.out, OSz⟩
            case measure => simp [intOf]; omega
          · go_simp
            refine (copy_any A2 n2 c2 t.b x11 (HBB.out.keep BL11.out) (by omega)).mono ?_
            rintro e x12 ⟨D7, f7, rfl, ho12, hb12⟩
            have OS12 := Lib.hid (OS11.out.keep hb12)
            have T512 := Lib.hid ((hb12.block _ (lt_of_heap T511.out)).trans T511.out)
            have TR12 := Lib.hid (TR11.out.keep hb12)
            have BL12 := Lib.hid (BL11.out.trans (hb12.mono BL11.out.size))
            have CP7 := Lib.hid (ho12.mono (b := w.heap.size) (Nat.le_trans hys BL11.out.size))
            have HDI := Lib.hid (dist_new CP4.out ho12)
            have CP412 := Lib.hid (CP4.out.below hb12 (fun k hk => (CP4.out.lies k hk).2))
            clear ho12 hb12
            go_wp2_with fail
            refine hK.out _ _ (t5S T512.out) (fun hH12 => ?_)
            clear hK K
            try simp only [Act.put, List.setIfInBounds_toArray, List.set_cons_zero, List.set_cons_succ]
            refine wpAnyH_take (i := 10) (oi := { dst := some 43, op := Op.build 61 #[(0, Operand.tmp 37), (1, Operand.tmp 40), (2, Operand.tmp 42)], type := 61, pos := _, after := #[{ on := 4, ground := Ground.data }, { on := 7, ground := Ground.data }, { on := 9, ground := Ground.data }], guard := none }) (v := ?vpx11u30_10) rfl (by kernel_rfl) (by kernel_rfl) (by kernel_rfl) (fun _ _ _ h => h) (Or.inl ⟨by rfl, ?ypx11u30_10⟩) hH12 ?rpx11u30_10
            case ypx11u30_10 => (intro w hSw; (try dsimp only at hSw); go_simp; try (with_reducible rfl))
            try simp only [Act.put, List.setIfInBounds_toArray, List.set_cons_zero, List.set_cons_succ]
            refine wpAnyH_ready (rs := [1, 11]) (by kernel_rfl) (by simp) ?_
            refine (AllReadyH.cons (o := { dst := some 34, op := Op.load 25 (Operand.tmp 33), type := 25, pos := _, after := #[{ on := 0, ground := Ground.data }], guard := none }) rfl (fun K hK => ?_) (AllReadyH.cons (o := { dst := some 44, op := Op.buildSlice 25 1 #[(0, Operand.tmp 43)], type := 25, pos := _, after := #[{ on := 10, ground := Ground.data }], guard := none }) rfl (fun K hK => ?_) AllReadyH.nil))
            · have lc13 := rc_cell (w := x12) 4 (.slice A' n' c') OS12.out.hg rfl
              go_simp
              refine hK.out _ _ (t5S T512.out) (fun hH13 => ?_)
              clear hK K
              try simp only [Act.put, List.setIfInBounds_toArray, List.set_cons_zero, List.set_cons_succ]
              refine wpAnyH_ready (rs := [11]) (by kernel_rfl) (by simp) ?_
              refine (AllReadyH.cons (o := { dst := some 44, op := Op.buildSlice 25 1 #[(0, Operand.tmp 43)], type := 25, pos := _, after := #[{ on := 10, ground := Ground.data }], guard := none }) rfl (fun K hK => ?_) AllReadyH.nil)
              go_simp
              have ba14 := below_alloc x12 (.cells #[.slice D4 n1 f4, .slice D7 n2 f7, .bool tf] 61)
              have OS14 := Lib.hid (OS12.out.keep ba14)
              have T514 := Lib.hid ((ba14.block _ (lt_of_heap T512.out)).trans T512.out)
              have TR14 := Lib.hid (TR12.out.keep ba14)
              have BL14 := Lib.hid (BL12.out.trans (ba14.mono BL12.out.size))
              have CP414 := Lib.hid (CP412.out.alloc (.cells #[.slice D4 n1 f4, .slice D7 n2 f7, .bool tf] 61))
              have CP714 := Lib.hid (CP7.out.alloc (.cells #[.slice D4 n1 f4, .slice D7 n2 f7, .bool tf] 61))
              have NC14 := Lib.hid (three_cells x12 (.slice D4 n1 f4) (.slice D7 n2 f7) (.bool tf) 61)
              refine hK.out _ _ (t5S T514.out) (fun hH14 => ?_)
              clear hK K
              try simp only [Act.put, List.setIfInBounds_toArray, List.set_cons_zero, List.set_cons_succ]
              clear ba14
              generalize x12.alloc (.cells #[.slice D4 n1 f4, .slice D7 n2 f7, .bool tf] 61) = x14 at *
              refine wpAnyH_ready (rs := [12]) (by kernel_rfl) (by simp) ?_
              refine (AllReadyH.cons (o := { dst := some 45, op := Op.call { callee := Callee.builtin Builtin.append, args := #[Operand.tmp 34, Operand.tmp 44], argTypes := #[25, 25] }, type := 25, pos := _, after := #[{ on := 1, ground := Ground.data }, { on := 11, ground := Ground.data }, { on := 7, ground := Ground.chain }], guard := none }) rfl (fun K hK => ?_) AllReadyH.nil)
              obtain ⟨hl, vs, ho, he⟩ := TR14.out
              refine step_append_wide rfl (.tmp 34) (.tmp 44) 25 rfl i61 _ 56 Try.underlying25 hi61 hz610 hz611 hz612 rfl (by decide) (by simp [Act.eval, Act.put]) ho x12.heap.size 0 1 1 [.slice D4 n1 f4, .slice D7 n2 f7, .bool tf] (by simp [Act.eval, Act.put]) rfl NC14.out (three_one _ _ _ _ _ _ _) (by unfold maxLen; omega) (by omega) OS14.out.hb.size ?_
              intro A5 c5 x5 ho5 hg5
              have OSg := Lib.hid (OS14.out.grow hg5 ho (by decide))
              have T5g := Lib.hid ((hg5.1.block _ (lt_of_heap T514.out) (fun e => absurd (HLI.out _ e.symm) (Nat.lt_irrefl _))).trans T514.out)
              have TRg : Hid (TrO x5 w.heap.size 61 A5 (n' + 1) c5 (ws.take kk ++ [t])) := by
                have o1 := CP414.out; have o2 := CP714.out
                have e1 := HNA.out; have e2 := HNB.out; have e3 := HTF.out
                subst e1 e2 e3
                exact TrO.snoc (by decide) hl ho he o1 HA.out.2 o2 HBB.out.2 HDI.out ho5 hg5
              have lg := rc_cell (w := x5) 4 (.slice A' n' c') OSg.out.hg rfl
              have fg := two_frozen (i := 4) OSg.out.hg
              have T5z : Hid ((x5.setCell ⟨g3, 4, none⟩ (.slice A5 (n' + 1) c5)).heap[wr.heap.size]? = some (.cells #[.slice A1 n1 c1, .slice A2 n2 c2, .bool tf] 61 (0, 0))) := Lib.hid ((set_other x5 g3 4 _ (ne_of_type T5g.out OSg.out.hg (by decide))).trans T5g.out)
              clear ho5 hg5 ho he hl
              refine hK.out _ _ (t5S T5g.out) (fun hHy => ?_)
              clear hK K
              try simp only [Act.put, List.setIfInBounds_toArray, List.set_cons_zero, List.set_cons_succ]
              refine wpAnyH_take (i := 13) (oi := { dst := some 46, op := Op.fieldAddr 32 (Operand.tmp 3) 2, type := 0, pos := _, after := #[{ on := 0, ground := Ground.phase }, { on := 1, ground := Ground.phase }, { on := 2, ground := Ground.phase }, { on := 3, ground := Ground.phase }, { on := 4, ground := Ground.phase }, { on := 5, ground := Ground.phase }, { on := 6, ground := Ground.phase }, { on := 7, ground := Ground.phase }, { on := 8, ground := Ground.phase }, { on := 9, ground := Ground.phase }, { on := 10, ground := Ground.phase }, { on := 11, ground := Ground.phase }, { on := 12, ground := Ground.phase }], guard := none }) (v := ?vpy1100u31_13) rfl (by kernel_rfl) (by kernel_rfl) (by kernel_rfl) (fun _ _ _ h => h) (Or.inl ⟨by rfl, ?ypy1100u31_13⟩) hHy ?rpy1100u31_13
              case ypy1100u31_13 => (intro w hSw; (try dsimp only at hSw); go_simp; try (with_reducible rfl))
              try simp only [Act.put, List.setIfInBounds_toArray, List.set_cons_zero, List.set_cons_succ]
              refine wpAnyH_ready (rs := [14]) (by kernel_rfl) (by simp) ?_
              refine (AllReadyH.cons (o := { dst := none, op := Op.store 25 (Operand.tmp 46) (Operand.tmp 45), type := 0, pos := _, after := #[{ on := 13, ground := Ground.data }, { on := 12, ground := Ground.data }, { on := 12, ground := Ground.chain }, { on := 0, ground := Ground.phase }, { on := 1, ground := Ground.phase }, { on := 2, ground := Ground.phase }, { on := 3, ground := Ground.phase }, { on := 4, ground := Ground.phase }, { on := 5, ground := Ground.phase }, { on := 6, ground := Ground.phase }, { on := 7, ground := Ground.phase }, { on := 8, ground := Ground.phase }, { on := 9, ground := Ground.phase }, { on := 10, ground := Ground.phase }, { on := 11, ground := Ground.phase }, { on := 12, ground := Ground.phase }], guard := none }) rfl (fun K hK => ?_) AllReadyH.nil)
              go_simp
              refine hK.out _ _ (t5S T5z.out) (fun hHz => ?_)
              clear hK K
              try simp only [Act.put, List.setIfInBounds_toArray, List.set_cons_zero, List.set_cons_succ]
              refine wpAnyH_done (by kernel_rfl) ?_ _
              have OSz : Hid (OS w g3 _ (rcV k b s q A5 (n' + 1) c5 none 0 0 f A9 nS c9 A12 nP c12 i S) A9 nS c9 (sh.map (Value.int .i64)) A12 nP c12 (By rp) (x5.setCell ⟨g3, 4, none⟩ (.slice A5 (n' + 1) c5))) := OSg.out.set 4 _ rfl
              have TRz := Lib.hid (TRg.out.set (onl_set x5 g3 4 (.slice A5 (n' + 1) c5)) OSg.out.hg (by decide) (by decide))
              rw [HTK.out] at TRz
              go_wp2
              go_roundw
              case rel => exact ⟨kk + 1, n' + 1, c5, A5, by go_num, by omega, Lib.hid (by rw [HNK.out]), by have h1 := HNK.out; omega, TRz.out, OSz⟩
              case measure => simp [intOf]; omega
            · go_simp
              have ba13 := below_alloc x12 (.cells #[.slice D4 n1 f4, .slice D7 n2 f7, .bool tf] 61)
              have OS13 := Lib.hid (OS12.out.keep ba13)
              have T513 := Lib.hid ((ba13.block _ (lt_of_heap T512.out)).trans T512.out)
              have TR13 := Lib.hid (TR12.out.keep ba13)
              have BL13 := Lib.hid (BL12.out.trans (ba13.mono BL12.out.size))
              have CP413 := Lib.hid (CP412.out.alloc (.cells #[.slice D4 n1 f4, .slice D7 n2 f7, .bool tf] 61))
              have CP713 := Lib.hid (CP7.out.alloc (.cells #[.slice D4 n1 f4, .slice D7 n2 f7, .bool tf] 61))
              have NC13 := Lib.hid (three_cells x12 (.slice D4 n1 f4) (.slice D7 n2 f7) (.bool tf) 61)
              refine hK.out _ _ (t5S T513.out) (fun hH13 => ?_)
              clear hK K
              try simp only [Act.put, List.setIfInBounds_toArray, List.set_cons_zero, List.set_cons_succ]
              clear ba13
              generalize x12.alloc (.cells #[.slice D4 n1 f4, .slice D7 n2 f7, .bool tf] 61) = x13 at *
              refine wpAnyH_ready (rs := [1]) (by kernel_rfl) (by simp) ?_
              refine (AllReadyH.cons (o := { dst := some 34, op := Op.load 25 (Operand.tmp 33), type := 25, pos := _, after := #[{ on := 0, ground := Ground.data }], guard := none }) rfl (fun K hK => ?_) AllReadyH.nil)
              have lc14 := rc_cell (w := x13) 4 (.slice A' n' c') OS13.out.hg rfl
              go_simp
              refine hK.out _ _ (t5S T513.out) (fun hH14 => ?_)
              clear hK K
              try simp only [Act.put, List.setIfInBounds_toArray, List.set_cons_zero, List.set_cons_succ]
              refine wpAnyH_ready (rs := [12]) (by kernel_rfl) (by simp) ?_
              refine (AllReadyH.cons (o := { dst := some 45, op := Op.call { callee := Callee.builtin Builtin.append, args := #[Operand.tmp 34, Operand.tmp 44], argTypes := #[25, 25] }, type := 25, pos := _, after := #[{ on := 1, ground := Ground.data }, { on := 11, ground := Ground.data }, { on := 7, ground := Ground.chain }], guard := none }) rfl (fun K hK => ?_) AllReadyH.nil)
              obtain ⟨hl, vs, ho, he⟩ := TR13.out
              refine step_append_wide rfl (.tmp 34) (.tmp 44) 25 rfl i61 _ 56 Try.underlying25 hi61 hz610 hz611 hz612 rfl (by decide) (by simp [Act.eval, Act.put]) ho x12.heap.size 0 1 1 [.slice D4 n1 f4, .slice D7 n2 f7, .bool tf] (by simp [Act.eval, Act.put]) rfl NC13.out (three_one _ _ _ _ _ _ _) (by unfold maxLen; omega) (by omega) OS13.out.hb.size ?_
              intro A5 c5 x5 ho5 hg5
              have OSg := Lib.hid (OS13.out.grow hg5 ho (by decide))
              have T5g := Lib.hid ((hg5.1.block _ (lt_of_heap T513.out) (fun e => absurd (HLI.out _ e.symm) (Nat.lt_irrefl _))).trans T513.out)
              have TRg : Hid (TrO x5 w.heap.size 61 A5 (n' + 1) c5 (ws.take kk ++ [t])) := by
                have o1 := CP413.out; have o2 := CP713.out
                have e1 := HNA.out; have e2 := HNB.out; have e3 := HTF.out
                subst e1 e2 e3
                exact TrO.snoc (by decide) hl ho he o1 HA.out.2 o2 HBB.out.2 HDI.out ho5 hg5
              have lg := rc_cell (w := x5) 4 (.slice A' n' c') OSg.out.hg rfl
              have fg := two_frozen (i := 4) OSg.out.hg
              have T5z : Hid ((x5.setCell ⟨g3, 4, none⟩ (.slice A5 (n' + 1) c5)).heap[wr.heap.size]? = some (.cells #[.slice A1 n1 c1, .slice A2 n2 c2, .bool tf] 61 (0, 0))) := Lib.hid ((set_other x5 g3 4 _ (ne_of_type T5g.out OSg.out.hg (by decide))).trans T5g.out)
              clear ho5 hg5 ho he hl
              refine hK.out _ _ (t5S T5g.out) (fun hHy => ?_)
              clear hK K
              try simp only [Act.put, List.setIfInBounds_toArray, List.set_cons_zero, List.set_cons_succ]
              refine wpAnyH_take (i := 13) (oi := { dst := some 46, op := Op.fieldAddr 32 (Operand.tmp 3) 2, type := 0, pos := _, after := #[{ on := 0, ground := Ground.phase }, { on := 1, ground := Ground.phase }, { on := 2, ground := Ground.phase }, { on := 3, ground := Ground.phase }, { on := 4, ground := Ground.phase }, { on := 5, ground := Ground.phase }, { on := 6, ground := Ground.phase }, { on := 7, ground := Ground.phase }, { on := 8, ground := Ground.phase }, { on := 9, ground := Ground.phase }, { on := 10, ground := Ground.phase }, { on := 11, ground := Ground.phase }, { on := 12, ground := Ground.phase }], guard := none }) (v := ?vpy1110u32_13) rfl (by kernel_rfl) (by kernel_rfl) (by kernel_rfl) (fun _ _ _ h => h) (Or.inl ⟨by rfl, ?ypy1110u32_13⟩) hHy ?rpy1110u32_13
              case ypy1110u32_13 => (intro w hSw; (try dsimp only at hSw); go_simp; try (with_reducible rfl))
              try simp only [Act.put, List.setIfInBounds_toArray, List.set_cons_zero, List.set_cons_succ]
              refine wpAnyH_ready (rs := [14]) (by kernel_rfl) (by simp) ?_
              refine (AllReadyH.cons (o := { dst := none, op := Op.store 25 (Operand.tmp 46) (Operand.tmp 45), type := 0, pos := _, after := #[{ on := 13, ground := Ground.data }, { on := 12, ground := Ground.data }, { on := 12, ground := Ground.chain }, { on := 0, ground := Ground.phase }, { on := 1, ground := Ground.phase }, { on := 2, ground := Ground.phase }, { on := 3, ground := Ground.phase }, { on := 4, ground := Ground.phase }, { on := 5, ground := Ground.phase }, { on := 6, ground := Ground.phase }, { on := 7, ground := Ground.phase }, { on := 8, ground := Ground.phase }, { on := 9, ground := Ground.phase }, { on := 10, ground := Ground.phase }, { on := 11, ground := Ground.phase }, { on := 12, ground := Ground.phase }], guard := none }) rfl (fun K hK => ?_) AllReadyH.nil)
              go_simp
              refine hK.out _ _ (t5S T5z.out) (fun hHz => ?_)
              clear hK K
              try simp only [Act.put, List.setIfInBounds_toArray, List.set_cons_zero, List.set_cons_succ]
              refine wpAnyH_done (by kernel_rfl) ?_ _
              have OSz : Hid (OS w g3 _ (rcV k b s q A5 (n' + 1) c5 none 0 0 f A9 nS c9 A12 nP c12 i S) A9 nS c9 (sh.map (Value.int .i64)) A12 nP c12 (By rp) (x5.setCell ⟨g3, 4, none⟩ (.slice A5 (n' + 1) c5))) := OSg.out.set 4 _ rfl
              have TRz := Lib.hid (TRg.out.set (onl_set x5 g3 4 (.slice A5 (n' + 1) c5)) OSg.out.hg (by decide) (by decide))
              rw [HTK.out] at TRz
              go_wp2
              go_roundw
              case rel => exact ⟨kk + 1, n' + 1, c5, A5, by go_num, by omega, Lib.hid (by rw [HNK.out]), by have h1 := HNK.out; omega, TRz.out, OSz⟩
              case measure => simp [intOf]; omega
      · have hkn : nW = n' := by have h1 := HNK.out; omega
        subst hkn
        have hk2 : kk = nW := HNK.out.symm
        rw [hk2, List.take_of_length_le (by rw [HLW.out]; exact Nat.le_refl _)] at hO
        have HTW := Lib.hid hO
        have l5 := rc_cell 5 (.slice AR nR cR) HOS.out.bx rfl
        clear hO HNK hk2
        go_wp2_with fail
        clear l5 hnb
        generalize A' = A6 at *
        generalize c' = c6 at *
        go_loopw [51] (fun iv wr => ∃ (kk n' c' : Nat) (A' : Option Addr), iv = .int .i64 kk ∧ kk ≤ nR ∧ Hid (n' = kk) ∧ n' ≤ 10000000 ∧ TrO wr w.heap.size 99 A' n' c' (rs.take kk) ∧ Hid (OS w g3 (rcV k b s q AW nW cW AR nR cR f AS nS cS AP nP cP i S) (rcV k b s q A6 nW c6 A' n' c' f A9 nS c9 A12 nP c12 i S) A9 nS c9 (sh.map (Value.int .i64)) A12 nP c12 (By rp) wr) ∧ Hid (TrO wr w.heap.size 61 A6 nW c6 ws)) (fun iv _ => nR - (intOf iv).toNat)
        case atStart => exact ⟨0, 0, 0, none, rfl, by omega, Lib.hid rfl, by omega, TrO.nil_, HOS, HTW⟩
        case round =>
          clear HOS HTW
          obtain ⟨kk, n', c', A', rfl, hk, HNK, hnb, hO, HOS, HTW⟩ := hrel
          by_cases hlt : kk < nR
          · have hTr := HR.out.keep HOS.out.hb
            obtain ⟨bb, off, A1, n1, c1, A2, n2, c2, t, rfl, hbl, HX, HNA', HNB', hc0, hc1, hc2, hb1, hn1, hb2, hn2⟩ := hTr.at_ hlt
            have hbd := HBR.out t (List.mem_of_getElem? HX.out)
            have hm1 : n1 ≤ 140737488355328 := by rw [← HNA'.out]; exact hbd.1
            have hm2 : n2 ≤ 140737488355328 := by rw [← HNB'.out]; exact hbd.2
            have HNA := Lib.hid HNA'.out; have HNB := Lib.hid HNB'.out
            obtain ⟨tf, HTF⟩ : ∃ tf, Hid (t.f = tf) := ⟨_, rfl⟩
            rw [HTF.out] at hc2
            have z0 : (0 : Int) ≤ (kk : Int) := by omega
            have z1 : (kk : Int) < (nR : Int) := by omega
            have HTK : Hid (rs.take kk ++ [t] = rs.take (kk + 1)) := by show _ = _; rw [List.take_add_one, HX.out]; rfl
            have hbt := below_alloc wr (.cells #[.slice A1 n1 c1, .slice A2 n2 c2, .bool tf] 99)
            have T5 := Lib.hid (heap_alloc_new wr (.cells #[.slice A1 n1 c1, .slice A2 n2 c2, .bool tf] 99))
            have OSy := Lib.hid (HOS.out.keep hbt)
            have TRy := Lib.hid (hO.keep hbt)
            have HTWy := Lib.hid (HTW.out.keep hbt); have HA := Lib.hid (hb1.keep hbt); have HBB := Lib.hid (hb2.keep hbt)
            have HLI : Hid (∀ j, blk A' = some j → j < wr.heap.size) := fun j hj => (hO.lies j hj).2
            have hn'b : n' ≤ 20000000 := by omega
            clear hbd hb1 hb2 HNA' HNB' hTr hO HX hbt
            go_wp2_with fail
            generalize wr.alloc (.cells #[.slice A1 n1 c1, .slice A2 n2 c2, .bool tf] 99) = y at *
            have TWd := Lib.hid ((HTWy.out).keep ((Dr.refl y).one.below _))
            have OSd := Lib.hid (OSy.out.keep ((Dr.refl y).one.below _))
            have TRd := Lib.hid (TRy.out.keep ((Dr.refl y).one.below _))
            have T5d : Hid (y.drew.heap[wr.heap.size]? = some (.cells #[.slice A1 n1 c1, .slice A2 n2 c2, .bool tf] 99 (0, 0))) := T5
            have BLd : Hid (Below y.heap.size y y.drew) := Lib.hid ((Dr.refl y).one.below _)
            have hys := OSy.out.hb.size
            refine wp_region_held_drew (S := fun w' => w'.cell? ⟨wr.heap.size, 0, none⟩ = some (.slice A1 n1 c1) ∧ w'.cell? ⟨wr.heap.size, 1, none⟩ = some (.slice A2 n2 c2) ∧ w'.cell? ⟨wr.heap.size, 2, none⟩ = some (.bool tf)) (by kernel_rfl) (t5S (show y.drew.heap[wr.heap.size]? = _ from T5.out)) (fun hH0 => ?_)
            generalize y.drew = yd at *
            refine wpAnyH_take (i := 0) (oi := { dst := some 55, op := Op.fieldAddr 32 (Operand.tmp 3) 3, type := 0, pos := _, after := #[], guard := none }) (v := ?vqu33_0) rfl (by kernel_rfl) (by kernel_rfl) (by kernel_rfl) (fun _ _ _ h => h) (Or.inl ⟨by rfl, ?yqu33_0⟩) hH0 ?rqu33_0
            case yqu33_0 => (intro w hSw; (try dsimp only at hSw); go_simp; try (with_reducible rfl))
            try simp only [Act.put, List.setIfInBounds_toArray, List.set_cons_zero, List.set_cons_succ]
            refine wpAnyH_take (i := 2) (oi := { dst := some 57, op := Op.fieldAddr 99 (Operand.tmp 7) 0, type := 0, pos := _, after := #[], guard := none }) (v := ?vqu34_2) rfl (by kernel_rfl) (by kernel_rfl) (by kernel_rfl) (fun _ _ _ h => h) (Or.inl ⟨by rfl, ?yqu34_2⟩) hH0 ?rqu34_2
            case yqu34_2 => (intro w hSw; (try dsimp only at hSw); go_simp; try (with_reducible rfl))
            try simp only [Act.put, List.setIfInBounds_toArray, List.set_cons_zero, List.set_cons_succ]
            refine wpAnyH_take (i := 3) (oi := { dst := some 58, op := Op.load 28 (Operand.tmp 57), type := 28, pos := _, after := #[{ on := 2, ground := Ground.data }], guard := none }) (v := ?vqu35_3) rfl (by kernel_rfl) (by kernel_rfl) (by kernel_rfl) (fun _ _ _ h => h) (Or.inl ⟨by rfl, ?yqu35_3⟩) hH0 ?rqu35_3
            case yqu35_3 => (intro w hSw; (try dsimp only at hSw); go_simp; try (with_reducible rfl))
            try simp only [Act.put, List.setIfInBounds_toArray, List.set_cons_zero, List.set_cons_succ]
            refine wpAnyH_take (i := 5) (oi := { dst := some 60, op := Op.fieldAddr 99 (Operand.tmp 7) 1, type := 0, pos := _, after := #[], guard := none }) (v := ?vqu36_5) rfl (by kernel_rfl) (by kernel_rfl) (by kernel_rfl) (fun _ _ _ h => h) (Or.inl ⟨by rfl, ?yqu36_5⟩) hH0 ?rqu36_5
            case yqu36_5 => (intro w hSw; (try dsimp only at hSw); go_simp; try (with_reducible rfl))
            try simp only [Act.put, List.setIfInBounds_toArray, List.set_cons_zero, List.set_cons_succ]
            refine wpAnyH_take (i := 6) (oi := { dst := some 61, op := Op.load 28 (Operand.tmp 60), type := 28, pos := _, after := #[{ on := 5, ground := Ground.data }], guard := none }) (v := ?vqu37_6) rfl (by kernel_rfl) (by kernel_rfl) (by kernel_rfl) (fun _ _ _ h => h) (Or.inl ⟨by rfl, ?yqu37_6⟩) hH0 ?rqu37_6
            case yqu37_6 => (intro w hSw; (try dsimp only at hSw); go_simp; try (with_reducible rfl))
            try simp only [Act.put, List.setIfInBounds_toArray, List.set_cons_zero, List.set_cons_succ]
            refine wpAnyH_take (i := 8) (oi := { dst := some 63, op := Op.fieldAddr 99 (Operand.tmp 7) 2, type := 0, pos := _, after := #[], guard := none }) (v := ?vqu38_8) rfl (by kernel_rfl) (by kernel_rfl) (by kernel_rfl) (fun _ _ _ h => h) (Or.inl ⟨by rfl, ?yqu38_8⟩) hH0 ?rqu38_8
            case yqu38_8 => (intro w hSw; (try dsimp only at hSw); go_simp; try (with_reducible rfl))
            try simp only [Act.put, List.setIfInBounds_toArray, List.set_cons_zero, List.set_cons_succ]
            refine wpAnyH_take (i := 9) (oi := { dst := some 64, op := Op.load 4 (Operand.tmp 63), type := 4, pos := _, after := #[{ on := 8, ground := Ground.data }], guard := none }) (v := ?vqu39_9) rfl (by kernel_rfl) (by kernel_rfl) (by kernel_rfl) (fun _ _ _ h => h) (Or.inl ⟨by rfl, ?yqu39_9⟩) hH0 ?rqu39_9
            case yqu39_9 => (intro w hSw; (try dsimp only at hSw); go_simp; try (with_reducible rfl))
            try simp only [Act.put, List.setIfInBounds_toArray, List.set_cons_zero, List.set_cons_succ]
            refine wpAnyH_ready (rs := [1, 4]) (by kernel_rfl) (by simp) ?_
            refine (AllReadyH.cons (o := { dst := some 56, op := Op.load 26 (Operand.tmp 55), type := 26, pos := _, after := #[{ on := 0, ground := Ground.data }], guard := none }) rfl (fun K hK => ?_) (AllReadyH.cons (o := { dst := some 59, op := Op.call { callee := Callee.value (Operand.func 22), args := #[Operand.tmp 58], argTypes := #[28] }, type := 28, pos := _, after := #[{ on := 3, ground := Ground.data }], guard := none }) rfl (fun K hK => ?_) AllReadyH.nil))
            · have lc11 := rc_cell (w := yd) 5 (.slice A' n' c') OSd.out.hg rfl
              go_simp
              refine hK.out _ _ (t5S T5d.out) (fun hH11 => ?_)
              clear hK K
              try simp only [Act.put, List.setIfInBounds_toArray, List.set_cons_zero, List.set_cons_succ]
              refine wpAnyH_ready (rs := [4]) (by kernel_rfl) (by simp) ?_
              refine (AllReadyH.cons (o := { dst := some 59, op := Op.call { callee := Callee.value (Operand.func 22), args := #[Operand.tmp 58], argTypes := #[28] }, type := 28, pos := _, after := #[{ on := 3, ground := Ground.data }], guard := none }) rfl (fun K hK => ?_) AllReadyH.nil)
              go_simp
              refine (copy_any A1 n1 c1 t.a yd (HA.out.keep BLd.out) (by omega)).mono ?_
              rintro e x12 ⟨D4, f4, rfl, ho12, hb12⟩
              have OS12 := Lib.hid (OSd.out.keep hb12)
              have T512 := Lib.hid ((hb12.block _ (lt_of_heap T5d.out)).trans T5d.out)
              have TR12 := Lib.hid (TRd.out.keep hb12)
              have BL12 := Lib.hid (BLd.out.trans (hb12.mono BLd.out.size))
              have CP4 := Lib.hid (ho12.mono (b := w.heap.size) (Nat.le_trans hys BLd.out.size))
              have TW12 := Lib.hid (TWd.out.keep hb12)
              clear ho12 hb12
              go_wp2_with fail
              refine hK.out _ _ (t5S T512.out) (fun hH12 => ?_)
              clear hK K
              try simp only [Act.put, List.setIfInBounds_toArray, List.set_cons_zero, List.set_cons_succ]
              refine wpAnyH_ready (rs := [7]) (by kernel_rfl) (by simp) ?_
              refine (AllReadyH.cons (o := { dst := some 62, op := Op.call { callee := Callee.value (Operand.func 22), args := #[Operand.tmp 61], argTypes := #[28] }, type := 28, pos := _, after := #[{ on := 6, ground := Ground.data }, { on := 4, ground := Ground.chain }], guard := none }) rfl (fun K hK => ?_) AllReadyH.nil)
              go_simp
              refine (copy_any A2 n2 c2 t.b x12 (HBB.out.keep BL12.out) (by omega)).mono ?_
              rintro e x13 ⟨D7, f7, rfl, ho13, hb13⟩
              have OS13 := Lib.hid (OS12.out.keep hb13)
              have T513 := Lib.hid ((hb13.block _ (lt_of_heap T512.out)).trans T512.out)
              have TR13 := Lib.hid (TR12.out.keep hb13)
              have BL13 := Lib.hid (BL12.out.trans (hb13.mono BL12.out.size))
              have CP7 := Lib.hid (ho13.mono (b := w.heap.size) (Nat.le_trans hys BL12.out.size))
              have TW13 := Lib.hid (TW12.out.keep hb13)
              have HDI := Lib.hid (dist_new CP4.out ho13)
              have CP413 := Lib.hid (CP4.out.below hb13 (fun k hk => (CP4.out.lies k hk).2))
              clear ho13 hb13
              go_wp2_with fail
              refine hK.out _ _ (t5S T513.out) (fun hH13 => ?_)
              clear hK K
              try simp only [Act.put, List.setIfInBounds_toArray, List.set_cons_zero, List.set_cons_succ]
              refine wpAnyH_take (i := 10) (oi := { dst := some 65, op := Op.build 99 #[(0, Operand.tmp 59), (1, Operand.tmp 62), (2, Operand.tmp 64)], type := 99, pos := _, after := #[{ on := 4, ground := Ground.data }, { on := 7, ground := Ground.data }, { on := 9, ground := Ground.data }], guard := none }) (v := ?vqx000u40_10) rfl (by kernel_rfl) (by kernel_rfl) (by kernel_rfl) (fun _ _ _ h => h) (Or.inl ⟨by rfl, ?yqx000u40_10⟩) hH13 ?rqx000u40_10
              case yqx000u40_10 => (intro w hSw; (try dsimp only at hSw); go_simp; try (with_reducible rfl))
              try simp only [Act.put, List.setIfInBounds_toArray, List.set_cons_zero, List.set_cons_succ]
              refine wpAnyH_ready (rs := [11]) (by kernel_rfl) (by simp) ?_
              refine (AllReadyH.cons (o := { dst := some 66, op := Op.buildSlice 26 1 #[(0, Operand.tmp 65)], type := 26, pos := _, after := #[{ on := 10, ground := Ground.data }], guard := none }) rfl (fun K hK => ?_) AllReadyH.nil)
              go_simp
              have ba14 := below_alloc x13 (.cells #[.slice D4 n1 f4, .slice D7 n2 f7, .bool tf] 99)
              have OS14 := Lib.hid (OS13.out.keep ba14)
              have T514 := Lib.hid ((ba14.block _ (lt_of_heap T513.out)).trans T513.out)
              have TR14 := Lib.hid (TR13.out.keep ba14)
              have BL14 := Lib.hid (BL13.out.trans (ba14.mono BL13.out.size))
              have CP414 := Lib.hid (CP413.out.alloc (.cells #[.slice D4 n1 f4, .slice D7 n2 f7, .bool tf] 99))
              have CP714 := Lib.hid (CP7.out.alloc (.cells #[.slice D4 n1 f4, .slice D7 n2 f7, .bool tf] 99))
              have NC14 := Lib.hid (three_cells x13 (.slice D4 n1 f4) (.slice D7 n2 f7) (.bool tf) 99)
              have TW14 := Lib.hid (TW13.out.keep ba14)
              refine hK.out _ _ (t5S T514.out) (fun hH14 => ?_)
              clear hK K
              try simp only [Act.put, List.setIfInBounds_toArray, List.set_cons_zero, List.set_cons_succ]
              clear ba14
              generalize x13.alloc (.cells #[.slice D4 n1 f4, .slice D7 n2 f7, .bool tf] 99) = x14 at *
              refine wpAnyH_ready (rs := [12]) (by kernel_rfl) (by simp) ?_
              refine (AllReadyH.cons (o := { dst := some 67, op := Op.call { callee := Callee.builtin Builtin.append, args := #[Operand.tmp 56, Operand.tmp 66], argTypes := #[26, 26] }, type := 26, pos := _, after := #[{ on := 1, ground := Ground.data }, { on := 11, ground := Ground.data }, { on := 7, ground := Ground.chain }], guard := none }) rfl (fun K hK => ?_) AllReadyH.nil)
              obtain ⟨hl, vs, ho, he⟩ := TR14.out
              refine step_append_wide rfl (.tmp 56) (.tmp 66) 26 rfl i99 _ 56 Try.underlying26 hi99 hz990 hz991 hz992 rfl (by decide) (by simp [Act.eval, Act.put]) ho x13.heap.size 0 1 1 [.slice D4 n1 f4, .slice D7 n2 f7, .bool tf] (by simp [Act.eval, Act.put]) rfl NC14.out (three_one _ _ _ _ _ _ _) (by unfold maxLen; omega) (by omega) OS14.out.hb.size ?_
              intro A5 c5 x5 ho5 hg5
              have OSg := Lib.hid (OS14.out.grow hg5 ho (by decide))
              have TWg := Lib.hid (TW14.out.ef (Ef.of_grows (g := 0) (ex := [99]) hg5 (ho.mono (Nat.zero_le _)) (Nat.zero_le _) (by decide)) (by decide) (by decide))
              have T5g := Lib.hid ((hg5.1.block _ (lt_of_heap T514.out) (fun e => absurd (HLI.out _ e.symm) (Nat.lt_irrefl _))).trans T514.out)
              have TRg : Hid (TrO x5 w.heap.size 99 A5 (n' + 1) c5 (rs.take kk ++ [t])) := by
                have o1 := CP414.out; have o2 := CP714.out
                have e1 := HNA.out; have e2 := HNB.out; have e3 := HTF.out
                subst e1 e2 e3
                exact TrO.snoc (by decide) hl ho he o1 HA.out.2 o2 HBB.out.2 HDI.out ho5 hg5
              have lg := rc_cell (w := x5) 5 (.slice A' n' c') OSg.out.hg rfl
              have fg := two_frozen (i := 5) OSg.out.hg
              have T5z : Hid ((x5.setCell ⟨g3, 5, none⟩ (.slice A5 (n' + 1) c5)).heap[wr.heap.size]? = some (.cells #[.slice A1 n1 c1, .slice A2 n2 c2, .bool tf] 99 (0, 0))) := Lib.hid ((set_other x5 g3 5 _ (ne_of_type T5g.out OSg.out.hg (by decide))).trans T5g.out)
              clear ho5 hg5 ho he hl
              refine hK.out _ _ (t5S T5g.out) (fun hHy => ?_)
              clear hK K
              try simp only [Act.put, List.setIfInBounds_toArray, List.set_cons_zero, List.set_cons_succ]
              refine wpAnyH_take (i := 13) (oi := { dst := some 68, op := Op.fieldAddr 32 (Operand.tmp 3) 3, type := 0, pos := _, after := #[{ on := 0, ground := Ground.phase }, { on := 1, ground := Ground.phase }, { on := 2, ground := Ground.phase }, { on := 3, ground := Ground.phase }, { on := 4, ground := Ground.phase }, { on := 5, ground := Ground.phase }, { on := 6, ground := Ground.phase }, { on := 7, ground := Ground.phase }, { on := 8, ground := Ground.phase }, { on := 9, ground := Ground.phase }, { on := 10, ground := Ground.phase }, { on := 11, ground := Ground.phase }, { on := 12, ground := Ground.phase }], guard := none }) (v := ?vqy0000u41_13) rfl (by kernel_rfl) (by kernel_rfl) (by kernel_rfl) (fun _ _ _ h => h) (Or.inl ⟨by rfl, ?yqy0000u41_13⟩) hHy ?rqy0000u41_13
              case yqy0000u41_13 => (intro w hSw; (try dsimp only at hSw); go_simp; try (with_reducible rfl))
              try simp only [Act.put, List.setIfInBounds_toArray, List.set_cons_zero, List.set_cons_succ]
              refine wpAnyH_ready (rs := [14]) (by kernel_rfl) (by simp) ?_
              refine (AllReadyH.cons (o := { dst := none, op := Op.store 26 (Operand.tmp 68) (Operand.tmp 67), type := 0, pos := _, after := #[{ on := 13, ground := Ground.data }, { on := 12, ground := Ground.data }, { on := 12, ground := Ground.chain }, { on := 0, ground := Ground.phase }, { on := 1, ground := Ground.phase }, { on := 2, ground := Ground.phase }, { on := 3, ground := Ground.phase }, { on := 4, ground := Ground.phase }, { on := 5, ground := Ground.phase }, { on := 6, ground := Ground.phase }, { on := 7, ground := Ground.phase }, { on := 8, ground := Ground.phase }, { on := 9, ground := Ground.phase }, { on := 10, ground := Ground.phase }, { on := 11, ground := Ground.phase }, { on := 12, ground := Ground.phase }], guard := none }) rfl (fun K hK => ?_) AllReadyH.nil)
              go_simp
              refine hK.out _ _ (t5S T5z.out) (fun hHz => ?_)
              clear hK K
              try simp only [Act.put, List.setIfInBounds_toArray, List.set_cons_zero, List.set_cons_succ]
              refine wpAnyH_done (by kernel_rfl) ?_ _
              have OSz : Hid (OS w g3 _ (rcV k b s q A6 nW c6 A5 (n' + 1) c5 f A9 nS c9 A12 nP c12 i S) A9 nS c9 (sh.map (Value.int .i64)) A12 nP c12 (By rp) (x5.setCell ⟨g3, 5, none⟩ (.slice A5 (n' + 1) c5))) := OSg.out.set 5 _ rfl
              have TRz := Lib.hid (TRg.out.set (onl_set x5 g3 5 (.slice A5 (n' + 1) c5)) OSg.out.hg (by decide) (by decide))
              rw [HTK.out] at TRz
              have TWz := Lib.hid (TWg.out.set (onl_set x5 g3 5 (.slice A5 (n' + 1) c5)) OSg.out.hg (by decide) (by decide))
              go_wp2
              go_roundw
              case rel => exact ⟨kk + 1, n' + 1, c5, A5, by go_num, by omega, Lib.hid (by rw [HNK.out]), by have h1 := HNK.out; omega, TRz.out, OSz, TWz⟩
              case measure => simp [intOf]; omega
            · go_simp
              refine (copy_any A1 n1 c1 t.a yd (HA.out.keep BLd.out) (by omega)).mono ?_
              rintro e x11 ⟨D4, f4, rfl, ho11, hb11⟩
              have OS11 := Lib.hid (OSd.out.keep hb11)
              have T511 := Lib.hid ((hb11.block _ (lt_of_heap T5d.out)).trans T5d.out)
              have TR11 := Lib.hid (TRd.out.keep hb11)
              have BL11 := Lib.hid (BLd.out.trans (hb11.mono BLd.out.size))
              have CP4 := Lib.hid (ho11.mono (b := w.heap.size) (Nat.le_trans hys BLd.out.size))
              have TW11 := Lib.hid (TWd.out.keep hb11)
              clear ho11 hb11
              go_wp2_with fail
              refine hK.out _ _ (t5S T511.out) (fun hH11 => ?_)
              clear hK K
              try simp only [Act.put, List.setIfInBounds_toArray, List.set_cons_zero, List.set_cons_succ]
              refine wpAnyH_ready (rs := [1, 7]) (by kernel_rfl) (by simp) ?_
              refine (AllReadyH.cons (o := { dst := some 56, op := Op.load 26 (Operand.tmp 55), type := 26, pos := _, after := #[{ on := 0, ground := Ground.data }], guard := none }) rfl (fun K hK => ?_) (AllReadyH.cons (o := { dst := some 62, op := Op.call { callee := Callee.value (Operand.func 22), args := #[Operand.tmp 61], argTypes := #[28] }, type := 28, pos := _, after := #[{ on := 6, ground := Ground.data }, { on := 4, ground := Ground.chain }], guard := none }) rfl (fun K hK => ?_) AllReadyH.nil))
              · have lc12 := rc_cell (w := x11) 5 (.slice A' n' c') OS11.out.hg rfl
                go_simp
                refine hK.out _ _ (t5S T511.out) (fun hH12 => ?_)
                clear hK K
                try simp only [Act.put, List.setIfInBounds_toArray, List.set_cons_zero, List.set_cons_succ]
                refine wpAnyH_ready (rs := [7]) (by kernel_rfl) (by simp) ?_
                refine (AllReadyH.cons (o := { dst := some 62, op := Op.call { callee := Callee.value (Operand.func 22), args := #[Operand.tmp 61], argTypes := #[28] }, type := 28, pos := _, after := #[{ on := 6, ground := Ground.data }, { on := 4, ground := Ground.chain }], guard := none }) rfl (fun K hK => ?_) AllReadyH.nil)
                go_simp
                refine (copy_any A2 n2 c2 t.b x11 (HBB.out.keep BL11.out) (by omega)).mono ?_
                rintro e x13 ⟨D7, f7, rfl, ho13, hb13⟩
                have OS13 := Lib.hid (OS11.out.keep hb13)
                have T513 := Lib.hid ((hb13.block _ (lt_of_heap T511.out)).trans T511.out)
                have TR13 := Lib.hid (TR11.out.keep hb13)
                have BL13 := Lib.hid (BL11.out.trans (hb13.mono BL11.out.size))
                have CP7 := Lib.hid (ho13.mono (b := w.heap.size) (Nat.le_trans hys BL11.out.size))
                have TW13 := Lib.hid (TW11.out.keep hb13)
                have HDI := Lib.hid (dist_new CP4.out ho13)
                have CP413 := Lib.hid (CP4.out.below hb13 (fun k hk => (CP4.out.lies k hk).2))
                clear ho13 hb13
                go_wp2_with fail
                refine hK.out _ _ (t5S T513.out) (fun hH13 => ?_)
                clear hK K
                try simp only [Act.put, List.setIfInBounds_toArray, List.set_cons_zero, List.set_cons_succ]
                refine wpAnyH_take (i := 10) (oi := { dst := some 65, op := Op.build 99 #[(0, Operand.tmp 59), (1, Operand.tmp 62), (2, Operand.tmp 64)], type := 99, pos := _, after := #[{ on := 4, ground := Ground.data }, { on := 7, ground := Ground.data }, { on := 9, ground := Ground.data }], guard := none }) (v := ?vqx100u42_10) rfl (by kernel_rfl) (by kernel_rfl) (by kernel_rfl) (fun _ _ _ h => h) (Or.inl ⟨by rfl, ?yqx100u42_10⟩) hH13 ?rqx100u42_10
                case yqx100u42_10 => (intro w hSw; (try dsimp only at hSw); go_simp; try (with_reducible rfl))
                try simp only [Act.put, List.setIfInBounds_toArray, List.set_cons_zero, List.set_cons_succ]
                refine wpAnyH_ready (rs := [11]) (by kernel_rfl) (by simp) ?_
                refine (AllReadyH.cons (o := { dst := some 66, op := Op.buildSlice 26 1 #[(0, Operand.tmp 65)], type := 26, pos := _, after := #[{ on := 10, ground := Ground.data }], guard := none }) rfl (fun K hK => ?_) AllReadyH.nil)
                go_simp
                have ba14 := below_alloc x13 (.cells #[.slice D4 n1 f4, .slice D7 n2 f7, .bool tf] 99)
                have OS14 := Lib.hid (OS13.out.keep ba14)
                have T514 := Lib.hid ((ba14.block _ (lt_of_heap T513.out)).trans T513.out)
                have TR14 := Lib.hid (TR13.out.keep ba14)
                have BL14 := Lib.hid (BL13.out.trans (ba14.mono BL13.out.size))
                have CP414 := Lib.hid (CP413.out.alloc (.cells #[.slice D4 n1 f4, .slice D7 n2 f7, .bool tf] 99))
                have CP714 := Lib.hid (CP7.out.alloc (.cells #[.slice D4 n1 f4, .slice D7 n2 f7, .bool tf] 99))
                have NC14 := Lib.hid (three_cells x13 (.slice D4 n1 f4) (.slice D7 n2 f7) (.bool tf) 99)
                have TW14 := Lib.hid (TW13.out.keep ba14)
                refine hK.out _ _ (t5S T514.out) (fun hH14 => ?_)
                clear hK K
                try simp only [Act.put, List.setIfInBounds_toArray, List.set_cons_zero, List.set_cons_succ]
                clear ba14
                generalize x13.alloc (.cells #[.slice D4 n1 f4, .slice D7 n2 f7, .bool tf] 99) = x14 at *
                refine wpAnyH_ready (rs := [12]) (by kernel_rfl) (by simp) ?_
                refine (AllReadyH.cons (o := { dst := some 67, op := Op.call { callee := Callee.builtin Builtin.append, args := #[Operand.tmp 56, Operand.tmp 66], argTypes := #[26, 26] }, type := 26, pos := _, after := #[{ on := 1, ground := Ground.data }, { on := 11, ground := Ground.data }, { on := 7, ground := Ground.chain }], guard := none }) rfl (fun K hK => ?_) AllReadyH.nil)
                obtain ⟨hl, vs, ho, he⟩ := TR14.out
                refine step_append_wide rfl (.tmp 56) (.tmp 66) 26 rfl i99 _ 56 Try.underlying26 hi99 hz990 hz991 hz992 rfl (by decide) (by simp [Act.eval, Act.put]) ho x13.heap.size 0 1 1 [.slice D4 n1 f4, .slice D7 n2 f7, .bool tf] (by simp [Act.eval, Act.put]) rfl NC14.out (three_one _ _ _ _ _ _ _) (by unfold maxLen; omega) (by omega) OS14.out.hb.size ?_
                intro A5 c5 x5 ho5 hg5
                have OSg := Lib.hid (OS14.out.grow hg5 ho (by decide))
                have TWg := Lib.hid (TW14.out.ef (Ef.of_grows (g := 0) (ex := [99]) hg5 (ho.mono (Nat.zero_le _)) (Nat.zero_le _) (by decide)) (by decide) (by decide))
                have T5g := Lib.hid ((hg5.1.block _ (lt_of_heap T514.out) (fun e => absurd (HLI.out _ e.symm) (Nat.lt_irrefl _))).trans T514.out)
                have TRg : Hid (TrO x5 w.heap.size 99 A5 (n' + 1) c5 (rs.take kk ++ [t])) := by
                  have o1 := CP414.out; have o2 := CP714.out
                  have e1 := HNA.out; have e2 := HNB.out; have e3 := HTF.out
                  subst e1 e2 e3
                  exact TrO.snoc (by decide) hl ho he o1 HA.out.2 o2 HBB.out.2 HDI.out ho5 hg5
                have lg := rc_cell (w := x5) 5 (.slice A' n' c') OSg.out.hg rfl
                have fg := two_frozen (i := 5) OSg.out.hg
                have T5z : Hid ((x5.setCell ⟨g3, 5, none⟩ (.slice A5 (n' + 1) c5)).heap[wr.heap.size]? = some (.cells #[.slice A1 n1 c1, .slice A2 n2 c2, .bool tf] 99 (0, 0))) := Lib.hid ((set_other x5 g3 5 _ (ne_of_type T5g.out OSg.out.hg (by decide))).trans T5g.out)
                clear ho5 hg5 ho he hl
                refine hK.out _ _ (t5S T5g.out) (fun hHy => ?_)
                clear hK K
                try simp only [Act.put, List.setIfInBounds_toArray, List.set_cons_zero, List.set_cons_succ]
                refine wpAnyH_take (i := 13) (oi := { dst := some 68, op := Op.fieldAddr 32 (Operand.tmp 3) 3, type := 0, pos := _, after := #[{ on := 0, ground := Ground.phase }, { on := 1, ground := Ground.phase }, { on := 2, ground := Ground.phase }, { on := 3, ground := Ground.phase }, { on := 4, ground := Ground.phase }, { on := 5, ground := Ground.phase }, { on := 6, ground := Ground.phase }, { on := 7, ground := Ground.phase }, { on := 8, ground := Ground.phase }, { on := 9, ground := Ground.phase }, { on := 10, ground := Ground.phase }, { on := 11, ground := Ground.phase }, { on := 12, ground := Ground.phase }], guard := none }) (v := ?vqy1000u43_13) rfl (by kernel_rfl) (by kernel_rfl) (by kernel_rfl) (fun _ _ _ h => h) (Or.inl ⟨by rfl, ?yqy1000u43_13⟩) hHy ?rqy1000u43_13
                case yqy1000u43_13 => (intro w hSw; (try dsimp only at hSw); go_simp; try (with_reducible rfl))
                try simp only [Act.put, List.setIfInBounds_toArray, List.set_cons_zero, List.set_cons_succ]
                refine wpAnyH_ready (rs := [14]) (by kernel_rfl) (by simp) ?_
                refine (AllReadyH.cons (o := { dst := none, op := Op.store 26 (Operand.tmp 68) (Operand.tmp 67), type := 0, pos := _, after := #[{ on := 13, ground := Ground.data }, { on := 12, ground := Ground.data }, { on := 12, ground := Ground.chain }, { on := 0, ground := Ground.phase }, { on := 1, ground := Ground.phase }, { on := 2, ground := Ground.phase }, { on := 3, ground := Ground.phase }, { on := 4, ground := Ground.phase }, { on := 5, ground := Ground.phase }, { on := 6, ground := Ground.phase }, { on := 7, ground := Ground.phase }, { on := 8, ground := Ground.phase }, { on := 9, ground := Ground.phase }, { on := 10, ground := Ground.phase }, { on := 11, ground := Ground.phase }, { on := 12, ground := Ground.phase }], guard := none }) rfl (fun K hK => ?_) AllReadyH.nil)
                go_simp
                refine hK.out _ _ (t5S T5z.out) (fun hHz => ?_)
                clear hK K
                try simp only [Act.put, List.setIfInBounds_toArray, List.set_cons_zero, List.set_cons_succ]
                refine wpAnyH_done (by kernel_rfl) ?_ _
                have OSz : Hid (OS w g3 _ (rcV k b s q A6 nW c6 A5 (n' + 1) c5 f A9 nS c9 A12 nP c12 i S) A9 nS c9 (sh.map (Value.int .i64)) A12 nP c12 (By rp) (x5.setCell ⟨g3, 5, none⟩ (.slice A5 (n' + 1) c5))) := OSg.out.set 5 _ rfl
                have TRz := Lib.hid (TRg.out.set (onl_set x5 g3 5 (.slice A5 (n' + 1) c5)) OSg.out.hg (by decide) (by decide))
                rw [HTK.out] at TRz
                have TWz := Lib.hid (TWg.out.set (onl_set x5 g3 5 (.slice A5 (n' + 1) c5)) OSg.out.hg (by decide) (by decide))
                go_wp2
                go_roundw
                case rel => exact ⟨kk + 1, n' + 1, c5, A5, by go_num, by omega, Lib.hid (by rw [HNK.out]), by have h1 := HNK.out; omega, TRz.out, OSz, TWz⟩
                case measure => simp [intOf]; omega
              · go_simp
                refine (copy_any A2 n2 c2 t.b x11 (HBB.out.keep BL11.out) (by omega)).mono ?_
                rintro e x12 ⟨D7, f7, rfl, ho12, hb12⟩
                have OS12 := Lib.hid (OS11.out.keep hb12)
                have T512 := Lib.hid ((hb12.block _ (lt_of_heap T511.out)).trans T511.out)
                have TR12 := Lib.hid (TR11.out.keep hb12)
                have BL12 := Lib.hid (BL11.out.trans (hb12.mono BL11.out.size))
                have CP7 := Lib.hid (ho12.mono (b := w.heap.size) (Nat.le_trans hys BL11.out.size))
                have TW12 := Lib.hid (TW11.out.keep hb12)
                have HDI := Lib.hid (dist_new CP4.out ho12)
                have CP412 := Lib.hid (CP4.out.below hb12 (fun k hk => (CP4.out.lies k hk).2))
                clear ho12 hb12
                go_wp2_with fail
                refine hK.out _ _ (t5S T512.out) (fun hH12 => ?_)
                clear hK K
                try simp only [Act.put, List.setIfInBounds_toArray, List.set_cons_zero, List.set_cons_succ]
                refine wpAnyH_take (i := 10) (oi := { dst := some 65, op := Op.build 99 #[(0, Operand.tmp 59), (1, Operand.tmp 62), (2, Operand.tmp 64)], type := 99, pos := _, after := #[{ on := 4, ground := Ground.data }, { on := 7, ground := Ground.data }, { on := 9, ground := Ground.data }], guard := none }) (v := ?vqx11u44_10) rfl (by kernel_rfl) (by kernel_rfl) (by kernel_rfl) (fun _ _ _ h => h) (Or.inl ⟨by rfl, ?yqx11u44_10⟩) hH12 ?rqx11u44_10
                case yqx11u44_10 => (intro w hSw; (try dsimp only at hSw); go_simp; try (with_reducible rfl))
                try simp only [Act.put, List.setIfInBounds_toArray, List.set_cons_zero, List.set_cons_succ]
                refine wpAnyH_ready (rs := [1, 11]) (by kernel_rfl) (by simp) ?_
                refine (AllReadyH.cons (o := { dst := some 56, op := Op.load 26 (Operand.tmp 55), type := 26, pos := _, after := #[{ on := 0, ground := Ground.data }], guard := none }) rfl (fun K hK => ?_) (AllReadyH.cons (o := { dst := some 66, op := Op.buildSlice 26 1 #[(0, Operand.tmp 65)], type := 26, pos := _, after := #[{ on := 10, ground := Ground.data }], guard := none }) rfl (fun K hK => ?_) AllReadyH.nil))
                · have lc13 := rc_cell (w := x12) 5 (.slice A' n' c') OS12.out.hg rfl
                  go_simp
                  refine hK.out _ _ (t5S T512.out) (fun hH13 => ?_)
                  clear hK K
                  try simp only [Act.put, List.setIfInBounds_toArray, List.set_cons_zero, List.set_cons_succ]
                  refine wpAnyH_ready (rs := [11]) (by kernel_rfl) (by simp) ?_
                  refine (AllReadyH.cons (o := { dst := some 66, op := Op.buildSlice 26 1 #[(0, Operand.tmp 65)], type := 26, pos := _, after := #[{ on := 10, ground := Ground.data }], guard := none }) rfl (fun K hK => ?_) AllReadyH.nil)
                  go_simp
                  have ba14 := below_alloc x12 (.cells #[.slice D4 n1 f4, .slice D7 n2 f7, .bool tf] 99)
                  have OS14 := Lib.hid (OS12.out.keep ba14)
                  have T514 := Lib.hid ((ba14.block _ (lt_of_heap T512.out)).trans T512.out)
                  have TR14 := Lib.hid (TR12.out.keep ba14)
                  have BL14 := Lib.hid (BL12.out.trans (ba14.mono BL12.out.size))
                  have CP414 := Lib.hid (CP412.out.alloc (.cells #[.slice D4 n1 f4, .slice D7 n2 f7, .bool tf] 99))
                  have CP714 := Lib.hid (CP7.out.alloc (.cells #[.slice D4 n1 f4, .slice D7 n2 f7, .bool tf] 99))
                  have NC14 := Lib.hid (three_cells x12 (.slice D4 n1 f4) (.slice D7 n2 f7) (.bool tf) 99)
                  have TW14 := Lib.hid (TW12.out.keep ba14)
                  refine hK.out _ _ (t5S T514.out) (fun hH14 => ?_)
                  clear hK K
                  try simp only [Act.put, List.setIfInBounds_toArray, List.set_cons_zero, List.set_cons_succ]
                  clear ba14
                  generalize x12.alloc (.cells #[.slice D4 n1 f4, .slice D7 n2 f7, .bool tf] 99) = x14 at *
                  refine wpAnyH_ready (rs := [12]) (by kernel_rfl) (by simp) ?_
                  refine (AllReadyH.cons (o := { dst := some 67, op := Op.call { callee := Callee.builtin Builtin.append, args := #[Operand.tmp 56, Operand.tmp 66], argTypes := #[26, 26] }, type := 26, pos := _, after := #[{ on := 1, ground := Ground.data }, { on := 11, ground := Ground.data }, { on := 7, ground := Ground.chain }], guard := none }) rfl (fun K hK => ?_) AllReadyH.nil)
                  obtain ⟨hl, vs, ho, he⟩ := TR14.out
                  refine step_append_wide rfl (.tmp 56) (.tmp 66) 26 rfl i99 _ 56 Try.underlying26 hi99 hz990 hz991 hz992 rfl (by decide) (by simp [Act.eval, Act.put]) ho x12.heap.size 0 1 1 [.slice D4 n1 f4, .slice D7 n2 f7, .bool tf] (by simp [Act.eval, Act.put]) rfl NC14.out (three_one _ _ _ _ _ _ _) (by unfold maxLen; omega) (by omega) OS14.out.hb.size ?_
                  intro A5 c5 x5 ho5 hg5
                  have OSg := Lib.hid (OS14.out.grow hg5 ho (by decide))
                  have TWg := Lib.hid (TW14.out.ef (Ef.of_grows (g := 0) (ex := [99]) hg5 (ho.mono (Nat.zero_le _)) (Nat.zero_le _) (by decide)) (by decide) (by decide))
                  have T5g := Lib.hid ((hg5.1.block _ (lt_of_heap T514.out) (fun e => absurd (HLI.out _ e.symm) (Nat.lt_irrefl _))).trans T514.out)
                  have TRg : Hid (TrO x5 w.heap.size 99 A5 (n' + 1) c5 (rs.take kk ++ [t])) := by
                    have o1 := CP414.out; have o2 := CP714.out
                    have e1 := HNA.out; have e2 := HNB.out; have e3 := HTF.out
                    subst e1 e2 e3
                    exact TrO.snoc (by decide) hl ho he o1 HA.out.2 o2 HBB.out.2 HDI.out ho5 hg5
                  have lg := rc_cell (w := x5) 5 (.slice A' n' c') OSg.out.hg rfl
                  have fg := two_frozen (i := 5) OSg.out.hg
                  have T5z : Hid ((x5.setCell ⟨g3, 5, none⟩ (.slice A5 (n' + 1) c5)).heap[wr.heap.size]? = some (.cells #[.slice A1 n1 c1, .slice A2 n2 c2, .bool tf] 99 (0, 0))) := Lib.hid ((set_other x5 g3 5 _ (ne_of_type T5g.out OSg.out.hg (by decide))).trans T5g.out)
                  clear ho5 hg5 ho he hl
                  refine hK.out _ _ (t5S T5g.out) (fun hHy => ?_)
                  clear hK K
                  try simp only [Act.put, List.setIfInBounds_toArray, List.set_cons_zero, List.set_cons_succ]
                  refine wpAnyH_take (i := 13) (oi := { dst := some 68, op := Op.fieldAddr 32 (Operand.tmp 3) 3, type := 0, pos := _, after := #[{ on := 0, ground := Ground.phase }, { on := 1, ground := Ground.phase }, { on := 2, ground := Ground.phase }, { on := 3, ground := Ground.phase }, { on := 4, ground := Ground.phase }, { on := 5, ground := Ground.phase }, { on := 6, ground := Ground.phase }, { on := 7, ground := Ground.phase }, { on := 8, ground := Ground.phase }, { on := 9, ground := Ground.phase }, { on := 10, ground := Ground.phase }, { on := 11, ground := Ground.phase }, { on := 12, ground := Ground.phase }], guard := none }) (v := ?vqy1100u45_13) rfl (by kernel_rfl) (by kernel_rfl) (by kernel_rfl) (fun _ _ _ h => h) (Or.inl ⟨by rfl, ?yqy1100u45_13⟩) hHy ?rqy1100u45_13
                  case yqy1100u45_13 => (intro w hSw; (try dsimp only at hSw); go_simp; try (with_reducible rfl))
                  try simp only [Act.put, List.setIfInBounds_toArray, List.set_cons_zero, List.set_cons_succ]
                  refine wpAnyH_ready (rs := [14]) (by kernel_rfl) (by simp) ?_
                  refine (AllReadyH.cons (o := { dst := none, op := Op.store 26 (Operand.tmp 68) (Operand.tmp 67), type := 0, pos := _, after := #[{ on := 13, ground := Ground.data }, { on := 12, ground := Ground.data }, { on := 12, ground := Ground.chain }, { on := 0, ground := Ground.phase }, { on := 1, ground := Ground.phase }, { on := 2, ground := Ground.phase }, { on := 3, ground := Ground.phase }, { on := 4, ground := Ground.phase }, { on := 5, ground := Ground.phase }, { on := 6, ground := Ground.phase }, { on := 7, ground := Ground.phase }, { on := 8, ground := Ground.phase }, { on := 9, ground := Ground.phase }, { on := 10, ground := Ground.phase }, { on := 11, ground := Ground.phase }, { on := 12, ground := Ground.phase }], guard := none }) rfl (fun K hK => ?_) AllReadyH.nil)
                  go_simp
                  refine hK.out _ _ (t5S T5z.out) (fun hHz => ?_)
                  clear hK K
                  try simp only [Act.put, List.setIfInBounds_toArray, List.set_cons_zero, List.set_cons_succ]
                  refine wpAnyH_done (by kernel_rfl) ?_ _
                  have OSz : Hid (OS w g3 _ (rcV k b s q A6 nW c6 A5 (n' + 1) c5 f A9 nS c9 A12 nP c12 i S) A9 nS c9 (sh.map (Value.int .i64)) A12 nP c12 (By rp) (x5.setCell ⟨g3, 5, none⟩ (.slice A5 (n' + 1) c5))) := OSg.out.set 5 _ rfl
                  have TRz := Lib.hid (TRg.out.set (onl_set x5 g3 5 (.slice A5 (n' + 1) c5)) OSg.out.hg (by decide) (by decide))
                  rw [HTK.out] at TRz
                  have TWz := Lib.hid (TWg.out.set (onl_set x5 g3 5 (.slice A5 (n' + 1) c5)) OSg.out.hg (by decide) (by decide))
                  go_wp2
                  go_roundw
                  case rel => exact ⟨kk + 1, n' + 1, c5, A5, by go_num, by omega, Lib.hid (by rw [HNK.out]), by have h1 := HNK.out; omega, TRz.out, OSz, TWz⟩
                  case measure => simp [intOf]; omega
                · go_simp
                  have ba13 := below_alloc x12 (.cells #[.slice D4 n1 f4, .slice D7 n2 f7, .bool tf] 99)
                  have OS13 := Lib.hid (OS12.out.keep ba13)
                  have T513 := Lib.hid ((ba13.block _ (lt_of_heap T512.out)).trans T512.out)
                  have TR13 := Lib.hid (TR12.out.keep ba13)
                  have BL13 := Lib.hid (BL12.out.trans (ba13.mono BL12.out.size))
                  have CP413 := Lib.hid (CP412.out.alloc (.cells #[.slice D4 n1 f4, .slice D7 n2 f7, .bool tf] 99))
                  have CP713 := Lib.hid (CP7.out.alloc (.cells #[.slice D4 n1 f4, .slice D7 n2 f7, .bool tf] 99))
                  have NC13 := Lib.hid (three_cells x12 (.slice D4 n1 f4) (.slice D7 n2 f7) (.bool tf) 99)
                  have TW13 := Lib.hid (TW12.out.keep ba13)
                  refine hK.out _ _ (t5S T513.out) (fun hH13 => ?_)
                  clear hK K
                  try simp only [Act.put, List.setIfInBounds_toArray, List.set_cons_zero, List.set_cons_succ]
                  clear ba13
                  generalize x12.alloc (.cells #[.slice D4 n1 f4, .slice D7 n2 f7, .bool tf] 99) = x13 at *
                  refine wpAnyH_ready (rs := [1]) (by kernel_rfl) (by simp) ?_
                  refine (AllReadyH.cons (o := { dst := some 56, op := Op.load 26 (Operand.tmp 55), type := 26, pos := _, after := #[{ on := 0, ground := Ground.data }], guard := none }) rfl (fun K hK => ?_) AllReadyH.nil)
                  have lc14 := rc_cell (w := x13) 5 (.slice A' n' c') OS13.out.hg rfl
                  go_simp
                  refine hK.out _ _ (t5S T513.out) (fun hH14 => ?_)
                  clear hK K
                  try simp only [Act.put, List.setIfInBounds_toArray, List.set_cons_zero, List.set_cons_succ]
                  refine wpAnyH_ready (rs := [12]) (by kernel_rfl) (by simp) ?_
                  refine (AllReadyH.cons (o := { dst := some 67, op := Op.call { callee := Callee.builtin Builtin.append, args := #[Operand.tmp 56, Operand.tmp 66], argTypes := #[26, 26] }, type := 26, pos := _, after := #[{ on := 1, ground := Ground.data }, { on := 11, ground := Ground.data }, { on := 7, ground := Ground.chain }], guard := none }) rfl (fun K hK => ?_) AllReadyH.nil)
                  obtain ⟨hl, vs, ho, he⟩ := TR13.out
                  refine step_append_wide rfl (.tmp 56) (.tmp 66) 26 rfl i99 _ 56 Try.underlying26 hi99 hz990 hz991 hz992 rfl (by decide) (by simp [Act.eval, Act.put]) ho x12.heap.size 0 1 1 [.slice D4 n1 f4, .slice D7 n2 f7, .bool tf] (by simp [Act.eval, Act.put]) rfl NC13.out (three_one _ _ _ _ _ _ _) (by unfold maxLen; omega) (by omega) OS13.out.hb.size ?_
                  intro A5 c5 x5 ho5 hg5
                  have OSg := Lib.hid (OS13.out.grow hg5 ho (by decide))
                  have TWg := Lib.hid (TW13.out.ef (Ef.of_grows (g := 0) (ex := [99]) hg5 (ho.mono (Nat.zero_le _)) (Nat.zero_le _) (by decide)) (by decide) (by decide))
                  have T5g := Lib.hid ((hg5.1.block _ (lt_of_heap T513.out) (fun e => absurd (HLI.out _ e.symm) (Nat.lt_irrefl _))).trans T513.out)
                  have TRg : Hid (TrO x5 w.heap.size 99 A5 (n' + 1) c5 (rs.take kk ++ [t])) := by
                    have o1 := CP413.out; have o2 := CP713.out
                    have e1 := HNA.out; have e2 := HNB.out; have e3 := HTF.out
                    subst e1 e2 e3
                    exact TrO.snoc (by decide) hl ho he o1 HA.out.2 o2 HBB.out.2 HDI.out ho5 hg5
                  have lg := rc_cell (w := x5) 5 (.slice A' n' c') OSg.out.hg rfl
                  have fg := two_frozen (i := 5) OSg.out.hg
                  have T5z : Hid ((x5.setCell ⟨g3, 5, none⟩ (.slice A5 (n' + 1) c5)).heap[wr.heap.size]? = some (.cells #[.slice A1 n1 c1, .slice A2 n2 c2, .bool tf] 99 (0, 0))) := Lib.hid ((set_other x5 g3 5 _ (ne_of_type T5g.out OSg.out.hg (by decide))).trans T5g.out)
                  clear ho5 hg5 ho he hl
                  refine hK.out _ _ (t5S T5g.out) (fun hHy => ?_)
                  clear hK K
                  try simp only [Act.put, List.setIfInBounds_toArray, List.set_cons_zero, List.set_cons_succ]
                  refine wpAnyH_take (i := 13) (oi := { dst := some 68, op := Op.fieldAddr 32 (Operand.tmp 3) 3, type := 0, pos := _, after := #[{ on := 0, ground := Ground.phase }, { on := 1, ground := Ground.phase }, { on := 2, ground := Ground.phase }, { on := 3, ground := Ground.phase }, { on := 4, ground := Ground.phase }, { on := 5, ground := Ground.phase }, { on := 6, ground := Ground.phase }, { on := 7, ground := Ground.phase }, { on := 8, ground := Ground.phase }, { on := 9, ground := Ground.phase }, { on := 10, ground := Ground.phase }, { on := 11, ground := Ground.phase }, { on := 12, ground := Ground.phase }], guard := none }) (v := ?vqy1110u46_13) rfl (by kernel_rfl) (by kernel_rfl) (by kernel_rfl) (fun _ _ _ h => h) (Or.inl ⟨by rfl, ?yqy1110u46_13⟩) hHy ?rqy1110u46_13
                  case yqy1110u46_13 => (intro w hSw; (try dsimp only at hSw); go_simp; try (with_reducible rfl))
                  try simp only [Act.put, List.setIfInBounds_toArray, List.set_cons_zero, List.set_cons_succ]
                  refine wpAnyH_ready (rs := [14]) (by kernel_rfl) (by simp) ?_
                  refine (AllReadyH.cons (o := { dst := none, op := Op.store 26 (Operand.tmp 68) (Operand.tmp 67), type := 0, pos := _, after := #[{ on := 13, ground := Ground.data }, { on := 12, ground := Ground.data }, { on := 12, ground := Ground.chain }, { on := 0, ground := Ground.phase }, { on := 1, ground := Ground.phase }, { on := 2, ground := Ground.phase }, { on := 3, ground := Ground.phase }, { on := 4, ground := Ground.phase }, { on := 5, ground := Ground.phase }, { on := 6, ground := Ground.phase }, { on := 7, ground := Ground.phase }, { on := 8, ground := Ground.phase }, { on := 9, ground := Ground.phase }, { on := 10, ground := Ground.phase }, { on := 11, ground := Ground.phase }, { on := 12, ground := Ground.phase }], guard := none }) rfl (fun K hK => ?_) AllReadyH.nil)
                  go_simp
                  refine hK.out _ _ (t5S T5z.out) (fun hHz => ?_)
                  clear hK K
                  try simp only [Act.put, List.setIfInBounds_toArray, List.set_cons_zero, List.set_cons_succ]
                  refine wpAnyH_done (by kernel_rfl) ?_ _
                  have OSz : Hid (OS w g3 _ (rcV k b s q A6 nW c6 A5 (n' + 1) c5 f A9 nS c9 A12 nP c12 i S) A9 nS c9 (sh.map (Value.int .i64)) A12 nP c12 (By rp) (x5.setCell ⟨g3, 5, none⟩ (.slice A5 (n' + 1) c5))) := OSg.out.set 5 _ rfl
                  have TRz := Lib.hid (TRg.out.set (onl_set x5 g3 5 (.slice A5 (n' + 1) c5)) OSg.out.hg (by decide) (by decide))
                  rw [HTK.out] at TRz
                  have TWz := Lib.hid (TWg.out.set (onl_set x5 g3 5 (.slice A5 (n' + 1) c5)) OSg.out.hg (by decide) (by decide))
                  go_wp2
                  go_roundw
                  case rel => exact ⟨kk + 1, n' + 1, c5, A5, by go_num, by omega, Lib.hid (by rw [HNK.out]), by have h1 := HNK.out; omega, TRz.out, OSz, TWz⟩
                  case measure => simp [intOf]; omega
          · have hkn : nR = n' := by have h1 := HNK.out; omega
            subst hkn
            have hk2 : kk = nR := HNK.out.symm
            rw [hk2, List.take_of_length_le (by rw [HLR.out]; exact Nat.le_refl _)] at hO
            have HTR := Lib.hid hO
            clear hO HNK hk2
            have q0 := rc_cell 0 (.int .i64 k) HOS.out.hg rfl
            have z0 := rc_cell 0 (.int .i64 0) HOS.out.rs rfl
            have y0 := two_frozen (i := 0) HOS.out.rs
            have q1 := rc_cell 1 (.int .u64 b) HOS.out.hg rfl
            have z1 := rc_cell 1 (.int .u64 0) HOS.out.rs rfl
            have y1 := two_frozen (i := 1) HOS.out.rs
            have q2 := rc_cell 2 (.int .u64 s) HOS.out.hg rfl
            have z2 := rc_cell 2 (.int .u64 0) HOS.out.rs rfl
            have y2 := two_frozen (i := 2) HOS.out.rs
            have q3 := rc_cell 3 (.int .u64 q) HOS.out.hg rfl
            have z3 := rc_cell 3 (.int .u64 0) HOS.out.rs rfl
            have y3 := two_frozen (i := 3) HOS.out.rs
            have q4 := rc_cell 4 (.slice A6 nW c6) HOS.out.hg rfl
            have z4 := rc_cell 4 (.slice none 0 0) HOS.out.rs rfl
            have y4 := two_frozen (i := 4) HOS.out.rs
            have q5 := rc_cell 5 (.slice A' nR c') HOS.out.hg rfl
            have z5 := rc_cell 5 (.slice none 0 0) HOS.out.rs rfl
            have y5 := two_frozen (i := 5) HOS.out.rs
            have q6 := rc_cell 6 (.bool f) HOS.out.hg rfl
            have z6 := rc_cell 6 (.bool false) HOS.out.rs rfl
            have y6 := two_frozen (i := 6) HOS.out.rs
            have q7 := rc_cell 7 (.slice A9 nS c9) HOS.out.hg rfl
            have z7 := rc_cell 7 (.slice none 0 0) HOS.out.rs rfl
            have y7 := two_frozen (i := 7) HOS.out.rs
            have q8 := rc_cell 8 (.slice A12 nP c12) HOS.out.hg rfl
            have z8 := rc_cell 8 (.slice none 0 0) HOS.out.rs rfl
            have y8 := two_frozen (i := 8) HOS.out.rs
            have q9 := rc_cell 9 (.int .u64 i) HOS.out.hg rfl
            have z9 := rc_cell 9 (.int .u64 0) HOS.out.rs rfl
            have y9 := two_frozen (i := 9) HOS.out.rs
            have q10 := rc_cell 10 (.string S) HOS.out.hg rfl
            have z10 := rc_cell 10 (.string ⟨#[]⟩) HOS.out.rs rfl
            have y10 := two_frozen (i := 10) HOS.out.rs
            go_wp2
            clear q0 z0 y0 q1 z1 y1 q2 z2 y2 q3 z3 y3 q4 z4 y4 q5 z5 y5 q6 z6 y6 q7 z7 y7 q8 z8 y8 q9 z9 y9 q10 z10 y10
            have HZ := Lib.hid (set11 wr (w.heap.size + 1) (.int .i64 k) (.int .u64 b) (.int .u64 s) (.int .u64 q) (.slice A6 nW c6) (.slice A' nR c') (.bool f) (.slice A9 nS c9) (.slice A12 nP c12) (.int .u64 i) (.string S) HOS.out.rs)
            have TWz := Lib.hid (HTW.out.set HZ.out.2 HOS.out.rs (by decide) (by decide))
            have TRz := Lib.hid (HTR.out.set HZ.out.2 HOS.out.rs (by decide) (by decide))
            have SHz := Lib.hid (HOS.out.sh.onl HZ.out.2 (HOS.out.sh.ne_blk HOS.out.rs (by decide)))
            have RPz := Lib.hid (HOS.out.rp.onl HZ.out.2 (HOS.out.rp.ne_blk HOS.out.rs (by decide)))
            have HBZ := Lib.hid (HOS.out.hb.trans ((HZ.out.2.below (Nat.le_of_lt (lt_of_heap HOS.out.rs))).mono (by omega)))
            generalize (((((((((((wr.setCell ⟨w.heap.size + 1, 0, none⟩ (.int .i64 k)).setCell ⟨w.heap.size + 1, 1, none⟩ (.int .u64 b)).setCell ⟨w.heap.size + 1, 2, none⟩ (.int .u64 s)).setCell ⟨w.heap.size + 1, 3, none⟩ (.int .u64 q)).setCell ⟨w.heap.size + 1, 4, none⟩ (.slice A6 nW c6)).setCell ⟨w.heap.size + 1, 5, none⟩ (.slice A' nR c')).setCell ⟨w.heap.size + 1, 6, none⟩ (.bool f)).setCell ⟨w.heap.size + 1, 7, none⟩ (.slice A9 nS c9)).setCell ⟨w.heap.size + 1, 8, none⟩ (.slice A12 nP c12)).setCell ⟨w.heap.size + 1, 9, none⟩ (.int .u64 i)).setCell ⟨w.heap.size + 1, 10, none⟩ (.string S)) = VZ at *
            have r0 := rc_cell 0 (.int .i64 k) HZ.out.1 rfl
            have r1 := rc_cell 1 (.int .u64 b) HZ.out.1 rfl
            have r2 := rc_cell 2 (.int .u64 s) HZ.out.1 rfl
            have r3 := rc_cell 3 (.int .u64 q) HZ.out.1 rfl
            have r4 := rc_cell 4 (.slice A6 nW c6) HZ.out.1 rfl
            have r5 := rc_cell 5 (.slice A' nR c') HZ.out.1 rfl
            have r6 := rc_cell 6 (.bool f) HZ.out.1 rfl
            have r7 := rc_cell 7 (.slice A9 nS c9) HZ.out.1 rfl
            have r8 := rc_cell 8 (.slice A12 nP c12) HZ.out.1 rfl
            have r9 := rc_cell 9 (.int .u64 i) HZ.out.1 rfl
            have r10 := rc_cell 10 (.string S) HZ.out.1 rfl
            refine bodyPost_ret (v := .agg (rcV k b s q A6 nW c6 A' nR c' f A9 nS c9 A12 nP c12 i S)) (by simp [results, Try.f14, go_sem, Try.isAgg32, Try.sizeOf32, r0, r1, r2, r3, r4, r5, r6, r7, r8, r9, r10]) rfl ⟨A6, c6, A', c', A9, c9, A12, c12, rfl, TWz.out, TRz.out, SHz.out, RPz.out, HBZ.out⟩
end Go.Proofs.Ytmjjbfcblmmipaa
