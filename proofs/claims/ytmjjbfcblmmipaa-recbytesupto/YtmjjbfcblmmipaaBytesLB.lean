/- RecBytes: the walk. -/
import Derived.Test.YtmjjbfcblmmipaaBytesLL
namespace Go.Proofs.Ytmjjbfcblmmipaa
set_option linter.unusedVariables false
set_option linter.unusedSimpArgs false
open Go.RowKit

set_option maxRecDepth 100000 in
set_option maxHeartbeats 16000000 in
theorem bytes_bad (x : Rc) (AW : Option Addr) (nW cW : Nat) (AR : Option Addr) (nR cR : Nat) (AS : Option Addr) (nS cS : Nat) (AP : Option Addr) (nP cP : Nat) (w : World) (hx : RcR w x ⟨AW, nW, cW, AR, nR, cR, AS, nS, cS, AP, nP, cP⟩) (hB : RcB x) (hL : (recL x).length ≤ 12000000) (bW : nW ≤ 10000000) (bR : nR ≤ 10000000) (bS : nS ≤ 10000000) (bP : nP ≤ 10000000) (tW : (trs x.ws).length ≤ 12000000) (tR : (trs x.rs).length ≤ 12000000) (hk : ¬ (1 ≤ x.kind ∧ x.kind ≤ 9)) :
    Calls Try.prog 3 #[.agg (rcV x.kind x.boot x.sess x.seq AW nW cW AR nR cR x.commit AS nS cS AP nP cP x.id (strOfNums x.name))] w fun e w' => e = .returned (.bool true) ∧ Below w.heap.size w w' := by
  have HX := Lib.hid hx; have HB := Lib.hid hB
  have HTX : Hid (TB x x) := Lib.hid ⟨hB.boot, hB.sess, hB.seq, hB.id, hx.name, by omega, by omega, (by have h1 := hx.sh.len; have h2 : x.shards.length = nS := h1; omega), (by have h1 := hx.rp.len; have h2 : x.reply.length = nP := h1; omega), rfl⟩
  have hba := below_alloc w (.cells (rcV x.kind x.boot x.sess x.seq AW nW cW AR nR cR x.commit AS nS cS AP nP cP x.id (strOfNums x.name)) 30)
  have BX0 := Lib.hid (heap_alloc_new w (.cells (rcV x.kind x.boot x.sess x.seq AW nW cW AR nR cR x.commit AS nS cS AP nP cP x.id (strOfNums x.name)) 30))
  have HB0 := Lib.hid hba
  clear hx hB hba
  go_enter Try.func3, Try.ntmps3
  go_wp2_with fail
  generalize w.alloc (.cells (rcV x.kind x.boot x.sess x.seq AW nW cW AR nR cR x.commit AS nS cS AP nP cP x.id (strOfNums x.name)) 30) = W0 at *
  refine (awake_any W0).mono ?_
  rintro e w1 ⟨rfl, hb1⟩
  have BX1 := Lib.hid ((hb1.block _ (lt_of_heap BX0.out)).trans BX0.out)
  have HB1 := Lib.hid (HB0.out.trans (hb1.mono HB0.out.size))
  have a0 := rc_cell 0 (.int .i64 x.kind) BX1.out rfl
  have a1 := rc_cell 1 (.int .u64 x.boot) BX1.out rfl
  have a2 := rc_cell 2 (.int .u64 x.sess) BX1.out rfl
  have a3 := rc_cell 3 (.int .u64 x.seq) BX1.out rfl
  have a4 := rc_cell 4 (.slice AW nW cW) BX1.out rfl
  have a5 := rc_cell 5 (.slice AR nR cR) BX1.out rfl
  have a6 := rc_cell 6 (.bool x.commit) BX1.out rfl
  have a7 := rc_cell 7 (.slice AS nS cS) BX1.out rfl
  have a8 := rc_cell 8 (.slice AP nP cP) BX1.out rfl
  have a9 := rc_cell 9 (.int .u64 x.id) BX1.out rfl
  have a10 := rc_cell 10 (.string (strOfNums x.name)) BX1.out rfl
  clear hb1 BX0 HB0
  go_wp2_with fail
  have hx1 := HX.out.keep HB1.out
  refine (own_core x.kind x.boot x.sess x.seq x.commit x.id (strOfNums x.name) AW nW cW AR nR cR AS nS cS AP nP cP x.ws x.rs x.shards x.reply w1 hx1.ws hx1.rs hx1.sh hx1.rp bW bR bS (by omega) (by omega) (by omega)).mono ?_
  rintro e w2 ⟨A6, c6, A7, c7, A9, c9, A12, c12, rfl, o6, o7, o9, o12, hb2⟩
  have hbb := below_alloc w2 (.cells (rcV x.kind x.boot x.sess x.seq A6 nW c6 A7 nR c7 x.commit A9 nS c9 A12 nP c12 x.id (strOfNums x.name)) 32)
  have hb22 := hb2.trans (hbb.mono hb2.size)
  have BX2 := Lib.hid ((hb22.block _ (lt_of_heap BX1.out)).trans BX1.out)
  have HB2 := Lib.hid (HB1.out.trans (hb22.mono HB1.out.size))
  have HG2 := Lib.hid (heap_alloc_new w2 (.cells (rcV x.kind x.boot x.sess x.seq A6 nW c6 A7 nR c7 x.commit A9 nS c9 A12 nP c12 x.id (strOfNums x.name)) 32))
  have HT2 : Hid (RcT (w2.alloc (.cells (rcV x.kind x.boot x.sess x.seq A6 nW c6 A7 nR c7 x.commit A9 nS c9 A12 nP c12 x.id (strOfNums x.name)) 32)) x ⟨A6, nW, c6, A7, nR, c7, A9, nS, c9, A12, nP, c12⟩) := Lib.hid (RcT.keep ⟨o6.trs, o7.trs, ⟨o9.rd, hx1.sh.2⟩, o12.bs hx1.rp.2, o12.cap⟩ hbb)
  clear a0 a1 a2 a3 a4 a5 a6 a7 a8 a9 a10 BX1 HB1 o6 o7 o9 o12 hb2 hx1 hbb hb22
  have b0 := rc_cell 0 (.int .i64 x.kind) HG2.out rfl
  have b1 := rc_cell 1 (.int .u64 x.boot) HG2.out rfl
  have b2 := rc_cell 2 (.int .u64 x.sess) HG2.out rfl
  have b3 := rc_cell 3 (.int .u64 x.seq) HG2.out rfl
  have b4 := rc_cell 4 (.slice A6 nW c6) HG2.out rfl
  have b5 := rc_cell 5 (.slice A7 nR c7) HG2.out rfl
  have b6 := rc_cell 6 (.bool x.commit) HG2.out rfl
  have b7 := rc_cell 7 (.slice A9 nS c9) HG2.out rfl
  have b8 := rc_cell 8 (.slice A12 nP c12) HG2.out rfl
  have b9 := rc_cell 9 (.int .u64 x.id) HG2.out rfl
  have b10 := rc_cell 10 (.string (strOfNums x.name)) HG2.out rfl
  go_wp2_with fail
  generalize w2.alloc (.cells (rcV x.kind x.boot x.sess x.seq A6 nW c6 A7 nR c7 x.commit A9 nS c9 A12 nP c12 x.id (strOfNums x.name)) 32) = w3 at *
  generalize w2.heap.size = g3 at *
  refine (bytes_any x ⟨A6, nW, c6, A7, nR, c7, A9, nS, c9, A12, nP, c12⟩ w3 (rcT_R HT2.out HTX.out) (by omega)).mono ?_
  rintro e w4 ⟨A3, n3, c3, rfl, hn3, ho3, hr3, hb3⟩
  have BX4 := Lib.hid ((hb3.block _ (lt_of_heap BX2.out)).trans BX2.out)
  have HG4 := Lib.hid ((hb3.block _ (lt_of_heap HG2.out)).trans HG2.out)
  have HT4 := Lib.hid (HT2.out.keep hb3)
  have HB4 := Lib.hid (HB2.out.trans (hb3.mono HB2.out.size))
  have HO4 := Lib.hid ho3; have HR3 := Lib.hid hr3
  have hn3b : n3 ≤ 12000000 := by omega
  have HN3 := Lib.hid hn3
  clear b0 b1 b2 b3 b4 b5 b6 b7 b8 b9 b10 BX2 HG2 HT2 HB2 ho3 hr3 hb3 hn3
  go_wp2_with fail
  have BXdp : Hid (w4.drew.heap[w.heap.size]? = _) := BX4
  have HGdp : Hid (w4.drew.heap[g3]? = _) := HG4
  have HBdp : Hid (Below w.heap.size w w4.drew) := Lib.hid (below_n HB4.out 1)
  have HOdp := Lib.hid (Own.below (w' := w4.drew) HO4.out ((Dr.refl w4).one.below w4.heap.size) (fun k hk => (HO4.out.lies k hk).2))
  have HTdp := Lib.hid (HT4.out.keep ((Dr.refl w4).one.below _))
  clear BX4 HG4 HB4 HO4 HT4
  refine wp_region_held_drew (S := fun w' => w'.cell? ⟨g3, 0, none⟩ = some (.int .i64 x.kind) ∧ w'.cell? ⟨g3, 1, none⟩ = some (.int .u64 x.boot) ∧ w'.cell? ⟨g3, 2, none⟩ = some (.int .u64 x.sess) ∧ w'.cell? ⟨g3, 3, none⟩ = some (.int .u64 x.seq) ∧ w'.cell? ⟨g3, 4, none⟩ = some (.slice A6 nW c6) ∧ w'.cell? ⟨g3, 5, none⟩ = some (.slice A7 nR c7) ∧ w'.cell? ⟨g3, 6, none⟩ = some (.bool x.commit) ∧ w'.cell? ⟨g3, 7, none⟩ = some (.slice A9 nS c9) ∧ w'.cell? ⟨g3, 8, none⟩ = some (.slice A12 nP c12) ∧ w'.cell? ⟨g3, 9, none⟩ = some (.int .u64 x.id) ∧ w'.cell? ⟨g3, 10, none⟩ = some (.string (strOfNums x.name)) ∧ w'.cell? ⟨w.heap.size, 0, none⟩ = some (.int .i64 x.kind) ∧ w'.cell? ⟨w.heap.size, 1, none⟩ = some (.int .u64 x.boot) ∧ w'.cell? ⟨w.heap.size, 2, none⟩ = some (.int .u64 x.sess) ∧ w'.cell? ⟨w.heap.size, 3, none⟩ = some (.int .u64 x.seq) ∧ w'.cell? ⟨w.heap.size, 4, none⟩ = some (.slice AW nW cW) ∧ w'.cell? ⟨w.heap.size, 5, none⟩ = some (.slice AR nR cR) ∧ w'.cell? ⟨w.heap.size, 6, none⟩ = some (.bool x.commit) ∧ w'.cell? ⟨w.heap.size, 7, none⟩ = some (.slice AS nS cS) ∧ w'.cell? ⟨w.heap.size, 8, none⟩ = some (.slice AP nP cP) ∧ w'.cell? ⟨w.heap.size, 9, none⟩ = some (.int .u64 x.id) ∧ w'.cell? ⟨w.heap.size, 10, none⟩ = some (.string (strOfNums x.name))) (by kernel_rfl) ⟨rc_cell 0 _ HGdp.out rfl, rc_cell 1 _ HGdp.out rfl, rc_cell 2 _ HGdp.out rfl, rc_cell 3 _ HGdp.out rfl, rc_cell 4 _ HGdp.out rfl, rc_cell 5 _ HGdp.out rfl, rc_cell 6 _ HGdp.out rfl, rc_cell 7 _ HGdp.out rfl, rc_cell 8 _ HGdp.out rfl, rc_cell 9 _ HGdp.out rfl, rc_cell 10 _ HGdp.out rfl, rc_cell 0 _ BXdp.out rfl, rc_cell 1 _ BXdp.out rfl, rc_cell 2 _ BXdp.out rfl, rc_cell 3 _ BXdp.out rfl, rc_cell 4 _ BXdp.out rfl, rc_cell 5 _ BXdp.out rfl, rc_cell 6 _ BXdp.out rfl, rc_cell 7 _ BXdp.out rfl, rc_cell 8 _ BXdp.out rfl, rc_cell 9 _ BXdp.out rfl, rc_cell 10 _ BXdp.out rfl⟩ (fun hHp0 => ?_)
  generalize w4.drew = p0 at *
  refine wpAnyH_take (i := 0) (oi := { dst := some 13, op := Op.move (Operand.tmp 4), type := 28, pos := _, after := #[], guard := none }) (v := ?vpu1_0) rfl (by kernel_rfl) (by kernel_rfl) (by kernel_rfl) (fun _ _ _ h => h) (Or.inl ⟨by rfl, ?ypu1_0⟩) hHp0 ?rpu1_0
  case ypu1_0 => (intro w hSw; (try dsimp only at hSw); go_simp; try (with_reducible rfl))
  try simp only [Act.put, List.setIfInBounds_toArray, List.set_cons_zero, List.set_cons_succ]
  refine wpAnyH_take (i := 1) (oi := { dst := some 14, op := Op.load 30 (Operand.tmp 1), type := 30, pos := _, after := #[], guard := none }) (v := ?vpu2_1) rfl (by kernel_rfl) (by kernel_rfl) (by kernel_rfl) (fun _ _ _ h => h) (Or.inl ⟨by rfl, ?ypu2_1⟩) hHp0 ?rpu2_1
  case ypu2_1 => (intro w hSw; (try dsimp only at hSw); go_simp; try (with_reducible rfl))
  try simp only [Act.put, List.setIfInBounds_toArray, List.set_cons_zero, List.set_cons_succ]
  refine wpAnyH_ready (rs := [2]) (by kernel_rfl) (by simp) ?_
  refine (AllReadyH.cons (o := { dst := some 15, op := Op.call { callee := Callee.value (Operand.func 17), args := #[Operand.tmp 14], argTypes := #[30] }, type := 28, pos := _, after := #[{ on := 1, ground := Ground.data }], guard := none }) rfl (fun K hK => ?_) AllReadyH.nil)
  rw [if_pos (by rfl)]
  go_simp
  refine (rbytes_any x ⟨AW, nW, cW, AR, nR, cR, AS, nS, cS, AP, nP, cP⟩ p0 (HX.out.keep HBdp.out) (by omega)).mono ?_
  rintro e p1 ⟨A17, n17, c17, rfl, hn17, ho17, _, hbx⟩
  have BXp1 := Lib.hid ((hbx.block _ (lt_of_heap BXdp.out)).trans BXdp.out)
  have HGp1 := Lib.hid ((hbx.block _ (lt_of_heap HGdp.out)).trans HGdp.out)
  have HBp1 := Lib.hid (HBdp.out.trans (hbx.mono HBdp.out.size))
  have HOp1 := Lib.hid (HOdp.out.below hbx (fun k hk => (HOdp.out.lies k hk).2))
  have HTp1 := Lib.hid (HTdp.out.keep hbx)
  have HO17 := Lib.hid ho17
  have HN17 := Lib.hid hn17
  clear ho17 hn17
  clear hbx
  go_wp2_with fail
  refine hK.out _ _ ⟨rc_cell 0 _ HGp1.out rfl, rc_cell 1 _ HGp1.out rfl, rc_cell 2 _ HGp1.out rfl, rc_cell 3 _ HGp1.out rfl, rc_cell 4 _ HGp1.out rfl, rc_cell 5 _ HGp1.out rfl, rc_cell 6 _ HGp1.out rfl, rc_cell 7 _ HGp1.out rfl, rc_cell 8 _ HGp1.out rfl, rc_cell 9 _ HGp1.out rfl, rc_cell 10 _ HGp1.out rfl, rc_cell 0 _ BXp1.out rfl, rc_cell 1 _ BXp1.out rfl, rc_cell 2 _ BXp1.out rfl, rc_cell 3 _ BXp1.out rfl, rc_cell 4 _ BXp1.out rfl, rc_cell 5 _ BXp1.out rfl, rc_cell 6 _ BXp1.out rfl, rc_cell 7 _ BXp1.out rfl, rc_cell 8 _ BXp1.out rfl, rc_cell 9 _ BXp1.out rfl, rc_cell 10 _ BXp1.out rfl⟩ (fun hHp1 => ?_)
  clear hK K
  try simp only [Act.put, List.setIfInBounds_toArray, List.set_cons_zero, List.set_cons_succ]
  refine wpAnyH_ready (rs := [3]) (by kernel_rfl) (by simp) ?_
  refine (AllReadyH.cons (o := { dst := some 16, op := Op.call { callee := Callee.value (Operand.func 16), args := #[Operand.tmp 13, Operand.tmp 15], argTypes := #[28, 28] }, type := 4, pos := _, after := #[{ on := 0, ground := Ground.data }, { on := 2, ground := Ground.data }, { on := 2, ground := Ground.chain }], guard := none }) rfl (fun K hK => ?_) AllReadyH.nil)
  rw [if_pos (by rfl)]
  go_simp
  refine (equal_is A3 A17 n3 n17 c3 c17 (recL x) (recL x) true (cmpL_same _) p1 (HOp1.out.bs HR3.out) (HO17.out.bs HR3.out) (by unfold maxLen; omega) (by have h1 := HN17.out; unfold maxLen; omega)).mono ?_
  rintro e p2 ⟨rfl, hdx⟩
  have hbx : Below p1.heap.size p1 p2 := hdx.below _
  have BXp2 := Lib.hid ((hbx.block _ (lt_of_heap BXp1.out)).trans BXp1.out)
  have HGp2 := Lib.hid ((hbx.block _ (lt_of_heap HGp1.out)).trans HGp1.out)
  have HBp2 := Lib.hid (HBp1.out.trans (hbx.mono HBp1.out.size))
  have HOp2 := Lib.hid (HOp1.out.below hbx (fun k hk => (HOp1.out.lies k hk).2))
  have HTp2 := Lib.hid (HTp1.out.keep hbx)
  clear HO17
  clear hbx hdx
  go_wp2_with fail
  refine hK.out _ _ ⟨rc_cell 0 _ HGp2.out rfl, rc_cell 1 _ HGp2.out rfl, rc_cell 2 _ HGp2.out rfl, rc_cell 3 _ HGp2.out rfl, rc_cell 4 _ HGp2.out rfl, rc_cell 5 _ HGp2.out rfl, rc_cell 6 _ HGp2.out rfl, rc_cell 7 _ HGp2.out rfl, rc_cell 8 _ HGp2.out rfl, rc_cell 9 _ HGp2.out rfl, rc_cell 10 _ HGp2.out rfl, rc_cell 0 _ BXp2.out rfl, rc_cell 1 _ BXp2.out rfl, rc_cell 2 _ BXp2.out rfl, rc_cell 3 _ BXp2.out rfl, rc_cell 4 _ BXp2.out rfl, rc_cell 5 _ BXp2.out rfl, rc_cell 6 _ BXp2.out rfl, rc_cell 7 _ BXp2.out rfl, rc_cell 8 _ BXp2.out rfl, rc_cell 9 _ BXp2.out rfl, rc_cell 10 _ BXp2.out rfl⟩ (fun hHp2 => ?_)
  clear hK K
  try simp only [Act.put, List.setIfInBounds_toArray, List.set_cons_zero, List.set_cons_succ]
  refine wpAnyH_take (i := 4) (oi := { dst := some 17, op := Op.unOp UnOp.not 4 (Operand.tmp 16), type := 4, pos := _, after := #[{ on := 3, ground := Ground.data }], guard := none }) (v := ?vpu3_4) rfl (by kernel_rfl) (by kernel_rfl) (by kernel_rfl) (fun _ _ _ h => h) (Or.inl ⟨by rfl, ?ypu3_4⟩) hHp2 ?rpu3_4
  case ypu3_4 => (intro w hSw; (try dsimp only at hSw); go_simp; try (with_reducible rfl))
  try simp only [Act.put, List.setIfInBounds_toArray, List.set_cons_zero, List.set_cons_succ]
  refine wpAnyH_take (i := 5) (oi := { dst := some 18, op := Op.move (Operand.tmp 17), type := 4, pos := _, after := #[{ on := 4, ground := Ground.data }, { on := 3, ground := Ground.chain }], guard := none }) (v := ?vpu4_5) rfl (by kernel_rfl) (by kernel_rfl) (by kernel_rfl) (fun _ _ _ h => h) (Or.inl ⟨by rfl, ?ypu4_5⟩) hHp2 ?rpu4_5
  case ypu4_5 => (intro w hSw; (try dsimp only at hSw); go_simp; try (with_reducible rfl))
  try simp only [Act.put, List.setIfInBounds_toArray, List.set_cons_zero, List.set_cons_succ]
  refine wpAnyH_take (i := 6) (oi := { dst := some 19, op := Op.load 32 (Operand.tmp 3), type := 32, pos := _, after := #[{ on := 5, ground := Ground.guard }], guard := some (5, false) }) (v := ?vpu5_6) rfl (by kernel_rfl) (by kernel_rfl) (by kernel_rfl) (fun _ _ _ h => h) (Or.inl ⟨by rfl, ?ypu5_6⟩) hHp2 ?rpu5_6
  case ypu5_6 => (intro w hSw; (try dsimp only at hSw); go_simp; try (with_reducible rfl))
  try simp only [Act.put, List.setIfInBounds_toArray, List.set_cons_zero, List.set_cons_succ]
  refine wpAnyH_take (i := 8) (oi := { dst := some 21, op := Op.load 30 (Operand.tmp 1), type := 30, pos := _, after := #[{ on := 5, ground := Ground.guard }], guard := some (5, false) }) (v := ?vpu6_8) rfl (by kernel_rfl) (by kernel_rfl) (by kernel_rfl) (fun _ _ _ h => h) (Or.inl ⟨by rfl, ?ypu6_8⟩) hHp2 ?rpu6_8
  case ypu6_8 => (intro w hSw; (try dsimp only at hSw); go_simp; try (with_reducible rfl))
  try simp only [Act.put, List.setIfInBounds_toArray, List.set_cons_zero, List.set_cons_succ]
  refine wpAnyH_ready (rs := [7]) (by kernel_rfl) (by simp) ?_
  refine (AllReadyH.cons (o := { dst := some 20, op := Op.call { callee := Callee.value (Operand.func 19), args := #[Operand.tmp 19], argTypes := #[32] }, type := 30, pos := _, after := #[{ on := 6, ground := Ground.data }, { on := 5, ground := Ground.chain }, { on := 5, ground := Ground.guard }], guard := some (5, false) }) rfl (fun K hK => ?_) AllReadyH.nil)
  rw [if_pos (by rfl)]
  go_simp
  refine (told_any x.kind x.boot x.sess x.seq A6 nW c6 A7 nR c7 x.commit A9 nS c9 A12 nP c12 x.id (strOfNums x.name) p2).mono ?_
  rintro e p3 ⟨rfl, hbx⟩
  have BXp3 := Lib.hid ((hbx.block _ (lt_of_heap BXp2.out)).trans BXp2.out)
  have HGp3 := Lib.hid ((hbx.block _ (lt_of_heap HGp2.out)).trans HGp2.out)
  have HBp3 := Lib.hid (HBp2.out.trans (hbx.mono HBp2.out.size))
  have HOp3 := Lib.hid (HOp2.out.below hbx (fun k hk => (HOp2.out.lies k hk).2))
  have HTp3 := Lib.hid (HTp2.out.keep hbx)
  clear hbx
  go_wp2_with fail
  refine hK.out _ _ ⟨rc_cell 0 _ HGp3.out rfl, rc_cell 1 _ HGp3.out rfl, rc_cell 2 _ HGp3.out rfl, rc_cell 3 _ HGp3.out rfl, rc_cell 4 _ HGp3.out rfl, rc_cell 5 _ HGp3.out rfl, rc_cell 6 _ HGp3.out rfl, rc_cell 7 _ HGp3.out rfl, rc_cell 8 _ HGp3.out rfl, rc_cell 9 _ HGp3.out rfl, rc_cell 10 _ HGp3.out rfl, rc_cell 0 _ BXp3.out rfl, rc_cell 1 _ BXp3.out rfl, rc_cell 2 _ BXp3.out rfl, rc_cell 3 _ BXp3.out rfl, rc_cell 4 _ BXp3.out rfl, rc_cell 5 _ BXp3.out rfl, rc_cell 6 _ BXp3.out rfl, rc_cell 7 _ BXp3.out rfl, rc_cell 8 _ BXp3.out rfl, rc_cell 9 _ BXp3.out rfl, rc_cell 10 _ BXp3.out rfl⟩ (fun hHp3 => ?_)
  clear hK K
  try simp only [Act.put, List.setIfInBounds_toArray, List.set_cons_zero, List.set_cons_succ]
  refine wpAnyH_ready (rs := [9]) (by kernel_rfl) (by simp) ?_
  refine (AllReadyH.cons (o := { dst := some 22, op := Op.call { callee := Callee.value (Operand.func 18), args := #[Operand.tmp 20, Operand.tmp 21], argTypes := #[30, 30] }, type := 4, pos := _, after := #[{ on := 7, ground := Ground.data }, { on := 8, ground := Ground.data }, { on := 7, ground := Ground.chain }, { on := 5, ground := Ground.guard }], guard := some (5, false) }) rfl (fun K hK => ?_) AllReadyH.nil)
  rw [if_pos (by rfl)]
  go_simp
  refine (same_any x ⟨A6, nW, c6, A7, nR, c7, A9, nS, c9, A12, nP, c12⟩ ⟨AW, nW, cW, AR, nR, cR, AS, nS, cS, AP, nP, cP⟩ p3 HTp3.out (rcR_T (HX.out.keep HBp3.out)) HTX.out).mono ?_
  rintro e p4 ⟨rfl, hbx⟩
  have BXp4 := Lib.hid ((hbx.block _ (lt_of_heap BXp3.out)).trans BXp3.out)
  have HGp4 := Lib.hid ((hbx.block _ (lt_of_heap HGp3.out)).trans HGp3.out)
  have HBp4 := Lib.hid (HBp3.out.trans (hbx.mono HBp3.out.size))
  have HOp4 := Lib.hid (HOp3.out.below hbx (fun k hk => (HOp3.out.lies k hk).2))
  have HTp4 := Lib.hid (HTp3.out.keep hbx)
  clear hbx
  go_wp2_with fail
  refine hK.out _ _ ⟨rc_cell 0 _ HGp4.out rfl, rc_cell 1 _ HGp4.out rfl, rc_cell 2 _ HGp4.out rfl, rc_cell 3 _ HGp4.out rfl, rc_cell 4 _ HGp4.out rfl, rc_cell 5 _ HGp4.out rfl, rc_cell 6 _ HGp4.out rfl, rc_cell 7 _ HGp4.out rfl, rc_cell 8 _ HGp4.out rfl, rc_cell 9 _ HGp4.out rfl, rc_cell 10 _ HGp4.out rfl, rc_cell 0 _ BXp4.out rfl, rc_cell 1 _ BXp4.out rfl, rc_cell 2 _ BXp4.out rfl, rc_cell 3 _ BXp4.out rfl, rc_cell 4 _ BXp4.out rfl, rc_cell 5 _ BXp4.out rfl, rc_cell 6 _ BXp4.out rfl, rc_cell 7 _ BXp4.out rfl, rc_cell 8 _ BXp4.out rfl, rc_cell 9 _ BXp4.out rfl, rc_cell 10 _ BXp4.out rfl⟩ (fun hHp4 => ?_)
  clear hK K
  try simp only [Act.put, List.setIfInBounds_toArray, List.set_cons_zero, List.set_cons_succ]
  refine wpAnyH_take (i := 10) (oi := { dst := some 23, op := Op.unOp UnOp.not 4 (Operand.tmp 22), type := 4, pos := _, after := #[{ on := 9, ground := Ground.data }, { on := 5, ground := Ground.guard }], guard := some (5, false) }) (v := ?vpu7_10) rfl (by kernel_rfl) (by kernel_rfl) (by kernel_rfl) (fun _ _ _ h => h) (Or.inl ⟨by rfl, ?ypu7_10⟩) hHp4 ?rpu7_10
  case ypu7_10 => (intro w hSw; (try dsimp only at hSw); go_simp; try (with_reducible rfl))
  try simp only [Act.put, List.setIfInBounds_toArray, List.set_cons_zero, List.set_cons_succ]
  refine wpAnyH_take (i := 11) (oi := { dst := some 24, op := Op.pick (Operand.tmp 18) (Operand.const (Value.bool true)) (Operand.tmp 23), type := 4, pos := _, after := #[{ on := 5, ground := Ground.data }, { on := 10, ground := Ground.data }], guard := none }) (v := ?vpu8_11) rfl (by kernel_rfl) (by kernel_rfl) (by kernel_rfl) (fun _ _ _ h => h) (Or.inl ⟨by rfl, ?ypu8_11⟩) hHp4 ?rpu8_11
  case ypu8_11 => (intro w hSw; (try dsimp only at hSw); go_simp; try (with_reducible rfl))
  try simp only [Act.put, List.setIfInBounds_toArray, List.set_cons_zero, List.set_cons_succ]
  refine wpAnyH_done (by kernel_rfl) ?_ _
  go_wp2_with fail
  refine (read_bad x A3 n3 c3 p4 hk (HOp4.out.bs HR3.out) HOp4.out.cap (fun k hk => (HOp4.out.lies k hk).2) (by omega)).mono ?_
  rintro e w6 ⟨rfl, hb6⟩
  have BX6 := Lib.hid ((hb6.block _ (lt_of_heap BXp4.out)).trans BXp4.out)
  have HB6 := Lib.hid (HBp4.out.trans (hb6.mono HBp4.out.size))
  have hba6 := below_alloc w6 (.cells (rcV 0 0 0 0 none 0 0 none 0 0 false none 0 0 none 0 0 0 ⟨#[]⟩) 32)
  have HG7 := Lib.hid (heap_alloc_new w6 (.cells (rcV 0 0 0 0 none 0 0 none 0 0 false none 0 0 none 0 0 0 ⟨#[]⟩) 32))
  have BX7 := Lib.hid ((hba6.block _ (lt_of_heap BX6.out)).trans BX6.out)
  have HB7 := Lib.hid (HB6.out.trans (hba6.mono HB6.out.size))
  have k0 := rc_cell 0 (.int .i64 x.kind) BX7.out rfl
  have z0 := rc_cell 0 (.int .i64 0) HG7.out rfl
  clear hb6 hba6 BX6 HB6
  by_cases hk1 : x.kind < 1
  · go_wp2
    go_ret
    exact ⟨rfl, HB7.out⟩
  · have hk9 : 9 < x.kind := by omega
    go_wp2
    go_ret
    exact ⟨rfl, HB7.out⟩
end Go.Proofs.Ytmjjbfcblmmipaa
