/- RecBytes, where the argument holds at most 1048576 values: the law returns true and its argument reads afterwards as it read before. -/
import Derived.Test.YtmjjbfcblmmipaaTwiceL
import Derived.Test.YtmjjbfcblmmipaaRBytesA
import Derived.Test.YtmjjbfcblmmipaaOpenR
import Derived.ChangeOld
import Derived.SizedLaws
import Derived.JoinedCond
namespace Go.Proofs.Ytmjjbfcblmmipaa
set_option linter.unusedVariables false
set_option linter.unusedSimpArgs false
theorem rcR_T {w : World} {x : Rc} {s : Sl} (h : RcR w x s) : RcT w x s := ⟨h.ws, h.rs, h.sh, h.rp, h.rc⟩
end Go.Proofs.Ytmjjbfcblmmipaa
namespace Go.Proofs.Ytmjjbfcblmmipaa
set_option linter.unusedVariables false
set_option linter.unusedSimpArgs false
open Go.RowKit

set_option maxRecDepth 100000 in
set_option maxHeartbeats 16000000 in
theorem bytes_bad (x : Rc) (AW : Option Addr) (nW cW : Nat) (AR : Option Addr) (nR cR : Nat) (AS : Option Addr) (nS cS : Nat) (AP : Option Addr) (nP cP : Nat) (w : World) (hx : RcR w x ⟨AW, nW, cW, AR, nR, cR, AS, nS, cS, AP, nP, cP⟩) (hB : RcB x) (hL : (recL x).length ≤ 12000000) (bW : nW ≤ 10000000) (bR : nR ≤ 10000000) (bS : nS ≤ 10000000) (bP : nP ≤ 10000000) (tW : (trs x.ws).length ≤ 12000000) (tR : (trs x.rs).length ≤ 12000000) (hk : ¬ (1 ≤ x.kind ∧ x.kind ≤ 9)) :
    Calls Try.prog 3 #[.agg (rcV x.kind x.boot x.sess x.seq AW nW cW AR nR cR x.commit AS nS cS AP nP cP x.id (strOfNums x.name))] w fun e w' => e = .returned (.bool true) ∧ Below w.heap.size w w' := by
  have HX := Lib.hid hx; have HB := Lib.hid hB
  have HTX : Hid (TB x x) := Lib.hid ⟨hB.boot, hB.sess, hB.seq, hB.id, hx.name, by omega, by omega, (by have h1 := hx.sh.len; have h2 : x.shards.length = nS := h1; omega), (by have h1 := hx.rp.len; have h2 : x.reply.length = nP := h1; omega), rfl⟩
  have hba := below_alloc w (.cells (rcV x.kind x.boot x.sess x.seq AW nW cW AR nR cR x.commit AS nS cS AP nP cP x.id (strOfNums x.name)) 30)
  have BX0 := Lib.hid (heap_alloc_new w (.cells (rcV x.kind x.boot x.sess x.seq AW nW cW AR nR cR x.commit AS nS cS AP nP cP x.id (strOfNums x.name)) 30))
  have HB0 := Lib.hid hba
  clear hx hB hba
  go_enter Try.func3, Try.ntmps3
  go_wp2_with fail
  generalize w.alloc (.cells (rcV x.kind x.boot x.sess x.seq AW nW cW AR nR cR x.commit AS nS cS AP nP cP x.id (strOfNums x.name)) 30) = W0 at *
  refine (awake_any W0).mono ?_
  rintro e w1 ⟨rfl, hb1⟩
  have BX1 := Lib.hid ((hb1.block _ (lt_of_heap BX0.out)).trans BX0.out)
  have HB1 := Lib.hid (HB0.out.trans (hb1.mono HB0.out.size))
  have a0 := rc_cell 0 (.int .i64 x.kind) BX1.out rfl
  have a1 := rc_cell 1 (.int .u64 x.boot) BX1.out rfl
  have a2 := rc_cell 2 (.int .u64 x.sess) BX1.out rfl
  have a3 := rc_cell 3 (.int .u64 x.seq) BX1.out rfl
  have a4 := rc_cell 4 (.slice AW nW cW) BX1.out rfl
  have a5 := rc_cell 5 (.slice AR nR cR) BX1.out rfl
  have a6 := rc_cell 6 (.bool x.commit) BX1.out rfl
  have a7 := rc_cell 7 (.slice AS nS cS) BX1.out rfl
  have a8 := rc_cell 8 (.slice AP nP cP) BX1.out rfl
  have a9 := rc_cell 9 (.int .u64 x.id) BX1.out rfl
  have a10 := rc_cell 10 (.string (strOfNums x.name)) BX1.out rfl
  clear hb1 BX0 HB0
  go_wp2_with fail
  have hx1 := HX.out.keep HB1.out
  refine (own_core x.kind x.boot x.sess x.seq x.commit x.id (strOfNums x.name) AW nW cW AR nR cR AS nS cS AP nP cP x.ws x.rs x.shards x.reply w1 hx1.ws hx1.rs hx1.sh hx1.rp bW bR bS (by omega) (by omega) (by omega)).mono ?_
  rintro e w2 ⟨A6, c6, A7, c7, A9, c9, A12, c12, rfl, o6, o7, o9, o12, hb2⟩
  have hbb := below_alloc w2 (.cells (rcV x.kind x.boot x.sess x.seq A6 nW c6 A7 nR c7 x.commit A9 nS c9 A12 nP c12 x.id (strOfNums x.name)) 32)
  have hb22 := hb2.trans (hbb.mono hb2.size)
  have BX2 := Lib.hid ((hb22.block _ (lt_of_heap BX1.out)).trans BX1.out)
  have HB2 := Lib.hid (HB1.out.trans (hb22.mono HB1.out.size))
  have HG2 := Lib.hid (heap_alloc_new w2 (.cells (rcV x.kind x.boot x.sess x.seq A6 nW c6 A7 nR c7 x.commit A9 nS c9 A12 nP c12 x.id (strOfNums x.name)) 32))
  have HT2 : Hid (RcT (w2.alloc (.cells (rcV x.kind x.boot x.sess x.seq A6 nW c6 A7 nR c7 x.commit A9 nS c9 A12 nP c12 x.id (strOfNums x.name)) 32)) x ⟨A6, nW, c6, A7, nR, c7, A9, nS, c9, A12, nP, c12⟩) := Lib.hid (RcT.keep ⟨o6.trs, o7.trs, ⟨o9.rd, hx1.sh.2⟩, o12.bs hx1.rp.2, o12.cap⟩ hbb)
  clear a0 a1 a2 a3 a4 a5 a6 a7 a8 a9 a10 BX1 HB1 o6 o7 o9 o12 hb2 hx1 hbb hb22
  have b0 := rc_cell 0 (.int .i64 x.kind) HG2.out rfl
  have b1 := rc_cell 1 (.int .u64 x.boot) HG2.out rfl
  have b2 := rc_cell 2 (.int .u64 x.sess) HG2.out rfl
  have b3 := rc_cell 3 (.int .u64 x.seq) HG2.out rfl
  have b4 := rc_cell 4 (.slice A6 nW c6) HG2.out rfl
  have b5 := rc_cell 5 (.slice A7 nR c7) HG2.out rfl
  have b6 := rc_cell 6 (.bool x.commit) HG2.out rfl
  have b7 := rc_cell 7 (.slice A9 nS c9) HG2.out rfl
  have b8 := rc_cell 8 (.slice A12 nP c12) HG2.out rfl
  have b9 := rc_cell 9 (.int .u64 x.id) HG2.out rfl
  have b10 := rc_cell 10 (.string (strOfNums x.name)) HG2.out rfl
  go_wp2_with fail
  generalize w2.alloc (.cells (rcV x.kind x.boot x.sess x.seq A6 nW c6 A7 nR c7 x.commit A9 nS c9 A12 nP c12 x.id (strOfNums x.name)) 32) = w3 at *
  generalize w2.heap.size = g3 at *
  refine (bytes_any x ⟨A6, nW, c6, A7, nR, c7, A9, nS, c9, A12, nP, c12⟩ w3 (rcT_R HT2.out HTX.out) (by omega)).mono ?_
  rintro e w4 ⟨A3, n3, c3, rfl, hn3, ho3, hr3, hb3⟩
  have BX4 := Lib.hid ((hb3.block _ (lt_of_heap BX2.out)).trans BX2.out)
  have HG4 := Lib.hid ((hb3.block _ (lt_of_heap HG2.out)).trans HG2.out)
  have HT4 := Lib.hid (HT2.out.keep hb3)
  have HB4 := Lib.hid (HB2.out.trans (hb3.mono HB2.out.size))
  have HO4 := Lib.hid ho3; have HR3 := Lib.hid hr3
  have hn3b : n3 ≤ 12000000 := by omega
  have HN3 := Lib.hid hn3
  clear b0 b1 b2 b3 b4 b5 b6 b7 b8 b9 b10 BX2 HG2 HT2 HB2 ho3 hr3 hb3 hn3
  go_wp2_with fail
  have BXdp : Hid (w4.drew.heap[w.heap.size]? = _) := BX4
  have HGdp : Hid (w4.drew.heap[g3]? = _) := HG4
  have HBdp : Hid (Below w.heap.size w w4.drew) := Lib.hid (below_n HB4.out 1)
  have HOdp := Lib.hid (Own.below (w' := w4.drew) HO4.out ((Dr.refl w4).one.below w4.heap.size) (fun k hk => (HO4.out.lies k hk).2))
  have HTdp := Lib.hid (HT4.out.keep ((Dr.refl w4).one.below _))
  clear BX4 HG4 HB4 HO4 HT4
  refine wp_region_held_drew (S := fun w' => w'.cell? ⟨g3, 0, none⟩ = some (.int .i64 x.kind) ∧ w'.cell? ⟨g3, 1, none⟩ = some (.int .u64 x.boot) ∧ w'.cell? ⟨g3, 2, none⟩ = some (.int .u64 x.sess) ∧ w'.cell? ⟨g3, 3, none⟩ = some (.int .u64 x.seq) ∧ w'.cell? ⟨g3, 4, none⟩ = some (.slice A6 nW c6) ∧ w'.cell? ⟨g3, 5, none⟩ = some (.slice A7 nR c7) ∧ w'.cell? ⟨g3, 6, none⟩ = some (.bool x.commit) ∧ w'.cell? ⟨g3, 7, none⟩ = some (.slice A9 nS c9) ∧ w'.cell? ⟨g3, 8, none⟩ = some (.slice A12 nP c12) ∧ w'.cell? ⟨g3, 9, none⟩ = some (.int .u64 x.id) ∧ w'.cell? ⟨g3, 10, none⟩ = some (.string (strOfNums x.name)) ∧ w'.cell? ⟨w.heap.size, 0, none⟩ = some (.int .i64 x.kind) ∧ w'.cell? ⟨w.heap.size, 1, none⟩ = some (.int .u64 x.boot) ∧ w'.cell? ⟨w.heap.size, 2, none⟩ = some (.int .u64 x.sess) ∧ w'.cell? ⟨w.heap.size, 3, none⟩ = some (.int .u64 x.seq) ∧ w'.cell? ⟨w.heap.size, 4, none⟩ = some (.slice AW nW cW) ∧ w'.cell? ⟨w.heap.size, 5, none⟩ = some (.slice AR nR cR) ∧ w'.cell? ⟨w.heap.size, 6, none⟩ = some (.bool x.commit) ∧ w'.cell? ⟨w.heap.size, 7, none⟩ = some (.slice AS nS cS) ∧ w'.cell? ⟨w.heap.size, 8, none⟩ = some (.slice AP nP cP) ∧ w'.cell? ⟨w.heap.size, 9, none⟩ = some (.int .u64 x.id) ∧ w'.cell? ⟨w.heap.size, 10, none⟩ = some (.string (strOfNums x.name))) (by kernel_rfl) ⟨rc_cell 0 _ HGdp.out rfl, rc_cell 1 _ HGdp.out rfl, rc_cell 2 _ HGdp.out rfl, rc_cell 3 _ HGdp.out rfl, rc_cell 4 _ HGdp.out rfl, rc_cell 5 _ HGdp.out rfl, rc_cell 6 _ HGdp.out rfl, rc_cell 7 _ HGdp.out rfl, rc_cell 8 _ HGdp.out rfl, rc_cell 9 _ HGdp.out rfl, rc_cell 10 _ HGdp.out rfl, rc_cell 0 _ BXdp.out rfl, rc_cell 1 _ BXdp.out rfl, rc_cell 2 _ BXdp.out rfl, rc_cell 3 _ BXdp.out rfl, rc_cell 4 _ BXdp.out rfl, rc_cell 5 _ BXdp.out rfl, rc_cell 6 _ BXdp.out rfl, rc_cell 7 _ BXdp.out rfl, rc_cell 8 _ BXdp.out rfl, rc_cell 9 _ BXdp.out rfl, rc_cell 10 _ BXdp.out rfl⟩ (fun hHp0 => ?_)
  generalize w4.drew = p0 at *
  refine wpAnyH_take (i := 0) (oi := { dst := some 13, op := Op.move (Operand.tmp 4), type := 28, pos := _, after := #[], guard := none }) (v := ?vpu1_0) rfl (by kernel_rfl) (by kernel_rfl) (by kernel_rfl) (fun _ _ _ h => h) (Or.inl ⟨by rfl, ?ypu1_0⟩) hHp0 ?rpu1_0
  case ypu1_0 => (intro w hSw; (try dsimp only at hSw); go_simp; try (with_reducible rfl))
  try simp only [Act.put, List.setIfInBounds_toArray, List.set_cons_zero, List.set_cons_succ]
  refine wpAnyH_take (i := 1) (oi := { dst := some 14, op := Op.load 30 (Operand.tmp 1), type := 30, pos := _, after := #[], guard := none }) (v := ?vpu2_1) rfl (by kernel_rfl) (by kernel_rfl) (by kernel_rfl) (fun _ _ _ h => h) (Or.inl ⟨by rfl, ?ypu2_1⟩) hHp0 ?rpu2_1
  case ypu2_1 => (intro w hSw; (try dsimp only at hSw); go_simp; try (with_reducible rfl))
  try simp only [Act.put, List.setIfInBounds_toArray, List.set_cons_zero, List.set_cons_succ]
  refine wpAnyH_ready (rs := [2]) (by kernel_rfl) (by simp) ?_
  refine (AllReadyH.cons (o := { dst := some 15, op := Op.call { callee := Callee.value (Operand.func 17), args := #[Operand.tmp 14], argTypes := #[30] }, type := 28, pos := _, after := #[{ on := 1, ground := Ground.data }], guard := none }) rfl (fun K hK => ?_) AllReadyH.nil)
  rw [if_pos (by rfl)]
  go_simp
  refine (rbytes_any x ⟨AW, nW, cW, AR, nR, cR, AS, nS, cS, AP, nP, cP⟩ p0 (HX.out.keep HBdp.out) (by omega)).mono ?_
  rintro e p1 ⟨A17, n17, c17, rfl, hn17, ho17, _, hbx⟩
  have BXp1 := Lib.hid ((hbx.block _ (lt_of_heap BXdp.out)).trans BXdp.out)
  have HGp1 := Lib.hid ((hbx.block _ (lt_of_heap HGdp.out)).trans HGdp.out)
  have HBp1 := Lib.hid (HBdp.out.trans (hbx.mono HBdp.out.size))
  have HOp1 := Lib.hid (HOdp.out.below hbx (fun k hk => (HOdp.out.lies k hk).2))
  have HTp1 := Lib.hid (HTdp.out.keep hbx)
  have HO17 := Lib.hid ho17
  have HN17 := Lib.hid hn17
  clear ho17 hn17
  clear hbx
  go_wp2_with fail
  refine hK.out _ _ ⟨rc_cell 0 _ HGp1.out rfl, rc_cell 1 _ HGp1.out rfl, rc_cell 2 _ HGp1.out rfl, rc_cell 3 _ HGp1.out rfl, rc_cell 4 _ HGp1.out rfl, rc_cell 5 _ HGp1.out rfl, rc_cell 6 _ HGp1.out rfl, rc_cell 7 _ HGp1.out rfl, rc_cell 8 _ HGp1.out rfl, rc_cell 9 _ HGp1.out rfl, rc_cell 10 _ HGp1.out rfl, rc_cell 0 _ BXp1.out rfl, rc_cell 1 _ BXp1.out rfl, rc_cell 2 _ BXp1.out rfl, rc_cell 3 _ BXp1.out rfl, rc_cell 4 _ BXp1.out rfl, rc_cell 5 _ BXp1.out rfl, rc_cell 6 _ BXp1.out rfl, rc_cell 7 _ BXp1.out rfl, rc_cell 8 _ BXp1.out rfl, rc_cell 9 _ BXp1.out rfl, rc_cell 10 _ BXp1.out rfl⟩ (fun hHp1 => ?_)
  clear hK K
  try simp only [Act.put, List.setIfInBounds_toArray, List.set_cons_zero, List.set_cons_succ]
  refine wpAnyH_ready (rs := [3]) (by kernel_rfl) (by simp) ?_
  refine (AllReadyH.cons (o := { dst := some 16, op := Op.call { callee := Callee.value (Operand.func 16), args := #[Operand.tmp 13, Operand.tmp 15], argTypes := #[28, 28] }, type := 4, pos := _, after := #[{ on := 0, ground := Ground.data }, { on := 2, ground := Ground.data }, { on := 2, ground := Ground.chain }], guard := none }) rfl (fun K hK => ?_) AllReadyH.nil)
  rw [if_pos (by rfl)]
  go_simp
  refine (equal_is A3 A17 n3 n17 c3 c17 (recL x) (recL x) true (cmpL_same _) p1 (HOp1.out.bs HR3.out) (HO17.out.bs HR3.out) (by unfold maxLen; omega) (by have h1 := HN17.out; unfold maxLen; omega)).mono ?_
  rintro e p2 ⟨rfl, hdx⟩
  have hbx : Below p1.heap.size p1 p2 := hdx.below _
  have BXp2 := Lib.hid ((hbx.block _ (lt_of_heap BXp1.out)).trans BXp1.out)
  have HGp2 := Lib.hid ((hbx.block _ (lt_of_heap HGp1.out)).trans HGp1.out)
  have HBp2 := Lib.hid (HBp1.out.trans (hbx.mono HBp1.out.size))
  have HOp2 := Lib.hid (HOp1.out.below hbx (fun k hk => (HOp1.out.lies k hk).2))
  have HTp2 := Lib.hid (HTp1.out.keep hbx)
  clear HO17
  clear hbx hdx
  go_wp2_with fail
  refine hK.out _ _ ⟨rc_cell 0 _ HGp2.out rfl, rc_cell 1 _ HGp2.out rfl, rc_cell 2 _ HGp2.out rfl, rc_cell 3 _ HGp2.out rfl, rc_cell 4 _ HGp2.out rfl, rc_cell 5 _ HGp2.out rfl, rc_cell 6 _ HGp2.out rfl, rc_cell 7 _ HGp2.out rfl, rc_cell 8 _ HGp2.out rfl, rc_cell 9 _ HGp2.out rfl, rc_cell 10 _ HGp2.out rfl, rc_cell 0 _ BXp2.out rfl, rc_cell 1 _ BXp2.out rfl, rc_cell 2 _ BXp2.out rfl, rc_cell 3 _ BXp2.out rfl, rc_cell 4 _ BXp2.out rfl, rc_cell 5 _ BXp2.out rfl, rc_cell 6 _ BXp2.out rfl, rc_cell 7 _ BXp2.out rfl, rc_cell 8 _ BXp2.out rfl, rc_cell 9 _ BXp2.out rfl, rc_cell 10 _ BXp2.out rfl⟩ (fun hHp2 => ?_)
  clear hK K
  try simp only [Act.put, List.setIfInBounds_toArray, List.set_cons_zero, List.set_cons_succ]
  refine wpAnyH_take (i := 4) (oi := { dst := some 17, op := Op.unOp UnOp.not 4 (Operand.tmp 16), type := 4, pos := _, after := #[{ on := 3, ground := Ground.data }], guard := none }) (v := ?vpu3_4) rfl (by kernel_rfl) (by kernel_rfl) (by kernel_rfl) (fun _ _ _ h => h) (Or.inl ⟨by rfl, ?ypu3_4⟩) hHp2 ?rpu3_4
  case ypu3_4 => (intro w hSw; (try dsimp only at hSw); go_simp; try (with_reducible rfl))
  try simp only [Act.put, List.setIfInBounds_toArray, List.set_cons_zero, List.set_cons_succ]
  refine wpAnyH_take (i := 5) (oi := { dst := some 18, op := Op.move (Operand.tmp 17), type := 4, pos := _, after := #[{ on := 4, ground := Ground.data }, { on := 3, ground := Ground.chain }], guard := none }) (v := ?vpu4_5) rfl (by kernel_rfl) (by kernel_rfl) (by kernel_rfl) (fun _ _ _ h => h) (Or.inl ⟨by rfl, ?ypu4_5⟩) hHp2 ?rpu4_5
  case ypu4_5 => (intro w hSw; (try dsimp only at hSw); go_simp; try (with_reducible rfl))
  try simp only [Act.put, List.setIfInBounds_toArray, List.set_cons_zero, List.set_cons_succ]
  refine wpAnyH_take (i := 6) (oi := { dst := some 19, op := Op.load 32 (Operand.tmp 3), type := 32, pos := _, after := #[{ on := 5, ground := Ground.guard }], guard := some (5, false) }) (v := ?vpu5_6) rfl (by kernel_rfl) (by kernel_rfl) (by kernel_rfl) (fun _ _ _ h => h) (Or.inl ⟨by rfl, ?ypu5_6⟩) hHp2 ?rpu5_6
  case ypu5_6 => (intro w hSw; (try dsimp only at hSw); go_simp; try (with_reducible rfl))
  try simp only [Act.put, List.setIfInBounds_toArray, List.set_cons_zero, List.set_cons_succ]
  refine wpAnyH_take (i := 8) (oi := { dst := some 21, op := Op.load 30 (Operand.tmp 1), type := 30, pos := _, after := #[{ on := 5, ground := Ground.guard }], guard := some (5, false) }) (v := ?vpu6_8) rfl (by kernel_rfl) (by kernel_rfl) (by kernel_rfl) (fun _ _ _ h => h) (Or.inl ⟨by rfl, ?ypu6_8⟩) hHp2 ?rpu6_8
  case ypu6_8 => (intro w hSw; (try dsimp only at hSw); go_simp; try (with_reducible rfl))
  try simp only [Act.put, List.setIfInBounds_toArray, List.set_cons_zero, List.set_cons_succ]
  refine wpAnyH_ready (rs := [7]) (by kernel_rfl) (by simp) ?_
  refine (AllReadyH.cons (o := { dst := some 20, op := Op.call { callee := Callee.value (Operand.func 19), args := #[Operand.tmp 19], argTypes := #[32] }, type := 30, pos := _, after := #[{ on := 6, ground := Ground.data }, { on := 5, ground := Ground.chain }, { on := 5, ground := Ground.guard }], guard := some (5, false) }) rfl (fun K hK => ?_) AllReadyH.nil)
  rw [if_pos (by rfl)]
  go_simp
  refine (told_any x.kind x.boot x.sess x.seq A6 nW c6 A7 nR c7 x.commit A9 nS c9 A12 nP c12 x.id (strOfNums x.name) p2).mono ?_
  rintro e p3 ⟨rfl, hbx⟩
  have BXp3 := Lib.hid ((hbx.block _ (lt_of_heap BXp2.out)).trans BXp2.out)
  have HGp3 := Lib.hid ((hbx.block _ (lt_of_heap HGp2.out)).trans HGp2.out)
  have HBp3 := Lib.hid (HBp2.out.trans (hbx.mono HBp2.out.size))
  have HOp3 := Lib.hid (HOp2.out.below hbx (fun k hk => (HOp2.out.lies k hk).2))
  have HTp3 := Lib.hid (HTp2.out.keep hbx)
  clear hbx
  go_wp2_with fail
  refine hK.out _ _ ⟨rc_cell 0 _ HGp3.out rfl, rc_cell 1 _ HGp3.out rfl, rc_cell 2 _ HGp3.out rfl, rc_cell 3 _ HGp3.out rfl, rc_cell 4 _ HGp3.out rfl, rc_cell 5 _ HGp3.out rfl, rc_cell 6 _ HGp3.out rfl, rc_cell 7 _ HGp3.out rfl, rc_cell 8 _ HGp3.out rfl, rc_cell 9 _ HGp3.out rfl, rc_cell 10 _ HGp3.out rfl, rc_cell 0 _ BXp3.out rfl, rc_cell 1 _ BXp3.out rfl, rc_cell 2 _ BXp3.out rfl, rc_cell 3 _ BXp3.out rfl, rc_cell 4 _ BXp3.out rfl, rc_cell 5 _ BXp3.out rfl, rc_cell 6 _ BXp3.out rfl, rc_cell 7 _ BXp3.out rfl, rc_cell 8 _ BXp3.out rfl, rc_cell 9 _ BXp3.out rfl, rc_cell 10 _ BXp3.out rfl⟩ (fun hHp3 => ?_)
  clear hK K
  try simp only [Act.put, List.setIfInBounds_toArray, List.set_cons_zero, List.set_cons_succ]
  refine wpAnyH_ready (rs := [9]) (by kernel_rfl) (by simp) ?_
  refine (AllReadyH.cons (o := { dst := some 22, op := Op.call { callee := Callee.value (Operand.func 18), args := #[Operand.tmp 20, Operand.tmp 21], argTypes := #[30, 30] }, type := 4, pos := _, after := #[{ on := 7, ground := Ground.data }, { on := 8, ground := Ground.data }, { on := 7, ground := Ground.chain }, { on := 5, ground := Ground.guard }], guard := some (5, false) }) rfl (fun K hK => ?_) AllReadyH.nil)
  rw [if_pos (by rfl)]
  go_simp
  refine (same_any x ⟨A6, nW, c6, A7, nR, c7, A9, nS, c9, A12, nP, c12⟩ ⟨AW, nW, cW, AR, nR, cR, AS, nS, cS, AP, nP, cP⟩ p3 HTp3.out (rcR_T (HX.out.keep HBp3.out)) HTX.out).mono ?_
  rintro e p4 ⟨rfl, hbx⟩
  have BXp4 := Lib.hid ((hbx.block _ (lt_of_heap BXp3.out)).trans BXp3.out)
  have HGp4 := Lib.hid ((hbx.block _ (lt_of_heap HGp3.out)).trans HGp3.out)
  have HBp4 := Lib.hid (HBp3.out.trans (hbx.mono HBp3.out.size))
  have HOp4 := Lib.hid (HOp3.out.below hbx (fun k hk => (HOp3.out.lies k hk).2))
  have HTp4 := Lib.hid (HTp3.out.keep hbx)
  clear hbx
  go_wp2_with fail
  refine hK.out _ _ ⟨rc_cell 0 _ HGp4.out rfl, rc_cell 1 _ HGp4.out rfl, rc_cell 2 _ HGp4.out rfl, rc_cell 3 _ HGp4.out rfl, rc_cell 4 _ HGp4.out rfl, rc_cell 5 _ HGp4.out rfl, rc_cell 6 _ HGp4.out rfl, rc_cell 7 _ HGp4.out rfl, rc_cell 8 _ HGp4.out rfl, rc_cell 9 _ HGp4.out rfl, rc_cell 10 _ HGp4.out rfl, rc_cell 0 _ BXp4.out rfl, rc_cell 1 _ BXp4.out rfl, rc_cell 2 _ BXp4.out rfl, rc_cell 3 _ BXp4.out rfl, rc_cell 4 _ BXp4.out rfl, rc_cell 5 _ BXp4.out rfl, rc_cell 6 _ BXp4.out rfl, rc_cell 7 _ BXp4.out rfl, rc_cell 8 _ BXp4.out rfl, rc_cell 9 _ BXp4.out rfl, rc_cell 10 _ BXp4.out rfl⟩ (fun hHp4 => ?_)
  clear hK K
  try simp only [Act.put, List.setIfInBounds_toArray, List.set_cons_zero, List.set_cons_succ]
  refine wpAnyH_take (i := 10) (oi := { dst := some 23, op := Op.unOp UnOp.not 4 (Operand.tmp 22), type := 4, pos := _, after := #[{ on := 9, ground := Ground.data }, { on := 5, ground := Ground.guard }], guard := some (5, false) }) (v := ?vpu7_10) rfl (by kernel_rfl) (by kernel_rfl) (by kernel_rfl) (fun _ _ _ h => h) (Or.inl ⟨by rfl, ?ypu7_10⟩) hHp4 ?rpu7_10
  case ypu7_10 => (intro w hSw; (try dsimp only at hSw); go_simp; try (with_reducible rfl))
  try simp only [Act.put, List.setIfInBounds_toArray, List.set_cons_zero, List.set_cons_succ]
  refine wpAnyH_take (i := 11) (oi := { dst := some 24, op := Op.pick (Operand.tmp 18) (Operand.const (Value.bool true)) (Operand.tmp 23), type := 4, pos := _, after := #[{ on := 5, ground := Ground.data }, { on := 10, ground := Ground.data }], guard := none }) (v := ?vpu8_11) rfl (by kernel_rfl) (by kernel_rfl) (by kernel_rfl) (fun _ _ _ h => h) (Or.inl ⟨by rfl, ?ypu8_11⟩) hHp4 ?rpu8_11
  case ypu8_11 => (intro w hSw; (try dsimp only at hSw); go_simp; try (with_reducible rfl))
  try simp only [Act.put, List.setIfInBounds_toArray, List.set_cons_zero, List.set_cons_succ]
  refine wpAnyH_done (by kernel_rfl) ?_ _
  go_wp2_with fail
  refine (read_bad x A3 n3 c3 p4 hk (HOp4.out.bs HR3.out) HOp4.out.cap (fun k hk => (HOp4.out.lies k hk).2) (by omega)).mono ?_
  rintro e w6 ⟨rfl, hb6⟩
  have BX6 := Lib.hid ((hb6.block _ (lt_of_heap BXp4.out)).trans BXp4.out)
  have HB6 := Lib.hid (HBp4.out.trans (hb6.mono HBp4.out.size))
  have hba6 := below_alloc w6 (.cells (rcV 0 0 0 0 none 0 0 none 0 0 false none 0 0 none 0 0 0 ⟨#[]⟩) 32)
  have HG7 := Lib.hid (heap_alloc_new w6 (.cells (rcV 0 0 0 0 none 0 0 none 0 0 false none 0 0 none 0 0 0 ⟨#[]⟩) 32))
  have BX7 := Lib.hid ((hba6.block _ (lt_of_heap BX6.out)).trans BX6.out)
  have HB7 := Lib.hid (HB6.out.trans (hba6.mono HB6.out.size))
  have k0 := rc_cell 0 (.int .i64 x.kind) BX7.out rfl
  have z0 := rc_cell 0 (.int .i64 0) HG7.out rfl
  clear hb6 hba6 BX6 HB6
  by_cases hk1 : x.kind < 1
  · go_wp2
    go_ret
    exact ⟨rfl, HB7.out⟩
  · have hk9 : 9 < x.kind := by omega
    go_wp2
    go_ret
    exact ⟨rfl, HB7.out⟩
end Go.Proofs.Ytmjjbfcblmmipaa
namespace Go.Proofs.Ytmjjbfcblmmipaa
set_option linter.unusedVariables false
set_option linter.unusedSimpArgs false
open Go.RowKit

set_option maxRecDepth 100000 in
set_option maxHeartbeats 16000000 in
theorem bytes_ok (x : Rc) (AW : Option Addr) (nW cW : Nat) (AR : Option Addr) (nR cR : Nat) (AS : Option Addr) (nS cS : Nat) (AP : Option Addr) (nP cP : Nat) (w : World) (hx : RcR w x ⟨AW, nW, cW, AR, nR, cR, AS, nS, cS, AP, nP, cP⟩) (hB : RcB x) (hL : (recL x).length ≤ 12000000) (bW : nW ≤ 10000000) (bR : nR ≤ 10000000) (bS : nS ≤ 10000000) (bP : nP ≤ 10000000) (tW : (trs x.ws).length ≤ 12000000) (tR : (trs x.rs).length ≤ 12000000) (hk : 1 ≤ x.kind ∧ x.kind ≤ 9) :
    Calls Try.prog 3 #[.agg (rcV x.kind x.boot x.sess x.seq AW nW cW AR nR cR x.commit AS nS cS AP nP cP x.id (strOfNums x.name))] w fun e w' => e = .returned (.bool true) ∧ Below w.heap.size w w' := by
  have HX := Lib.hid hx; have HB := Lib.hid hB
  have HTX : Hid (TB x x) := Lib.hid ⟨hB.boot, hB.sess, hB.seq, hB.id, hx.name, by omega, by omega, (by have h1 := hx.sh.len; have h2 : x.shards.length = nS := h1; omega), (by have h1 := hx.rp.len; have h2 : x.reply.length = nP := h1; omega), rfl⟩
  have hba := below_alloc w (.cells (rcV x.kind x.boot x.sess x.seq AW nW cW AR nR cR x.commit AS nS cS AP nP cP x.id (strOfNums x.name)) 30)
  have BX0 := Lib.hid (heap_alloc_new w (.cells (rcV x.kind x.boot x.sess x.seq AW nW cW AR nR cR x.commit AS nS cS AP nP cP x.id (strOfNums x.name)) 30))
  have HB0 := Lib.hid hba
  clear hx hB hba
  go_enter Try.func3, Try.ntmps3
  go_wp2_with fail
  generalize w.alloc (.cells (rcV x.kind x.boot x.sess x.seq AW nW cW AR nR cR x.commit AS nS cS AP nP cP x.id (strOfNums x.name)) 30) = W0 at *
  refine (awake_any W0).mono ?_
  rintro e w1 ⟨rfl, hb1⟩
  have BX1 := Lib.hid ((hb1.block _ (lt_of_heap BX0.out)).trans BX0.out)
  have HB1 := Lib.hid (HB0.out.trans (hb1.mono HB0.out.size))
  have a0 := rc_cell 0 (.int .i64 x.kind) BX1.out rfl
  have a1 := rc_cell 1 (.int .u64 x.boot) BX1.out rfl
  have a2 := rc_cell 2 (.int .u64 x.sess) BX1.out rfl
  have a3 := rc_cell 3 (.int .u64 x.seq) BX1.out rfl
  have a4 := rc_cell 4 (.slice AW nW cW) BX1.out rfl
  have a5 := rc_cell 5 (.slice AR nR cR) BX1.out rfl
  have a6 := rc_cell 6 (.bool x.commit) BX1.out rfl
  have a7 := rc_cell 7 (.slice AS nS cS) BX1.out rfl
  have a8 := rc_cell 8 (.slice AP nP cP) BX1.out rfl
  have a9 := rc_cell 9 (.int .u64 x.id) BX1.out rfl
  have a10 := rc_cell 10 (.string (strOfNums x.name)) BX1.out rfl
  clear hb1 BX0 HB0
  go_wp2_with fail
  have hx1 := HX.out.keep HB1.out
  refine (own_core x.kind x.boot x.sess x.seq x.commit x.id (strOfNums x.name) AW nW cW AR nR cR AS nS cS AP nP cP x.ws x.rs x.shards x.reply w1 hx1.ws hx1.rs hx1.sh hx1.rp bW bR bS (by omega) (by omega) (by omega)).mono ?_
  rintro e w2 ⟨A6, c6, A7, c7, A9, c9, A12, c12, rfl, o6, o7, o9, o12, hb2⟩
  have hbb := below_alloc w2 (.cells (rcV x.kind x.boot x.sess x.seq A6 nW c6 A7 nR c7 x.commit A9 nS c9 A12 nP c12 x.id (strOfNums x.name)) 32)
  have hb22 := hb2.trans (hbb.mono hb2.size)
  have BX2 := Lib.hid ((hb22.block _ (lt_of_heap BX1.out)).trans BX1.out)
  have HB2 := Lib.hid (HB1.out.trans (hb22.mono HB1.out.size))
  have HG2 := Lib.hid (heap_alloc_new w2 (.cells (rcV x.kind x.boot x.sess x.seq A6 nW c6 A7 nR c7 x.commit A9 nS c9 A12 nP c12 x.id (strOfNums x.name)) 32))
  have HT2 : Hid (RcT (w2.alloc (.cells (rcV x.kind x.boot x.sess x.seq A6 nW c6 A7 nR c7 x.commit A9 nS c9 A12 nP c12 x.id (strOfNums x.name)) 32)) x ⟨A6, nW, c6, A7, nR, c7, A9, nS, c9, A12, nP, c12⟩) := Lib.hid (RcT.keep ⟨o6.trs, o7.trs, ⟨o9.rd, hx1.sh.2⟩, o12.bs hx1.rp.2, o12.cap⟩ hbb)
  clear a0 a1 a2 a3 a4 a5 a6 a7 a8 a9 a10 BX1 HB1 o6 o7 o9 o12 hb2 hx1 hbb hb22
  have b0 := rc_cell 0 (.int .i64 x.kind) HG2.out rfl
  have b1 := rc_cell 1 (.int .u64 x.boot) HG2.out rfl
  have b2 := rc_cell 2 (.int .u64 x.sess) HG2.out rfl
  have b3 := rc_cell 3 (.int .u64 x.seq) HG2.out rfl
  have b4 := rc_cell 4 (.slice A6 nW c6) HG2.out rfl
  have b5 := rc_cell 5 (.slice A7 nR c7) HG2.out rfl
  have b6 := rc_cell 6 (.bool x.commit) HG2.out rfl
  have b7 := rc_cell 7 (.slice A9 nS c9) HG2.out rfl
  have b8 := rc_cell 8 (.slice A12 nP c12) HG2.out rfl
  have b9 := rc_cell 9 (.int .u64 x.id) HG2.out rfl
  have b10 := rc_cell 10 (.string (strOfNums x.name)) HG2.out rfl
  go_wp2_with fail
  generalize w2.alloc (.cells (rcV x.kind x.boot x.sess x.seq A6 nW c6 A7 nR c7 x.commit A9 nS c9 A12 nP c12 x.id (strOfNums x.name)) 32) = w3 at *
  generalize w2.heap.size = g3 at *
  refine (bytes_any x ⟨A6, nW, c6, A7, nR, c7, A9, nS, c9, A12, nP, c12⟩ w3 (rcT_R HT2.out HTX.out) (by omega)).mono ?_
  rintro e w4 ⟨A3, n3, c3, rfl, hn3, ho3, hr3, hb3⟩
  have BX4 := Lib.hid ((hb3.block _ (lt_of_heap BX2.out)).trans BX2.out)
  have HG4 := Lib.hid ((hb3.block _ (lt_of_heap HG2.out)).trans HG2.out)
  have HT4 := Lib.hid (HT2.out.keep hb3)
  have HB4 := Lib.hid (HB2.out.trans (hb3.mono HB2.out.size))
  have HO4 := Lib.hid ho3; have HR3 := Lib.hid hr3
  have hn3b : n3 ≤ 12000000 := by omega
  have HN3 := Lib.hid hn3
  clear b0 b1 b2 b3 b4 b5 b6 b7 b8 b9 b10 BX2 HG2 HT2 HB2 ho3 hr3 hb3 hn3
  go_wp2_with fail
  have BXdp : Hid (w4.drew.heap[w.heap.size]? = _) := BX4
  have HGdp : Hid (w4.drew.heap[g3]? = _) := HG4
  have HBdp : Hid (Below w.heap.size w w4.drew) := Lib.hid (below_n HB4.out 1)
  have HOdp := Lib.hid (Own.below (w' := w4.drew) HO4.out ((Dr.refl w4).one.below w4.heap.size) (fun k hk => (HO4.out.lies k hk).2))
  have HTdp := Lib.hid (HT4.out.keep ((Dr.refl w4).one.below _))
  clear BX4 HG4 HB4 HO4 HT4
  refine wp_region_held_drew (S := fun w' => w'.cell? ⟨g3, 0, none⟩ = some (.int .i64 x.kind) ∧ w'.cell? ⟨g3, 1, none⟩ = some (.int .u64 x.boot) ∧ w'.cell? ⟨g3, 2, none⟩ = some (.int .u64 x.sess) ∧ w'.cell? ⟨g3, 3, none⟩ = some (.int .u64 x.seq) ∧ w'.cell? ⟨g3, 4, none⟩ = some (.slice A6 nW c6) ∧ w'.cell? ⟨g3, 5, none⟩ = some (.slice A7 nR c7) ∧ w'.cell? ⟨g3, 6, none⟩ = some (.bool x.commit) ∧ w'.cell? ⟨g3, 7, none⟩ = some (.slice A9 nS c9) ∧ w'.cell? ⟨g3, 8, none⟩ = some (.slice A12 nP c12) ∧ w'.cell? ⟨g3, 9, none⟩ = some (.int .u64 x.id) ∧ w'.cell? ⟨g3, 10, none⟩ = some (.string (strOfNums x.name)) ∧ w'.cell? ⟨w.heap.size, 0, none⟩ = some (.int .i64 x.kind) ∧ w'.cell? ⟨w.heap.size, 1, none⟩ = some (.int .u64 x.boot) ∧ w'.cell? ⟨w.heap.size, 2, none⟩ = some (.int .u64 x.sess) ∧ w'.cell? ⟨w.heap.size, 3, none⟩ = some (.int .u64 x.seq) ∧ w'.cell? ⟨w.heap.size, 4, none⟩ = some (.slice AW nW cW) ∧ w'.cell? ⟨w.heap.size, 5, none⟩ = some (.slice AR nR cR) ∧ w'.cell? ⟨w.heap.size, 6, none⟩ = some (.bool x.commit) ∧ w'.cell? ⟨w.heap.size, 7, none⟩ = some (.slice AS nS cS) ∧ w'.cell? ⟨w.heap.size, 8, none⟩ = some (.slice AP nP cP) ∧ w'.cell? ⟨w.heap.size, 9, none⟩ = some (.int .u64 x.id) ∧ w'.cell? ⟨w.heap.size, 10, none⟩ = some (.string (strOfNums x.name))) (by kernel_rfl) ⟨rc_cell 0 _ HGdp.out rfl, rc_cell 1 _ HGdp.out rfl, rc_cell 2 _ HGdp.out rfl, rc_cell 3 _ HGdp.out rfl, rc_cell 4 _ HGdp.out rfl, rc_cell 5 _ HGdp.out rfl, rc_cell 6 _ HGdp.out rfl, rc_cell 7 _ HGdp.out rfl, rc_cell 8 _ HGdp.out rfl, rc_cell 9 _ HGdp.out rfl, rc_cell 10 _ HGdp.out rfl, rc_cell 0 _ BXdp.out rfl, rc_cell 1 _ BXdp.out rfl, rc_cell 2 _ BXdp.out rfl, rc_cell 3 _ BXdp.out rfl, rc_cell 4 _ BXdp.out rfl, rc_cell 5 _ BXdp.out rfl, rc_cell 6 _ BXdp.out rfl, rc_cell 7 _ BXdp.out rfl, rc_cell 8 _ BXdp.out rfl, rc_cell 9 _ BXdp.out rfl, rc_cell 10 _ BXdp.out rfl⟩ (fun hHp0 => ?_)
  generalize w4.drew = p0 at *
  refine wpAnyH_take (i := 0) (oi := { dst := some 13, op := Op.move (Operand.tmp 4), type := 28, pos := _, after := #[], guard := none }) (v := ?vpu1_0) rfl (by kernel_rfl) (by kernel_rfl) (by kernel_rfl) (fun _ _ _ h => h) (Or.inl ⟨by rfl, ?ypu1_0⟩) hHp0 ?rpu1_0
  case ypu1_0 => (intro w hSw; (try dsimp only at hSw); go_simp; try (with_reducible rfl))
  try simp only [Act.put, List.setIfInBounds_toArray, List.set_cons_zero, List.set_cons_succ]
  refine wpAnyH_take (i := 1) (oi := { dst := some 14, op := Op.load 30 (Operand.tmp 1), type := 30, pos := _, after := #[], guard := none }) (v := ?vpu2_1) rfl (by kernel_rfl) (by kernel_rfl) (by kernel_rfl) (fun _ _ _ h => h) (Or.inl ⟨by rfl, ?ypu2_1⟩) hHp0 ?rpu2_1
  case ypu2_1 => (intro w hSw; (try dsimp only at hSw); go_simp; try (with_reducible rfl))
  try simp only [Act.put, List.setIfInBounds_toArray, List.set_cons_zero, List.set_cons_succ]
  refine wpAnyH_ready (rs := [2]) (by kernel_rfl) (by simp) ?_
  refine (AllReadyH.cons (o := { dst := some 15, op := Op.call { callee := Callee.value (Operand.func 17), args := #[Operand.tmp 14], argTypes := #[30] }, type := 28, pos := _, after := #[{ on := 1, ground := Ground.data }], guard := none }) rfl (fun K hK => ?_) AllReadyH.nil)
  rw [if_pos (by rfl)]
  go_simp
  refine (rbytes_any x ⟨AW, nW, cW, AR, nR, cR, AS, nS, cS, AP, nP, cP⟩ p0 (HX.out.keep HBdp.out) (by omega)).mono ?_
  rintro e p1 ⟨A17, n17, c17, rfl, hn17, ho17, _, hbx⟩
  have BXp1 := Lib.hid ((hbx.block _ (lt_of_heap BXdp.out)).trans BXdp.out)
  have HGp1 := Lib.hid ((hbx.block _ (lt_of_heap HGdp.out)).trans HGdp.out)
  have HBp1 := Lib.hid (HBdp.out.trans (hbx.mono HBdp.out.size))
  have HOp1 := Lib.hid (HOdp.out.below hbx (fun k hk => (HOdp.out.lies k hk).2))
  have HTp1 := Lib.hid (HTdp.out.keep hbx)
  have HO17 := Lib.hid ho17
  have HN17 := Lib.hid hn17
  clear ho17 hn17
  clear hbx
  go_wp2_with fail
  refine hK.out _ _ ⟨rc_cell 0 _ HGp1.out rfl, rc_cell 1 _ HGp1.out rfl, rc_cell 2 _ HGp1.out rfl, rc_cell 3 _ HGp1.out rfl, rc_cell 4 _ HGp1.out rfl, rc_cell 5 _ HGp1.out rfl, rc_cell 6 _ HGp1.out rfl, rc_cell 7 _ HGp1.out rfl, rc_cell 8 _ HGp1.out rfl, rc_cell 9 _ HGp1.out rfl, rc_cell 10 _ HGp1.out rfl, rc_cell 0 _ BXp1.out rfl, rc_cell 1 _ BXp1.out rfl, rc_cell 2 _ BXp1.out rfl, rc_cell 3 _ BXp1.out rfl, rc_cell 4 _ BXp1.out rfl, rc_cell 5 _ BXp1.out rfl, rc_cell 6 _ BXp1.out rfl, rc_cell 7 _ BXp1.out rfl, rc_cell 8 _ BXp1.out rfl, rc_cell 9 _ BXp1.out rfl, rc_cell 10 _ BXp1.out rfl⟩ (fun hHp1 => ?_)
  clear hK K
  try simp only [Act.put, List.setIfInBounds_toArray, List.set_cons_zero, List.set_cons_succ]
  refine wpAnyH_ready (rs := [3]) (by kernel_rfl) (by simp) ?_
  refine (AllReadyH.cons (o := { dst := some 16, op := Op.call { callee := Callee.value (Operand.func 16), args := #[Operand.tmp 13, Operand.tmp 15], argTypes := #[28, 28] }, type := 4, pos := _, after := #[{ on := 0, ground := Ground.data }, { on := 2, ground := Ground.data }, { on := 2, ground := Ground.chain }], guard := none }) rfl (fun K hK => ?_) AllReadyH.nil)
  rw [if_pos (by rfl)]
  go_simp
  refine (equal_is A3 A17 n3 n17 c3 c17 (recL x) (recL x) true (cmpL_same _) p1 (HOp1.out.bs HR3.out) (HO17.out.bs HR3.out) (by unfold maxLen; omega) (by have h1 := HN17.out; unfold maxLen; omega)).mono ?_
  rintro e p2 ⟨rfl, hdx⟩
  have hbx : Below p1.heap.size p1 p2 := hdx.below _
  have BXp2 := Lib.hid ((hbx.block _ (lt_of_heap BXp1.out)).trans BXp1.out)
  have HGp2 := Lib.hid ((hbx.block _ (lt_of_heap HGp1.out)).trans HGp1.out)
  have HBp2 := Lib.hid (HBp1.out.trans (hbx.mono HBp1.out.size))
  have HOp2 := Lib.hid (HOp1.out.below hbx (fun k hk => (HOp1.out.lies k hk).2))
  have HTp2 := Lib.hid (HTp1.out.keep hbx)
  clear HO17
  clear hbx hdx
  go_wp2_with fail
  refine hK.out _ _ ⟨rc_cell 0 _ HGp2.out rfl, rc_cell 1 _ HGp2.out rfl, rc_cell 2 _ HGp2.out rfl, rc_cell 3 _ HGp2.out rfl, rc_cell 4 _ HGp2.out rfl, rc_cell 5 _ HGp2.out rfl, rc_cell 6 _ HGp2.out rfl, rc_cell 7 _ HGp2.out rfl, rc_cell 8 _ HGp2.out rfl, rc_cell 9 _ HGp2.out rfl, rc_cell 10 _ HGp2.out rfl, rc_cell 0 _ BXp2.out rfl, rc_cell 1 _ BXp2.out rfl, rc_cell 2 _ BXp2.out rfl, rc_cell 3 _ BXp2.out rfl, rc_cell 4 _ BXp2.out rfl, rc_cell 5 _ BXp2.out rfl, rc_cell 6 _ BXp2.out rfl, rc_cell 7 _ BXp2.out rfl, rc_cell 8 _ BXp2.out rfl, rc_cell 9 _ BXp2.out rfl, rc_cell 10 _ BXp2.out rfl⟩ (fun hHp2 => ?_)
  clear hK K
  try simp only [Act.put, List.setIfInBounds_toArray, List.set_cons_zero, List.set_cons_succ]
  refine wpAnyH_take (i := 4) (oi := { dst := some 17, op := Op.unOp UnOp.not 4 (Operand.tmp 16), type := 4, pos := _, after := #[{ on := 3, ground := Ground.data }], guard := none }) (v := ?vpu3_4) rfl (by kernel_rfl) (by kernel_rfl) (by kernel_rfl) (fun _ _ _ h => h) (Or.inl ⟨by rfl, ?ypu3_4⟩) hHp2 ?rpu3_4
  case ypu3_4 => (intro w hSw; (try dsimp only at hSw); go_simp; try (with_reducible rfl))
  try simp only [Act.put, List.setIfInBounds_toArray, List.set_cons_zero, List.set_cons_succ]
  refine wpAnyH_take (i := 5) (oi := { dst := some 18, op := Op.move (Operand.tmp 17), type := 4, pos := _, after := #[{ on := 4, ground := Ground.data }, { on := 3, ground := Ground.chain }], guard := none }) (v := ?vpu4_5) rfl (by kernel_rfl) (by kernel_rfl) (by kernel_rfl) (fun _ _ _ h => h) (Or.inl ⟨by rfl, ?ypu4_5⟩) hHp2 ?rpu4_5
  case ypu4_5 => (intro w hSw; (try dsimp only at hSw); go_simp; try (with_reducible rfl))
  try simp only [Act.put, List.setIfInBounds_toArray, List.set_cons_zero, List.set_cons_succ]
  refine wpAnyH_take (i := 6) (oi := { dst := some 19, op := Op.load 32 (Operand.tmp 3), type := 32, pos := _, after := #[{ on := 5, ground := Ground.guard }], guard := some (5, false) }) (v := ?vpu5_6) rfl (by kernel_rfl) (by kernel_rfl) (by kernel_rfl) (fun _ _ _ h => h) (Or.inl ⟨by rfl, ?ypu5_6⟩) hHp2 ?rpu5_6
  case ypu5_6 => (intro w hSw; (try dsimp only at hSw); go_simp; try (with_reducible rfl))
  try simp only [Act.put, List.setIfInBounds_toArray, List.set_cons_zero, List.set_cons_succ]
  refine wpAnyH_take (i := 8) (oi := { dst := some 21, op := Op.load 30 (Operand.tmp 1), type := 30, pos := _, after := #[{ on := 5, ground := Ground.guard }], guard := some (5, false) }) (v := ?vpu6_8) rfl (by kernel_rfl) (by kernel_rfl) (by kernel_rfl) (fun _ _ _ h => h) (Or.inl ⟨by rfl, ?ypu6_8⟩) hHp2 ?rpu6_8
  case ypu6_8 => (intro w hSw; (try dsimp only at hSw); go_simp; try (with_reducible rfl))
  try simp only [Act.put, List.setIfInBounds_toArray, List.set_cons_zero, List.set_cons_succ]
  refine wpAnyH_ready (rs := [7]) (by kernel_rfl) (by simp) ?_
  refine (AllReadyH.cons (o := { dst := some 20, op := Op.call { callee := Callee.value (Operand.func 19), args := #[Operand.tmp 19], argTypes := #[32] }, type := 30, pos := _, after := #[{ on := 6, ground := Ground.data }, { on := 5, ground := Ground.chain }, { on := 5, ground := Ground.guard }], guard := some (5, false) }) rfl (fun K hK => ?_) AllReadyH.nil)
  rw [if_pos (by rfl)]
  go_simp
  refine (told_any x.kind x.boot x.sess x.seq A6 nW c6 A7 nR c7 x.commit A9 nS c9 A12 nP c12 x.id (strOfNums x.name) p2).mono ?_
  rintro e p3 ⟨rfl, hbx⟩
  have BXp3 := Lib.hid ((hbx.block _ (lt_of_heap BXp2.out)).trans BXp2.out)
  have HGp3 := Lib.hid ((hbx.block _ (lt_of_heap HGp2.out)).trans HGp2.out)
  have HBp3 := Lib.hid (HBp2.out.trans (hbx.mono HBp2.out.size))
  have HOp3 := Lib.hid (HOp2.out.below hbx (fun k hk => (HOp2.out.lies k hk).2))
  have HTp3 := Lib.hid (HTp2.out.keep hbx)
  clear hbx
  go_wp2_with fail
  refine hK.out _ _ ⟨rc_cell 0 _ HGp3.out rfl, rc_cell 1 _ HGp3.out rfl, rc_cell 2 _ HGp3.out rfl, rc_cell 3 _ HGp3.out rfl, rc_cell 4 _ HGp3.out rfl, rc_cell 5 _ HGp3.out rfl, rc_cell 6 _ HGp3.out rfl, rc_cell 7 _ HGp3.out rfl, rc_cell 8 _ HGp3.out rfl, rc_cell 9 _ HGp3.out rfl, rc_cell 10 _ HGp3.out rfl, rc_cell 0 _ BXp3.out rfl, rc_cell 1 _ BXp3.out rfl, rc_cell 2 _ BXp3.out rfl, rc_cell 3 _ BXp3.out rfl, rc_cell 4 _ BXp3.out rfl, rc_cell 5 _ BXp3.out rfl, rc_cell 6 _ BXp3.out rfl, rc_cell 7 _ BXp3.out rfl, rc_cell 8 _ BXp3.out rfl, rc_cell 9 _ BXp3.out rfl, rc_cell 10 _ BXp3.out rfl⟩ (fun hHp3 => ?_)
  clear hK K
  try simp only [Act.put, List.setIfInBounds_toArray, List.set_cons_zero, List.set_cons_succ]
  refine wpAnyH_ready (rs := [9]) (by kernel_rfl) (by simp) ?_
  refine (AllReadyH.cons (o := { dst := some 22, op := Op.call { callee := Callee.value (Operand.func 18), args := #[Operand.tmp 20, Operand.tmp 21], argTypes := #[30, 30] }, type := 4, pos := _, after := #[{ on := 7, ground := Ground.data }, { on := 8, ground := Ground.data }, { on := 7, ground := Ground.chain }, { on := 5, ground := Ground.guard }], guard := some (5, false) }) rfl (fun K hK => ?_) AllReadyH.nil)
  rw [if_pos (by rfl)]
  go_simp
  refine (same_any x ⟨A6, nW, c6, A7, nR, c7, A9, nS, c9, A12, nP, c12⟩ ⟨AW, nW, cW, AR, nR, cR, AS, nS, cS, AP, nP, cP⟩ p3 HTp3.out (rcR_T (HX.out.keep HBp3.out)) HTX.out).mono ?_
  rintro e p4 ⟨rfl, hbx⟩
  have BXp4 := Lib.hid ((hbx.block _ (lt_of_heap BXp3.out)).trans BXp3.out)
  have HGp4 := Lib.hid ((hbx.block _ (lt_of_heap HGp3.out)).trans HGp3.out)
  have HBp4 := Lib.hid (HBp3.out.trans (hbx.mono HBp3.out.size))
  have HOp4 := Lib.hid (HOp3.out.below hbx (fun k hk => (HOp3.out.lies k hk).2))
  have HTp4 := Lib.hid (HTp3.out.keep hbx)
  clear hbx
  go_wp2_with fail
  refine hK.out _ _ ⟨rc_cell 0 _ HGp4.out rfl, rc_cell 1 _ HGp4.out rfl, rc_cell 2 _ HGp4.out rfl, rc_cell 3 _ HGp4.out rfl, rc_cell 4 _ HGp4.out rfl, rc_cell 5 _ HGp4.out rfl, rc_cell 6 _ HGp4.out rfl, rc_cell 7 _ HGp4.out rfl, rc_cell 8 _ HGp4.out rfl, rc_cell 9 _ HGp4.out rfl, rc_cell 10 _ HGp4.out rfl, rc_cell 0 _ BXp4.out rfl, rc_cell 1 _ BXp4.out rfl, rc_cell 2 _ BXp4.out rfl, rc_cell 3 _ BXp4.out rfl, rc_cell 4 _ BXp4.out rfl, rc_cell 5 _ BXp4.out rfl, rc_cell 6 _ BXp4.out rfl, rc_cell 7 _ BXp4.out rfl, rc_cell 8 _ BXp4.out rfl, rc_cell 9 _ BXp4.out rfl, rc_cell 10 _ BXp4.out rfl⟩ (fun hHp4 => ?_)
  clear hK K
  try simp only [Act.put, List.setIfInBounds_toArray, List.set_cons_zero, List.set_cons_succ]
  refine wpAnyH_take (i := 10) (oi := { dst := some 23, op := Op.unOp UnOp.not 4 (Operand.tmp 22), type := 4, pos := _, after := #[{ on := 9, ground := Ground.data }, { on := 5, ground := Ground.guard }], guard := some (5, false) }) (v := ?vpu7_10) rfl (by kernel_rfl) (by kernel_rfl) (by kernel_rfl) (fun _ _ _ h => h) (Or.inl ⟨by rfl, ?ypu7_10⟩) hHp4 ?rpu7_10
  case ypu7_10 => (intro w hSw; (try dsimp only at hSw); go_simp; try (with_reducible rfl))
  try simp only [Act.put, List.setIfInBounds_toArray, List.set_cons_zero, List.set_cons_succ]
  refine wpAnyH_take (i := 11) (oi := { dst := some 24, op := Op.pick (Operand.tmp 18) (Operand.const (Value.bool true)) (Operand.tmp 23), type := 4, pos := _, after := #[{ on := 5, ground := Ground.data }, { on := 10, ground := Ground.data }], guard := none }) (v := ?vpu8_11) rfl (by kernel_rfl) (by kernel_rfl) (by kernel_rfl) (fun _ _ _ h => h) (Or.inl ⟨by rfl, ?ypu8_11⟩) hHp4 ?rpu8_11
  case ypu8_11 => (intro w hSw; (try dsimp only at hSw); go_simp; try (with_reducible rfl))
  try simp only [Act.put, List.setIfInBounds_toArray, List.set_cons_zero, List.set_cons_succ]
  refine wpAnyH_done (by kernel_rfl) ?_ _
  go_wp2_with fail
  refine (read_ok x A3 n3 c3 p4 hk.1 hk.2 (HOp4.out.bs HR3.out) HOp4.out.cap (fun k hk => (HOp4.out.lies k hk).2) (by omega) HB.out).mono ?_
  rintro e w6 ⟨s, rfl, hO6, hb6⟩
  obtain ⟨tr, HTR⟩ : ∃ tr, Hid (trimR x = tr) := ⟨_, rfl⟩
  rw [HTR.out] at hO6
  rw [HTR.out]
  obtain ⟨BW, mW, dW, BR, mR, dR, BS, mS, dS, BP, mP, dP⟩ := s
  have hba6 := below_alloc w6 (.cells (rcV tr.kind tr.boot tr.sess tr.seq BW mW dW BR mR dR tr.commit BS mS dS BP mP dP tr.id (strOfNums tr.name)) 32)
  have hb67 := hb6.trans (hba6.mono hb6.size)
  have BX7 := Lib.hid ((hb67.block _ (lt_of_heap BXp4.out)).trans BXp4.out)
  have HB7 := Lib.hid (HBp4.out.trans (hb67.mono HBp4.out.size))
  have HO7 := Lib.hid (HOp4.out.below hb67 (fun k hk => (HOp4.out.lies k hk).2))
  have HG7 := Lib.hid (heap_alloc_new w6 (.cells (rcV tr.kind tr.boot tr.sess tr.seq BW mW dW BR mR dR tr.commit BS mS dS BP mP dP tr.id (strOfNums tr.name)) 32))
  have HT7 : Hid (RcT (w6.alloc (.cells (rcV tr.kind tr.boot tr.sess tr.seq BW mW dW BR mR dR tr.commit BS mS dS BP mP dP tr.id (strOfNums tr.name)) 32)) tr ⟨BW, mW, dW, BR, mR, dR, BS, mS, dS, BP, mP, dP⟩) := Lib.hid ((RcO.rcT hO6 (by rw [← HTR.out]; exact trim_sh x HB.out.sh)).keep hba6)
  have k0 := rc_cell 0 (.int .i64 x.kind) BX7.out rfl
  have hk1 := hk.1
  have hk9 := hk.2
  have HTB := Lib.hid (trim_R x tr HTR.out hk hL HX.out HB.out tW tR bS bP)
  clear hb6 hba6 hb67 hO6 BXp4 HGp4 HBp4 HOp4 HTp4
  go_wp2_with fail
  generalize w6.alloc (.cells (rcV tr.kind tr.boot tr.sess tr.seq BW mW dW BR mR dR tr.commit BS mS dS BP mP dP tr.id (strOfNums tr.name)) 32) = w7 at *
  generalize w6.heap.size = g5 at *
  have BXdr : Hid (w7.drew.heap[w.heap.size]? = _) := BX7
  have HGdr : Hid (w7.drew.heap[g5]? = _) := HG7
  have HBdr : Hid (Below w.heap.size w w7.drew) := Lib.hid (below_n HB7.out 1)
  have HOdr := Lib.hid (Own.below (w' := w7.drew) HO7.out ((Dr.refl w7).one.below w7.heap.size) (fun k hk => (HO7.out.lies k hk).2))
  have HTdr := Lib.hid (HT7.out.keep ((Dr.refl w7).one.below _))
  clear BX7 HG7 HB7 HO7 HT7
  refine wp_region_held_drew (S := fun w' => w'.cell? ⟨g5, 0, none⟩ = some (.int .i64 tr.kind) ∧ w'.cell? ⟨g5, 1, none⟩ = some (.int .u64 tr.boot) ∧ w'.cell? ⟨g5, 2, none⟩ = some (.int .u64 tr.sess) ∧ w'.cell? ⟨g5, 3, none⟩ = some (.int .u64 tr.seq) ∧ w'.cell? ⟨g5, 4, none⟩ = some (.slice BW mW dW) ∧ w'.cell? ⟨g5, 5, none⟩ = some (.slice BR mR dR) ∧ w'.cell? ⟨g5, 6, none⟩ = some (.bool tr.commit) ∧ w'.cell? ⟨g5, 7, none⟩ = some (.slice BS mS dS) ∧ w'.cell? ⟨g5, 8, none⟩ = some (.slice BP mP dP) ∧ w'.cell? ⟨g5, 9, none⟩ = some (.int .u64 tr.id) ∧ w'.cell? ⟨g5, 10, none⟩ = some (.string (strOfNums tr.name)) ∧ w'.cell? ⟨w.heap.size, 0, none⟩ = some (.int .i64 x.kind) ∧ w'.cell? ⟨w.heap.size, 1, none⟩ = some (.int .u64 x.boot) ∧ w'.cell? ⟨w.heap.size, 2, none⟩ = some (.int .u64 x.sess) ∧ w'.cell? ⟨w.heap.size, 3, none⟩ = some (.int .u64 x.seq) ∧ w'.cell? ⟨w.heap.size, 4, none⟩ = some (.slice AW nW cW) ∧ w'.cell? ⟨w.heap.size, 5, none⟩ = some (.slice AR nR cR) ∧ w'.cell? ⟨w.heap.size, 6, none⟩ = some (.bool x.commit) ∧ w'.cell? ⟨w.heap.size, 7, none⟩ = some (.slice AS nS cS) ∧ w'.cell? ⟨w.heap.size, 8, none⟩ = some (.slice AP nP cP) ∧ w'.cell? ⟨w.heap.size, 9, none⟩ = some (.int .u64 x.id) ∧ w'.cell? ⟨w.heap.size, 10, none⟩ = some (.string (strOfNums x.name))) (by kernel_rfl) ⟨rc_cell 0 _ HGdr.out rfl, rc_cell 1 _ HGdr.out rfl, rc_cell 2 _ HGdr.out rfl, rc_cell 3 _ HGdr.out rfl, rc_cell 4 _ HGdr.out rfl, rc_cell 5 _ HGdr.out rfl, rc_cell 6 _ HGdr.out rfl, rc_cell 7 _ HGdr.out rfl, rc_cell 8 _ HGdr.out rfl, rc_cell 9 _ HGdr.out rfl, rc_cell 10 _ HGdr.out rfl, rc_cell 0 _ BXdr.out rfl, rc_cell 1 _ BXdr.out rfl, rc_cell 2 _ BXdr.out rfl, rc_cell 3 _ BXdr.out rfl, rc_cell 4 _ BXdr.out rfl, rc_cell 5 _ BXdr.out rfl, rc_cell 6 _ BXdr.out rfl, rc_cell 7 _ BXdr.out rfl, rc_cell 8 _ BXdr.out rfl, rc_cell 9 _ BXdr.out rfl, rc_cell 10 _ BXdr.out rfl⟩ (fun hHr0 => ?_)
  generalize w7.drew = r0 at *
  refine wpAnyH_take (i := 0) (oi := { dst := some 45, op := Op.move (Operand.tmp 6), type := 39, pos := _, after := #[], guard := none }) (v := ?vru9_0) rfl (by kernel_rfl) (by kernel_rfl) (by kernel_rfl) (fun _ _ _ h => h) (Or.inl ⟨by rfl, ?yru9_0⟩) hHr0 ?rru9_0
  case yru9_0 => (intro w hSw; (try dsimp only at hSw); go_simp; try (with_reducible rfl))
  try simp only [Act.put, List.setIfInBounds_toArray, List.set_cons_zero, List.set_cons_succ]
  refine wpAnyH_take (i := 1) (oi := { dst := some 46, op := Op.binOp BinOp.eql 39 (Operand.tmp 45) (Operand.const (Value.int IntKind.i64 0)) 39, type := 4, pos := _, after := #[{ on := 0, ground := Ground.data }], guard := none }) (v := ?vru10_1) rfl (by kernel_rfl) (by kernel_rfl) (by kernel_rfl) (fun _ _ _ h => h) (Or.inl ⟨by rfl, ?yru10_1⟩) hHr0 ?rru10_1
  case yru10_1 => (intro w hSw; (try dsimp only at hSw); go_simp; try (with_reducible rfl))
  try simp only [Act.put, List.setIfInBounds_toArray, List.set_cons_zero, List.set_cons_succ]
  refine wpAnyH_take (i := 2) (oi := { dst := some 47, op := Op.move (Operand.tmp 46), type := 4, pos := _, after := #[{ on := 1, ground := Ground.data }], guard := none }) (v := ?vru11_2) rfl (by kernel_rfl) (by kernel_rfl) (by kernel_rfl) (fun _ _ _ h => h) (Or.inl ⟨by rfl, ?yru11_2⟩) hHr0 ?rru11_2
  case yru11_2 => (intro w hSw; (try dsimp only at hSw); go_simp; try (with_reducible rfl))
  try simp only [Act.put, List.setIfInBounds_toArray, List.set_cons_zero, List.set_cons_succ]
  refine wpAnyH_take (i := 3) (oi := { dst := some 48, op := Op.load 32 (Operand.tmp 5), type := 32, pos := _, after := #[{ on := 2, ground := Ground.guard }], guard := some (2, true) }) (v := ?vru12_3) rfl (by kernel_rfl) (by kernel_rfl) (by kernel_rfl) (fun _ _ _ h => h) (Or.inl ⟨by rfl, ?yru12_3⟩) hHr0 ?rru12_3
  case yru12_3 => (intro w hSw; (try dsimp only at hSw); go_simp; try (with_reducible rfl))
  try simp only [Act.put, List.setIfInBounds_toArray, List.set_cons_zero, List.set_cons_succ]
  refine wpAnyH_take (i := 5) (oi := { dst := some 50, op := Op.load 30 (Operand.tmp 1), type := 30, pos := _, after := #[{ on := 2, ground := Ground.guard }], guard := some (2, true) }) (v := ?vru13_5) rfl (by kernel_rfl) (by kernel_rfl) (by kernel_rfl) (fun _ _ _ h => h) (Or.inl ⟨by rfl, ?yru13_5⟩) hHr0 ?rru13_5
  case yru13_5 => (intro w hSw; (try dsimp only at hSw); go_simp; try (with_reducible rfl))
  try simp only [Act.put, List.setIfInBounds_toArray, List.set_cons_zero, List.set_cons_succ]
  refine wpAnyH_ready (rs := [4]) (by kernel_rfl) (by simp) ?_
  refine (AllReadyH.cons (o := { dst := some 49, op := Op.call { callee := Callee.value (Operand.func 19), args := #[Operand.tmp 48], argTypes := #[32] }, type := 30, pos := _, after := #[{ on := 3, ground := Ground.data }, { on := 2, ground := Ground.chain }, { on := 2, ground := Ground.guard }], guard := some (2, true) }) rfl (fun K hK => ?_) AllReadyH.nil)
  rw [if_pos (by rfl)]
  go_simp
  refine (told_any tr.kind tr.boot tr.sess tr.seq BW mW dW BR mR dR tr.commit BS mS dS BP mP dP tr.id (strOfNums tr.name) r0).mono ?_
  rintro e r1 ⟨rfl, hbx⟩
  have BXr1 := Lib.hid ((hbx.block _ (lt_of_heap BXdr.out)).trans BXdr.out)
  have HGr1 := Lib.hid ((hbx.block _ (lt_of_heap HGdr.out)).trans HGdr.out)
  have HBr1 := Lib.hid (HBdr.out.trans (hbx.mono HBdr.out.size))
  have HOr1 := Lib.hid (HOdr.out.below hbx (fun k hk => (HOdr.out.lies k hk).2))
  have HTr1 := Lib.hid (HTdr.out.keep hbx)
  clear hbx
  go_wp2_with fail
  refine hK.out _ _ ⟨rc_cell 0 _ HGr1.out rfl, rc_cell 1 _ HGr1.out rfl, rc_cell 2 _ HGr1.out rfl, rc_cell 3 _ HGr1.out rfl, rc_cell 4 _ HGr1.out rfl, rc_cell 5 _ HGr1.out rfl, rc_cell 6 _ HGr1.out rfl, rc_cell 7 _ HGr1.out rfl, rc_cell 8 _ HGr1.out rfl, rc_cell 9 _ HGr1.out rfl, rc_cell 10 _ HGr1.out rfl, rc_cell 0 _ BXr1.out rfl, rc_cell 1 _ BXr1.out rfl, rc_cell 2 _ BXr1.out rfl, rc_cell 3 _ BXr1.out rfl, rc_cell 4 _ BXr1.out rfl, rc_cell 5 _ BXr1.out rfl, rc_cell 6 _ BXr1.out rfl, rc_cell 7 _ BXr1.out rfl, rc_cell 8 _ BXr1.out rfl, rc_cell 9 _ BXr1.out rfl, rc_cell 10 _ BXr1.out rfl⟩ (fun hHr1 => ?_)
  clear hK K
  try simp only [Act.put, List.setIfInBounds_toArray, List.set_cons_zero, List.set_cons_succ]
  refine wpAnyH_ready (rs := [6]) (by kernel_rfl) (by simp) ?_
  refine (AllReadyH.cons (o := { dst := some 51, op := Op.call { callee := Callee.value (Operand.func 21), args := #[Operand.tmp 50], argTypes := #[30] }, type := 30, pos := _, after := #[{ on := 5, ground := Ground.data }, { on := 4, ground := Ground.chain }, { on := 2, ground := Ground.guard }], guard := some (2, true) }) rfl (fun K hK => ?_) AllReadyH.nil)
  rw [if_pos (by rfl)]
  go_simp
  refine (trim_any x tr HTR.out hk AW nW cW AR nR cR AS nS cS AP nP cP r1 (HX.out.keep HBr1.out)).mono ?_
  rintro e r2 ⟨EW, eW, fW, ER, eR, fR, ES, eS, fS, EP, eP, fP, rfl, ht4, hbx⟩
  have BXr2 := Lib.hid ((hbx.block _ (lt_of_heap BXr1.out)).trans BXr1.out)
  have HGr2 := Lib.hid ((hbx.block _ (lt_of_heap HGr1.out)).trans HGr1.out)
  have HBr2 := Lib.hid (HBr1.out.trans (hbx.mono HBr1.out.size))
  have HOr2 := Lib.hid (HOr1.out.below hbx (fun k hk => (HOr1.out.lies k hk).2))
  have HTr2 := Lib.hid (HTr1.out.keep hbx)
  have HE4 := Lib.hid ht4
  clear ht4
  clear hbx
  go_wp2_with fail
  refine hK.out _ _ ⟨rc_cell 0 _ HGr2.out rfl, rc_cell 1 _ HGr2.out rfl, rc_cell 2 _ HGr2.out rfl, rc_cell 3 _ HGr2.out rfl, rc_cell 4 _ HGr2.out rfl, rc_cell 5 _ HGr2.out rfl, rc_cell 6 _ HGr2.out rfl, rc_cell 7 _ HGr2.out rfl, rc_cell 8 _ HGr2.out rfl, rc_cell 9 _ HGr2.out rfl, rc_cell 10 _ HGr2.out rfl, rc_cell 0 _ BXr2.out rfl, rc_cell 1 _ BXr2.out rfl, rc_cell 2 _ BXr2.out rfl, rc_cell 3 _ BXr2.out rfl, rc_cell 4 _ BXr2.out rfl, rc_cell 5 _ BXr2.out rfl, rc_cell 6 _ BXr2.out rfl, rc_cell 7 _ BXr2.out rfl, rc_cell 8 _ BXr2.out rfl, rc_cell 9 _ BXr2.out rfl, rc_cell 10 _ BXr2.out rfl⟩ (fun hHr2 => ?_)
  clear hK K
  try simp only [Act.put, List.setIfInBounds_toArray, List.set_cons_zero, List.set_cons_succ]
  refine wpAnyH_ready (rs := [7]) (by kernel_rfl) (by simp) ?_
  refine (AllReadyH.cons (o := { dst := some 52, op := Op.call { callee := Callee.value (Operand.func 18), args := #[Operand.tmp 49, Operand.tmp 51], argTypes := #[30, 30] }, type := 4, pos := _, after := #[{ on := 4, ground := Ground.data }, { on := 6, ground := Ground.data }, { on := 6, ground := Ground.chain }, { on := 2, ground := Ground.guard }], guard := some (2, true) }) rfl (fun K hK => ?_) AllReadyH.nil)
  rw [if_pos (by rfl)]
  go_simp
  refine (same_any tr ⟨BW, mW, dW, BR, mR, dR, BS, mS, dS, BP, mP, dP⟩ ⟨EW, eW, fW, ER, eR, fR, ES, eS, fS, EP, eP, fP⟩ r2 HTr2.out HE4.out HTB.out).mono ?_
  rintro e r3 ⟨rfl, hbx⟩
  have BXr3 := Lib.hid ((hbx.block _ (lt_of_heap BXr2.out)).trans BXr2.out)
  have HGr3 := Lib.hid ((hbx.block _ (lt_of_heap HGr2.out)).trans HGr2.out)
  have HBr3 := Lib.hid (HBr2.out.trans (hbx.mono HBr2.out.size))
  have HOr3 := Lib.hid (HOr2.out.below hbx (fun k hk => (HOr2.out.lies k hk).2))
  have HTr3 := Lib.hid (HTr2.out.keep hbx)
  clear hbx
  go_wp2_with fail
  refine hK.out _ _ ⟨rc_cell 0 _ HGr3.out rfl, rc_cell 1 _ HGr3.out rfl, rc_cell 2 _ HGr3.out rfl, rc_cell 3 _ HGr3.out rfl, rc_cell 4 _ HGr3.out rfl, rc_cell 5 _ HGr3.out rfl, rc_cell 6 _ HGr3.out rfl, rc_cell 7 _ HGr3.out rfl, rc_cell 8 _ HGr3.out rfl, rc_cell 9 _ HGr3.out rfl, rc_cell 10 _ HGr3.out rfl, rc_cell 0 _ BXr3.out rfl, rc_cell 1 _ BXr3.out rfl, rc_cell 2 _ BXr3.out rfl, rc_cell 3 _ BXr3.out rfl, rc_cell 4 _ BXr3.out rfl, rc_cell 5 _ BXr3.out rfl, rc_cell 6 _ BXr3.out rfl, rc_cell 7 _ BXr3.out rfl, rc_cell 8 _ BXr3.out rfl, rc_cell 9 _ BXr3.out rfl, rc_cell 10 _ BXr3.out rfl⟩ (fun hHr3 => ?_)
  clear hK K
  try simp only [Act.put, List.setIfInBounds_toArray, List.set_cons_zero, List.set_cons_succ]
  refine wpAnyH_take (i := 8) (oi := { dst := some 53, op := Op.pick (Operand.tmp 47) (Operand.tmp 52) (Operand.const (Value.bool false)), type := 4, pos := _, after := #[{ on := 2, ground := Ground.data }, { on := 7, ground := Ground.data }], guard := none }) (v := ?vru14_8) rfl (by kernel_rfl) (by kernel_rfl) (by kernel_rfl) (fun _ _ _ h => h) (Or.inl ⟨by rfl, ?yru14_8⟩) hHr3 ?rru14_8
  case yru14_8 => (intro w hSw; (try dsimp only at hSw); go_simp; try (with_reducible rfl))
  try simp only [Act.put, List.setIfInBounds_toArray, List.set_cons_zero, List.set_cons_succ]
  refine wpAnyH_take (i := 9) (oi := { dst := some 2, op := Op.assign (Operand.tmp 53), type := 4, pos := _, after := #[{ on := 8, ground := Ground.data }, { on := 7, ground := Ground.chain }, { on := 0, ground := Ground.phase }, { on := 1, ground := Ground.phase }, { on := 2, ground := Ground.phase }, { on := 3, ground := Ground.phase }, { on := 4, ground := Ground.phase }, { on := 5, ground := Ground.phase }, { on := 6, ground := Ground.phase }, { on := 7, ground := Ground.phase }, { on := 8, ground := Ground.phase }], guard := none }) (v := ?vru15_9) rfl (by kernel_rfl) (by kernel_rfl) (by kernel_rfl) (fun _ _ _ h => h) (Or.inl ⟨by rfl, ?yru15_9⟩) hHr3 ?rru15_9
  case yru15_9 => (intro w hSw; (try dsimp only at hSw); go_simp; try (with_reducible rfl))
  try simp only [Act.put, List.setIfInBounds_toArray, List.set_cons_zero, List.set_cons_succ]
  refine wpAnyH_done (by kernel_rfl) ?_ _
  go_wp2
  go_ret
  exact ⟨rfl, HBr3.out⟩
end Go.Proofs.Ytmjjbfcblmmipaa
namespace Go.Proofs.Ytmjjbfcblmmipaa.recBytes
open Go.ChangeShapes Go.WideShapes Go.ChangeAt Go.RowKit
open Go.ChangeMaps (open_string shut_string)
set_option linter.unusedVariables false
set_option linter.unusedSimpArgs false

theorem own : ownKnob Try.prog.godebug = none := by kernel_rfl
theorem laidOut : laidOutB Try.prog = true := by kernel_rfl
theorem walk (x : Rc) (s : Sl) (w : World) (hT : RcT w x s) (hR : Ran x.name) (hB : RcB x)
    (hn : tot (trP x.ws) + tot (trP x.rs) + x.shards.length + x.reply.length + x.name.length ≤ 1048576) :
    Calls Try.prog 3 #[.agg (rcV x.kind x.boot x.sess x.seq s.AW s.nW s.cW s.AR s.nR s.cR x.commit s.AS s.nS s.cS s.AP s.nP s.cP x.id (strOfNums x.name))] w fun e w' => e = .returned (.bool true) ∧ Below w.heap.size w w' := by
  obtain ⟨AW, nW, cW, AR, nR, cR, AS, nS, cS, AP, nP, cP⟩ := s
  have h1 := trs_tot x.ws; have h2 := trs_tot x.rs
  have l1 := trs_len x.ws; have l2 := trs_len x.rs
  have a1 : x.ws.length = nW := hT.ws.1
  have a2 : x.rs.length = nR := hT.rs.1
  have a3 : x.shards.length = nS := hT.sh.len
  have a4 : x.reply.length = nP := hT.rp.len
  have hL := recL_bd x hn
  have hX : RcR w x ⟨AW, nW, cW, AR, nR, cR, AS, nS, cS, AP, nP, cP⟩ := ⟨hT.ws, hT.rs, hT.sh, hT.rp, hT.rc, hB.boot, hB.sess, hB.seq, hB.id, hR, (show nW ≤ 20000000 by omega), (show nR ≤ 20000000 by omega), (show nS ≤ 20000000 by omega), by omega, by omega⟩
  by_cases hk : 1 ≤ x.kind ∧ x.kind ≤ 9
  · exact bytes_ok x AW nW cW AR nR cR AS nS cS AP nP cP w hX hB hL (by omega) (by omega) (by omega) (by omega) (by omega) (by omega) hk
  · exact bytes_bad x AW nW cW AR nR cR AS nS cS AP nP cP w hX hB hL (by omega) (by omega) (by omega) (by omega) (by omega) (by omega) hk

set_option maxRecDepth 100000 in
theorem contract (H : Type) (enc : TypeId × Value → H) (W : World) (base : Nat) (args : Array Value) (ds gs : List (DataW H)) (before : List MemPlace)
    (hval : ∀ (j : Nat) t v, Try.f3.params[j]? = some t → args[j]? = some v → Value.okWide Try.prog W .any base t v)
    (hW : DataW.Whole enc Try.prog Try.f3.params.toList Rows.recBytesSpec.vars false W args.toList ds gs before)
    (hk : Rows.uptoSmall H (ds ++ gs) = true) :
    Calls Try.prog 3 args W fun e W' => ∃ v, e = .returned v ∧ Rows.recBytesSpec.post enc Try.prog Try.f3 false true false false W args v W' := by
  have hW' := hW
  obtain ⟨p, q, hA0, hV, rfl, hfz, hnd⟩ := hW
  have hA : DataW.TrodAll enc Try.prog W 0 (fun _ => true) true Try.f3.params.toList args.toList ds p := hA0
  rw [Try.params3] at hA hval
  obtain ⟨v0, vs0, d0, ds0, p0, q0, hargs, rfl, rfl, h0, r0⟩ := trodAll_cons hA
  obtain ⟨rfl, rfl, rfl⟩ := trodAll_nil r0
  obtain rfl : args = #[v0] := Array.toList_inj.1 (by rw [hargs])
  obtain ⟨rfl, rfl⟩ := trodVars_none hV
  have hv0 := hval 0 30 v0 rfl rfl
  obtain ⟨cs0, hcs0, _⟩ := okWide_struct u30 hv0
  subst hcs0
  have lt0 := trod_lt' h0
  simp only [List.append_nil] at hW' hk
  have hbk : Rows.uptoBulkAll [d0] ≤ 1048576 := of_decide_eq_true hk
  simp only [Rows.uptoBulkAll] at hbk
  obtain ⟨fu0, hf0⟩ := h0
  obtain ⟨x, s, hcs, hT, hB, hR, hn⟩ := el_rec hf0
  have hcs' : cs0 = rcV x.kind x.boot x.sess x.seq s.AW s.nW s.cW s.AR s.nR s.cR x.commit s.AS s.nS s.cS s.AP s.nP s.cP x.id (strOfNums x.name) := by
    have : cs0.toList = _ := hcs
    rw [← Array.toArray_toList (xs := cs0), this]
  subst hcs'
  have hn' : tot (trP x.ws) + tot (trP x.rs) + x.shards.length + x.reply.length + x.name.length ≤ Rows.uptoBulk d0 := hn
  clear hA0
  refine (walk x s W hT hR hB (by omega)).mono fun e W' ⟨he, bel⟩ => ?_
  subst he
  exact ⟨_, rfl, _, _, _, [], _, [], hW', trodAll_mk1 (shut_bool Try.underlying4 _), (trodAll_cons_mk (Below.trod laidOut (by kernel_rfl) (of_decide_eq_true (by kernel_rfl)) ⟨fu0, hf0⟩ bel lt0) trodAll_mk0), rfl, bel.frame _, fun h => by cases h⟩

set_option maxRecDepth 100000 in
theorem lifted (os : Os) (started : os.Started) (H : Type) (enc : TypeId × Value → H) (F : Stop.Interp) :
    ReturnsInHanded {} Try.checked os 3 .any ((Rows.OpenSpec.upto Rows.recBytesSpec).pre6 enc Try.prog Try.f3 Rows.recBytesUptoRow.domain false) (((Rows.OpenSpec.upto Rows.recBytesSpec).at F).post enc Try.prog Try.f3 false true false false) := by
  refine returnsInHanded_of_cond (C := Try.checked) (s := Rows.OpenSpec.upto Rows.recBytesSpec) (k := Rows.uptoSmall) rfl own started (by kernel_rfl) Try.func3
    (OpenSpec.witness (enc := enc) (C := Try.checked) (s := Rows.OpenSpec.upto Rows.recBytesSpec) (k := Rows.uptoSmall) rfl false ⟨#[], #[.agg #[.int .i64 0, .int .u64 0, .int .u64 0, .int .u64 0, .slice none 0 0, .slice none 0 0, .bool false, .slice none 0 0, .slice none 0 0, .int .u64 0, .string ⟨#[]⟩]], []⟩ 12 (by kernel_rfl) (by kernel_rfl) (by kernel_rfl)
      (x := ([.agg [.lit (.int .i64 0), .agg [.lit (.int .u64 0), .lit (.int .u64 0), .lit (.int .u64 0)], .nil, .nil, .lit (.bool false), .nil, .nil, .lit (.int .u64 0), .lit (.string [])]], [], [])) (by kernel_rfl) rfl (by kernel_rfl)) ?_
  intro W base args ds gs before hval hW _ hk _
  exact contract H enc W base args ds gs before hval hW hk
end Go.Proofs.Ytmjjbfcblmmipaa.recBytes
namespace Go.Proofs.Ytmjjbfcblmmipaa
theorem recBytesUpto_holds : Rows.RecBytesUptoSaid :=
  OpenClaim.holds_of_cond 3 Try.f3 rfl rfl rfl rfl rfl rfl rfl ⟨rfl, rfl, rfl, rfl, rfl⟩ rfl rfl rfl rfl rfl (by kernel_rfl) Try.func3 (by kernel_rfl)
    (of_decide_eq_true (by kernel_rfl)) (by unfold Func.isWrapper; first | (rw [if_pos (by decide +kernel)]; kernel_rfl) | (rw [if_neg (by decide +kernel)]; exact ⟨rfl, rfl⟩))
    (fun os started H enc _ F => recBytes.lifted os started H enc F)
#print axioms recBytesUpto_holds
end Go.Proofs.Ytmjjbfcblmmipaa
