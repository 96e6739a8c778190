/- RecTwice: the walk. -/
import Derived.Test.YtmjjbfcblmmipaaAwakeR
import Derived.Test.YtmjjbfcblmmipaaOwnW
import Derived.Test.YtmjjbfcblmmipaaTwiceL
namespace Go.Proofs.Ytmjjbfcblmmipaa
set_option linter.unusedVariables false
set_option linter.unusedSimpArgs false
open Go.RowKit

set_option maxRecDepth 100000 in
set_option maxHeartbeats 16000000 in
theorem twice_ok (x : Rc) (AW : Option Addr) (nW cW : Nat) (AR : Option Addr) (nR cR : Nat) (AS : Option Addr) (nS cS : Nat) (AP : Option Addr) (nP cP : Nat) (AB : Option Addr) (nB cB : Nat) (bs : List Int) (w : World) (hx : RcR w x ⟨AW, nW, cW, AR, nR, cR, AS, nS, cS, AP, nP, cP⟩) (hb : Bs w AB nB bs) (hB : RcB x) (hL : (recL x).length ≤ 12000000) (bB : nB ≤ 10000000) (bW : nW ≤ 10000000) (bR : nR ≤ 10000000) (bS : nS ≤ 10000000) (bP : nP ≤ 10000000) (tW : (trs x.ws).length ≤ 12000000) (tR : (trs x.rs).length ≤ 12000000) (hk : 1 ≤ x.kind ∧ x.kind ≤ 9) :
    Calls Try.prog 7 #[.agg (rcV x.kind x.boot x.sess x.seq AW nW cW AR nR cR x.commit AS nS cS AP nP cP x.id (strOfNums x.name)), .slice AB nB cB] w fun e w' => e = .returned (.bool true) ∧ Below w.heap.size w w' := by
  have HX := Lib.hid hx; have HBB := Lib.hid hb; have HB := Lib.hid hB
  obtain ⟨i5, hi5, hz50, hz51, hz52⟩ := info_parts info5
  have hba := below_alloc w (.cells (rcV x.kind x.boot x.sess x.seq AW nW cW AR nR cR x.commit AS nS cS AP nP cP x.id (strOfNums x.name)) 30)
  have BX0 := Lib.hid (heap_alloc_new w (.cells (rcV x.kind x.boot x.sess x.seq AW nW cW AR nR cR x.commit AS nS cS AP nP cP x.id (strOfNums x.name)) 30))
  have HB0 := Lib.hid hba
  clear hx hb hB hba
  go_enter Try.func7, Try.ntmps7
  go_wp2_with fail
  generalize w.alloc (.cells (rcV x.kind x.boot x.sess x.seq AW nW cW AR nR cR x.commit AS nS cS AP nP cP x.id (strOfNums x.name)) 30) = W0 at *
  refine (awake_any W0).mono ?_
  rintro e w1 ⟨rfl, hb1⟩
  have BX1 := Lib.hid ((hb1.block _ (lt_of_heap BX0.out)).trans BX0.out)
  have HB1 := Lib.hid (HB0.out.trans (hb1.mono HB0.out.size))
  have a0 := rc_cell 0 (.int .i64 x.kind) BX1.out rfl
  have a1 := rc_cell 1 (.int .u64 x.boot) BX1.out rfl
  have a2 := rc_cell 2 (.int .u64 x.sess) BX1.out rfl
  have a3 := rc_cell 3 (.int .u64 x.seq) BX1.out rfl
  have a4 := rc_cell 4 (.slice AW nW cW) BX1.out rfl
  have a5 := rc_cell 5 (.slice AR nR cR) BX1.out rfl
  have a6 := rc_cell 6 (.bool x.commit) BX1.out rfl
  have a7 := rc_cell 7 (.slice AS nS cS) BX1.out rfl
  have a8 := rc_cell 8 (.slice AP nP cP) BX1.out rfl
  have a9 := rc_cell 9 (.int .u64 x.id) BX1.out rfl
  have a10 := rc_cell 10 (.string (strOfNums x.name)) BX1.out rfl
  clear hb1 BX0 HB0
  go_wp2_with fail
  have hx1 := HX.out.keep HB1.out
  refine (own_core x.kind x.boot x.sess x.seq x.commit x.id (strOfNums x.name) AW nW cW AR nR cR AS nS cS AP nP cP x.ws x.rs x.shards x.reply w1 hx1.ws hx1.rs hx1.sh hx1.rp bW bR bS (by omega) (by omega) (by omega)).mono ?_
  rintro e w2 ⟨A6, c6, A7, c7, A9, c9, A12, c12, rfl, o6, o7, o9, o12, hb2⟩
  have BX2 := Lib.hid ((hb2.block _ (lt_of_heap BX1.out)).trans BX1.out)
  have HB2 := Lib.hid (HB1.out.trans (hb2.mono HB1.out.size))
  have HX2 : Hid (RcR w2 x ⟨A6, nW, c6, A7, nR, c7, A9, nS, c9, A12, nP, c12⟩) := Lib.hid ⟨o6.trs, o7.trs, ⟨o9.rd, hx1.sh.2⟩, o12.bs hx1.rp.2, o12.cap, hx1.boot, hx1.sess, hx1.seq, hx1.id, hx1.name, (show nW ≤ 20000000 by omega), (show nR ≤ 20000000 by omega), (show nS ≤ 20000000 by omega), by omega, by omega⟩
  clear a0 a1 a2 a3 a4 a5 a6 a7 a8 a9 a10 BX1 HB1 o6 o7 o9 o12 hb2 hx1
  go_wp2_with fail
  refine (bytes_any x ⟨A6, nW, c6, A7, nR, c7, A9, nS, c9, A12, nP, c12⟩ w2 HX2.out (by omega)).mono ?_
  rintro e w3 ⟨A3, n3, c3, rfl, hn3, ho3, hr3, hb3⟩
  have BX3 := Lib.hid ((hb3.block _ (lt_of_heap BX2.out)).trans BX2.out)
  have HB3 := Lib.hid (HB2.out.trans (hb3.mono HB2.out.size))
  have HO3 := Lib.hid ho3; have HR3 := Lib.hid hr3
  have hn3b : n3 ≤ 12000000 := by omega
  have HN3 := Lib.hid hn3
  clear BX2 HB2 HX2 ho3 hr3 hb3 hn3
  go_wp2_with fail
  refine (read_ok x A3 n3 c3 w3 hk.1 hk.2 (HO3.out.bs HR3.out) HO3.out.cap (fun k hk => (HO3.out.lies k hk).2) (by omega) HB.out).mono ?_
  rintro e w4 ⟨s, rfl, hO4, hb4⟩
  obtain ⟨tr, HTR⟩ : ∃ tr, Hid (trimR x = tr) := ⟨_, rfl⟩
  rw [HTR.out] at hO4
  rw [HTR.out]
  obtain ⟨BW, mW, dW, BR, mR, dR, BS, mS, dS, BP, mP, dP⟩ := s
  have hba := below_alloc w4 (.cells (rcV tr.kind tr.boot tr.sess tr.seq BW mW dW BR mR dR tr.commit BS mS dS BP mP dP tr.id (strOfNums tr.name)) 32)
  have hb34 := hb4.trans (hba.mono hb4.size)
  have BX5 := Lib.hid ((hb34.block _ (lt_of_heap BX3.out)).trans BX3.out)
  have HB5 := Lib.hid (HB3.out.trans (hb34.mono HB3.out.size))
  have HO5 := Lib.hid (HO3.out.below hb34 (fun k hk => (HO3.out.lies k hk).2))
  have HG5 := Lib.hid (heap_alloc_new w4 (.cells (rcV tr.kind tr.boot tr.sess tr.seq BW mW dW BR mR dR tr.commit BS mS dS BP mP dP tr.id (strOfNums tr.name)) 32))
  have HT5 : Hid (RcT (w4.alloc (.cells (rcV tr.kind tr.boot tr.sess tr.seq BW mW dW BR mR dR tr.commit BS mS dS BP mP dP tr.id (strOfNums tr.name)) 32)) tr ⟨BW, mW, dW, BR, mR, dR, BS, mS, dS, BP, mP, dP⟩) := Lib.hid ((RcO.rcT hO4 (by rw [← HTR.out]; exact trim_sh x HB.out.sh)).keep hba)
  clear hba hb34 hb4 BX3 HB3 HO3 hO4
  go_wp2_with fail
  generalize w4.alloc (.cells (rcV tr.kind tr.boot tr.sess tr.seq BW mW dW BR mR dR tr.commit BS mS dS BP mP dP tr.id (strOfNums tr.name)) 32) = w5 at *
  generalize w4.heap.size = g6 at *
  have BXd : Hid (w5.drew.heap[w.heap.size]? = _) := BX5
  have HGd : Hid (w5.drew.heap[g6]? = _) := HG5
  have HBd : Hid (Below w.heap.size w w5.drew) := Lib.hid (below_n HB5.out 1)
  have HOd : Hid (Own w5.drew w2.heap.size 5 A3 n3 c3 (By (recL x))) := HO5
  have HTd : Hid (RcT w5.drew tr ⟨BW, mW, dW, BR, mR, dR, BS, mS, dS, BP, mP, dP⟩) := Lib.hid (HT5.out.keep ((Dr.refl w5).one.below _))
  clear BX5 HG5 HB5 HO5 HT5
  refine wp_region_held_drew (S := fun w' => w'.cell? ⟨g6, 0, none⟩ = some (.int .i64 tr.kind) ∧ w'.cell? ⟨g6, 1, none⟩ = some (.int .u64 tr.boot) ∧ w'.cell? ⟨g6, 2, none⟩ = some (.int .u64 tr.sess) ∧ w'.cell? ⟨g6, 3, none⟩ = some (.int .u64 tr.seq) ∧ w'.cell? ⟨g6, 4, none⟩ = some (.slice BW mW dW) ∧ w'.cell? ⟨g6, 5, none⟩ = some (.slice BR mR dR) ∧ w'.cell? ⟨g6, 6, none⟩ = some (.bool tr.commit) ∧ w'.cell? ⟨g6, 7, none⟩ = some (.slice BS mS dS) ∧ w'.cell? ⟨g6, 8, none⟩ = some (.slice BP mP dP) ∧ w'.cell? ⟨g6, 9, none⟩ = some (.int .u64 tr.id) ∧ w'.cell? ⟨g6, 10, none⟩ = some (.string (strOfNums tr.name)) ∧ w'.cell? ⟨w.heap.size, 0, none⟩ = some (.int .i64 x.kind) ∧ w'.cell? ⟨w.heap.size, 1, none⟩ = some (.int .u64 x.boot) ∧ w'.cell? ⟨w.heap.size, 2, none⟩ = some (.int .u64 x.sess) ∧ w'.cell? ⟨w.heap.size, 3, none⟩ = some (.int .u64 x.seq) ∧ w'.cell? ⟨w.heap.size, 4, none⟩ = some (.slice AW nW cW) ∧ w'.cell? ⟨w.heap.size, 5, none⟩ = some (.slice AR nR cR) ∧ w'.cell? ⟨w.heap.size, 6, none⟩ = some (.bool x.commit) ∧ w'.cell? ⟨w.heap.size, 7, none⟩ = some (.slice AS nS cS) ∧ w'.cell? ⟨w.heap.size, 8, none⟩ = some (.slice AP nP cP) ∧ w'.cell? ⟨w.heap.size, 9, none⟩ = some (.int .u64 x.id) ∧ w'.cell? ⟨w.heap.size, 10, none⟩ = some (.string (strOfNums x.name))) (by kernel_rfl) ⟨rc_cell 0 _ HGd.out rfl, rc_cell 1 _ HGd.out rfl, rc_cell 2 _ HGd.out rfl, rc_cell 3 _ HGd.out rfl, rc_cell 4 _ HGd.out rfl, rc_cell 5 _ HGd.out rfl, rc_cell 6 _ HGd.out rfl, rc_cell 7 _ HGd.out rfl, rc_cell 8 _ HGd.out rfl, rc_cell 9 _ HGd.out rfl, rc_cell 10 _ HGd.out rfl, rc_cell 0 _ BXd.out rfl, rc_cell 1 _ BXd.out rfl, rc_cell 2 _ BXd.out rfl, rc_cell 3 _ BXd.out rfl, rc_cell 4 _ BXd.out rfl, rc_cell 5 _ BXd.out rfl, rc_cell 6 _ BXd.out rfl, rc_cell 7 _ BXd.out rfl, rc_cell 8 _ BXd.out rfl, rc_cell 9 _ BXd.out rfl, rc_cell 10 _ BXd.out rfl⟩ (fun hH0 => ?_)
  generalize w5.drew = z0 at *
  refine wpAnyH_take (i := 0) (oi := { dst := some 19, op := Op.move (Operand.tmp 7), type := 39, pos := _, after := #[], guard := none }) (v := ?vk_0) rfl (by kernel_rfl) (by kernel_rfl) (by kernel_rfl) (fun _ _ _ h => h) (Or.inl ⟨by rfl, ?yk_0⟩) hH0 ?rk_0
  case yk_0 => (intro w hSw; (try dsimp only at hSw); go_simp; try (with_reducible rfl))
  try simp only [Act.put, List.setIfInBounds_toArray, List.set_cons_zero, List.set_cons_succ]
  refine wpAnyH_take (i := 1) (oi := { dst := some 20, op := Op.binOp BinOp.eql 39 (Operand.tmp 19) (Operand.const (Value.int IntKind.i64 0)) 39, type := 4, pos := _, after := #[{ on := 0, ground := Ground.data }], guard := none }) (v := ?vk_1) rfl (by kernel_rfl) (by kernel_rfl) (by kernel_rfl) (fun _ _ _ h => h) (Or.inl ⟨by rfl, ?yk_1⟩) hH0 ?rk_1
  case yk_1 => (intro w hSw; (try dsimp only at hSw); go_simp; try (with_reducible rfl))
  try simp only [Act.put, List.setIfInBounds_toArray, List.set_cons_zero, List.set_cons_succ]
  refine wpAnyH_take (i := 2) (oi := { dst := some 21, op := Op.move (Operand.tmp 20), type := 4, pos := _, after := #[{ on := 1, ground := Ground.data }], guard := none }) (v := ?vk_2) rfl (by kernel_rfl) (by kernel_rfl) (by kernel_rfl) (fun _ _ _ h => h) (Or.inl ⟨by rfl, ?yk_2⟩) hH0 ?rk_2
  case yk_2 => (intro w hSw; (try dsimp only at hSw); go_simp; try (with_reducible rfl))
  try simp only [Act.put, List.setIfInBounds_toArray, List.set_cons_zero, List.set_cons_succ]
  refine wpAnyH_take (i := 3) (oi := { dst := some 22, op := Op.load 32 (Operand.tmp 6), type := 32, pos := _, after := #[{ on := 2, ground := Ground.guard }], guard := some (2, true) }) (v := ?vk_3) rfl (by kernel_rfl) (by kernel_rfl) (by kernel_rfl) (fun _ _ _ h => h) (Or.inl ⟨by rfl, ?yk_3⟩) hH0 ?rk_3
  case yk_3 => (intro w hSw; (try dsimp only at hSw); go_simp; try (with_reducible rfl))
  try simp only [Act.put, List.setIfInBounds_toArray, List.set_cons_zero, List.set_cons_succ]
  refine wpAnyH_take (i := 5) (oi := { dst := some 24, op := Op.move (Operand.tmp 5), type := 28, pos := _, after := #[{ on := 2, ground := Ground.guard }], guard := some (2, true) }) (v := ?vk_5) rfl (by kernel_rfl) (by kernel_rfl) (by kernel_rfl) (fun _ _ _ h => h) (Or.inl ⟨by rfl, ?yk_5⟩) hH0 ?rk_5
  case yk_5 => (intro w hSw; (try dsimp only at hSw); go_simp; try (with_reducible rfl))
  try simp only [Act.put, List.setIfInBounds_toArray, List.set_cons_zero, List.set_cons_succ]
  have HTB := Lib.hid (trim_R x tr HTR.out hk hL HX.out HB.out tW tR bS bP)
  refine wpAnyH_ready (rs := [4]) (by kernel_rfl) (by simp) ?_
  refine (AllReadyH.cons (o := { dst := some 23, op := Op.call { callee := Callee.value (Operand.func 15), args := #[Operand.tmp 22], argTypes := #[32] }, type := 28, pos := _, after := #[{ on := 3, ground := Ground.data }, { on := 2, ground := Ground.chain }, { on := 2, ground := Ground.guard }], guard := some (2, true) }) rfl (fun K hK => ?_) AllReadyH.nil)
  rw [if_pos (by rfl)]
  go_simp
  refine (bytes_any tr ⟨BW, mW, dW, BR, mR, dR, BS, mS, dS, BP, mP, dP⟩ z0 (rcT_R HTd.out HTB.out) (by rw [HTB.out.by_]; omega)).mono ?_
  rintro e z1 ⟨A15, n15, c15, rfl, hn15, ho15, hr15, hb1⟩
  have BX1 := Lib.hid ((hb1.block _ (lt_of_heap BXd.out)).trans BXd.out)
  have HG1 := Lib.hid ((hb1.block _ (lt_of_heap HGd.out)).trans HGd.out)
  have HB1 := Lib.hid (HBd.out.trans (hb1.mono HBd.out.size))
  have HO1 := Lib.hid (HOd.out.below hb1 (fun k hk => (HOd.out.lies k hk).2))
  have HT1 := Lib.hid (HTd.out.keep hb1)
  rw [HTB.out.by_] at hn15 ho15 hr15
  have HO15 := Lib.hid ho15
  have HN15 := Lib.hid hn15
  clear ho15 hr15 hn15
  clear hb1
  go_wp2_with fail
  refine hK.out _ _ ⟨rc_cell 0 _ HG1.out rfl, rc_cell 1 _ HG1.out rfl, rc_cell 2 _ HG1.out rfl, rc_cell 3 _ HG1.out rfl, rc_cell 4 _ HG1.out rfl, rc_cell 5 _ HG1.out rfl, rc_cell 6 _ HG1.out rfl, rc_cell 7 _ HG1.out rfl, rc_cell 8 _ HG1.out rfl, rc_cell 9 _ HG1.out rfl, rc_cell 10 _ HG1.out rfl, rc_cell 0 _ BX1.out rfl, rc_cell 1 _ BX1.out rfl, rc_cell 2 _ BX1.out rfl, rc_cell 3 _ BX1.out rfl, rc_cell 4 _ BX1.out rfl, rc_cell 5 _ BX1.out rfl, rc_cell 6 _ BX1.out rfl, rc_cell 7 _ BX1.out rfl, rc_cell 8 _ BX1.out rfl, rc_cell 9 _ BX1.out rfl, rc_cell 10 _ BX1.out rfl⟩ (fun hH1 => ?_)
  clear hK K
  try simp only [Act.put, List.setIfInBounds_toArray, List.set_cons_zero, List.set_cons_succ]
  refine wpAnyH_ready (rs := [6]) (by kernel_rfl) (by simp) ?_
  refine (AllReadyH.cons (o := { dst := some 25, op := Op.call { callee := Callee.value (Operand.func 16), args := #[Operand.tmp 23, Operand.tmp 24], argTypes := #[28, 28] }, type := 4, pos := _, after := #[{ on := 4, ground := Ground.data }, { on := 5, ground := Ground.data }, { on := 4, ground := Ground.chain }, { on := 2, ground := Ground.guard }], guard := some (2, true) }) rfl (fun K hK => ?_) AllReadyH.nil)
  rw [if_pos (by rfl)]
  go_simp
  refine (equal_is A15 A3 n15 n3 c15 c3 (recL x) (recL x) true (cmpL_same _) z1 (HO15.out.bs HR3.out) (HO1.out.bs HR3.out) (by have h1 := HN15.out; unfold maxLen; omega) (by unfold maxLen; omega)).mono ?_
  rintro e z2 ⟨rfl, hd2⟩
  have hb2 : Below z1.heap.size z1 z2 := hd2.below _
  have BX2 := Lib.hid ((hb2.block _ (lt_of_heap BX1.out)).trans BX1.out)
  have HG2 := Lib.hid ((hb2.block _ (lt_of_heap HG1.out)).trans HG1.out)
  have HB2 := Lib.hid (HB1.out.trans (hb2.mono HB1.out.size))
  have HO2 := Lib.hid (HO1.out.below hb2 (fun k hk => (HO1.out.lies k hk).2))
  have HT2 := Lib.hid (HT1.out.keep hb2)
  clear hd2
  clear hb2
  go_wp2_with fail
  refine hK.out _ _ ⟨rc_cell 0 _ HG2.out rfl, rc_cell 1 _ HG2.out rfl, rc_cell 2 _ HG2.out rfl, rc_cell 3 _ HG2.out rfl, rc_cell 4 _ HG2.out rfl, rc_cell 5 _ HG2.out rfl, rc_cell 6 _ HG2.out rfl, rc_cell 7 _ HG2.out rfl, rc_cell 8 _ HG2.out rfl, rc_cell 9 _ HG2.out rfl, rc_cell 10 _ HG2.out rfl, rc_cell 0 _ BX2.out rfl, rc_cell 1 _ BX2.out rfl, rc_cell 2 _ BX2.out rfl, rc_cell 3 _ BX2.out rfl, rc_cell 4 _ BX2.out rfl, rc_cell 5 _ BX2.out rfl, rc_cell 6 _ BX2.out rfl, rc_cell 7 _ BX2.out rfl, rc_cell 8 _ BX2.out rfl, rc_cell 9 _ BX2.out rfl, rc_cell 10 _ BX2.out rfl⟩ (fun hH2 => ?_)
  clear hK K
  try simp only [Act.put, List.setIfInBounds_toArray, List.set_cons_zero, List.set_cons_succ]
  refine wpAnyH_take (i := 7) (oi := { dst := some 26, op := Op.unOp UnOp.not 4 (Operand.tmp 25), type := 4, pos := _, after := #[{ on := 6, ground := Ground.data }, { on := 2, ground := Ground.guard }], guard := some (2, true) }) (v := ?vk_7) rfl (by kernel_rfl) (by kernel_rfl) (by kernel_rfl) (fun _ _ _ h => h) (Or.inl ⟨by rfl, ?yk_7⟩) hH2 ?rk_7
  case yk_7 => (intro w hSw; (try dsimp only at hSw); go_simp; try (with_reducible rfl))
  try simp only [Act.put, List.setIfInBounds_toArray, List.set_cons_zero, List.set_cons_succ]
  refine wpAnyH_take (i := 8) (oi := { dst := some 27, op := Op.move (Operand.tmp 26), type := 4, pos := _, after := #[{ on := 7, ground := Ground.data }, { on := 6, ground := Ground.chain }, { on := 2, ground := Ground.guard }], guard := some (2, true) }) (v := ?vk_8) rfl (by kernel_rfl) (by kernel_rfl) (by kernel_rfl) (fun _ _ _ h => h) (Or.inl ⟨by rfl, ?yk_8⟩) hH2 ?rk_8
  case yk_8 => (intro w hSw; (try dsimp only at hSw); go_simp; try (with_reducible rfl))
  try simp only [Act.put, List.setIfInBounds_toArray, List.set_cons_zero, List.set_cons_succ]
  refine wpAnyH_take (i := 9) (oi := { dst := some 28, op := Op.load 32 (Operand.tmp 6), type := 32, pos := _, after := #[{ on := 8, ground := Ground.guard }], guard := some (8, false) }) (v := ?vk_9) rfl (by kernel_rfl) (by kernel_rfl) (by kernel_rfl) (fun _ _ _ h => h) (Or.inl ⟨by rfl, ?yk_9⟩) hH2 ?rk_9
  case yk_9 => (intro w hSw; (try dsimp only at hSw); go_simp; try (with_reducible rfl))
  try simp only [Act.put, List.setIfInBounds_toArray, List.set_cons_zero, List.set_cons_succ]
  refine wpAnyH_take (i := 11) (oi := { dst := some 30, op := Op.load 30 (Operand.tmp 2), type := 30, pos := _, after := #[{ on := 8, ground := Ground.guard }], guard := some (8, false) }) (v := ?vk_11) rfl (by kernel_rfl) (by kernel_rfl) (by kernel_rfl) (fun _ _ _ h => h) (Or.inl ⟨by rfl, ?yk_11⟩) hH2 ?rk_11
  case yk_11 => (intro w hSw; (try dsimp only at hSw); go_simp; try (with_reducible rfl))
  try simp only [Act.put, List.setIfInBounds_toArray, List.set_cons_zero, List.set_cons_succ]
  refine wpAnyH_ready (rs := [10]) (by kernel_rfl) (by simp) ?_
  refine (AllReadyH.cons (o := { dst := some 29, op := Op.call { callee := Callee.value (Operand.func 19), args := #[Operand.tmp 28], argTypes := #[32] }, type := 30, pos := _, after := #[{ on := 9, ground := Ground.data }, { on := 8, ground := Ground.chain }, { on := 8, ground := Ground.guard }], guard := some (8, false) }) rfl (fun K hK => ?_) AllReadyH.nil)
  rw [if_pos (by rfl)]
  go_simp
  refine (told_any tr.kind tr.boot tr.sess tr.seq BW mW dW BR mR dR tr.commit BS mS dS BP mP dP tr.id (strOfNums tr.name) z2).mono ?_
  rintro e z3 ⟨rfl, hb3⟩
  have BX3 := Lib.hid ((hb3.block _ (lt_of_heap BX2.out)).trans BX2.out)
  have HG3 := Lib.hid ((hb3.block _ (lt_of_heap HG2.out)).trans HG2.out)
  have HB3 := Lib.hid (HB2.out.trans (hb3.mono HB2.out.size))
  have HO3 := Lib.hid (HO2.out.below hb3 (fun k hk => (HO2.out.lies k hk).2))
  have HT3 := Lib.hid (HT2.out.keep hb3)
  clear hb3
  go_wp2_with fail
  refine hK.out _ _ ⟨rc_cell 0 _ HG3.out rfl, rc_cell 1 _ HG3.out rfl, rc_cell 2 _ HG3.out rfl, rc_cell 3 _ HG3.out rfl, rc_cell 4 _ HG3.out rfl, rc_cell 5 _ HG3.out rfl, rc_cell 6 _ HG3.out rfl, rc_cell 7 _ HG3.out rfl, rc_cell 8 _ HG3.out rfl, rc_cell 9 _ HG3.out rfl, rc_cell 10 _ HG3.out rfl, rc_cell 0 _ BX3.out rfl, rc_cell 1 _ BX3.out rfl, rc_cell 2 _ BX3.out rfl, rc_cell 3 _ BX3.out rfl, rc_cell 4 _ BX3.out rfl, rc_cell 5 _ BX3.out rfl, rc_cell 6 _ BX3.out rfl, rc_cell 7 _ BX3.out rfl, rc_cell 8 _ BX3.out rfl, rc_cell 9 _ BX3.out rfl, rc_cell 10 _ BX3.out rfl⟩ (fun hH3 => ?_)
  clear hK K
  try simp only [Act.put, List.setIfInBounds_toArray, List.set_cons_zero, List.set_cons_succ]
  refine wpAnyH_ready (rs := [12]) (by kernel_rfl) (by simp) ?_
  refine (AllReadyH.cons (o := { dst := some 31, op := Op.call { callee := Callee.value (Operand.func 21), args := #[Operand.tmp 30], argTypes := #[30] }, type := 30, pos := _, after := #[{ on := 11, ground := Ground.data }, { on := 10, ground := Ground.chain }, { on := 8, ground := Ground.guard }], guard := some (8, false) }) rfl (fun K hK => ?_) AllReadyH.nil)
  rw [if_pos (by rfl)]
  go_simp
  refine (trim_any x tr HTR.out hk AW nW cW AR nR cR AS nS cS AP nP cP z3 (HX.out.keep HB3.out)).mono ?_
  rintro e z4 ⟨EW, eW, fW, ER, eR, fR, ES, eS, fS, EP, eP, fP, rfl, ht4, hb4⟩
  have BX4 := Lib.hid ((hb4.block _ (lt_of_heap BX3.out)).trans BX3.out)
  have HG4 := Lib.hid ((hb4.block _ (lt_of_heap HG3.out)).trans HG3.out)
  have HB4 := Lib.hid (HB3.out.trans (hb4.mono HB3.out.size))
  have HO4 := Lib.hid (HO3.out.below hb4 (fun k hk => (HO3.out.lies k hk).2))
  have HT4 := Lib.hid (HT3.out.keep hb4)
  have HE4 := Lib.hid ht4
  clear ht4
  clear hb4
  go_wp2_with fail
  refine hK.out _ _ ⟨rc_cell 0 _ HG4.out rfl, rc_cell 1 _ HG4.out rfl, rc_cell 2 _ HG4.out rfl, rc_cell 3 _ HG4.out rfl, rc_cell 4 _ HG4.out rfl, rc_cell 5 _ HG4.out rfl, rc_cell 6 _ HG4.out rfl, rc_cell 7 _ HG4.out rfl, rc_cell 8 _ HG4.out rfl, rc_cell 9 _ HG4.out rfl, rc_cell 10 _ HG4.out rfl, rc_cell 0 _ BX4.out rfl, rc_cell 1 _ BX4.out rfl, rc_cell 2 _ BX4.out rfl, rc_cell 3 _ BX4.out rfl, rc_cell 4 _ BX4.out rfl, rc_cell 5 _ BX4.out rfl, rc_cell 6 _ BX4.out rfl, rc_cell 7 _ BX4.out rfl, rc_cell 8 _ BX4.out rfl, rc_cell 9 _ BX4.out rfl, rc_cell 10 _ BX4.out rfl⟩ (fun hH4 => ?_)
  clear hK K
  try simp only [Act.put, List.setIfInBounds_toArray, List.set_cons_zero, List.set_cons_succ]
  refine wpAnyH_ready (rs := [13]) (by kernel_rfl) (by simp) ?_
  refine (AllReadyH.cons (o := { dst := some 32, op := Op.call { callee := Callee.value (Operand.func 18), args := #[Operand.tmp 29, Operand.tmp 31], argTypes := #[30, 30] }, type := 4, pos := _, after := #[{ on := 10, ground := Ground.data }, { on := 12, ground := Ground.data }, { on := 12, ground := Ground.chain }, { on := 8, ground := Ground.guard }], guard := some (8, false) }) rfl (fun K hK => ?_) AllReadyH.nil)
  rw [if_pos (by rfl)]
  go_simp
  refine (same_any tr ⟨BW, mW, dW, BR, mR, dR, BS, mS, dS, BP, mP, dP⟩ ⟨EW, eW, fW, ER, eR, fR, ES, eS, fS, EP, eP, fP⟩ z4 HT4.out HE4.out HTB.out).mono ?_
  rintro e z5 ⟨rfl, hb5⟩
  have BX5 := Lib.hid ((hb5.block _ (lt_of_heap BX4.out)).trans BX4.out)
  have HG5 := Lib.hid ((hb5.block _ (lt_of_heap HG4.out)).trans HG4.out)
  have HB5 := Lib.hid (HB4.out.trans (hb5.mono HB4.out.size))
  have HO5 := Lib.hid (HO4.out.below hb5 (fun k hk => (HO4.out.lies k hk).2))
  have HT5 := Lib.hid (HT4.out.keep hb5)
  clear hb5
  go_wp2_with fail
  refine hK.out _ _ ⟨rc_cell 0 _ HG5.out rfl, rc_cell 1 _ HG5.out rfl, rc_cell 2 _ HG5.out rfl, rc_cell 3 _ HG5.out rfl, rc_cell 4 _ HG5.out rfl, rc_cell 5 _ HG5.out rfl, rc_cell 6 _ HG5.out rfl, rc_cell 7 _ HG5.out rfl, rc_cell 8 _ HG5.out rfl, rc_cell 9 _ HG5.out rfl, rc_cell 10 _ HG5.out rfl, rc_cell 0 _ BX5.out rfl, rc_cell 1 _ BX5.out rfl, rc_cell 2 _ BX5.out rfl, rc_cell 3 _ BX5.out rfl, rc_cell 4 _ BX5.out rfl, rc_cell 5 _ BX5.out rfl, rc_cell 6 _ BX5.out rfl, rc_cell 7 _ BX5.out rfl, rc_cell 8 _ BX5.out rfl, rc_cell 9 _ BX5.out rfl, rc_cell 10 _ BX5.out rfl⟩ (fun hH5 => ?_)
  clear hK K
  try simp only [Act.put, List.setIfInBounds_toArray, List.set_cons_zero, List.set_cons_succ]
  refine wpAnyH_take (i := 14) (oi := { dst := some 33, op := Op.unOp UnOp.not 4 (Operand.tmp 32), type := 4, pos := _, after := #[{ on := 13, ground := Ground.data }, { on := 8, ground := Ground.guard }], guard := some (8, false) }) (v := ?vk_14) rfl (by kernel_rfl) (by kernel_rfl) (by kernel_rfl) (fun _ _ _ h => h) (Or.inl ⟨by rfl, ?yk_14⟩) hH5 ?rk_14
  case yk_14 => (intro w hSw; (try dsimp only at hSw); go_simp; try (with_reducible rfl))
  try simp only [Act.put, List.setIfInBounds_toArray, List.set_cons_zero, List.set_cons_succ]
  refine wpAnyH_take (i := 15) (oi := { dst := some 34, op := Op.pick (Operand.tmp 27) (Operand.const (Value.bool true)) (Operand.tmp 33), type := 4, pos := _, after := #[{ on := 8, ground := Ground.data }, { on := 14, ground := Ground.data }, { on := 2, ground := Ground.guard }], guard := some (2, true) }) (v := ?vk_15) rfl (by kernel_rfl) (by kernel_rfl) (by kernel_rfl) (fun _ _ _ h => h) (Or.inl ⟨by rfl, ?yk_15⟩) hH5 ?rk_15
  case yk_15 => (intro w hSw; (try dsimp only at hSw); go_simp; try (with_reducible rfl))
  try simp only [Act.put, List.setIfInBounds_toArray, List.set_cons_zero, List.set_cons_succ]
  refine wpAnyH_take (i := 16) (oi := { dst := some 35, op := Op.pick (Operand.tmp 21) (Operand.tmp 34) (Operand.const (Value.bool false)), type := 4, pos := _, after := #[{ on := 2, ground := Ground.data }, { on := 15, ground := Ground.data }], guard := none }) (v := ?vk_16) rfl (by kernel_rfl) (by kernel_rfl) (by kernel_rfl) (fun _ _ _ h => h) (Or.inl ⟨by rfl, ?yk_16⟩) hH5 ?rk_16
  case yk_16 => (intro w hSw; (try dsimp only at hSw); go_simp; try (with_reducible rfl))
  try simp only [Act.put, List.setIfInBounds_toArray, List.set_cons_zero, List.set_cons_succ]
  refine wpAnyH_done (by kernel_rfl) ?_ _
  have k0 := rc_cell 0 (.int .i64 x.kind) BX5.out rfl
  have hk1 := hk.1
  have hk9 := hk.2
  go_wp2_with fail
  refine (copy_any A3 n3 c3 (recL x) z5 (HO5.out.bs HR3.out) (by omega)).mono ?_
  rintro e v1 ⟨A8, c8, rfl, ho8, hb8⟩
  have HB8 := Lib.hid (HB5.out.trans (hb8.mono HB5.out.size))
  have hbs8 := (HBB.out.keep HB8.out)
  have h63 : n3 + nB ≤ maxLen := by unfold maxLen; omega
  have hv1 := hb8.size
  go_wp2_with (at_builtin; refine wpList_append_rd rfl _ _ 28 rfl i5 (.int .u8 0) 1 Try.underlying28 hi5 hz50 hz51 hz52 rfl rfl ho8 AB nB cB (By bs) rfl hbs8.1 (By_one _) h63 (by omega) hv1 ?_)
  intro A10 c10 v2 ho10 hg10
  have HB10 := Lib.hid (HB5.out.trans ((hb8.trans (hg10.below hv1 (fun k hk => (ho8.lies k hk).1))).mono HB5.out.size))
  rw [← By_append] at ho10
  have HO10 := Lib.hid ho10
  clear ho8 hb8 HB8 ho10 hg10 hbs8 h63 hv1
  go_wp2_with fail
  by_cases hbe : bs = []
  · have hnB : nB = 0 := by have := HBB.out.len; rw [hbe] at this; simpa using this.symm
    subst hnB
    have hxx : recL x ++ bs = recL x := by rw [hbe]; simp
    rw [hxx] at HO10
    clear hxx
    refine (read_ok x A10 _ c10 v2 hk.1 hk.2 (HO10.out.bs HR3.out) HO10.out.cap (fun k hk => (HO10.out.lies k hk).2) (by omega) HB.out).mono ?_
    rintro e v3 ⟨s3, rfl, _, hbf⟩
    have HBF := Lib.hid (HB10.out.trans (hbf.mono HB10.out.size))
    clear hbf
    go_wp2
    go_ret
    exact ⟨rfl, HBF.out.alloc HBF.out.size _⟩
  · have hnp : 0 < nB := Nat.pos_of_ne_zero (fun h0 => hbe (List.eq_nil_of_length_eq_zero (by rw [HBB.out.len]; exact h0)))
    have hnz : ((nB : Int) == 0) = false := by simp; omega
    refine (read_more x bs hbe A10 _ c10 v2 (HO10.out.bs (HR3.out.append HBB.out.2)) HO10.out.cap (fun k hk => (HO10.out.lies k hk).2) (by omega)).mono ?_
    rintro e v3 ⟨rfl, hbf⟩
    have HBF := Lib.hid (HB10.out.trans (hbf.mono HB10.out.size))
    clear hbf
    go_wp2
    go_ret
    exact ⟨rfl, HBF.out.alloc HBF.out.size _⟩
end Go.Proofs.Ytmjjbfcblmmipaa
