/- RecTwice: the walk. -/
import Derived.Test.YtmjjbfcblmmipaaAwakeR
import Derived.Test.YtmjjbfcblmmipaaOwnW
import Derived.Test.YtmjjbfcblmmipaaTwiceL
namespace Go.Proofs.Ytmjjbfcblmmipaa
set_option linter.unusedVariables false
set_option linter.unusedSimpArgs false
open Go.RowKit

set_option maxRecDepth 100000 in
set_option maxHeartbeats 16000000 in
theorem twice_bad (x : Rc) (AW : Option Addr) (nW cW : Nat) (AR : Option Addr) (nR cR : Nat) (AS : Option Addr) (nS cS : Nat) (AP : Option Addr) (nP cP : Nat) (AB : Option Addr) (nB cB : Nat) (bs : List Int) (w : World) (hx : RcR w x ⟨AW, nW, cW, AR, nR, cR, AS, nS, cS, AP, nP, cP⟩) (hb : Bs w AB nB bs) (hB : RcB x) (hL : (recL x).length ≤ 12000000) (bB : nB ≤ 10000000) (bW : nW ≤ 10000000) (bR : nR ≤ 10000000) (bS : nS ≤ 10000000) (bP : nP ≤ 10000000) (tW : (trs x.ws).length ≤ 12000000) (tR : (trs x.rs).length ≤ 12000000) (hk : ¬ (1 ≤ x.kind ∧ x.kind ≤ 9)) :
    Calls Try.prog 7 #[.agg (rcV x.kind x.boot x.sess x.seq AW nW cW AR nR cR x.commit AS nS cS AP nP cP x.id (strOfNums x.name)), .slice AB nB cB] w fun e w' => e = .returned (.bool true) ∧ Below w.heap.size w w' := by
  have HX := Lib.hid hx; have HBB := Lib.hid hb; have HB := Lib.hid hB
  obtain ⟨i5, hi5, hz50, hz51, hz52⟩ := info_parts info5
  have hba := below_alloc w (.cells (rcV x.kind x.boot x.sess x.seq AW nW cW AR nR cR x.commit AS nS cS AP nP cP x.id (strOfNums x.name)) 30)
  have BX0 := Lib.hid (heap_alloc_new w (.cells (rcV x.kind x.boot x.sess x.seq AW nW cW AR nR cR x.commit AS nS cS AP nP cP x.id (strOfNums x.name)) 30))
  have HB0 := Lib.hid hba
  clear hx hb hB hba
  go_enter Try.func7, Try.ntmps7
  go_wp2_with fail
  generalize w.alloc (.cells (rcV x.kind x.boot x.sess x.seq AW nW cW AR nR cR x.commit AS nS cS AP nP cP x.id (strOfNums x.name)) 30) = W0 at *
  refine (awake_any W0).mono ?_
  rintro e w1 ⟨rfl, hb1⟩
  have BX1 := Lib.hid ((hb1.block _ (lt_of_heap BX0.out)).trans BX0.out)
  have HB1 := Lib.hid (HB0.out.trans (hb1.mono HB0.out.size))
  have a0 := rc_cell 0 (.int .i64 x.kind) BX1.out rfl
  have a1 := rc_cell 1 (.int .u64 x.boot) BX1.out rfl
  have a2 := rc_cell 2 (.int .u64 x.sess) BX1.out rfl
  have a3 := rc_cell 3 (.int .u64 x.seq) BX1.out rfl
  have a4 := rc_cell 4 (.slice AW nW cW) BX1.out rfl
  have a5 := rc_cell 5 (.slice AR nR cR) BX1.out rfl
  have a6 := rc_cell 6 (.bool x.commit) BX1.out rfl
  have a7 := rc_cell 7 (.slice AS nS cS) BX1.out rfl
  have a8 := rc_cell 8 (.slice AP nP cP) BX1.out rfl
  have a9 := rc_cell 9 (.int .u64 x.id) BX1.out rfl
  have a10 := rc_cell 10 (.string (strOfNums x.name)) BX1.out rfl
  clear hb1 BX0 HB0
  go_wp2_with fail
  have hx1 := HX.out.keep HB1.out
  refine (own_core x.kind x.boot x.sess x.seq x.commit x.id (strOfNums x.name) AW nW cW AR nR cR AS nS cS AP nP cP x.ws x.rs x.shards x.reply w1 hx1.ws hx1.rs hx1.sh hx1.rp bW bR bS (by omega) (by omega) (by omega)).mono ?_
  rintro e w2 ⟨A6, c6, A7, c7, A9, c9, A12, c12, rfl, o6, o7, o9, o12, hb2⟩
  have BX2 := Lib.hid ((hb2.block _ (lt_of_heap BX1.out)).trans BX1.out)
  have HB2 := Lib.hid (HB1.out.trans (hb2.mono HB1.out.size))
  have HX2 : Hid (RcR w2 x ⟨A6, nW, c6, A7, nR, c7, A9, nS, c9, A12, nP, c12⟩) := Lib.hid ⟨o6.trs, o7.trs, ⟨o9.rd, hx1.sh.2⟩, o12.bs hx1.rp.2, o12.cap, hx1.boot, hx1.sess, hx1.seq, hx1.id, hx1.name, (show nW ≤ 20000000 by omega), (show nR ≤ 20000000 by omega), (show nS ≤ 20000000 by omega), by omega, by omega⟩
  clear a0 a1 a2 a3 a4 a5 a6 a7 a8 a9 a10 BX1 HB1 o6 o7 o9 o12 hb2 hx1
  go_wp2_with fail
  refine (bytes_any x ⟨A6, nW, c6, A7, nR, c7, A9, nS, c9, A12, nP, c12⟩ w2 HX2.out (by omega)).mono ?_
  rintro e w3 ⟨A3, n3, c3, rfl, hn3, ho3, hr3, hb3⟩
  have BX3 := Lib.hid ((hb3.block _ (lt_of_heap BX2.out)).trans BX2.out)
  have HB3 := Lib.hid (HB2.out.trans (hb3.mono HB2.out.size))
  have HO3 := Lib.hid ho3; have HR3 := Lib.hid hr3
  have hn3b : n3 ≤ 12000000 := by omega
  have HN3 := Lib.hid hn3
  clear BX2 HB2 HX2 ho3 hr3 hb3 hn3
  go_wp2_with fail
  refine (read_bad x A3 n3 c3 w3 hk (HO3.out.bs HR3.out) HO3.out.cap (fun k hk => (HO3.out.lies k hk).2) (by omega)).mono ?_
  rintro e w4 ⟨rfl, hb4⟩
  have hba := below_alloc w4 (.cells (rcV 0 0 0 0 none 0 0 none 0 0 false none 0 0 none 0 0 0 ⟨#[]⟩) 32)
  have hb34 := hb4.trans (hba.mono hb4.size)
  have BX5 := Lib.hid ((hb34.block _ (lt_of_heap BX3.out)).trans BX3.out)
  have HB5 := Lib.hid (HB3.out.trans (hb34.mono HB3.out.size))
  have HO5 := Lib.hid (HO3.out.below hb34 (fun k hk => (HO3.out.lies k hk).2))
  clear hba hb34 hb4 BX3 HB3 HO3
  go_wp2_with fail
  generalize w4.alloc (.cells (rcV 0 0 0 0 none 0 0 none 0 0 false none 0 0 none 0 0 0 ⟨#[]⟩) 32) = w5 at *
  refine wp_region_held_drew (S := fun _ => True) (by kernel_rfl) trivial (fun hH0 => ?_)
  refine wpAnyH_take (i := 0) (oi := { dst := some 19, op := Op.move (Operand.tmp 7), type := 39, pos := _, after := #[], guard := none }) (v := ?vb_0) rfl (by kernel_rfl) (by kernel_rfl) (by kernel_rfl) (fun _ _ _ h => h) (Or.inl ⟨by rfl, ?yb_0⟩) hH0 ?rb_0
  case yb_0 => (intro w hSw; (try dsimp only at hSw); go_simp; try (with_reducible rfl))
  try simp only [Act.put, List.setIfInBounds_toArray, List.set_cons_zero, List.set_cons_succ]
  refine wpAnyH_take (i := 1) (oi := { dst := some 20, op := Op.binOp BinOp.eql 39 (Operand.tmp 19) (Operand.const (Value.int IntKind.i64 0)) 39, type := 4, pos := _, after := #[{ on := 0, ground := Ground.data }], guard := none }) (v := ?vb_1) rfl (by kernel_rfl) (by kernel_rfl) (by kernel_rfl) (fun _ _ _ h => h) (Or.inl ⟨by rfl, ?yb_1⟩) hH0 ?rb_1
  case yb_1 => (intro w hSw; (try dsimp only at hSw); go_simp; try (with_reducible rfl))
  try simp only [Act.put, List.setIfInBounds_toArray, List.set_cons_zero, List.set_cons_succ]
  refine wpAnyH_take (i := 2) (oi := { dst := some 21, op := Op.move (Operand.tmp 20), type := 4, pos := _, after := #[{ on := 1, ground := Ground.data }], guard := none }) (v := ?vb_2) rfl (by kernel_rfl) (by kernel_rfl) (by kernel_rfl) (fun _ _ _ h => h) (Or.inl ⟨by rfl, ?yb_2⟩) hH0 ?rb_2
  case yb_2 => (intro w hSw; (try dsimp only at hSw); go_simp; try (with_reducible rfl))
  try simp only [Act.put, List.setIfInBounds_toArray, List.set_cons_zero, List.set_cons_succ]
  refine wpAnyH_take (i := 3) (oi := { dst := some 22, op := Op.load 32 (Operand.tmp 6), type := 32, pos := _, after := #[{ on := 2, ground := Ground.guard }], guard := some (2, true) }) (v := undef) rfl (by kernel_rfl) (by kernel_rfl) (by kernel_rfl) (fun _ _ _ h => h) (Or.inr ⟨by rfl, rfl⟩) hH0 ?_
  try simp only [Act.put, List.setIfInBounds_toArray, List.set_cons_zero, List.set_cons_succ]
  refine wpAnyH_take (i := 4) (oi := { dst := some 23, op := Op.call { callee := Callee.value (Operand.func 15), args := #[Operand.tmp 22], argTypes := #[32] }, type := 28, pos := _, after := #[{ on := 3, ground := Ground.data }, { on := 2, ground := Ground.chain }, { on := 2, ground := Ground.guard }], guard := some (2, true) }) (v := undef) rfl (by kernel_rfl) (by kernel_rfl) (by kernel_rfl) (fun _ _ _ h => h) (Or.inr ⟨by rfl, rfl⟩) hH0 ?_
  try simp only [Act.put, List.setIfInBounds_toArray, List.set_cons_zero, List.set_cons_succ]
  refine wpAnyH_take (i := 5) (oi := { dst := some 24, op := Op.move (Operand.tmp 5), type := 28, pos := _, after := #[{ on := 2, ground := Ground.guard }], guard := some (2, true) }) (v := undef) rfl (by kernel_rfl) (by kernel_rfl) (by kernel_rfl) (fun _ _ _ h => h) (Or.inr ⟨by rfl, rfl⟩) hH0 ?_
  try simp only [Act.put, List.setIfInBounds_toArray, List.set_cons_zero, List.set_cons_succ]
  refine wpAnyH_take (i := 6) (oi := { dst := some 25, op := Op.call { callee := Callee.value (Operand.func 16), args := #[Operand.tmp 23, Operand.tmp 24], argTypes := #[28, 28] }, type := 4, pos := _, after := #[{ on := 4, ground := Ground.data }, { on := 5, ground := Ground.data }, { on := 4, ground := Ground.chain }, { on := 2, ground := Ground.guard }], guard := some (2, true) }) (v := undef) rfl (by kernel_rfl) (by kernel_rfl) (by kernel_rfl) (fun _ _ _ h => h) (Or.inr ⟨by rfl, rfl⟩) hH0 ?_
  try simp only [Act.put, List.setIfInBounds_toArray, List.set_cons_zero, List.set_cons_succ]
  refine wpAnyH_take (i := 7) (oi := { dst := some 26, op := Op.unOp UnOp.not 4 (Operand.tmp 25), type := 4, pos := _, after := #[{ on := 6, ground := Ground.data }, { on := 2, ground := Ground.guard }], guard := some (2, true) }) (v := undef) rfl (by kernel_rfl) (by kernel_rfl) (by kernel_rfl) (fun _ _ _ h => h) (Or.inr ⟨by rfl, rfl⟩) hH0 ?_
  try simp only [Act.put, List.setIfInBounds_toArray, List.set_cons_zero, List.set_cons_succ]
  refine wpAnyH_take (i := 8) (oi := { dst := some 27, op := Op.move (Operand.tmp 26), type := 4, pos := _, after := #[{ on := 7, ground := Ground.data }, { on := 6, ground := Ground.chain }, { on := 2, ground := Ground.guard }], guard := some (2, true) }) (v := undef) rfl (by kernel_rfl) (by kernel_rfl) (by kernel_rfl) (fun _ _ _ h => h) (Or.inr ⟨by rfl, rfl⟩) hH0 ?_
  try simp only [Act.put, List.setIfInBounds_toArray, List.set_cons_zero, List.set_cons_succ]
  refine wpAnyH_take (i := 9) (oi := { dst := some 28, op := Op.load 32 (Operand.tmp 6), type := 32, pos := _, after := #[{ on := 8, ground := Ground.guard }], guard := some (8, false) }) (v := undef) rfl (by kernel_rfl) (by kernel_rfl) (by kernel_rfl) (fun _ _ _ h => h) (Or.inr ⟨by rfl, rfl⟩) hH0 ?_
  try simp only [Act.put, List.setIfInBounds_toArray, List.set_cons_zero, List.set_cons_succ]
  refine wpAnyH_take (i := 10) (oi := { dst := some 29, op := Op.call { callee := Callee.value (Operand.func 19), args := #[Operand.tmp 28], argTypes := #[32] }, type := 30, pos := _, after := #[{ on := 9, ground := Ground.data }, { on := 8, ground := Ground.chain }, { on := 8, ground := Ground.guard }], guard := some (8, false) }) (v := undef) rfl (by kernel_rfl) (by kernel_rfl) (by kernel_rfl) (fun _ _ _ h => h) (Or.inr ⟨by rfl, rfl⟩) hH0 ?_
  try simp only [Act.put, List.setIfInBounds_toArray, List.set_cons_zero, List.set_cons_succ]
  refine wpAnyH_take (i := 11) (oi := { dst := some 30, op := Op.load 30 (Operand.tmp 2), type := 30, pos := _, after := #[{ on := 8, ground := Ground.guard }], guard := some (8, false) }) (v := undef) rfl (by kernel_rfl) (by kernel_rfl) (by kernel_rfl) (fun _ _ _ h => h) (Or.inr ⟨by rfl, rfl⟩) hH0 ?_
  try simp only [Act.put, List.setIfInBounds_toArray, List.set_cons_zero, List.set_cons_succ]
  refine wpAnyH_take (i := 12) (oi := { dst := some 31, op := Op.call { callee := Callee.value (Operand.func 21), args := #[Operand.tmp 30], argTypes := #[30] }, type := 30, pos := _, after := #[{ on := 11, ground := Ground.data }, { on := 10, ground := Ground.chain }, { on := 8, ground := Ground.guard }], guard := some (8, false) }) (v := undef) rfl (by kernel_rfl) (by kernel_rfl) (by kernel_rfl) (fun _ _ _ h => h) (Or.inr ⟨by rfl, rfl⟩) hH0 ?_
  try simp only [Act.put, List.setIfInBounds_toArray, List.set_cons_zero, List.set_cons_succ]
  refine wpAnyH_take (i := 13) (oi := { dst := some 32, op := Op.call { callee := Callee.value (Operand.func 18), args := #[Operand.tmp 29, Operand.tmp 31], argTypes := #[30, 30] }, type := 4, pos := _, after := #[{ on := 10, ground := Ground.data }, { on := 12, ground := Ground.data }, { on := 12, ground := Ground.chain }, { on := 8, ground := Ground.guard }], guard := some (8, false) }) (v := undef) rfl (by kernel_rfl) (by kernel_rfl) (by kernel_rfl) (fun _ _ _ h => h) (Or.inr ⟨by rfl, rfl⟩) hH0 ?_
  try simp only [Act.put, List.setIfInBounds_toArray, List.set_cons_zero, List.set_cons_succ]
  refine wpAnyH_take (i := 14) (oi := { dst := some 33, op := Op.unOp UnOp.not 4 (Operand.tmp 32), type := 4, pos := _, after := #[{ on := 13, ground := Ground.data }, { on := 8, ground := Ground.guard }], guard := some (8, false) }) (v := undef) rfl (by kernel_rfl) (by kernel_rfl) (by kernel_rfl) (fun _ _ _ h => h) (Or.inr ⟨by rfl, rfl⟩) hH0 ?_
  try simp only [Act.put, List.setIfInBounds_toArray, List.set_cons_zero, List.set_cons_succ]
  refine wpAnyH_take (i := 15) (oi := { dst := some 34, op := Op.pick (Operand.tmp 27) (Operand.const (Value.bool true)) (Operand.tmp 33), type := 4, pos := _, after := #[{ on := 8, ground := Ground.data }, { on := 14, ground := Ground.data }, { on := 2, ground := Ground.guard }], guard := some (2, true) }) (v := undef) rfl (by kernel_rfl) (by kernel_rfl) (by kernel_rfl) (fun _ _ _ h => h) (Or.inr ⟨by rfl, rfl⟩) hH0 ?_
  try simp only [Act.put, List.setIfInBounds_toArray, List.set_cons_zero, List.set_cons_succ]
  refine wpAnyH_take (i := 16) (oi := { dst := some 35, op := Op.pick (Operand.tmp 21) (Operand.tmp 34) (Operand.const (Value.bool false)), type := 4, pos := _, after := #[{ on := 2, ground := Ground.data }, { on := 15, ground := Ground.data }], guard := none }) (v := ?vb_16) rfl (by kernel_rfl) (by kernel_rfl) (by kernel_rfl) (fun _ _ _ h => h) (Or.inl ⟨by rfl, ?yb_16⟩) hH0 ?rb_16
  case yb_16 => (intro w hSw; (try dsimp only at hSw); go_simp; try (with_reducible rfl))
  try simp only [Act.put, List.setIfInBounds_toArray, List.set_cons_zero, List.set_cons_succ]
  refine wpAnyH_done (by kernel_rfl) ?_ _
  have BX6 : Hid (w5.drew.heap[w.heap.size]? = _) := BX5
  have HB6 : Hid (Below w.heap.size w w5.drew) := Lib.hid (below_n HB5.out 1)
  have HO6 : Hid (Own w5.drew w2.heap.size 5 A3 n3 c3 (By (recL x))) := HO5
  clear BX5 HB5 HO5
  generalize w5.drew = w6 at *
  have k0 := rc_cell 0 (.int .i64 x.kind) BX6.out rfl
  have hkk : (decide (1 ≤ x.kind) && decide (x.kind ≤ 9)) = false := by simp; omega
  by_cases hk1 : 1 ≤ x.kind
  · have hk9 : ¬ x.kind ≤ 9 := fun h => hk ⟨hk1, h⟩
    go_wp2_with fail
    refine (copy_any A3 n3 c3 (recL x) w6 (HO6.out.bs HR3.out) (by omega)).mono ?_
    rintro e v1 ⟨A8, c8, rfl, ho8, hb8⟩
    have HB8 := Lib.hid (HB6.out.trans (hb8.mono HB6.out.size))
    have hbs8 := (HBB.out.keep HB8.out)
    have h63 : n3 + nB ≤ maxLen := by unfold maxLen; omega
    have hv1 := hb8.size
    go_wp2_with (at_builtin; refine wpList_append_rd rfl _ _ 28 rfl i5 (.int .u8 0) 1 Try.underlying28 hi5 hz50 hz51 hz52 rfl rfl ho8 AB nB cB (By bs) rfl hbs8.1 (By_one _) h63 (by omega) hv1 ?_)
    intro A10 c10 v2 ho10 hg10
    have HB10 := Lib.hid (HB6.out.trans ((hb8.trans (hg10.below hv1 (fun k hk => (ho8.lies k hk).1))).mono HB6.out.size))
    rw [← By_append] at ho10
    have HO10 := Lib.hid ho10
    clear ho8 hb8 HB8 ho10 hg10 hbs8 h63 hv1
    go_wp2_with fail
    by_cases hbe : bs = []
    · have hnB : nB = 0 := by have := HBB.out.len; rw [hbe] at this; simpa using this.symm
      subst hnB
      have hxx : recL x ++ bs = recL x := by rw [hbe]; simp
      rw [hxx] at HO10
      clear hxx
      refine (read_bad x A10 _ c10 v2 hk (HO10.out.bs HR3.out) HO10.out.cap (fun k hk => (HO10.out.lies k hk).2) (by omega)).mono ?_
      rintro e v3 ⟨rfl, hbf⟩
      have HBF := Lib.hid (HB10.out.trans (hbf.mono HB10.out.size))
      clear hbf
      go_wp2
      go_ret
      exact ⟨rfl, HBF.out.alloc HBF.out.size _⟩
    · have hnp : 0 < nB := Nat.pos_of_ne_zero (fun h0 => hbe (List.eq_nil_of_length_eq_zero (by rw [HBB.out.len]; exact h0)))
      have hnz : ((nB : Int) == 0) = false := by simp; omega
      refine (read_more x bs hbe A10 _ c10 v2 (HO10.out.bs (HR3.out.append HBB.out.2)) HO10.out.cap (fun k hk => (HO10.out.lies k hk).2) (by omega)).mono ?_
      rintro e v3 ⟨rfl, hbf⟩
      have HBF := Lib.hid (HB10.out.trans (hbf.mono HB10.out.size))
      clear hbf
      go_wp2
      go_ret
      exact ⟨rfl, HBF.out.alloc HBF.out.size _⟩
  · skip
    go_wp2_with fail
    refine (copy_any A3 n3 c3 (recL x) w6 (HO6.out.bs HR3.out) (by omega)).mono ?_
    rintro e v1 ⟨A8, c8, rfl, ho8, hb8⟩
    have HB8 := Lib.hid (HB6.out.trans (hb8.mono HB6.out.size))
    have hbs8 := (HBB.out.keep HB8.out)
    have h63 : n3 + nB ≤ maxLen := by unfold maxLen; omega
    have hv1 := hb8.size
    go_wp2_with (at_builtin; refine wpList_append_rd rfl _ _ 28 rfl i5 (.int .u8 0) 1 Try.underlying28 hi5 hz50 hz51 hz52 rfl rfl ho8 AB nB cB (By bs) rfl hbs8.1 (By_one _) h63 (by omega) hv1 ?_)
    intro A10 c10 v2 ho10 hg10
    have HB10 := Lib.hid (HB6.out.trans ((hb8.trans (hg10.below hv1 (fun k hk => (ho8.lies k hk).1))).mono HB6.out.size))
    rw [← By_append] at ho10
    have HO10 := Lib.hid ho10
    clear ho8 hb8 HB8 ho10 hg10 hbs8 h63 hv1
    go_wp2_with fail
    by_cases hbe : bs = []
    · have hnB : nB = 0 := by have := HBB.out.len; rw [hbe] at this; simpa using this.symm
      subst hnB
      have hxx : recL x ++ bs = recL x := by rw [hbe]; simp
      rw [hxx] at HO10
      clear hxx
      refine (read_bad x A10 _ c10 v2 hk (HO10.out.bs HR3.out) HO10.out.cap (fun k hk => (HO10.out.lies k hk).2) (by omega)).mono ?_
      rintro e v3 ⟨rfl, hbf⟩
      have HBF := Lib.hid (HB10.out.trans (hbf.mono HB10.out.size))
      clear hbf
      go_wp2
      go_ret
      exact ⟨rfl, HBF.out.alloc HBF.out.size _⟩
    · have hnp : 0 < nB := Nat.pos_of_ne_zero (fun h0 => hbe (List.eq_nil_of_length_eq_zero (by rw [HBB.out.len]; exact h0)))
      have hnz : ((nB : Int) == 0) = false := by simp; omega
      refine (read_more x bs hbe A10 _ c10 v2 (HO10.out.bs (HR3.out.append HBB.out.2)) HO10.out.cap (fun k hk => (HO10.out.lies k hk).2) (by omega)).mono ?_
      rintro e v3 ⟨rfl, hbf⟩
      have HBF := Lib.hid (HB10.out.trans (hbf.mono HB10.out.size))
      clear hbf
      go_wp2
      go_ret
      exact ⟨rfl, HBF.out.alloc HBF.out.size _⟩
end Go.Proofs.Ytmjjbfcblmmipaa
