/- leaf.Join of leaves: its texts lie apart. -/
import Derived.Test.YtmjjbfcblmmipaaJoinY
import Derived.Deep.CutRange
namespace Go.Proofs.Ytmjjbfcblmmipaa
set_option linter.unusedVariables false
set_option linter.unusedSimpArgs false
open Go.RowKit
set_option maxRecDepth 100000 in
set_option maxHeartbeats 16000000 in
theorem joinX_any (l : List Nde) (gj N cj : Nat) (w : World) (hN : l.length = N) (bN : N ≤ 1000) (hl : ∀ j x, l[j]? = some x → NdeR w gj (j * 4) x) (hgj : gj < w.heap.size) :
    Calls Try.prog 50 #[.slice (some ⟨gj, 0, none⟩) N cj] w fun e w' => ∃ A n c B m d, e = .returned (.agg #[.bool true, .slice A n c, .slice B m d, .slice none 0 0]) ∧ Prts w' w.heap.size A n c (jk l) ∧ Prts w' w.heap.size B m d (jv l) ∧ (blk A = none ∨ blk A ≠ blk B) ∧ XD w' A n B m ∧ Below w.heap.size w w' := by
  obtain ⟨i0, hi, hz0, hz1, hz2⟩ := info_parts info23
  have HLN := Lib.hid hN; have HL := Lib.hid hl
  obtain ⟨oj, HOJ⟩ : ∃ oj : Nat, Hid (oj = 0) := ⟨0, rfl⟩
  have hsz : (w.alloc (.cells ndZ 70)).heap.size = w.heap.size + 1 := by simp
  have J0 : Hid (JX w none 0 0 [] none 0 0 [] ((w.alloc (.cells ndZ 70)).alloc (.cells #[.bool true, .slice none 0 0, .slice none 0 0, .slice none 0 0] 70))) := Lib.hid (by
    have hb1 := below_alloc w (.cells ndZ 70)
    have hb2 := below_alloc (w.alloc (.cells ndZ 70)) (.cells #[.bool true, .slice none 0 0, .slice none 0 0, .slice none 0 0] 70)
    have n2 := heap_alloc_new (w.alloc (.cells ndZ 70)) (.cells #[.bool true, .slice none 0 0, .slice none 0 0, .slice none 0 0] 70)
    rw [hsz] at n2
    exact ⟨⟨(hb2.block _ (by omega)).trans (heap_alloc_new w _), n2, Prts.nil_, Prts.nil_, .inl rfl, hb1.trans (hb2.mono (by omega))⟩, XD.nil1 _ _ _ _⟩)
  clear hN hl
  go_enter Try.func50, Try.ntmps50
  go_wp2_with fail
  generalize (w.alloc (.cells ndZ 70)).alloc (.cells #[.bool true, .slice none 0 0, .slice none 0 0, .slice none 0 0] 70) = y at *
  go_loopw [9] (fun iv wr => ∃ (kk n c m d : Nat) (A B : Option Addr), iv = .int .i64 (kk : Int) ∧ kk ≤ N ∧ n ≤ kk * 100000 ∧ m ≤ kk * 100000 ∧ Hid (JX w A n c (jk (l.take kk)) B m d (jv (l.take kk)) wr)) (fun iv _ => N - (intOf iv).toNat)
  case atStart => exact ⟨0, 0, 0, 0, 0, none, none, rfl, Nat.zero_le _, Nat.le_refl _, Nat.le_refl _, J0⟩
  case round =>
    obtain ⟨kk, n, c, m, d, A, B, rfl, hk, hnn, hmm, HJ⟩ := hrel
    by_cases hlt : kk < N
    · obtain ⟨x, HXK⟩ : ∃ x, Hid (l[kk]? = some x) := ⟨_, List.getElem?_eq_getElem (by rw [HLN.out]; exact hlt)⟩
      have hx := HL.out kk x HXK.out
      have HKS := Lib.hid (jk_take HXK.out); have HVS := Lib.hid (jv_take HXK.out)
      obtain ⟨A1, n1, c1, A2, n2, c2, A3, n3, c3, ks, vs⟩ := x
      have hb := HJ.out.t.hb
      have p0 := (cell_keep hb hx.c0); have p1 := (cell_keep hb hx.c1); have p2 := (cell_keep hb hx.c2); have p3 := (cell_keep hb hx.c3)
      have HK1 := Lib.hid (hx.k.keep hb); have HV1 := Lib.hid (hx.v.keep hb); have HV := Lib.hid hx.v
      have b1 : n1 ≤ 100000 := hx.b1; have b2 : n2 ≤ 100000 := hx.b2
      have HL1 := Lib.hid hx.l1; have HL2 := Lib.hid hx.l2
      simp only at p0 p1 p2 p3 HKS HVS HL1 HL2 HK1 HV1 HV
      clear hx hb
      have ha := below_alloc wr (.cells #[.bool true, .slice A1 n1 c1, .slice A2 n2 c2, .slice A3 n3 c3] 70)
      have HJ1 := Lib.hid (HJ.out.keep ha)
      have HK2 := Lib.hid (HK1.out.keep ha); have HV2 := Lib.hid (HV1.out.keep ha)
      have NB := Lib.hid (heap_alloc_new wr (.cells #[.bool true, .slice A1 n1 c1, .slice A2 n2 c2, .slice A3 n3 c3] 70))
      have z0 : (0 : Int) ≤ (kk : Int) := by omega
      have z1 : (kk : Int) < (N : Int) := by omega
      have hwz := HJ.out.t.hb.size
      have hgl := lt_of_heap HJ.out.t.g3
      clear ha
      go_upto_region 6 with fail

      generalize wr.alloc (.cells #[.bool true, .slice A1 n1 c1, .slice A2 n2 c2, .slice A3 n3 c3] 70) = y1 at *
      go_cut [] from 15 to 29 (fun wx => ∃ (AE : Option Addr) (cE : Nat), Hid (JX w AE (n + n1) cE ((jk (l.take kk)) ++ ks) B m d (jv (l.take kk)) wx) ∧ Hid (wx.heap[wr.heap.size]? = some (.cells #[.bool true, .slice A1 n1 c1, .slice A2 n2 c2, .slice A3 n3 c3] 70 (0, 0))))
      case first =>
        have HJd := Lib.hid (HJ1.out.keep ((Dr.refl y1).one.below _)); have NBd : Hid (y1.drew.heap[wr.heap.size]? = some (.cells #[.bool true, .slice A1 n1 c1, .slice A2 n2 c2, .slice A3 n3 c3] 70 (0, 0))) := NB; have BLd : Hid (Below y1.heap.size y1 y1.drew) := Lib.hid ((Dr.refl y1).one.below _)
        refine wp_region_held_drew (S := fun w' => w'.cell? ⟨wr.heap.size, 1, none⟩ = some (.slice A1 n1 c1) ∧ True) (by kernel_rfl) ⟨rc_cell 1 _ NBd.out rfl, trivial⟩ (fun hH0 => ?_)
        generalize y1.drew = yd at *
        refine wpAnyH_take (i := 0) (oi := { dst := some 15, op := Op.fieldAddr 70 (Operand.tmp 3) 1, type := 0, pos := _, after := #[], guard := none }) (v := ?vj61_0) rfl (by kernel_rfl) (by kernel_rfl) (by kernel_rfl) (fun _ _ _ h => h) (Or.inl ⟨by rfl, ?yj61_0⟩) hH0 ?rj61_0
        case yj61_0 => (intro w hSw; (try dsimp only at hSw); go_simp; try (with_reducible rfl))
        try simp only [Act.put, List.setIfInBounds_toArray, List.set_cons_zero, List.set_cons_succ]
        refine wpAnyH_take (i := 2) (oi := { dst := some 17, op := Op.fieldAddr 70 (Operand.tmp 5) 1, type := 0, pos := _, after := #[], guard := none }) (v := ?vj61_2) rfl (by kernel_rfl) (by kernel_rfl) (by kernel_rfl) (fun _ _ _ h => h) (Or.inl ⟨by rfl, ?yj61_2⟩) hH0 ?rj61_2
        case yj61_2 => (intro w hSw; (try dsimp only at hSw); go_simp; try (with_reducible rfl))
        try simp only [Act.put, List.setIfInBounds_toArray, List.set_cons_zero, List.set_cons_succ]
        refine wpAnyH_take (i := 3) (oi := { dst := some 18, op := Op.load 62 (Operand.tmp 17), type := 62, pos := _, after := #[{ on := 2, ground := Ground.data }], guard := none }) (v := ?vj61_3) rfl (by kernel_rfl) (by kernel_rfl) (by kernel_rfl) (fun _ _ _ h => h) (Or.inl ⟨by rfl, ?yj61_3⟩) hH0 ?rj61_3
        case yj61_3 => (intro w hSw; (try dsimp only at hSw); go_simp; try (with_reducible rfl))
        try simp only [Act.put, List.setIfInBounds_toArray, List.set_cons_zero, List.set_cons_succ]
        refine wpAnyH_ready (rs := [1, 4]) (by kernel_rfl) (by simp) ?_
        refine (AllReadyH.cons (o := { dst := some 16, op := Op.load 62 (Operand.tmp 15), type := 62, pos := _, after := #[{ on := 0, ground := Ground.data }], guard := none }) rfl (fun K hK => ?_) (AllReadyH.cons (o := { dst := some 19, op := Op.call { callee := Callee.value (Operand.func 102), args := #[Operand.tmp 18], argTypes := #[62] }, type := 62, pos := _, after := #[{ on := 3, ground := Ground.data }], guard := none }) rfl (fun K hK => ?_) AllReadyH.nil))
        · have lc2 := rc_cell 1 (.slice A n c) HJd.out.t.g3 rfl
          go_simp
          refine hK.out _ _ ⟨rc_cell 1 _ NBd.out rfl, trivial⟩ (fun hH2 => ?_)
          clear hK K
          try simp only [Act.put, List.setIfInBounds_toArray, List.set_cons_zero, List.set_cons_succ]
          refine wpAnyH_ready (rs := [4]) (by kernel_rfl) (by simp) ?_
          refine (AllReadyH.cons (o := { dst := some 19, op := Op.call { callee := Callee.value (Operand.func 102), args := #[Operand.tmp 18], argTypes := #[62] }, type := 62, pos := _, after := #[{ on := 3, ground := Ground.data }], guard := none }) rfl (fun K hK => ?_) AllReadyH.nil)
          go_simp
          refine (texts_any A1 n1 c1 ks yd (HK2.out.keep BLd.out) b1 HL1.out).mono ?_
          rintro e x4 ⟨T, ct, rfl, pT, hb4⟩
          obtain ⟨us0, us, ho, hr, h1u, HROW⟩ := Prts.two HJd.out.t.pk hb4 pT HJd.out.t.hb.size
          have HJ4 := Lib.hid (HJd.out.keep hb4); have NB4 := Lib.hid ((hb4.block _ (lt_of_heap NBd.out)).trans NBd.out); have BL4 := Lib.hid (BLd.out.trans (hb4.mono BLd.out.size))
          have NX4 := Lib.hid ((NewT.of pT (fun us ho => ho.rd) (Nat.le_refl _)) us hr); have OD4 := Lib.hid (OldT.of (w' := x4) HJd.out.t.pv (fun us hu => (hu.below hb4 (fun k hk => (hu.lies k hk).2)).rd) (Nat.le_refl _))
          clear pT hb4
          go_wp2_with fail
          refine hK.out _ _ ⟨rc_cell 1 _ NB4.out rfl, trivial⟩ (fun hH4 => ?_)
          clear hK K
          try simp only [Act.put, List.setIfInBounds_toArray, List.set_cons_zero, List.set_cons_succ]
          refine wpAnyH_ready (rs := [5]) (by kernel_rfl) (by simp) ?_
          refine (AllReadyH.cons (o := { dst := some 20, op := Op.call { callee := Callee.builtin Builtin.append, args := #[Operand.tmp 16, Operand.tmp 19], argTypes := #[62, 62] }, type := 62, pos := _, after := #[{ on := 1, ground := Ground.data }, { on := 4, ground := Ground.data }, { on := 4, ground := Ground.chain }], guard := none }) rfl (fun K hK => ?_) AllReadyH.nil)
          refine step_append_rd rfl (.tmp 16) (.tmp 19) 62 rfl i0 (.slice none 0 0) 24 Try.underlying62 hi hz0 hz1 hz2 rfl (by simp [Act.eval, Act.put]) ho T n1 ct us (by simp [Act.eval, Act.put]) hr h1u (by unfold maxLen; omega) (by omega) HJ4.out.t.hb.size ?_
          intro AE cE x6 oE gE
          have HPE := HROW.out x6 AE cE oE gE
          have HA6 := Lib.hid (HJ4.out.app1 ho gE HPE oE NX4.out OD4.out)
          have NB6 := Lib.hid ((gE.1.block _ (lt_of_heap NB4.out) (ho.ne_blk NB4.out (by decide)).symm).trans NB4.out)
          have gsz := gE.1.size
          clear oE gE HPE HROW ho hr
          refine hK.out _ _ ⟨rc_cell 1 _ NB6.out rfl, trivial⟩ (fun hH6 => ?_)
          clear hK K
          try simp only [Act.put, List.setIfInBounds_toArray, List.set_cons_zero, List.set_cons_succ]
          refine wpAnyH_take (i := 6) (oi := { dst := some 21, op := Op.fieldAddr 70 (Operand.tmp 3) 1, type := 0, pos := _, after := #[{ on := 0, ground := Ground.phase }, { on := 1, ground := Ground.phase }, { on := 2, ground := Ground.phase }, { on := 3, ground := Ground.phase }, { on := 4, ground := Ground.phase }, { on := 5, ground := Ground.phase }], guard := none }) (v := ?vj67_6) rfl (by kernel_rfl) (by kernel_rfl) (by kernel_rfl) (fun _ _ _ h => h) (Or.inl ⟨by rfl, ?yj67_6⟩) hH6 ?rj67_6
          case yj67_6 => (intro w hSw; (try dsimp only at hSw); go_simp; try (with_reducible rfl))
          try simp only [Act.put, List.setIfInBounds_toArray, List.set_cons_zero, List.set_cons_succ]
          refine wpAnyH_ready (rs := [7]) (by kernel_rfl) (by simp) ?_
          refine (AllReadyH.cons (o := { dst := none, op := Op.store 62 (Operand.tmp 21) (Operand.tmp 20), type := 0, pos := _, after := #[{ on := 6, ground := Ground.data }, { on := 5, ground := Ground.data }, { on := 5, ground := Ground.chain }, { on := 0, ground := Ground.phase }, { on := 1, ground := Ground.phase }, { on := 2, ground := Ground.phase }, { on := 3, ground := Ground.phase }, { on := 4, ground := Ground.phase }, { on := 5, ground := Ground.phase }], guard := none }) rfl (fun K hK => ?_) AllReadyH.nil)
          have c8 := rc_cell 1 (.slice A n c) HA6.out.1 rfl; have f8 := two_frozen (i := 1) HA6.out.1
          have HJ8 := Lib.hid HA6.out.2
          have NB8 := Lib.hid (((onl_set x6 (w.heap.size + 1) 1 (.slice AE (n + n1) cE)).block _ (lt_of_heap NB6.out) (by intro e; injection e with e; omega)).trans NB6.out)
          go_simp
          refine hK.out _ _ ⟨rc_cell 1 _ NB8.out rfl, trivial⟩ (fun hH8 => ?_)
          clear hK K
          try simp only [Act.put, List.setIfInBounds_toArray, List.set_cons_zero, List.set_cons_succ]
          clear HA6 c8 f8
          generalize x6.setCell ⟨w.heap.size + 1, 1, none⟩ (.slice AE (n + n1) cE) = s8 at *
          refine wpAnyH_done (by kernel_rfl) ?_ _
          go_wp2_with fail
          go_meet
          case rel => exact ⟨AE, cE, HJ8, NB8⟩
        · go_simp
          refine (texts_any A1 n1 c1 ks yd (HK2.out.keep BLd.out) b1 HL1.out).mono ?_
          rintro e x10 ⟨T, ct, rfl, pT, hb10⟩
          obtain ⟨us0, us, ho, hr, h1u, HROW⟩ := Prts.two HJd.out.t.pk hb10 pT HJd.out.t.hb.size
          have HJ10 := Lib.hid (HJd.out.keep hb10); have NB10 := Lib.hid ((hb10.block _ (lt_of_heap NBd.out)).trans NBd.out); have BL10 := Lib.hid (BLd.out.trans (hb10.mono BLd.out.size))
          have NX10 := Lib.hid ((NewT.of pT (fun us ho => ho.rd) (Nat.le_refl _)) us hr); have OD10 := Lib.hid (OldT.of (w' := x10) HJd.out.t.pv (fun us hu => (hu.below hb10 (fun k hk => (hu.lies k hk).2)).rd) (Nat.le_refl _))
          clear pT hb10
          go_wp2_with fail
          refine hK.out _ _ ⟨rc_cell 1 _ NB10.out rfl, trivial⟩ (fun hH10 => ?_)
          clear hK K
          try simp only [Act.put, List.setIfInBounds_toArray, List.set_cons_zero, List.set_cons_succ]
          refine wpAnyH_ready (rs := [1]) (by kernel_rfl) (by simp) ?_
          refine (AllReadyH.cons (o := { dst := some 16, op := Op.load 62 (Operand.tmp 15), type := 62, pos := _, after := #[{ on := 0, ground := Ground.data }], guard := none }) rfl (fun K hK => ?_) AllReadyH.nil)
          have lc12 := rc_cell 1 (.slice A n c) HJ10.out.t.g3 rfl
          go_simp
          refine hK.out _ _ ⟨rc_cell 1 _ NB10.out rfl, trivial⟩ (fun hH12 => ?_)
          clear hK K
          try simp only [Act.put, List.setIfInBounds_toArray, List.set_cons_zero, List.set_cons_succ]
          refine wpAnyH_ready (rs := [5]) (by kernel_rfl) (by simp) ?_
          refine (AllReadyH.cons (o := { dst := some 20, op := Op.call { callee := Callee.builtin Builtin.append, args := #[Operand.tmp 16, Operand.tmp 19], argTypes := #[62, 62] }, type := 62, pos := _, after := #[{ on := 1, ground := Ground.data }, { on := 4, ground := Ground.data }, { on := 4, ground := Ground.chain }], guard := none }) rfl (fun K hK => ?_) AllReadyH.nil)
          refine step_append_rd rfl (.tmp 16) (.tmp 19) 62 rfl i0 (.slice none 0 0) 24 Try.underlying62 hi hz0 hz1 hz2 rfl (by simp [Act.eval, Act.put]) ho T n1 ct us (by simp [Act.eval, Act.put]) hr h1u (by unfold maxLen; omega) (by omega) HJ10.out.t.hb.size ?_
          intro AE cE x14 oE gE
          have HPE := HROW.out x14 AE cE oE gE
          have HA14 := Lib.hid (HJ10.out.app1 ho gE HPE oE NX10.out OD10.out)
          have NB14 := Lib.hid ((gE.1.block _ (lt_of_heap NB10.out) (ho.ne_blk NB10.out (by decide)).symm).trans NB10.out)
          have gsz := gE.1.size
          clear oE gE HPE HROW ho hr
          refine hK.out _ _ ⟨rc_cell 1 _ NB14.out rfl, trivial⟩ (fun hH14 => ?_)
          clear hK K
          try simp only [Act.put, List.setIfInBounds_toArray, List.set_cons_zero, List.set_cons_succ]
          refine wpAnyH_take (i := 6) (oi := { dst := some 21, op := Op.fieldAddr 70 (Operand.tmp 3) 1, type := 0, pos := _, after := #[{ on := 0, ground := Ground.phase }, { on := 1, ground := Ground.phase }, { on := 2, ground := Ground.phase }, { on := 3, ground := Ground.phase }, { on := 4, ground := Ground.phase }, { on := 5, ground := Ground.phase }], guard := none }) (v := ?vj615_6) rfl (by kernel_rfl) (by kernel_rfl) (by kernel_rfl) (fun _ _ _ h => h) (Or.inl ⟨by rfl, ?yj615_6⟩) hH14 ?rj615_6
          case yj615_6 => (intro w hSw; (try dsimp only at hSw); go_simp; try (with_reducible rfl))
          try simp only [Act.put, List.setIfInBounds_toArray, List.set_cons_zero, List.set_cons_succ]
          refine wpAnyH_ready (rs := [7]) (by kernel_rfl) (by simp) ?_
          refine (AllReadyH.cons (o := { dst := none, op := Op.store 62 (Operand.tmp 21) (Operand.tmp 20), type := 0, pos := _, after := #[{ on := 6, ground := Ground.data }, { on := 5, ground := Ground.data }, { on := 5, ground := Ground.chain }, { on := 0, ground := Ground.phase }, { on := 1, ground := Ground.phase }, { on := 2, ground := Ground.phase }, { on := 3, ground := Ground.phase }, { on := 4, ground := Ground.phase }, { on := 5, ground := Ground.phase }], guard := none }) rfl (fun K hK => ?_) AllReadyH.nil)
          have c16 := rc_cell 1 (.slice A n c) HA14.out.1 rfl; have f16 := two_frozen (i := 1) HA14.out.1
          have HJ16 := Lib.hid HA14.out.2
          have NB16 := Lib.hid (((onl_set x14 (w.heap.size + 1) 1 (.slice AE (n + n1) cE)).block _ (lt_of_heap NB14.out) (by intro e; injection e with e; omega)).trans NB14.out)
          go_simp
          refine hK.out _ _ ⟨rc_cell 1 _ NB16.out rfl, trivial⟩ (fun hH16 => ?_)
          clear hK K
          try simp only [Act.put, List.setIfInBounds_toArray, List.set_cons_zero, List.set_cons_succ]
          clear HA14 c16 f16
          generalize x14.setCell ⟨w.heap.size + 1, 1, none⟩ (.slice AE (n + n1) cE) = s16 at *
          refine wpAnyH_done (by kernel_rfl) ?_ _
          go_wp2_with fail
          go_meet
          case rel => exact ⟨AE, cE, HJ16, NB16⟩
      obtain ⟨AX, cX, HJ2, NB2⟩ := hcut
      clear HJ1 NB HK2
      have hwc := HJ2.out.t.hb.size
      have HV3 := Lib.hid (HV.out.keep HJ2.out.t.hb)
      go_upto_region 7 with fail
      have HJd := Lib.hid (HJ2.out.keep ((Dr.refl wc).one.below _)); have NBd : Hid (wc.drew.heap[wr.heap.size]? = some (.cells #[.bool true, .slice A1 n1 c1, .slice A2 n2 c2, .slice A3 n3 c3] 70 (0, 0))) := NB2; have BLd : Hid (Below wc.heap.size wc wc.drew) := Lib.hid ((Dr.refl wc).one.below _)
      refine wp_region_held_drew (S := fun w' => w'.cell? ⟨wr.heap.size, 2, none⟩ = some (.slice A2 n2 c2) ∧ True) (by kernel_rfl) ⟨rc_cell 2 _ NBd.out rfl, trivial⟩ (fun hH0 => ?_)
      generalize wc.drew = yd at *
      refine wpAnyH_take (i := 0) (oi := { dst := some 22, op := Op.fieldAddr 70 (Operand.tmp 3) 2, type := 0, pos := _, after := #[], guard := none }) (v := ?vj71_0) rfl (by kernel_rfl) (by kernel_rfl) (by kernel_rfl) (fun _ _ _ h => h) (Or.inl ⟨by rfl, ?yj71_0⟩) hH0 ?rj71_0
      case yj71_0 => (intro w hSw; (try dsimp only at hSw); go_simp; try (with_reducible rfl))
      try simp only [Act.put, List.setIfInBounds_toArray, List.set_cons_zero, List.set_cons_succ]
      refine wpAnyH_take (i := 2) (oi := { dst := some 24, op := Op.fieldAddr 70 (Operand.tmp 5) 2, type := 0, pos := _, after := #[], guard := none }) (v := ?vj71_2) rfl (by kernel_rfl) (by kernel_rfl) (by kernel_rfl) (fun _ _ _ h => h) (Or.inl ⟨by rfl, ?yj71_2⟩) hH0 ?rj71_2
      case yj71_2 => (intro w hSw; (try dsimp only at hSw); go_simp; try (with_reducible rfl))
      try simp only [Act.put, List.setIfInBounds_toArray, List.set_cons_zero, List.set_cons_succ]
      refine wpAnyH_take (i := 3) (oi := { dst := some 25, op := Op.load 62 (Operand.tmp 24), type := 62, pos := _, after := #[{ on := 2, ground := Ground.data }], guard := none }) (v := ?vj71_3) rfl (by kernel_rfl) (by kernel_rfl) (by kernel_rfl) (fun _ _ _ h => h) (Or.inl ⟨by rfl, ?yj71_3⟩) hH0 ?rj71_3
      case yj71_3 => (intro w hSw; (try dsimp only at hSw); go_simp; try (with_reducible rfl))
      try simp only [Act.put, List.setIfInBounds_toArray, List.set_cons_zero, List.set_cons_succ]
      refine wpAnyH_ready (rs := [1, 4]) (by kernel_rfl) (by simp) ?_
      refine (AllReadyH.cons (o := { dst := some 23, op := Op.load 62 (Operand.tmp 22), type := 62, pos := _, after := #[{ on := 0, ground := Ground.data }], guard := none }) rfl (fun K hK => ?_) (AllReadyH.cons (o := { dst := some 26, op := Op.call { callee := Callee.value (Operand.func 102), args := #[Operand.tmp 25], argTypes := #[62] }, type := 62, pos := _, after := #[{ on := 3, ground := Ground.data }], guard := none }) rfl (fun K hK => ?_) AllReadyH.nil))
      · have lc2 := rc_cell 2 (.slice B m d) HJd.out.t.g3 rfl
        go_simp
        refine hK.out _ _ ⟨rc_cell 2 _ NBd.out rfl, trivial⟩ (fun hH2 => ?_)
        clear hK K
        try simp only [Act.put, List.setIfInBounds_toArray, List.set_cons_zero, List.set_cons_succ]
        refine wpAnyH_ready (rs := [4]) (by kernel_rfl) (by simp) ?_
        refine (AllReadyH.cons (o := { dst := some 26, op := Op.call { callee := Callee.value (Operand.func 102), args := #[Operand.tmp 25], argTypes := #[62] }, type := 62, pos := _, after := #[{ on := 3, ground := Ground.data }], guard := none }) rfl (fun K hK => ?_) AllReadyH.nil)
        go_simp
        refine (texts_any A2 n2 c2 vs yd (HV3.out.keep BLd.out) b2 HL2.out).mono ?_
        rintro e x4 ⟨T, ct, rfl, pT, hb4⟩
        obtain ⟨us0, us, ho, hr, h1u, HROW⟩ := Prts.two HJd.out.t.pv hb4 pT HJd.out.t.hb.size
        have HJ4 := Lib.hid (HJd.out.keep hb4); have NB4 := Lib.hid ((hb4.block _ (lt_of_heap NBd.out)).trans NBd.out); have BL4 := Lib.hid (BLd.out.trans (hb4.mono BLd.out.size))
        have NX4 := Lib.hid ((NewT.of pT (fun us ho => ho.rd) (Nat.le_refl _)) us hr); have OD4 := Lib.hid (OldT.of (w' := x4) HJd.out.t.pk (fun us hu => (hu.below hb4 (fun k hk => (hu.lies k hk).2)).rd) (Nat.le_refl _))
        clear pT hb4
        go_wp2_with fail
        refine hK.out _ _ ⟨rc_cell 2 _ NB4.out rfl, trivial⟩ (fun hH4 => ?_)
        clear hK K
        try simp only [Act.put, List.setIfInBounds_toArray, List.set_cons_zero, List.set_cons_succ]
        refine wpAnyH_ready (rs := [5]) (by kernel_rfl) (by simp) ?_
        refine (AllReadyH.cons (o := { dst := some 27, op := Op.call { callee := Callee.builtin Builtin.append, args := #[Operand.tmp 23, Operand.tmp 26], argTypes := #[62, 62] }, type := 62, pos := _, after := #[{ on := 1, ground := Ground.data }, { on := 4, ground := Ground.data }, { on := 4, ground := Ground.chain }], guard := none }) rfl (fun K hK => ?_) AllReadyH.nil)
        refine step_append_rd rfl (.tmp 23) (.tmp 26) 62 rfl i0 (.slice none 0 0) 24 Try.underlying62 hi hz0 hz1 hz2 rfl (by simp [Act.eval, Act.put]) ho T n2 ct us (by simp [Act.eval, Act.put]) hr h1u (by unfold maxLen; omega) (by omega) HJ4.out.t.hb.size ?_
        intro AE cE x6 oE gE
        have HPE := HROW.out x6 AE cE oE gE
        have HA6 := Lib.hid (HJ4.out.app2 ho gE HPE oE NX4.out OD4.out)
        have NB6 := Lib.hid ((gE.1.block _ (lt_of_heap NB4.out) (ho.ne_blk NB4.out (by decide)).symm).trans NB4.out)
        have gsz := gE.1.size
        clear oE gE HPE HROW ho hr
        refine hK.out _ _ ⟨rc_cell 2 _ NB6.out rfl, trivial⟩ (fun hH6 => ?_)
        clear hK K
        try simp only [Act.put, List.setIfInBounds_toArray, List.set_cons_zero, List.set_cons_succ]
        refine wpAnyH_take (i := 6) (oi := { dst := some 28, op := Op.fieldAddr 70 (Operand.tmp 3) 2, type := 0, pos := _, after := #[{ on := 0, ground := Ground.phase }, { on := 1, ground := Ground.phase }, { on := 2, ground := Ground.phase }, { on := 3, ground := Ground.phase }, { on := 4, ground := Ground.phase }, { on := 5, ground := Ground.phase }], guard := none }) (v := ?vj77_6) rfl (by kernel_rfl) (by kernel_rfl) (by kernel_rfl) (fun _ _ _ h => h) (Or.inl ⟨by rfl, ?yj77_6⟩) hH6 ?rj77_6
        case yj77_6 => (intro w hSw; (try dsimp only at hSw); go_simp; try (with_reducible rfl))
        try simp only [Act.put, List.setIfInBounds_toArray, List.set_cons_zero, List.set_cons_succ]
        refine wpAnyH_ready (rs := [7]) (by kernel_rfl) (by simp) ?_
        refine (AllReadyH.cons (o := { dst := none, op := Op.store 62 (Operand.tmp 28) (Operand.tmp 27), type := 0, pos := _, after := #[{ on := 6, ground := Ground.data }, { on := 5, ground := Ground.data }, { on := 5, ground := Ground.chain }, { on := 0, ground := Ground.phase }, { on := 1, ground := Ground.phase }, { on := 2, ground := Ground.phase }, { on := 3, ground := Ground.phase }, { on := 4, ground := Ground.phase }, { on := 5, ground := Ground.phase }], guard := none }) rfl (fun K hK => ?_) AllReadyH.nil)
        have c8 := rc_cell 2 (.slice B m d) HA6.out.1 rfl; have f8 := two_frozen (i := 2) HA6.out.1
        have HJ8 := Lib.hid HA6.out.2
        have NB8 := Lib.hid (((onl_set x6 (w.heap.size + 1) 2 (.slice AE (m + n2) cE)).block _ (lt_of_heap NB6.out) (by intro e; injection e with e; omega)).trans NB6.out)
        go_simp
        refine hK.out _ _ ⟨rc_cell 2 _ NB8.out rfl, trivial⟩ (fun hH8 => ?_)
        clear hK K
        try simp only [Act.put, List.setIfInBounds_toArray, List.set_cons_zero, List.set_cons_succ]
        clear HA6 c8 f8
        generalize x6.setCell ⟨w.heap.size + 1, 2, none⟩ (.slice AE (m + n2) cE) = s8 at *
        refine wpAnyH_done (by kernel_rfl) ?_ _
        have HJz := HJ8
        rw [← HKS.out, ← HVS.out] at HJz
        go_wp2
        go_roundw
        case rel => exact ⟨kk + 1, n + n1, cX, m + n2, cE, AX, AE, by go_num, by omega, by omega, by omega, HJz⟩
        case measure => simp [intOf]; omega
      · go_simp
        refine (texts_any A2 n2 c2 vs yd (HV3.out.keep BLd.out) b2 HL2.out).mono ?_
        rintro e x10 ⟨T, ct, rfl, pT, hb10⟩
        obtain ⟨us0, us, ho, hr, h1u, HROW⟩ := Prts.two HJd.out.t.pv hb10 pT HJd.out.t.hb.size
        have HJ10 := Lib.hid (HJd.out.keep hb10); have NB10 := Lib.hid ((hb10.block _ (lt_of_heap NBd.out)).trans NBd.out); have BL10 := Lib.hid (BLd.out.trans (hb10.mono BLd.out.size))
        have NX10 := Lib.hid ((NewT.of pT (fun us ho => ho.rd) (Nat.le_refl _)) us hr); have OD10 := Lib.hid (OldT.of (w' := x10) HJd.out.t.pk (fun us hu => (hu.below hb10 (fun k hk => (hu.lies k hk).2)).rd) (Nat.le_refl _))
        clear pT hb10
        go_wp2_with fail
        refine hK.out _ _ ⟨rc_cell 2 _ NB10.out rfl, trivial⟩ (fun hH10 => ?_)
        clear hK K
        try simp only [Act.put, List.setIfInBounds_toArray, List.set_cons_zero, List.set_cons_succ]
        refine wpAnyH_ready (rs := [1]) (by kernel_rfl) (by simp) ?_
        refine (AllReadyH.cons (o := { dst := some 23, op := Op.load 62 (Operand.tmp 22), type := 62, pos := _, after := #[{ on := 0, ground := Ground.data }], guard := none }) rfl (fun K hK => ?_) AllReadyH.nil)
        have lc12 := rc_cell 2 (.slice B m d) HJ10.out.t.g3 rfl
        go_simp
        refine hK.out _ _ ⟨rc_cell 2 _ NB10.out rfl, trivial⟩ (fun hH12 => ?_)
        clear hK K
        try simp only [Act.put, List.setIfInBounds_toArray, List.set_cons_zero, List.set_cons_succ]
        refine wpAnyH_ready (rs := [5]) (by kernel_rfl) (by simp) ?_
        refine (AllReadyH.cons (o := { dst := some 27, op := Op.call { callee := Callee.builtin Builtin.append, args := #[Operand.tmp 23, Operand.tmp 26], argTypes := #[62, 62] }, type := 62, pos := _, after := #[{ on := 1, ground := Ground.data }, { on := 4, ground := Ground.data }, { on := 4, ground := Ground.chain }], guard := none }) rfl (fun K hK => ?_) AllReadyH.nil)
        refine step_append_rd rfl (.tmp 23) (.tmp 26) 62 rfl i0 (.slice none 0 0) 24 Try.underlying62 hi hz0 hz1 hz2 rfl (by simp [Act.eval, Act.put]) ho T n2 ct us (by simp [Act.eval, Act.put]) hr h1u (by unfold maxLen; omega) (by omega) HJ10.out.t.hb.size ?_
        intro AE cE x14 oE gE
        have HPE := HROW.out x14 AE cE oE gE
        have HA14 := Lib.hid (HJ10.out.app2 ho gE HPE oE NX10.out OD10.out)
        have NB14 := Lib.hid ((gE.1.block _ (lt_of_heap NB10.out) (ho.ne_blk NB10.out (by decide)).symm).trans NB10.out)
        have gsz := gE.1.size
        clear oE gE HPE HROW ho hr
        refine hK.out _ _ ⟨rc_cell 2 _ NB14.out rfl, trivial⟩ (fun hH14 => ?_)
        clear hK K
        try simp only [Act.put, List.setIfInBounds_toArray, List.set_cons_zero, List.set_cons_succ]
        refine wpAnyH_take (i := 6) (oi := { dst := some 28, op := Op.fieldAddr 70 (Operand.tmp 3) 2, type := 0, pos := _, after := #[{ on := 0, ground := Ground.phase }, { on := 1, ground := Ground.phase }, { on := 2, ground := Ground.phase }, { on := 3, ground := Ground.phase }, { on := 4, ground := Ground.phase }, { on := 5, ground := Ground.phase }], guard := none }) (v := ?vj715_6) rfl (by kernel_rfl) (by kernel_rfl) (by kernel_rfl) (fun _ _ _ h => h) (Or.inl ⟨by rfl, ?yj715_6⟩) hH14 ?rj715_6
        case yj715_6 => (intro w hSw; (try dsimp only at hSw); go_simp; try (with_reducible rfl))
        try simp only [Act.put, List.setIfInBounds_toArray, List.set_cons_zero, List.set_cons_succ]
        refine wpAnyH_ready (rs := [7]) (by kernel_rfl) (by simp) ?_
        refine (AllReadyH.cons (o := { dst := none, op := Op.store 62 (Operand.tmp 28) (Operand.tmp 27), type := 0, pos := _, after := #[{ on := 6, ground := Ground.data }, { on := 5, ground := Ground.data }, { on := 5, ground := Ground.chain }, { on := 0, ground := Ground.phase }, { on := 1, ground := Ground.phase }, { on := 2, ground := Ground.phase }, { on := 3, ground := Ground.phase }, { on := 4, ground := Ground.phase }, { on := 5, ground := Ground.phase }], guard := none }) rfl (fun K hK => ?_) AllReadyH.nil)
        have c16 := rc_cell 2 (.slice B m d) HA14.out.1 rfl; have f16 := two_frozen (i := 2) HA14.out.1
        have HJ16 := Lib.hid HA14.out.2
        have NB16 := Lib.hid (((onl_set x14 (w.heap.size + 1) 2 (.slice AE (m + n2) cE)).block _ (lt_of_heap NB14.out) (by intro e; injection e with e; omega)).trans NB14.out)
        go_simp
        refine hK.out _ _ ⟨rc_cell 2 _ NB16.out rfl, trivial⟩ (fun hH16 => ?_)
        clear hK K
        try simp only [Act.put, List.setIfInBounds_toArray, List.set_cons_zero, List.set_cons_succ]
        clear HA14 c16 f16
        generalize x14.setCell ⟨w.heap.size + 1, 2, none⟩ (.slice AE (m + n2) cE) = s16 at *
        refine wpAnyH_done (by kernel_rfl) ?_ _
        have HJz := HJ16
        rw [← HKS.out, ← HVS.out] at HJz
        go_wp2
        go_roundw
        case rel => exact ⟨kk + 1, n + n1, cX, m + n2, cE, AX, AE, by go_num, by omega, by omega, by omega, HJz⟩
        case measure => simp [intOf]; omega
    · obtain rfl : N = kk := by omega
      have HTL : Hid (l.take N = l) := Lib.hid (List.take_of_length_le (by rw [HLN.out]; exact Nat.le_refl _))
      rw [HTL.out] at HJ
      have q0 := rc_cell 0 (.bool true) HJ.out.t.g3 rfl; have q1 := rc_cell 1 (.slice A n c) HJ.out.t.g3 rfl; have q2 := rc_cell 2 (.slice B m d) HJ.out.t.g3 rfl; have q3 := rc_cell 3 (.slice none 0 0) HJ.out.t.g3 rfl
      have z0 := rc_cell 0 (.bool false) HJ.out.t.rs rfl; have z1 := rc_cell 1 (.slice none 0 0) HJ.out.t.rs rfl; have z2 := rc_cell 2 (.slice none 0 0) HJ.out.t.rs rfl; have z3 := rc_cell 3 (.slice none 0 0) HJ.out.t.rs rfl
      have y0 := two_frozen (i := 0) HJ.out.t.rs; have y1 := two_frozen (i := 1) HJ.out.t.rs; have y2 := two_frozen (i := 2) HJ.out.t.rs; have y3 := two_frozen (i := 3) HJ.out.t.rs
      have HZ := Lib.hid (set4 wr w.heap.size (.bool true) (.slice A n c) (.slice B m d) (.slice none 0 0) HJ.out.t.rs)
      have R1 := Lib.hid (HJ.out.t.pk.set HZ.out.2 HJ.out.t.rs (by decide) (by decide)); have R2 := Lib.hid (HJ.out.t.pv.set HZ.out.2 HJ.out.t.rs (by decide) (by decide))
      have HBE := Lib.hid (HJ.out.t.hb.trans (HZ.out.2.below (Nat.le_of_lt (lt_of_heap HJ.out.t.rs))))
      have HAP := Lib.hid HJ.out.t.ap; have HXP := Lib.hid (by obtain ⟨us, ho, _⟩ := HJ.out.t.pk.texts; obtain ⟨ts, hp, _⟩ := HJ.out.t.pv.texts; exact HJ.out.x.turn ho.rd hp.rd (ho.onl HZ.out.2 (ho.ne_blk HJ.out.t.rs (by decide))).rd (hp.onl HZ.out.2 (hp.ne_blk HJ.out.t.rs (by decide))).rd : XD ((((wr.setCell ⟨w.heap.size, 0, none⟩ (.bool true)).setCell ⟨w.heap.size, 1, none⟩ (.slice A n c)).setCell ⟨w.heap.size, 2, none⟩ (.slice B m d)).setCell ⟨w.heap.size, 3, none⟩ (.slice none 0 0)) A n B m)
      go_wp2_with fail
      clear q0 q1 q2 q3 z0 z1 z2 z3 y0 y1 y2 y3
      generalize ((((wr.setCell ⟨w.heap.size, 0, none⟩ (.bool true)).setCell ⟨w.heap.size, 1, none⟩ (.slice A n c)).setCell ⟨w.heap.size, 2, none⟩ (.slice B m d)).setCell ⟨w.heap.size, 3, none⟩ (.slice none 0 0)) = wz at *
      have e0 := rc_cell 0 (.bool true) HZ.out.1 rfl; have e1 := rc_cell 1 (.slice A n c) HZ.out.1 rfl; have e2 := rc_cell 2 (.slice B m d) HZ.out.1 rfl; have e3 := rc_cell 3 (.slice none 0 0) HZ.out.1 rfl
      refine bodyPost_ret (v := .agg #[.bool true, .slice A n c, .slice B m d, .slice none 0 0]) (by simp [results, Try.f50, go_sem, Try.isAgg70, Try.sizeOf70, e0, e1, e2, e3]) rfl ⟨A, n, c, B, m, d, rfl, R1.out, R2.out, HAP.out, HXP.out, HBE.out⟩
end Go.Proofs.Ytmjjbfcblmmipaa
