/- The law's own copy of a node. -/
import Derived.Test.YtmjjbfcblmmipaaPSplitW
namespace Go.Proofs.Ytmjjbfcblmmipaa
set_option linter.unusedVariables false
set_option linter.unusedSimpArgs false
open Go.RowKit
theorem ints_one' (l : List Int) : ∀ u ∈ l.map (Value.int .i64), u.oneCell' = true := by
  intro u hu
  obtain ⟨x, _, rfl⟩ := List.mem_map.1 hu
  rfl
theorem Prts.grown {w w' : World} {base b2 n c n2 c2 : Nat} {A A2 A3 : Option Addr} {xss : List (List Int)} {e : TypeId} {us : List Value} (h : Prts w base A n c xss) (hg : Grows w w' A2 A3) (ho : Own w b2 e A2 n2 c2 us) (h28 : 28 ≠ e) (h5 : 5 ≠ e) : Prts w' base A n c xss := by
  obtain ⟨hl, vs, ho1, hd, he⟩ := h
  refine ⟨hl, vs, ho1.kept hg.1 (own_apart ho1 ho h28), hd, fun i v xs hv hx => ?_⟩
  obtain ⟨A', c', e1, o, r⟩ := he i v xs hv hx
  exact ⟨A', c', e1, o.kept hg.1 (own_apart o ho h5), r⟩
set_option maxRecDepth 100000 in
set_option maxHeartbeats 8000000 in
theorem ownN_any (lf : Bool) (AK : Option Addr) (nK cK : Nat) (AV : Option Addr) (nV cV : Nat) (AD : Option Addr) (nD cD : Nat) (ks vs : List (List Int)) (ds : List Int) (w : World) (hx : Bss w AK nK ks) (hy : Bss w AV nV vs) (hz : Ins w AD nD ds)
    (bK : nK ≤ 1048576) (bV : nV ≤ 1048576) (bD : nD ≤ 1048576) (lK : ∀ xs ∈ ks, xs.length ≤ 1048576) (lV : ∀ xs ∈ vs, xs.length ≤ 1048576) :
    Calls Try.prog 33 #[.agg (ndV lf AK nK cK AV nV cV AD nD cD)] w fun e w' => ∃ A1 c1 A2 c2 A3 c3, e = .returned (.agg (ndV lf A1 nK c1 A2 nV c2 A3 nD c3)) ∧ Prts w' w.heap.size A1 nK c1 ks ∧ Prts w' w.heap.size A2 nV c2 vs ∧ Own w' w.heap.size 3 A3 nD c3 (ds.map (Value.int .i64)) ∧ Below w.heap.size w w' := by
  obtain ⟨i0, hi, hz0, hz1, hz2⟩ := info_parts info3
  have HX := Lib.hid hx; have HY := Lib.hid hy; have HZ := Lib.hid hz; have HLK := Lib.hid lK; have HLV := Lib.hid lV
  have hb1 := below_alloc w (.cells (ndV lf AK nK cK AV nV cV AD nD cD) 66)
  have hsz : (w.alloc (.cells (ndV lf AK nK cK AV nV cV AD nD cD) 66)).heap.size = w.heap.size + 1 := by simp
  have hb2 := below_alloc (w.alloc (.cells (ndV lf AK nK cK AV nV cV AD nD cD) 66)) (.cells ndZ 70)
  have hr2 := heap_alloc_new (w.alloc (.cells (ndV lf AK nK cK AV nV cV AD nD cD) 66)) (.cells ndZ 70)
  rw [hsz] at hr2
  have BX := Lib.hid ((hb2.block w.heap.size (by omega)).trans (heap_alloc_new w (.cells (ndV lf AK nK cK AV nV cV AD nD cD) 66)))
  have RS := Lib.hid hr2
  have HB := Lib.hid (hb1.trans (hb2.mono (by omega)))
  clear hx hy hz lK lV hsz hb1 hb2 hr2
  go_enter Try.func33, Try.ntmps33
  go_wp2_with fail
  generalize ((w.alloc (.cells (ndV lf AK nK cK AV nV cV AD nD cD) 66)).alloc (.cells ndZ 70)) = y at *
  have BXd : Hid (y.drew.heap[w.heap.size]? = some (.cells (ndV lf AK nK cK AV nV cV AD nD cD) 66 (0, 0))) := BX
  have RSd : Hid (y.drew.heap[w.heap.size + 1]? = some (.cells ndZ 70 (0, 0))) := RS
  have HBd := Lib.hid (HB.out.trans ((Dr.refl y).one.below _))
  refine wp_region_held_drew (S := fun w' => w'.cell? ⟨w.heap.size, 0, none⟩ = some (.bool lf) ∧ w'.cell? ⟨w.heap.size, 1, none⟩ = some (.slice AK nK cK) ∧ w'.cell? ⟨w.heap.size, 2, none⟩ = some (.slice AV nV cV) ∧ w'.cell? ⟨w.heap.size, 3, none⟩ = some (.slice AD nD cD) ∧ True) (by kernel_rfl) (nd4 BXd.out trivial) (fun hH0 => ?_)
  generalize y.drew = yd at *
  refine wpAnyH_take (i := 0) (oi := { dst := some 3, op := Op.fieldAddr 66 (Operand.tmp 1) 0, type := 0, pos := _, after := #[], guard := none }) (v := ?vo1_0) rfl (by kernel_rfl) (by kernel_rfl) (by kernel_rfl) (fun _ _ _ h => h) (Or.inl ⟨by rfl, ?yo1_0⟩) hH0 ?ro1_0
  case yo1_0 => (intro w hSw; (try dsimp only at hSw); go_simp; try (with_reducible rfl))
  try simp only [Act.put, List.setIfInBounds_toArray, List.set_cons_zero, List.set_cons_succ]
  refine wpAnyH_take (i := 1) (oi := { dst := some 4, op := Op.load 4 (Operand.tmp 3), type := 4, pos := _, after := #[{ on := 0, ground := Ground.data }], guard := none }) (v := ?vo1_1) rfl (by kernel_rfl) (by kernel_rfl) (by kernel_rfl) (fun _ _ _ h => h) (Or.inl ⟨by rfl, ?yo1_1⟩) hH0 ?ro1_1
  case yo1_1 => (intro w hSw; (try dsimp only at hSw); go_simp; try (with_reducible rfl))
  try simp only [Act.put, List.setIfInBounds_toArray, List.set_cons_zero, List.set_cons_succ]
  refine wpAnyH_take (i := 2) (oi := { dst := some 5, op := Op.fieldAddr 66 (Operand.tmp 1) 1, type := 0, pos := _, after := #[], guard := none }) (v := ?vo1_2) rfl (by kernel_rfl) (by kernel_rfl) (by kernel_rfl) (fun _ _ _ h => h) (Or.inl ⟨by rfl, ?yo1_2⟩) hH0 ?ro1_2
  case yo1_2 => (intro w hSw; (try dsimp only at hSw); go_simp; try (with_reducible rfl))
  try simp only [Act.put, List.setIfInBounds_toArray, List.set_cons_zero, List.set_cons_succ]
  refine wpAnyH_take (i := 3) (oi := { dst := some 6, op := Op.load 62 (Operand.tmp 5), type := 62, pos := _, after := #[{ on := 2, ground := Ground.data }], guard := none }) (v := ?vo1_3) rfl (by kernel_rfl) (by kernel_rfl) (by kernel_rfl) (fun _ _ _ h => h) (Or.inl ⟨by rfl, ?yo1_3⟩) hH0 ?ro1_3
  case yo1_3 => (intro w hSw; (try dsimp only at hSw); go_simp; try (with_reducible rfl))
  try simp only [Act.put, List.setIfInBounds_toArray, List.set_cons_zero, List.set_cons_succ]
  refine wpAnyH_take (i := 5) (oi := { dst := some 8, op := Op.fieldAddr 66 (Operand.tmp 1) 2, type := 0, pos := _, after := #[], guard := none }) (v := ?vo1_5) rfl (by kernel_rfl) (by kernel_rfl) (by kernel_rfl) (fun _ _ _ h => h) (Or.inl ⟨by rfl, ?yo1_5⟩) hH0 ?ro1_5
  case yo1_5 => (intro w hSw; (try dsimp only at hSw); go_simp; try (with_reducible rfl))
  try simp only [Act.put, List.setIfInBounds_toArray, List.set_cons_zero, List.set_cons_succ]
  refine wpAnyH_take (i := 6) (oi := { dst := some 9, op := Op.load 62 (Operand.tmp 8), type := 62, pos := _, after := #[{ on := 5, ground := Ground.data }], guard := none }) (v := ?vo1_6) rfl (by kernel_rfl) (by kernel_rfl) (by kernel_rfl) (fun _ _ _ h => h) (Or.inl ⟨by rfl, ?yo1_6⟩) hH0 ?ro1_6
  case yo1_6 => (intro w hSw; (try dsimp only at hSw); go_simp; try (with_reducible rfl))
  try simp only [Act.put, List.setIfInBounds_toArray, List.set_cons_zero, List.set_cons_succ]
  refine wpAnyH_take (i := 9) (oi := { dst := some 12, op := Op.fieldAddr 66 (Operand.tmp 1) 3, type := 0, pos := _, after := #[], guard := none }) (v := ?vo1_9) rfl (by kernel_rfl) (by kernel_rfl) (by kernel_rfl) (fun _ _ _ h => h) (Or.inl ⟨by rfl, ?yo1_9⟩) hH0 ?ro1_9
  case yo1_9 => (intro w hSw; (try dsimp only at hSw); go_simp; try (with_reducible rfl))
  try simp only [Act.put, List.setIfInBounds_toArray, List.set_cons_zero, List.set_cons_succ]
  refine wpAnyH_take (i := 10) (oi := { dst := some 13, op := Op.load 27 (Operand.tmp 12), type := 27, pos := _, after := #[{ on := 9, ground := Ground.data }], guard := none }) (v := ?vo1_10) rfl (by kernel_rfl) (by kernel_rfl) (by kernel_rfl) (fun _ _ _ h => h) (Or.inl ⟨by rfl, ?yo1_10⟩) hH0 ?ro1_10
  case yo1_10 => (intro w hSw; (try dsimp only at hSw); go_simp; try (with_reducible rfl))
  try simp only [Act.put, List.setIfInBounds_toArray, List.set_cons_zero, List.set_cons_succ]
  refine wpAnyH_ready (rs := [4, 8]) (by kernel_rfl) (by simp) ?_
  refine (AllReadyH.cons (o := { dst := some 7, op := Op.call { callee := Callee.value (Operand.func 78), args := #[Operand.tmp 6], argTypes := #[62] }, type := 62, pos := _, after := #[{ on := 3, ground := Ground.data }], guard := none }) rfl (fun K hK => ?_) (AllReadyH.cons (o := { dst := some 11, op := Op.buildSlice 27 0 #[], type := 27, pos := _, after := #[], guard := none }) rfl (fun K hK => ?_) AllReadyH.nil))
  · go_simp
    refine (copies_any AK nK cK ks _ (HX.out.keep HBd.out) bK HLK.out).mono ?_
    rintro e x2 ⟨AP1, cP1, rfl, p2, hb2⟩
    have P1 := Lib.hid (p2.mono HBd.out.size)
    clear p2
    have BX2 := Lib.hid ((hb2.block _ (lt_of_heap BXd.out)).trans BXd.out)
    have RS2 := Lib.hid ((hb2.block _ (lt_of_heap RSd.out)).trans RSd.out)
    have HB2 := Lib.hid (HBd.out.trans (hb2.mono HBd.out.size))
    clear hb2
    go_wp2_with fail
    refine hK.out _ _ (nd4 BX2.out trivial) (fun hH2 => ?_)
    clear hK K
    try simp only [Act.put, List.setIfInBounds_toArray, List.set_cons_zero, List.set_cons_succ]
    refine wpAnyH_ready (rs := [7, 8]) (by kernel_rfl) (by simp) ?_
    refine (AllReadyH.cons (o := { dst := some 10, op := Op.call { callee := Callee.value (Operand.func 78), args := #[Operand.tmp 9], argTypes := #[62] }, type := 62, pos := _, after := #[{ on := 6, ground := Ground.data }, { on := 4, ground := Ground.chain }], guard := none }) rfl (fun K hK => ?_) (AllReadyH.cons (o := { dst := some 11, op := Op.buildSlice 27 0 #[], type := 27, pos := _, after := #[], guard := none }) rfl (fun K hK => ?_) AllReadyH.nil))
    · go_simp
      refine (copies_any AV nV cV vs _ (HY.out.keep HB2.out) bV HLV.out).mono ?_
      rintro e x4 ⟨AP2, cP2, rfl, p4, hb4⟩
      have P2 := Lib.hid (p4.mono HB2.out.size)
      clear p4
      have P1_4 := Lib.hid (P1.out.keep hb4)
      have BX4 := Lib.hid ((hb4.block _ (lt_of_heap BX2.out)).trans BX2.out)
      have RS4 := Lib.hid ((hb4.block _ (lt_of_heap RS2.out)).trans RS2.out)
      have HB4 := Lib.hid (HB2.out.trans (hb4.mono HB2.out.size))
      clear hb4
      go_wp2_with fail
      refine hK.out _ _ (nd4 BX4.out trivial) (fun hH4 => ?_)
      clear hK K
      try simp only [Act.put, List.setIfInBounds_toArray, List.set_cons_zero, List.set_cons_succ]
      refine wpAnyH_ready (rs := [8]) (by kernel_rfl) (by simp) ?_
      refine (AllReadyH.cons (o := { dst := some 11, op := Op.buildSlice 27 0 #[], type := 27, pos := _, after := #[], guard := none }) rfl (fun K hK => ?_) AllReadyH.nil)
      go_simp
      have hb6 := below_alloc x4 (.cells #[] 3)
      have E0 := Lib.hid (Own.of_block (base := w.heap.size) (n := 0) (e := 3) (vs := []) (heap_alloc_new x4 (.cells #[] 3)) HB4.out.size rfl (by unfold maxLen; omega))
      have P1_6 := Lib.hid (P1_4.out.keep hb6)
      have P2_6 := Lib.hid (P2.out.keep hb6)
      have BX6 := Lib.hid ((hb6.block _ (lt_of_heap BX4.out)).trans BX4.out)
      have RS6 := Lib.hid ((hb6.block _ (lt_of_heap RS4.out)).trans RS4.out)
      have HB6 := Lib.hid (HB4.out.trans (hb6.mono HB4.out.size))
      clear hb6
      refine hK.out _ _ (nd4 BX6.out trivial) (fun hH6 => ?_)
      clear hK K
      try simp only [Act.put, List.setIfInBounds_toArray, List.set_cons_zero, List.set_cons_succ]
      generalize x4.heap.size = gE at *
      generalize x4.alloc (.cells #[] 3) = x6 at *
      refine wpAnyH_ready (rs := [11]) (by kernel_rfl) (by simp) ?_
      refine (AllReadyH.cons (o := { dst := some 14, op := Op.call { callee := Callee.builtin Builtin.append, args := #[Operand.tmp 11, Operand.tmp 13], argTypes := #[27, 27] }, type := 27, pos := _, after := #[{ on := 8, ground := Ground.data }, { on := 10, ground := Ground.data }, { on := 7, ground := Ground.chain }], guard := none }) rfl (fun K hK => ?_) AllReadyH.nil)
      have own8 := E0.out
      refine step_append_rd rfl (.tmp 11) (.tmp 13) 27 rfl i0 (.int .i64 0) 8 Try.underlying27 hi hz0 hz1 hz2 rfl (by simp [Act.eval, Act.put]) own8 AD nD cD (ds.map (Value.int .i64)) (by simp [Act.eval, Act.put]) (HZ.out.keep HB6.out).1 (ints_one' ds) (by unfold maxLen; omega) (by omega) HB6.out.size ?_
      intro AE cE x8 oE gE'
      have P1_8 := Lib.hid (Prts.grown P1_6.out gE' own8 (by decide) (by decide))
      have P2_8 := Lib.hid (Prts.grown P2_6.out gE' own8 (by decide) (by decide))
      have BX8 := Lib.hid ((gE'.1.block _ (lt_of_heap BX6.out) (own8.ne_blk BX6.out (by decide)).symm).trans BX6.out)
      have RS8 := Lib.hid ((gE'.1.block _ (lt_of_heap RS6.out) (own8.ne_blk RS6.out (by decide)).symm).trans RS6.out)
      have HB8 := Lib.hid (HB6.out.trans (gE'.below HB6.out.size (fun k hk => (own8.lies k hk).1)))
      have P3 := Lib.hid (by simpa using oE : Own x8 w.heap.size 3 AE nD cE (ds.map (Value.int .i64)))
      clear gE' oE own8
      refine hK.out _ _ (nd4 BX8.out trivial) (fun hH8 => ?_)
      clear hK K
      try simp only [Act.put, List.setIfInBounds_toArray, List.set_cons_zero, List.set_cons_succ]
      refine wpAnyH_take (i := 12) (oi := { dst := some 15, op := Op.build 70 #[(0, Operand.tmp 4), (1, Operand.tmp 7), (2, Operand.tmp 10), (3, Operand.tmp 14)], type := 70, pos := _, after := #[{ on := 1, ground := Ground.data }, { on := 4, ground := Ground.data }, { on := 7, ground := Ground.data }, { on := 11, ground := Ground.data }], guard := none }) (v := ?vo9_12) rfl (by kernel_rfl) (by kernel_rfl) (by kernel_rfl) (fun _ _ _ h => h) (Or.inl ⟨by rfl, ?yo9_12⟩) hH8 ?ro9_12
      case yo9_12 => (intro w hSw; (try dsimp only at hSw); go_simp; try (with_reducible rfl))
      try simp only [Act.put, List.setIfInBounds_toArray, List.set_cons_zero, List.set_cons_succ]
      refine wpAnyH_ready (rs := [13]) (by kernel_rfl) (by simp) ?_
      refine (AllReadyH.cons (o := { dst := none, op := Op.store 70 (Operand.tmp 2) (Operand.tmp 15), type := 0, pos := _, after := #[{ on := 12, ground := Ground.data }, { on := 11, ground := Ground.chain }, { on := 0, ground := Ground.phase }, { on := 1, ground := Ground.phase }, { on := 2, ground := Ground.phase }, { on := 3, ground := Ground.phase }, { on := 4, ground := Ground.phase }, { on := 5, ground := Ground.phase }, { on := 6, ground := Ground.phase }, { on := 7, ground := Ground.phase }, { on := 8, ground := Ground.phase }, { on := 9, ground := Ground.phase }, { on := 10, ground := Ground.phase }, { on := 11, ground := Ground.phase }, { on := 12, ground := Ground.phase }], guard := none }) rfl (fun K hK => ?_) AllReadyH.nil)
      have z10_0 := rc_cell 0 (.bool false) RS8.out rfl; have y10_0 := two_frozen (i := 0) RS8.out
      have z10_1 := rc_cell 1 (.slice none 0 0) RS8.out rfl; have y10_1 := two_frozen (i := 1) RS8.out
      have z10_2 := rc_cell 2 (.slice none 0 0) RS8.out rfl; have y10_2 := two_frozen (i := 2) RS8.out
      have z10_3 := rc_cell 3 (.slice none 0 0) RS8.out rfl; have y10_3 := two_frozen (i := 3) RS8.out
      have HZ10 := Lib.hid (set4 x8 (w.heap.size + 1) (.bool lf) (.slice AP1 nK cP1) (.slice AP2 nV cP2) (.slice AE nD cE) RS8.out)
      have BX10 := Lib.hid ((HZ10.out.2.block w.heap.size (lt_of_heap BX8.out) (by intro e; injection e with e; omega)).trans BX8.out)
      have P1_10 := Lib.hid (P1_8.out.set HZ10.out.2 RS8.out (by decide) (by decide))
      have P2_10 := Lib.hid (P2_8.out.set HZ10.out.2 RS8.out (by decide) (by decide))
      have P3_10 := Lib.hid (P3.out.onl HZ10.out.2 (P3.out.ne_blk RS8.out (by decide)))
      have HB10 := Lib.hid (HB8.out.trans ((HZ10.out.2.below (Nat.le_of_lt (lt_of_heap RS8.out))).mono (by omega)))
      have N10 := Lib.hid HZ10.out.1
      go_simp
      refine hK.out _ _ (nd4 BX10.out trivial) (fun hH10 => ?_)
      clear hK K
      try simp only [Act.put, List.setIfInBounds_toArray, List.set_cons_zero, List.set_cons_succ]
      clear HZ10 z10_0 y10_0 z10_1 y10_1 z10_2 y10_2 z10_3 y10_3
      generalize ((((x8.setCell ⟨w.heap.size + 1, 0, none⟩ (.bool lf)).setCell ⟨w.heap.size + 1, 1, none⟩ (.slice AP1 nK cP1)).setCell ⟨w.heap.size + 1, 2, none⟩ (.slice AP2 nV cP2)).setCell ⟨w.heap.size + 1, 3, none⟩ (.slice AE nD cE)) = s10 at *
      refine wpAnyH_done (by kernel_rfl) ?_ _
      have e0 := rc_cell 0 (.bool lf) N10.out rfl
      have e1 := rc_cell 1 (.slice AP1 nK cP1) N10.out rfl
      have e2 := rc_cell 2 (.slice AP2 nV cP2) N10.out rfl
      have e3 := rc_cell 3 (.slice AE nD cE) N10.out rfl
      go_wp2
      refine bodyPost_ret (v := .agg #[.bool lf, .slice AP1 nK cP1, .slice AP2 nV cP2, .slice AE nD cE]) (by simp [results, Try.f33, go_sem, Try.isAgg70, Try.sizeOf70, e0, e1, e2, e3]) rfl ⟨AP1, cP1, AP2, cP2, AE, cE, rfl, P1_10.out, P2_10.out, P3_10.out, HB10.out⟩
    · go_simp
      have hb12 := below_alloc x2 (.cells #[] 3)
      have E0 := Lib.hid (Own.of_block (base := w.heap.size) (n := 0) (e := 3) (vs := []) (heap_alloc_new x2 (.cells #[] 3)) HB2.out.size rfl (by unfold maxLen; omega))
      have P1_12 := Lib.hid (P1.out.keep hb12)
      have BX12 := Lib.hid ((hb12.block _ (lt_of_heap BX2.out)).trans BX2.out)
      have RS12 := Lib.hid ((hb12.block _ (lt_of_heap RS2.out)).trans RS2.out)
      have HB12 := Lib.hid (HB2.out.trans (hb12.mono HB2.out.size))
      clear hb12
      refine hK.out _ _ (nd4 BX12.out trivial) (fun hH12 => ?_)
      clear hK K
      try simp only [Act.put, List.setIfInBounds_toArray, List.set_cons_zero, List.set_cons_succ]
      generalize x2.heap.size = gE at *
      generalize x2.alloc (.cells #[] 3) = x12 at *
      refine wpAnyH_ready (rs := [7]) (by kernel_rfl) (by simp) ?_
      refine (AllReadyH.cons (o := { dst := some 10, op := Op.call { callee := Callee.value (Operand.func 78), args := #[Operand.tmp 9], argTypes := #[62] }, type := 62, pos := _, after := #[{ on := 6, ground := Ground.data }, { on := 4, ground := Ground.chain }], guard := none }) rfl (fun K hK => ?_) AllReadyH.nil)
      go_simp
      refine (copies_any AV nV cV vs _ (HY.out.keep HB12.out) bV HLV.out).mono ?_
      rintro e x14 ⟨AP2, cP2, rfl, p14, hb14⟩
      have P2 := Lib.hid (p14.mono HB12.out.size)
      clear p14
      have P1_14 := Lib.hid (P1_12.out.keep hb14)
      have E0_14 := Lib.hid (E0.out.below hb14 (fun k hk => (E0.out.lies k hk).2))
      have BX14 := Lib.hid ((hb14.block _ (lt_of_heap BX12.out)).trans BX12.out)
      have RS14 := Lib.hid ((hb14.block _ (lt_of_heap RS12.out)).trans RS12.out)
      have HB14 := Lib.hid (HB12.out.trans (hb14.mono HB12.out.size))
      clear hb14
      go_wp2_with fail
      refine hK.out _ _ (nd4 BX14.out trivial) (fun hH14 => ?_)
      clear hK K
      try simp only [Act.put, List.setIfInBounds_toArray, List.set_cons_zero, List.set_cons_succ]
      refine wpAnyH_ready (rs := [11]) (by kernel_rfl) (by simp) ?_
      refine (AllReadyH.cons (o := { dst := some 14, op := Op.call { callee := Callee.builtin Builtin.append, args := #[Operand.tmp 11, Operand.tmp 13], argTypes := #[27, 27] }, type := 27, pos := _, after := #[{ on := 8, ground := Ground.data }, { on := 10, ground := Ground.data }, { on := 7, ground := Ground.chain }], guard := none }) rfl (fun K hK => ?_) AllReadyH.nil)
      have own16 := E0_14.out
      refine step_append_rd rfl (.tmp 11) (.tmp 13) 27 rfl i0 (.int .i64 0) 8 Try.underlying27 hi hz0 hz1 hz2 rfl (by simp [Act.eval, Act.put]) own16 AD nD cD (ds.map (Value.int .i64)) (by simp [Act.eval, Act.put]) (HZ.out.keep HB14.out).1 (ints_one' ds) (by unfold maxLen; omega) (by omega) HB14.out.size ?_
      intro AE cE x16 oE gE'
      have P1_16 := Lib.hid (Prts.grown P1_14.out gE' own16 (by decide) (by decide))
      have P2_16 := Lib.hid (Prts.grown P2.out gE' own16 (by decide) (by decide))
      have BX16 := Lib.hid ((gE'.1.block _ (lt_of_heap BX14.out) (own16.ne_blk BX14.out (by decide)).symm).trans BX14.out)
      have RS16 := Lib.hid ((gE'.1.block _ (lt_of_heap RS14.out) (own16.ne_blk RS14.out (by decide)).symm).trans RS14.out)
      have HB16 := Lib.hid (HB14.out.trans (gE'.below HB14.out.size (fun k hk => (own16.lies k hk).1)))
      have P3 := Lib.hid (by simpa using oE : Own x16 w.heap.size 3 AE nD cE (ds.map (Value.int .i64)))
      clear gE' oE own16
      refine hK.out _ _ (nd4 BX16.out trivial) (fun hH16 => ?_)
      clear hK K
      try simp only [Act.put, List.setIfInBounds_toArray, List.set_cons_zero, List.set_cons_succ]
      refine wpAnyH_take (i := 12) (oi := { dst := some 15, op := Op.build 70 #[(0, Operand.tmp 4), (1, Operand.tmp 7), (2, Operand.tmp 10), (3, Operand.tmp 14)], type := 70, pos := _, after := #[{ on := 1, ground := Ground.data }, { on := 4, ground := Ground.data }, { on := 7, ground := Ground.data }, { on := 11, ground := Ground.data }], guard := none }) (v := ?vo17_12) rfl (by kernel_rfl) (by kernel_rfl) (by kernel_rfl) (fun _ _ _ h => h) (Or.inl ⟨by rfl, ?yo17_12⟩) hH16 ?ro17_12
      case yo17_12 => (intro w hSw; (try dsimp only at hSw); go_simp; try (with_reducible rfl))
      try simp only [Act.put, List.setIfInBounds_toArray, List.set_cons_zero, List.set_cons_succ]
      refine wpAnyH_ready (rs := [13]) (by kernel_rfl) (by simp) ?_
      refine (AllReadyH.cons (o := { dst := none, op := Op.store 70 (Operand.tmp 2) (Operand.tmp 15), type := 0, pos := _, after := #[{ on := 12, ground := Ground.data }, { on := 11, ground := Ground.chain }, { on := 0, ground := Ground.phase }, { on := 1, ground := Ground.phase }, { on := 2, ground := Ground.phase }, { on := 3, ground := Ground.phase }, { on := 4, ground := Ground.phase }, { on := 5, ground := Ground.phase }, { on := 6, ground := Ground.phase }, { on := 7, ground := Ground.phase }, { on := 8, ground := Ground.phase }, { on := 9, ground := Ground.phase }, { on := 10, ground := Ground.phase }, { on := 11, ground := Ground.phase }, { on := 12, ground := Ground.phase }], guard := none }) rfl (fun K hK => ?_) AllReadyH.nil)
      have z18_0 := rc_cell 0 (.bool false) RS16.out rfl; have y18_0 := two_frozen (i := 0) RS16.out
      have z18_1 := rc_cell 1 (.slice none 0 0) RS16.out rfl; have y18_1 := two_frozen (i := 1) RS16.out
      have z18_2 := rc_cell 2 (.slice none 0 0) RS16.out rfl; have y18_2 := two_frozen (i := 2) RS16.out
      have z18_3 := rc_cell 3 (.slice none 0 0) RS16.out rfl; have y18_3 := two_frozen (i := 3) RS16.out
      have HZ18 := Lib.hid (set4 x16 (w.heap.size + 1) (.bool lf) (.slice AP1 nK cP1) (.slice AP2 nV cP2) (.slice AE nD cE) RS16.out)
      have BX18 := Lib.hid ((HZ18.out.2.block w.heap.size (lt_of_heap BX16.out) (by intro e; injection e with e; omega)).trans BX16.out)
      have P1_18 := Lib.hid (P1_16.out.set HZ18.out.2 RS16.out (by decide) (by decide))
      have P2_18 := Lib.hid (P2_16.out.set HZ18.out.2 RS16.out (by decide) (by decide))
      have P3_18 := Lib.hid (P3.out.onl HZ18.out.2 (P3.out.ne_blk RS16.out (by decide)))
      have HB18 := Lib.hid (HB16.out.trans ((HZ18.out.2.below (Nat.le_of_lt (lt_of_heap RS16.out))).mono (by omega)))
      have N18 := Lib.hid HZ18.out.1
      go_simp
      refine hK.out _ _ (nd4 BX18.out trivial) (fun hH18 => ?_)
      clear hK K
      try simp only [Act.put, List.setIfInBounds_toArray, List.set_cons_zero, List.set_cons_succ]
      clear HZ18 z18_0 y18_0 z18_1 y18_1 z18_2 y18_2 z18_3 y18_3
      generalize ((((x16.setCell ⟨w.heap.size + 1, 0, none⟩ (.bool lf)).setCell ⟨w.heap.size + 1, 1, none⟩ (.slice AP1 nK cP1)).setCell ⟨w.heap.size + 1, 2, none⟩ (.slice AP2 nV cP2)).setCell ⟨w.heap.size + 1, 3, none⟩ (.slice AE nD cE)) = s18 at *
      refine wpAnyH_done (by kernel_rfl) ?_ _
      have e0 := rc_cell 0 (.bool lf) N18.out rfl
      have e1 := rc_cell 1 (.slice AP1 nK cP1) N18.out rfl
      have e2 := rc_cell 2 (.slice AP2 nV cP2) N18.out rfl
      have e3 := rc_cell 3 (.slice AE nD cE) N18.out rfl
      go_wp2
      refine bodyPost_ret (v := .agg #[.bool lf, .slice AP1 nK cP1, .slice AP2 nV cP2, .slice AE nD cE]) (by simp [results, Try.f33, go_sem, Try.isAgg70, Try.sizeOf70, e0, e1, e2, e3]) rfl ⟨AP1, cP1, AP2, cP2, AE, cE, rfl, P1_18.out, P2_18.out, P3_18.out, HB18.out⟩
  · go_simp
    have hb20 := below_alloc yd (.cells #[] 3)
    have E0 := Lib.hid (Own.of_block (base := w.heap.size) (n := 0) (e := 3) (vs := []) (heap_alloc_new yd (.cells #[] 3)) HBd.out.size rfl (by unfold maxLen; omega))
    have BX20 := Lib.hid ((hb20.block _ (lt_of_heap BXd.out)).trans BXd.out)
    have RS20 := Lib.hid ((hb20.block _ (lt_of_heap RSd.out)).trans RSd.out)
    have HB20 := Lib.hid (HBd.out.trans (hb20.mono HBd.out.size))
    clear hb20
    refine hK.out _ _ (nd4 BX20.out trivial) (fun hH20 => ?_)
    clear hK K
    try simp only [Act.put, List.setIfInBounds_toArray, List.set_cons_zero, List.set_cons_succ]
    generalize yd.heap.size = gE at *
    generalize yd.alloc (.cells #[] 3) = x20 at *
    refine wpAnyH_ready (rs := [4]) (by kernel_rfl) (by simp) ?_
    refine (AllReadyH.cons (o := { dst := some 7, op := Op.call { callee := Callee.value (Operand.func 78), args := #[Operand.tmp 6], argTypes := #[62] }, type := 62, pos := _, after := #[{ on := 3, ground := Ground.data }], guard := none }) rfl (fun K hK => ?_) AllReadyH.nil)
    go_simp
    refine (copies_any AK nK cK ks _ (HX.out.keep HB20.out) bK HLK.out).mono ?_
    rintro e x22 ⟨AP1, cP1, rfl, p22, hb22⟩
    have P1 := Lib.hid (p22.mono HB20.out.size)
    clear p22
    have E0_22 := Lib.hid (E0.out.below hb22 (fun k hk => (E0.out.lies k hk).2))
    have BX22 := Lib.hid ((hb22.block _ (lt_of_heap BX20.out)).trans BX20.out)
    have RS22 := Lib.hid ((hb22.block _ (lt_of_heap RS20.out)).trans RS20.out)
    have HB22 := Lib.hid (HB20.out.trans (hb22.mono HB20.out.size))
    clear hb22
    go_wp2_with fail
    refine hK.out _ _ (nd4 BX22.out trivial) (fun hH22 => ?_)
    clear hK K
    try simp only [Act.put, List.setIfInBounds_toArray, List.set_cons_zero, List.set_cons_succ]
    refine wpAnyH_ready (rs := [7]) (by kernel_rfl) (by simp) ?_
    refine (AllReadyH.cons (o := { dst := some 10, op := Op.call { callee := Callee.value (Operand.func 78), args := #[Operand.tmp 9], argTypes := #[62] }, type := 62, pos := _, after := #[{ on := 6, ground := Ground.data }, { on := 4, ground := Ground.chain }], guard := none }) rfl (fun K hK => ?_) AllReadyH.nil)
    go_simp
    refine (copies_any AV nV cV vs _ (HY.out.keep HB22.out) bV HLV.out).mono ?_
    rintro e x24 ⟨AP2, cP2, rfl, p24, hb24⟩
    have P2 := Lib.hid (p24.mono HB22.out.size)
    clear p24
    have E0_24 := Lib.hid (E0_22.out.below hb24 (fun k hk => (E0_22.out.lies k hk).2))
    have P1_24 := Lib.hid (P1.out.keep hb24)
    have BX24 := Lib.hid ((hb24.block _ (lt_of_heap BX22.out)).trans BX22.out)
    have RS24 := Lib.hid ((hb24.block _ (lt_of_heap RS22.out)).trans RS22.out)
    have HB24 := Lib.hid (HB22.out.trans (hb24.mono HB22.out.size))
    clear hb24
    go_wp2_with fail
    refine hK.out _ _ (nd4 BX24.out trivial) (fun hH24 => ?_)
    clear hK K
    try simp only [Act.put, List.setIfInBounds_toArray, List.set_cons_zero, List.set_cons_succ]
    refine wpAnyH_ready (rs := [11]) (by kernel_rfl) (by simp) ?_
    refine (AllReadyH.cons (o := { dst := some 14, op := Op.call { callee := Callee.builtin Builtin.append, args := #[Operand.tmp 11, Operand.tmp 13], argTypes := #[27, 27] }, type := 27, pos := _, after := #[{ on := 8, ground := Ground.data }, { on := 10, ground := Ground.data }, { on := 7, ground := Ground.chain }], guard := none }) rfl (fun K hK => ?_) AllReadyH.nil)
    have own26 := E0_24.out
    refine step_append_rd rfl (.tmp 11) (.tmp 13) 27 rfl i0 (.int .i64 0) 8 Try.underlying27 hi hz0 hz1 hz2 rfl (by simp [Act.eval, Act.put]) own26 AD nD cD (ds.map (Value.int .i64)) (by simp [Act.eval, Act.put]) (HZ.out.keep HB24.out).1 (ints_one' ds) (by unfold maxLen; omega) (by omega) HB24.out.size ?_
    intro AE cE x26 oE gE'
    have P1_26 := Lib.hid (Prts.grown P1_24.out gE' own26 (by decide) (by decide))
    have P2_26 := Lib.hid (Prts.grown P2.out gE' own26 (by decide) (by decide))
    have BX26 := Lib.hid ((gE'.1.block _ (lt_of_heap BX24.out) (own26.ne_blk BX24.out (by decide)).symm).trans BX24.out)
    have RS26 := Lib.hid ((gE'.1.block _ (lt_of_heap RS24.out) (own26.ne_blk RS24.out (by decide)).symm).trans RS24.out)
    have HB26 := Lib.hid (HB24.out.trans (gE'.below HB24.out.size (fun k hk => (own26.lies k hk).1)))
    have P3 := Lib.hid (by simpa using oE : Own x26 w.heap.size 3 AE nD cE (ds.map (Value.int .i64)))
    clear gE' oE own26
    refine hK.out _ _ (nd4 BX26.out trivial) (fun hH26 => ?_)
    clear hK K
    try simp only [Act.put, List.setIfInBounds_toArray, List.set_cons_zero, List.set_cons_succ]
    refine wpAnyH_take (i := 12) (oi := { dst := some 15, op := Op.build 70 #[(0, Operand.tmp 4), (1, Operand.tmp 7), (2, Operand.tmp 10), (3, Operand.tmp 14)], type := 70, pos := _, after := #[{ on := 1, ground := Ground.data }, { on := 4, ground := Ground.data }, { on := 7, ground := Ground.data }, { on := 11, ground := Ground.data }], guard := none }) (v := ?vo27_12) rfl (by kernel_rfl) (by kernel_rfl) (by kernel_rfl) (fun _ _ _ h => h) (Or.inl ⟨by rfl, ?yo27_12⟩) hH26 ?ro27_12
    case yo27_12 => (intro w hSw; (try dsimp only at hSw); go_simp; try (with_reducible rfl))
    try simp only [Act.put, List.setIfInBounds_toArray, List.set_cons_zero, List.set_cons_succ]
    refine wpAnyH_ready (rs := [13]) (by kernel_rfl) (by simp) ?_
    refine (AllReadyH.cons (o := { dst := none, op := Op.store 70 (Operand.tmp 2) (Operand.tmp 15), type := 0, pos := _, after := #[{ on := 12, ground := Ground.data }, { on := 11, ground := Ground.chain }, { on := 0, ground := Ground.phase }, { on := 1, ground := Ground.phase }, { on := 2, ground := Ground.phase }, { on := 3, ground := Ground.phase }, { on := 4, ground := Ground.phase }, { on := 5, ground := Ground.phase }, { on := 6, ground := Ground.phase }, { on := 7, ground := Ground.phase }, { on := 8, ground := Ground.phase }, { on := 9, ground := Ground.phase }, { on := 10, ground := Ground.phase }, { on := 11, ground := Ground.phase }, { on := 12, ground := Ground.phase }], guard := none }) rfl (fun K hK => ?_) AllReadyH.nil)
    have z28_0 := rc_cell 0 (.bool false) RS26.out rfl; have y28_0 := two_frozen (i := 0) RS26.out
    have z28_1 := rc_cell 1 (.slice none 0 0) RS26.out rfl; have y28_1 := two_frozen (i := 1) RS26.out
    have z28_2 := rc_cell 2 (.slice none 0 0) RS26.out rfl; have y28_2 := two_frozen (i := 2) RS26.out
    have z28_3 := rc_cell 3 (.slice none 0 0) RS26.out rfl; have y28_3 := two_frozen (i := 3) RS26.out
    have HZ28 := Lib.hid (set4 x26 (w.heap.size + 1) (.bool lf) (.slice AP1 nK cP1) (.slice AP2 nV cP2) (.slice AE nD cE) RS26.out)
    have BX28 := Lib.hid ((HZ28.out.2.block w.heap.size (lt_of_heap BX26.out) (by intro e; injection e with e; omega)).trans BX26.out)
    have P1_28 := Lib.hid (P1_26.out.set HZ28.out.2 RS26.out (by decide) (by decide))
    have P2_28 := Lib.hid (P2_26.out.set HZ28.out.2 RS26.out (by decide) (by decide))
    have P3_28 := Lib.hid (P3.out.onl HZ28.out.2 (P3.out.ne_blk RS26.out (by decide)))
    have HB28 := Lib.hid (HB26.out.trans ((HZ28.out.2.below (Nat.le_of_lt (lt_of_heap RS26.out))).mono (by omega)))
    have N28 := Lib.hid HZ28.out.1
    go_simp
    refine hK.out _ _ (nd4 BX28.out trivial) (fun hH28 => ?_)
    clear hK K
    try simp only [Act.put, List.setIfInBounds_toArray, List.set_cons_zero, List.set_cons_succ]
    clear HZ28 z28_0 y28_0 z28_1 y28_1 z28_2 y28_2 z28_3 y28_3
    generalize ((((x26.setCell ⟨w.heap.size + 1, 0, none⟩ (.bool lf)).setCell ⟨w.heap.size + 1, 1, none⟩ (.slice AP1 nK cP1)).setCell ⟨w.heap.size + 1, 2, none⟩ (.slice AP2 nV cP2)).setCell ⟨w.heap.size + 1, 3, none⟩ (.slice AE nD cE)) = s28 at *
    refine wpAnyH_done (by kernel_rfl) ?_ _
    have e0 := rc_cell 0 (.bool lf) N28.out rfl
    have e1 := rc_cell 1 (.slice AP1 nK cP1) N28.out rfl
    have e2 := rc_cell 2 (.slice AP2 nV cP2) N28.out rfl
    have e3 := rc_cell 3 (.slice AE nD cE) N28.out rfl
    go_wp2
    refine bodyPost_ret (v := .agg #[.bool lf, .slice AP1 nK cP1, .slice AP2 nV cP2, .slice AE nD cE]) (by simp [results, Try.f33, go_sem, Try.isAgg70, Try.sizeOf70, e0, e1, e2, e3]) rfl ⟨AP1, cP1, AP2, cP2, AE, cE, rfl, P1_28.out, P2_28.out, P3_28.out, HB28.out⟩
end Go.Proofs.Ytmjjbfcblmmipaa
