/- LeafPages' walk. -/
import Derived.Test.YtmjjbfcblmmipaaDecV
import Derived.Test.YtmjjbfcblmmipaaLspM
namespace Go.Proofs.Ytmjjbfcblmmipaa
set_option linter.unusedVariables false
set_option linter.unusedSimpArgs false
open Go.RowKit
theorem tz_big {m : Nat} {l : List (List Int)} (d : Nat) (h : ∀ x ∈ l, x.length ≤ 1048576) (hl : l.length ≤ 601) (hd : d ≤ 2) : szW d l ≤ 100000000000000000 := by
  have := szW_bd d 1048576 l h
  have h2 : l.length * (d + 1048576) ≤ 601 * 1048578 := Nat.mul_le_mul hl (by omega)
  omega
/-- What is taken of a node's page is the node. -/
theorem back_node {lf : Bool} {ks vs : List (List Int)} {ds : List Int} (h : encC lf ks vs ds = 0) : lfT (encR lf ks vs ds) = lf ∧ ksT (encR lf ks vs ds) = ks ∧ vsT (encR lf ks vs ds) = vs ∧ dsT (encR lf ks vs ds) = ds := by
  obtain ⟨h1, h2⟩ := encC_zero h
  obtain ⟨c1, c2, c3, c4, c5⟩ := chk_ok h1
  unfold encR
  rw [if_pos h]
  unfold pgZ
  unfold badF at c5
  cases lf with
  | true =>
    rw [if_pos rfl, Bool.or_eq_false_iff, decide_eq_false_iff_not, decide_eq_false_iff_not] at c5
    have hd : ds = [] := List.eq_nil_of_length_eq_zero (by omega)
    have := take_leaf ks vs ds (List.replicate (512 - (encP true ks vs ds ks.length).length) 0) (by omega)
    rw [hd] at this ⊢
    exact this
  | false =>
    rw [if_neg (by decide), Bool.or_eq_false_iff, decide_eq_false_iff_not, decide_eq_false_iff_not] at c5
    have hv : vs = [] := List.eq_nil_of_length_eq_zero (by omega)
    have := take_fork ks vs ds (List.replicate (512 - (encP false ks vs ds ks.length).length) 0) (by omega) (fun d hd => (dsB_mem c4 d hd).1)
    rw [hv] at this ⊢
    exact this
theorem encR_len {lf : Bool} {ks vs : List (List Int)} {ds : List Int} (h : encC lf ks vs ds = 0) : (encR lf ks vs ds).length = 512 := by
  obtain ⟨h1, h2⟩ := encC_zero h
  obtain ⟨c1, c2, c3, c4, c5⟩ := chk_ok h1
  unfold encR
  rw [if_pos h]
  refine pgZ_len _ ?_
  unfold badF at c5
  cases lf with
  | true =>
    rw [if_pos rfl, Bool.or_eq_false_iff, decide_eq_false_iff_not, decide_eq_false_iff_not] at c5
    rw [encP_len true ks vs ds (fun _ => by omega) _ (Nat.le_refl _), fr_all ks vs ds.length (by omega)]; exact h2
  | false =>
    rw [if_neg (by decide), Bool.or_eq_false_iff, decide_eq_false_iff_not, decide_eq_false_iff_not] at c5
    rw [encP_len false ks vs ds (fun h => by cases h) _ (Nat.le_refl _), fr_allF ks vs ds.length (by omega)]; exact h2
set_option maxRecDepth 100000 in
set_option maxHeartbeats 32000000 in
theorem lpgX_any (lf : Bool) (AK : Option Addr) (nK cK : Nat) (AV : Option Addr) (nV cV : Nat) (AD : Option Addr) (nD cD : Nat) (ks vs : List (List Int)) (ds : List Int) (mK mV mD : Nat) (AP : Option Addr) (np cp : Nat) (P : List Int) (w : World)
    (e1 : min nK 600 = mK) (e2 : min nV 600 = mV) (e3 : min nD 601 = mD) (hx : Bss w AK mK ks) (hy : Bss w AV mV vs) (hz : Ins w AD mD ds) (hKc : nK ≤ cK) (hVc : nV ≤ cV) (hDc : nD ≤ cD) (bK : nK ≤ 1048576) (bV : nV ≤ 1048576) (bD : nD ≤ 1048576)
    (lK : ∀ xs ∈ ks, xs.length ≤ 1048576) (lV : ∀ xs ∈ vs, xs.length ≤ 1048576) (hp : Bs w AP np P) (bp : np ≤ 1048576) :
    Calls Try.prog 8 #[.agg (ndV lf AK nK cK AV nV cV AD nD cD), .slice AP np cp] w fun e w' => e = .returned (.bool true) ∧ Below w.heap.size w w' := by
  have HX := Lib.hid hx; have HY := Lib.hid hy; have HZ := Lib.hid hz; have HPP := Lib.hid hp; have HPL := Lib.hid hp.len
  have HLK := Lib.hid hx.len; have HLV := Lib.hid hy.len
  have HE1 := Lib.hid e1; have HE2 := Lib.hid e2; have HE3 := Lib.hid e3
  have hmK : mK ≤ 600 := by omega
  have hmV : mV ≤ 600 := by omega
  have hmD : mD ≤ 601 := by omega
  have HMK := Lib.hid lK; have HMV := Lib.hid lV
  have HML : Hid (∀ xs ∈ ks, xs.length ≤ maxLen) := Lib.hid (fun x hx => Nat.le_trans (HMK.out x hx) (by unfold maxLen; omega)); have HMM : Hid (∀ xs ∈ vs, xs.length ≤ maxLen) := Lib.hid (fun x hx => Nat.le_trans (HMV.out x hx) (by unfold maxLen; omega))
  have sK : szW 1 ks ≤ 100000000000000000 := tz_big (m := 0) 1 HMK.out (by rw [HLK.out]; omega) (by omega)
  have sV : szW 2 vs ≤ 100000000000000000 := tz_big (m := 0) 2 HMV.out (by rw [HLV.out]; omega) (by omega)
  have HRR : Hid (Ran (encR lf ks vs ds)) := Lib.hid (encR_ran (by rw [HLK.out]; omega) hx.ran hy.ran)
  have HB := Lib.hid (below_alloc w (.cells (ndV lf AK nK cK AV nV cV AD nD cD) 66)); have BN := Lib.hid (heap_alloc_new w (.cells (ndV lf AK nK cK AV nV cV AD nD cD) 66))
  clear hx hy hz e1 e2 e3 lK lV hp
  go_enter Try.func8, Try.ntmps8
  go_wp2_with fail
  generalize w.alloc (.cells (ndV lf AK nK cK AV nV cV AD nD cD) 66) = y at *
  refine (awakeL_any y).mono ?_
  rintro e x1 ⟨rfl, hb1⟩
  have BN1 := Lib.hid ((hb1.block _ (lt_of_heap BN.out)).trans BN.out); have HB1 := Lib.hid (HB.out.trans (hb1.mono HB.out.size)); clear hb1
  have q0 := rc_cell 0 (.bool lf) BN1.out rfl; have q1 := rc_cell 1 (.slice AK nK cK) BN1.out rfl; have q2 := rc_cell 2 (.slice AV nV cV) BN1.out rfl; have q3 := rc_cell 3 (.slice AD nD cD) BN1.out rfl
  go_wp2_with fail
  clear q0 q1 q2 q3
  refine (few_is lf AK nK cK AV nV cV AD nD cD 600 _ (by omega) mK mV mD HE1.out HE2.out HE3.out x1 (by omega) hKc hVc hDc bK bV bD).mono ?_
  rintro e x2 ⟨rfl, hb2⟩
  have BN2 := Lib.hid ((hb2.block _ (lt_of_heap BN1.out)).trans BN1.out); have HB2 := Lib.hid (HB1.out.trans (hb2.mono HB1.out.size)); clear hb2
  have q0 := rc_cell 0 (.bool lf) BN2.out rfl; have q1 := rc_cell 1 (.slice AK nK cK) BN2.out rfl; have q2 := rc_cell 2 (.slice AV nV cV) BN2.out rfl; have q3 := rc_cell 3 (.slice AD nD cD) BN2.out rfl
  have t0 := two_frozen (i := 0) BN2.out; have t1 := two_frozen (i := 1) BN2.out; have t2 := two_frozen (i := 2) BN2.out; have t3 := two_frozen (i := 3) BN2.out
  have HS := Lib.hid (set4g x2 w.heap.size (.bool lf) (.slice AK mK cK) (.slice AV mV cV) (.slice AD mD cD) _ _ _ _ 66 BN2.out)
  have r0 := rc_cell 0 (.bool lf) HS.out.1 rfl; have r1 := rc_cell 1 (.slice AK mK cK) HS.out.1 rfl; have r2 := rc_cell 2 (.slice AV mV cV) HS.out.1 rfl; have r3 := rc_cell 3 (.slice AD mD cD) HS.out.1 rfl
  go_upto_region 4 with fail
  clear q0 q1 q2 q3; clear t0 t1 t2 t3; clear r0 r1 r2 r3
  have BN3 := Lib.hid HS.out.1; have HB3 := Lib.hid (HB2.out.trans (HS.out.2.below (Nat.le_of_lt (lt_of_heap BN2.out))))
  clear HS
  generalize ((((x2.setCell ⟨w.heap.size, 0, none⟩ (.bool lf)).setCell ⟨w.heap.size, 1, none⟩ (.slice AK mK cK)).setCell ⟨w.heap.size, 2, none⟩ (.slice AV mV cV)).setCell ⟨w.heap.size, 3, none⟩ (.slice AD mD cD)) = x3 at *
  have q0 := rc_cell 0 (.bool lf) BN3.out rfl; have q1 := rc_cell 1 (.slice AK mK cK) BN3.out rfl; have q2 := rc_cell 2 (.slice AV mV cV) BN3.out rfl; have q3 := rc_cell 3 (.slice AD mD cD) BN3.out rfl
  go_wp2_with fail
  clear q0 q1 q2 q3
  refine (ownN_any lf AK mK cK AV mV cV AD mD cD ks vs ds x3 (HX.out.keep HB3.out) (HY.out.keep HB3.out) (HZ.out.keep HB3.out) (by omega) (by omega) (by omega) HMK.out HMV.out).mono ?_
  rintro e x4 ⟨A1, a1, A2, a2, A3, a3, rfl, p1, p2, p3, hbo⟩
  have BN4 := Lib.hid ((hbo.block _ (lt_of_heap BN3.out)).trans BN3.out); have HB4 := Lib.hid (HB3.out.trans (hbo.mono HB3.out.size))
  have P1 := Lib.hid p1.bss; have P2 := Lib.hid p2.bss; have P3 := Lib.hid (Ins.own p3 HZ.out.2); clear hbo p1 p2 p3
  go_wp2_with fail
  refine (encode_any lf A1 mK a1 A2 mV a2 A3 mD a3 ks vs ds x4 P1.out P2.out P3.out (by omega) (by omega) (by omega) HMK.out sK sV).mono ?_
  rintro e x5 ⟨B, cB, rfl, ho, hb5⟩
  have BN5 := Lib.hid ((hb5.block _ (lt_of_heap BN4.out)).trans BN4.out); have HB5 := Lib.hid (HB4.out.trans (hb5.mono HB4.out.size))
  obtain ⟨C, HC⟩ : ∃ C, Hid (encC lf ks vs ds = C) := ⟨_, rfl⟩
  obtain ⟨R, HR⟩ : ∃ R, Hid (encR lf ks vs ds = R) := ⟨_, rfl⟩
  obtain ⟨nR, HNR⟩ : ∃ nR, Hid (R.length = nR) := ⟨_, rfl⟩
  rw [HR.out] at ho HRR ⊢; rw [HC.out]; rw [HNR.out] at ho ⊢
  have PB5 := Lib.hid (ho.bs HRR.out); have hcB := ho.cap
  clear ho P1 P2 P3
  have q0 := rc_cell 0 (.bool lf) BN5.out rfl; have q1 := rc_cell 1 (.slice AK mK cK) BN5.out rfl; have q2 := rc_cell 2 (.slice AV mV cV) BN5.out rfl; have q3 := rc_cell 3 (.slice AD mD cD) BN5.out rfl
  go_wp2_with fail
  clear q0 q1 q2 q3
  refine (rencode_any lf AK mK cK AV mV cV AD mD cD ks vs ds x5 (HX.out.keep HB5.out) (HY.out.keep HB5.out) (HZ.out.keep HB5.out) (by omega) (by omega) (by omega) HMK.out sK sV).mono ?_
  rintro e x6 ⟨B2, cB2, rfl, ho, hb6⟩
  rw [HR.out] at ho ⊢; rw [HC.out]; rw [HNR.out] at ho ⊢
  have BN6 := Lib.hid ((hb6.block _ (lt_of_heap BN5.out)).trans BN5.out); have HB6 := Lib.hid (HB5.out.trans (hb6.mono HB5.out.size))
  have PB6 := Lib.hid (PB5.out.keep hb6); have PR6 := Lib.hid (ho.bs HRR.out)
  clear ho hb5 hb6 PB5
  have hnR : nR ≤ 512 := by
    rw [← HNR.out, ← HR.out]
    by_cases h0 : encC lf ks vs ds = 0
    · rw [encR_len h0]; exact Nat.le_refl _
    · unfold encR; rw [if_neg h0]; simp
  obtain ⟨ck, HCK⟩ : ∃ ck, Hid (chkN lf ks vs ds = ck) := ⟨_, rfl⟩
  obtain ⟨sz, HSZ⟩ : ∃ sz, Hid (sizeN lf ks vs mD = sz) := ⟨_, rfl⟩
  go_upto_region 6 with fail
  go_cut [52] from 53 (fun pv wx => pv = .bool false ∧ Hid (wx.heap[w.heap.size]? = some (.cells #[.bool lf, .slice AK mK cK, .slice AV mV cV, .slice AD mD cD] 66 (0, 0))) ∧ Hid (Below w.heap.size w wx) ∧ Hid (Bs wx B nR R))
  case first =>
    have BNd : Hid (x6.drew.heap[w.heap.size]? = some (.cells #[.bool lf, .slice AK mK cK, .slice AV mV cV, .slice AD mD cD] 66 (0, 0))) := BN6; have HZd := Lib.hid (HB6.out.trans ((Dr.refl x6).one.below _)); have PBd := Lib.hid (PB6.out.keep ((Dr.refl x6).one.below _)); have PRd := Lib.hid (PR6.out.keep ((Dr.refl x6).one.below _))
    refine wp_region_held_drew (S := fun w' => w'.cell? ⟨w.heap.size, 0, none⟩ = some (.bool lf) ∧ w'.cell? ⟨w.heap.size, 1, none⟩ = some (.slice AK mK cK) ∧ w'.cell? ⟨w.heap.size, 2, none⟩ = some (.slice AV mV cV) ∧ w'.cell? ⟨w.heap.size, 3, none⟩ = some (.slice AD mD cD) ∧ True) (by kernel_rfl) (nd4 BNd.out trivial) (fun hH0 => ?_)
    generalize x6.drew = yd at *
    refine wpAnyH_take (i := 0) (oi := { dst := some 28, op := Op.load 66 (Operand.tmp 2), type := 66, pos := _, after := #[], guard := none }) (v := ?vg1_0) rfl (by kernel_rfl) (by kernel_rfl) (by kernel_rfl) (fun _ _ _ h => h) (Or.inl ⟨by rfl, ?yg1_0⟩) hH0 ?rg1_0
    case yg1_0 => (intro w hSw; (try dsimp only at hSw); go_simp; try (with_reducible rfl))
    try simp only [Act.put, List.setIfInBounds_toArray, List.set_cons_zero, List.set_cons_succ]
    refine wpAnyH_take (i := 3) (oi := { dst := some 31, op := Op.load 66 (Operand.tmp 2), type := 66, pos := _, after := #[], guard := none }) (v := ?vg1_3) rfl (by kernel_rfl) (by kernel_rfl) (by kernel_rfl) (fun _ _ _ h => h) (Or.inl ⟨by rfl, ?yg1_3⟩) hH0 ?rg1_3
    case yg1_3 => (intro w hSw; (try dsimp only at hSw); go_simp; try (with_reducible rfl))
    try simp only [Act.put, List.setIfInBounds_toArray, List.set_cons_zero, List.set_cons_succ]
    refine wpAnyH_ready (rs := [1]) (by kernel_rfl) (by simp) ?_
    refine (AllReadyH.cons (o := { dst := some 29, op := Op.call { callee := Callee.value (Operand.func 33), args := #[Operand.tmp 28], argTypes := #[66] }, type := 70, pos := _, after := #[{ on := 0, ground := Ground.data }], guard := none }) rfl (fun K hK => ?_) AllReadyH.nil)
    go_simp
    refine (ownN_any lf AK mK cK AV mV cV AD mD cD ks vs ds yd (HX.out.keep HZd.out) (HY.out.keep HZd.out) (HZ.out.keep HZd.out) (by omega) (by omega) (by omega) HMK.out HMV.out).mono ?_
    rintro e v2 ⟨A12, a12, A22, a22, A32, a32, rfl, p12, p22, p32, hb2⟩
    have BN2 := Lib.hid ((hb2.block _ (lt_of_heap BNd.out)).trans BNd.out); have HZ2 := Lib.hid (HZd.out.trans (hb2.mono HZd.out.size)); have PB2 := Lib.hid (PBd.out.keep hb2); have PR2 := Lib.hid (PRd.out.keep hb2)
    have OA2 := Lib.hid p12.bss; have OB2 := Lib.hid p22.bss; have OC2 := Lib.hid (Ins.own p32 HZ.out.2)
    clear hb2 p12 p22 p32
    go_wp2_with fail
    refine hK.out _ _ (nd4 BN2.out trivial) (fun hH2 => ?_)
    clear hK K
    try simp only [Act.put, List.setIfInBounds_toArray, List.set_cons_zero, List.set_cons_succ]
    refine wpAnyH_ready (rs := [2]) (by kernel_rfl) (by simp) ?_
    refine (AllReadyH.cons (o := { dst := some 30, op := Op.call { callee := Callee.value (Operand.func 35), args := #[Operand.tmp 29], argTypes := #[70] }, type := 39, pos := _, after := #[{ on := 1, ground := Ground.data }, { on := 1, ground := Ground.chain }], guard := none }) rfl (fun K hK => ?_) AllReadyH.nil)
    go_simp
    refine (check_any lf A12 mK a12 A22 mV a22 A32 mD a32 ks vs ds v2 OA2.out OB2.out OC2.out (by omega) (by omega) (by omega) HML.out).mono ?_
    rintro e v4 ⟨rfl, hb4⟩
    rw [HCK.out]
    have BN4 := Lib.hid ((hb4.block _ (lt_of_heap BN2.out)).trans BN2.out); have HZ4 := Lib.hid (HZ2.out.trans (hb4.mono HZ2.out.size)); have PB4 := Lib.hid (PB2.out.keep hb4); have PR4 := Lib.hid (PR2.out.keep hb4)
    have P14 := Lib.hid (OA2.out.keep hb4)
    have P24 := Lib.hid (OB2.out.keep hb4)
    have P34 := Lib.hid (OC2.out.keep hb4)
    clear hb4
    go_wp2_with fail
    refine hK.out _ _ (nd4 BN4.out trivial) (fun hH4 => ?_)
    clear hK K
    try simp only [Act.put, List.setIfInBounds_toArray, List.set_cons_zero, List.set_cons_succ]
    refine wpAnyH_ready (rs := [4]) (by kernel_rfl) (by simp) ?_
    refine (AllReadyH.cons (o := { dst := some 32, op := Op.call { callee := Callee.value (Operand.func 36), args := #[Operand.tmp 31], argTypes := #[66] }, type := 3, pos := _, after := #[{ on := 3, ground := Ground.data }, { on := 2, ground := Ground.chain }], guard := none }) rfl (fun K hK => ?_) AllReadyH.nil)
    go_simp
    refine (rcheck_any lf AK mK cK AV mV cV AD mD cD ks vs ds v4 (HX.out.keep HZ4.out) (HY.out.keep HZ4.out) (HZ.out.keep HZ4.out) (by omega) (by omega) (by omega) HML.out).mono ?_
    rintro e v6 ⟨rfl, hb6⟩
    rw [HCK.out]
    have BN6 := Lib.hid ((hb6.block _ (lt_of_heap BN4.out)).trans BN4.out); have HZ6 := Lib.hid (HZ4.out.trans (hb6.mono HZ4.out.size)); have PB6 := Lib.hid (PB4.out.keep hb6); have PR6 := Lib.hid (PR4.out.keep hb6)
    have P16 := Lib.hid (P14.out.keep hb6)
    have P26 := Lib.hid (P24.out.keep hb6)
    have P36 := Lib.hid (P34.out.keep hb6)
    clear hb6
    go_wp2_with fail
    refine hK.out _ _ (nd4 BN6.out trivial) (fun hH6 => ?_)
    clear hK K
    try simp only [Act.put, List.setIfInBounds_toArray, List.set_cons_zero, List.set_cons_succ]
    refine wpAnyH_take (i := 5) (oi := { dst := some 33, op := Op.binOp BinOp.neq 3 (Operand.tmp 30) (Operand.tmp 32) 3, type := 4, pos := _, after := #[{ on := 2, ground := Ground.data }, { on := 4, ground := Ground.data }], guard := none }) (v := ?vg7_5) rfl (by kernel_rfl) (by kernel_rfl) (by kernel_rfl) (fun _ _ _ h => h) (Or.inl ⟨by rfl, ?yg7_5⟩) hH6 ?rg7_5
    case yg7_5 => (intro w hSw; (try dsimp only at hSw); go_simp; try (with_reducible rfl))
    try simp only [Act.put, List.setIfInBounds_toArray, List.set_cons_zero, List.set_cons_succ]
    refine wpAnyH_take (i := 6) (oi := { dst := some 34, op := Op.move (Operand.tmp 33), type := 4, pos := _, after := #[{ on := 5, ground := Ground.data }, { on := 4, ground := Ground.chain }], guard := none }) (v := ?vg7_6) rfl (by kernel_rfl) (by kernel_rfl) (by kernel_rfl) (fun _ _ _ h => h) (Or.inl ⟨by rfl, ?yg7_6⟩) hH6 ?rg7_6
    case yg7_6 => (intro w hSw; (try dsimp only at hSw); go_simp; try (with_reducible rfl))
    try simp only [Act.put, List.setIfInBounds_toArray, List.set_cons_zero, List.set_cons_succ]
    refine wpAnyH_take (i := 7) (oi := { dst := some 35, op := Op.load 66 (Operand.tmp 2), type := 66, pos := _, after := #[{ on := 6, ground := Ground.guard }], guard := some (6, false) }) (v := ?vg7_7) rfl (by kernel_rfl) (by kernel_rfl) (by kernel_rfl) (fun _ _ _ h => h) (Or.inl ⟨by rfl, ?yg7_7⟩) hH6 ?rg7_7
    case yg7_7 => (intro w hSw; (try dsimp only at hSw); go_simp; try (with_reducible rfl))
    try simp only [Act.put, List.setIfInBounds_toArray, List.set_cons_zero, List.set_cons_succ]
    refine wpAnyH_take (i := 10) (oi := { dst := some 38, op := Op.load 66 (Operand.tmp 2), type := 66, pos := _, after := #[{ on := 6, ground := Ground.guard }], guard := some (6, false) }) (v := ?vg7_10) rfl (by kernel_rfl) (by kernel_rfl) (by kernel_rfl) (fun _ _ _ h => h) (Or.inl ⟨by rfl, ?yg7_10⟩) hH6 ?rg7_10
    case yg7_10 => (intro w hSw; (try dsimp only at hSw); go_simp; try (with_reducible rfl))
    try simp only [Act.put, List.setIfInBounds_toArray, List.set_cons_zero, List.set_cons_succ]
    refine wpAnyH_ready (rs := [8]) (by kernel_rfl) (by simp) ?_
    refine (AllReadyH.cons (o := { dst := some 36, op := Op.call { callee := Callee.value (Operand.func 33), args := #[Operand.tmp 35], argTypes := #[66] }, type := 70, pos := _, after := #[{ on := 7, ground := Ground.data }, { on := 6, ground := Ground.chain }, { on := 6, ground := Ground.guard }], guard := some (6, false) }) rfl (fun K hK => ?_) AllReadyH.nil)
    go_simp
    refine (ownN_any lf AK mK cK AV mV cV AD mD cD ks vs ds v6 (HX.out.keep HZ6.out) (HY.out.keep HZ6.out) (HZ.out.keep HZ6.out) (by omega) (by omega) (by omega) HMK.out HMV.out).mono ?_
    rintro e v8 ⟨A18, a18, A28, a28, A38, a38, rfl, p18, p28, p38, hb8⟩
    have BN8 := Lib.hid ((hb8.block _ (lt_of_heap BN6.out)).trans BN6.out); have HZ8 := Lib.hid (HZ6.out.trans (hb8.mono HZ6.out.size)); have PB8 := Lib.hid (PB6.out.keep hb8); have PR8 := Lib.hid (PR6.out.keep hb8)
    have OA8 := Lib.hid p18.bss; have OB8 := Lib.hid p28.bss; have OC8 := Lib.hid (Ins.own p38 HZ.out.2)
    clear hb8 p18 p28 p38
    go_wp2_with fail
    refine hK.out _ _ (nd4 BN8.out trivial) (fun hH8 => ?_)
    clear hK K
    try simp only [Act.put, List.setIfInBounds_toArray, List.set_cons_zero, List.set_cons_succ]
    refine wpAnyH_ready (rs := [9]) (by kernel_rfl) (by simp) ?_
    refine (AllReadyH.cons (o := { dst := some 37, op := Op.call { callee := Callee.value (Operand.func 37), args := #[Operand.tmp 36], argTypes := #[70] }, type := 3, pos := _, after := #[{ on := 8, ground := Ground.data }, { on := 8, ground := Ground.chain }, { on := 6, ground := Ground.guard }], guard := some (6, false) }) rfl (fun K hK => ?_) AllReadyH.nil)
    go_simp
    refine (size_any lf A18 mK a18 A28 mV a28 A38 mD a38 ks vs v8 OA8.out OB8.out (by omega) (by omega) (by omega) sK sV).mono ?_
    rintro e v10 ⟨rfl, hb10⟩
    rw [HSZ.out]
    have BN10 := Lib.hid ((hb10.block _ (lt_of_heap BN8.out)).trans BN8.out); have HZ10 := Lib.hid (HZ8.out.trans (hb10.mono HZ8.out.size)); have PB10 := Lib.hid (PB8.out.keep hb10); have PR10 := Lib.hid (PR8.out.keep hb10)
    have P110 := Lib.hid (OA8.out.keep hb10)
    have P210 := Lib.hid (OB8.out.keep hb10)
    have P310 := Lib.hid (OC8.out.keep hb10)
    clear hb10
    go_wp2_with fail
    refine hK.out _ _ (nd4 BN10.out trivial) (fun hH10 => ?_)
    clear hK K
    try simp only [Act.put, List.setIfInBounds_toArray, List.set_cons_zero, List.set_cons_succ]
    refine wpAnyH_ready (rs := [11]) (by kernel_rfl) (by simp) ?_
    refine (AllReadyH.cons (o := { dst := some 39, op := Op.call { callee := Callee.value (Operand.func 38), args := #[Operand.tmp 38], argTypes := #[66] }, type := 3, pos := _, after := #[{ on := 10, ground := Ground.data }, { on := 9, ground := Ground.chain }, { on := 6, ground := Ground.guard }], guard := some (6, false) }) rfl (fun K hK => ?_) AllReadyH.nil)
    go_simp
    refine (rsize_any lf AK mK cK AV mV cV AD mD cD ks vs v10 (HX.out.keep HZ10.out) (HY.out.keep HZ10.out) (by omega) (by omega) (by omega) sK sV).mono ?_
    rintro e v12 ⟨rfl, hb12⟩
    rw [HSZ.out]
    have BN12 := Lib.hid ((hb12.block _ (lt_of_heap BN10.out)).trans BN10.out); have HZ12 := Lib.hid (HZ10.out.trans (hb12.mono HZ10.out.size)); have PB12 := Lib.hid (PB10.out.keep hb12); have PR12 := Lib.hid (PR10.out.keep hb12)
    have P112 := Lib.hid (P110.out.keep hb12)
    have P212 := Lib.hid (P210.out.keep hb12)
    have P312 := Lib.hid (P310.out.keep hb12)
    clear hb12
    go_wp2_with fail
    refine hK.out _ _ (nd4 BN12.out trivial) (fun hH12 => ?_)
    clear hK K
    try simp only [Act.put, List.setIfInBounds_toArray, List.set_cons_zero, List.set_cons_succ]
    refine wpAnyH_take (i := 12) (oi := { dst := some 40, op := Op.binOp BinOp.neq 3 (Operand.tmp 37) (Operand.tmp 39) 3, type := 4, pos := _, after := #[{ on := 9, ground := Ground.data }, { on := 11, ground := Ground.data }, { on := 6, ground := Ground.guard }], guard := some (6, false) }) (v := ?vg13_12) rfl (by kernel_rfl) (by kernel_rfl) (by kernel_rfl) (fun _ _ _ h => h) (Or.inl ⟨by rfl, ?yg13_12⟩) hH12 ?rg13_12
    case yg13_12 => (intro w hSw; (try dsimp only at hSw); go_simp; try (with_reducible rfl))
    try simp only [Act.put, List.setIfInBounds_toArray, List.set_cons_zero, List.set_cons_succ]
    refine wpAnyH_take (i := 13) (oi := { dst := some 41, op := Op.pick (Operand.tmp 34) (Operand.const (Value.bool true)) (Operand.tmp 40), type := 4, pos := _, after := #[{ on := 6, ground := Ground.data }, { on := 12, ground := Ground.data }], guard := none }) (v := ?vg13_13) rfl (by kernel_rfl) (by kernel_rfl) (by kernel_rfl) (fun _ _ _ h => h) (Or.inl ⟨by rfl, ?yg13_13⟩) hH12 ?rg13_13
    case yg13_13 => (intro w hSw; (try dsimp only at hSw); go_simp; try (with_reducible rfl))
    try simp only [Act.put, List.setIfInBounds_toArray, List.set_cons_zero, List.set_cons_succ]
    refine wpAnyH_take (i := 14) (oi := { dst := some 42, op := Op.move (Operand.tmp 41), type := 4, pos := _, after := #[{ on := 13, ground := Ground.data }, { on := 11, ground := Ground.chain }], guard := none }) (v := ?vg13_14) rfl (by kernel_rfl) (by kernel_rfl) (by kernel_rfl) (fun _ _ _ h => h) (Or.inl ⟨by rfl, ?yg13_14⟩) hH12 ?rg13_14
    case yg13_14 => (intro w hSw; (try dsimp only at hSw); go_simp; try (with_reducible rfl))
    try simp only [Act.put, List.setIfInBounds_toArray, List.set_cons_zero, List.set_cons_succ]
    refine wpAnyH_take (i := 15) (oi := { dst := some 43, op := Op.move (Operand.tmp 6), type := 39, pos := _, after := #[{ on := 14, ground := Ground.guard }], guard := some (14, false) }) (v := ?vg13_15) rfl (by kernel_rfl) (by kernel_rfl) (by kernel_rfl) (fun _ _ _ h => h) (Or.inl ⟨by rfl, ?yg13_15⟩) hH12 ?rg13_15
    case yg13_15 => (intro w hSw; (try dsimp only at hSw); go_simp; try (with_reducible rfl))
    try simp only [Act.put, List.setIfInBounds_toArray, List.set_cons_zero, List.set_cons_succ]
    refine wpAnyH_take (i := 16) (oi := { dst := some 44, op := Op.move (Operand.tmp 8), type := 3, pos := _, after := #[{ on := 14, ground := Ground.guard }], guard := some (14, false) }) (v := ?vg13_16) rfl (by kernel_rfl) (by kernel_rfl) (by kernel_rfl) (fun _ _ _ h => h) (Or.inl ⟨by rfl, ?yg13_16⟩) hH12 ?rg13_16
    case yg13_16 => (intro w hSw; (try dsimp only at hSw); go_simp; try (with_reducible rfl))
    try simp only [Act.put, List.setIfInBounds_toArray, List.set_cons_zero, List.set_cons_succ]
    refine wpAnyH_take (i := 17) (oi := { dst := some 45, op := Op.binOp BinOp.neq 3 (Operand.tmp 43) (Operand.tmp 44) 3, type := 4, pos := _, after := #[{ on := 15, ground := Ground.data }, { on := 16, ground := Ground.data }, { on := 14, ground := Ground.guard }], guard := some (14, false) }) (v := ?vg13_17) rfl (by kernel_rfl) (by kernel_rfl) (by kernel_rfl) (fun _ _ _ h => h) (Or.inl ⟨by rfl, ?yg13_17⟩) hH12 ?rg13_17
    case yg13_17 => (intro w hSw; (try dsimp only at hSw); go_simp; try (with_reducible rfl))
    try simp only [Act.put, List.setIfInBounds_toArray, List.set_cons_zero, List.set_cons_succ]
    refine wpAnyH_take (i := 18) (oi := { dst := some 46, op := Op.pick (Operand.tmp 42) (Operand.const (Value.bool true)) (Operand.tmp 45), type := 4, pos := _, after := #[{ on := 14, ground := Ground.data }, { on := 17, ground := Ground.data }], guard := none }) (v := ?vg13_18) rfl (by kernel_rfl) (by kernel_rfl) (by kernel_rfl) (fun _ _ _ h => h) (Or.inl ⟨by rfl, ?yg13_18⟩) hH12 ?rg13_18
    case yg13_18 => (intro w hSw; (try dsimp only at hSw); go_simp; try (with_reducible rfl))
    try simp only [Act.put, List.setIfInBounds_toArray, List.set_cons_zero, List.set_cons_succ]
    refine wpAnyH_take (i := 19) (oi := { dst := some 47, op := Op.move (Operand.tmp 46), type := 4, pos := _, after := #[{ on := 18, ground := Ground.data }, { on := 14, ground := Ground.chain }], guard := none }) (v := ?vg13_19) rfl (by kernel_rfl) (by kernel_rfl) (by kernel_rfl) (fun _ _ _ h => h) (Or.inl ⟨by rfl, ?yg13_19⟩) hH12 ?rg13_19
    case yg13_19 => (intro w hSw; (try dsimp only at hSw); go_simp; try (with_reducible rfl))
    try simp only [Act.put, List.setIfInBounds_toArray, List.set_cons_zero, List.set_cons_succ]
    refine wpAnyH_take (i := 20) (oi := { dst := some 48, op := Op.move (Operand.tmp 5), type := 28, pos := _, after := #[{ on := 19, ground := Ground.guard }], guard := some (19, false) }) (v := ?vg13_20) rfl (by kernel_rfl) (by kernel_rfl) (by kernel_rfl) (fun _ _ _ h => h) (Or.inl ⟨by rfl, ?yg13_20⟩) hH12 ?rg13_20
    case yg13_20 => (intro w hSw; (try dsimp only at hSw); go_simp; try (with_reducible rfl))
    try simp only [Act.put, List.setIfInBounds_toArray, List.set_cons_zero, List.set_cons_succ]
    refine wpAnyH_take (i := 21) (oi := { dst := some 49, op := Op.move (Operand.tmp 7), type := 28, pos := _, after := #[{ on := 19, ground := Ground.guard }], guard := some (19, false) }) (v := ?vg13_21) rfl (by kernel_rfl) (by kernel_rfl) (by kernel_rfl) (fun _ _ _ h => h) (Or.inl ⟨by rfl, ?yg13_21⟩) hH12 ?rg13_21
    case yg13_21 => (intro w hSw; (try dsimp only at hSw); go_simp; try (with_reducible rfl))
    try simp only [Act.put, List.setIfInBounds_toArray, List.set_cons_zero, List.set_cons_succ]
    refine wpAnyH_ready (rs := [22]) (by kernel_rfl) (by simp) ?_
    refine (AllReadyH.cons (o := { dst := some 50, op := Op.call { callee := Callee.value (Operand.func 16), args := #[Operand.tmp 48, Operand.tmp 49], argTypes := #[28, 28] }, type := 4, pos := _, after := #[{ on := 20, ground := Ground.data }, { on := 21, ground := Ground.data }, { on := 19, ground := Ground.chain }, { on := 19, ground := Ground.guard }], guard := some (19, false) }) rfl (fun K hK => ?_) AllReadyH.nil)
    go_simp
    refine (equal_is B B2 nR nR cB cB2 R R true (by rw [cmpL_self]; rfl) v12 PB12.out PR12.out (by unfold maxLen; omega) (by unfold maxLen; omega)).mono ?_
    rintro e v14 ⟨rfl, hd14⟩
    have hb14 := hd14.below v12.heap.size
    have BN14 := Lib.hid ((hb14.block _ (lt_of_heap BN12.out)).trans BN12.out); have HZ14 := Lib.hid (HZ12.out.trans (hb14.mono HZ12.out.size)); have PB14 := Lib.hid (PB12.out.keep hb14); have PR14 := Lib.hid (PR12.out.keep hb14)
    have P114 := Lib.hid (P112.out.keep hb14)
    have P214 := Lib.hid (P212.out.keep hb14)
    have P314 := Lib.hid (P312.out.keep hb14)
    clear hb14 hd14
    go_wp2_with fail
    refine hK.out _ _ (nd4 BN14.out trivial) (fun hH14 => ?_)
    clear hK K
    try simp only [Act.put, List.setIfInBounds_toArray, List.set_cons_zero, List.set_cons_succ]
    refine wpAnyH_take (i := 23) (oi := { dst := some 51, op := Op.unOp UnOp.not 4 (Operand.tmp 50), type := 4, pos := _, after := #[{ on := 22, ground := Ground.data }, { on := 19, ground := Ground.guard }], guard := some (19, false) }) (v := ?vg15_23) rfl (by kernel_rfl) (by kernel_rfl) (by kernel_rfl) (fun _ _ _ h => h) (Or.inl ⟨by rfl, ?yg15_23⟩) hH14 ?rg15_23
    case yg15_23 => (intro w hSw; (try dsimp only at hSw); go_simp; try (with_reducible rfl))
    try simp only [Act.put, List.setIfInBounds_toArray, List.set_cons_zero, List.set_cons_succ]
    refine wpAnyH_take (i := 24) (oi := { dst := some 52, op := Op.pick (Operand.tmp 47) (Operand.const (Value.bool true)) (Operand.tmp 51), type := 4, pos := _, after := #[{ on := 19, ground := Ground.data }, { on := 23, ground := Ground.data }], guard := none }) (v := ?vg15_24) rfl (by kernel_rfl) (by kernel_rfl) (by kernel_rfl) (fun _ _ _ h => h) (Or.inl ⟨by rfl, ?yg15_24⟩) hH14 ?rg15_24
    case yg15_24 => (intro w hSw; (try dsimp only at hSw); go_simp; try (with_reducible rfl))
    try simp only [Act.put, List.setIfInBounds_toArray, List.set_cons_zero, List.set_cons_succ]
    refine wpAnyH_done (by kernel_rfl) ?_ _
    go_wp2_with fail
    go_meet
    case rel => exact ⟨rfl, BN14, HZ14, PB14⟩
  obtain ⟨rfl, BN7, HB7, PB7⟩ := hcut
  clear BN6 HB6 PB6 PR6
  by_cases hC0 : C = 0
  · subst hC0
    obtain ⟨b1, b2, b3, b4⟩ := back_node HC.out
    have hlen := encR_len HC.out
    have HRb := HR.out
    rw [HRb] at b1 b2 b3 b4 hlen
    have h512R : nR = 512 := by rw [← HNR.out]; exact hlen
    subst h512R
    go_wp2_with fail
    refine (decodeO_any B cB R lf ks vs ds b1 b2 b3 b4 wc PB7.out hcB HC.out HRb).mono ?_
    rintro e y1 ⟨JK, jK, dK, JV, jV, dV, JD, jD, dD, rfl, p1, p2, p3, g1, g2, g3, hy1⟩
    have hya := below_alloc y1 (.cells (ndV lf JK jK dK JV jV dV JD jD dD) 70); have NY := Lib.hid (heap_alloc_new y1 (.cells (ndV lf JK jK dK JV jV dV JD jD dD) 70))
    have hyy := hy1.trans (hya.mono hy1.size)
    have Q1 := Lib.hid (p1.bss.keep hya); have Q2 := Lib.hid (p2.bss.keep hya); have Q3 := Lib.hid (Ins.keep (Ins.own p3 HZ.out.2) hya)
    have BN8 := Lib.hid ((hyy.block _ (lt_of_heap BN7.out)).trans BN7.out); have HB8 := Lib.hid (HB7.out.trans (hyy.mono HB7.out.size))
    clear p1 p2 p3 hya hyy hy1 b1 b2 b3 b4 HRb hlen
    go_upto_region 10 with fail
    generalize y1.heap.size = gy at *
    generalize y1.alloc (.cells (ndV lf JK jK dK JV jV dV JD jD dD) 70) = y2 at *
    have BNe : Hid (y2.drew.heap[w.heap.size]? = some (.cells #[.bool lf, .slice AK mK cK, .slice AV mV cV, .slice AD mD cD] 66 (0, 0))) := BN8; have NYe : Hid (y2.drew.heap[gy]? = some (.cells #[.bool lf, .slice JK jK dK, .slice JV jV dV, .slice JD jD dD] 70 (0, 0))) := NY; have HZe := Lib.hid (HB8.out.trans ((Dr.refl y2).one.below _)); have Q1e := Lib.hid (Q1.out.keep ((Dr.refl y2).one.below _)); have Q2e := Lib.hid (Q2.out.keep ((Dr.refl y2).one.below _)); have Q3e := Lib.hid (Q3.out.keep ((Dr.refl y2).one.below _))
    refine wp_region_held_drew (S := fun w' => w'.cell? ⟨w.heap.size, 0, none⟩ = some (.bool lf) ∧ w'.cell? ⟨w.heap.size, 1, none⟩ = some (.slice AK mK cK) ∧ w'.cell? ⟨w.heap.size, 2, none⟩ = some (.slice AV mV cV) ∧ w'.cell? ⟨w.heap.size, 3, none⟩ = some (.slice AD mD cD) ∧ w'.cell? ⟨gy, 0, none⟩ = some (.bool lf) ∧ w'.cell? ⟨gy, 1, none⟩ = some (.slice JK jK dK) ∧ w'.cell? ⟨gy, 2, none⟩ = some (.slice JV jV dV) ∧ w'.cell? ⟨gy, 3, none⟩ = some (.slice JD jD dD) ∧ True) (by kernel_rfl) (nd4 BNe.out (nd4 NYe.out trivial)) (fun hH0 => ?_)
    generalize y2.drew = ye at *
    refine wpAnyH_take (i := 0) (oi := { dst := some 60, op := Op.move (Operand.tmp 10), type := 39, pos := _, after := #[], guard := none }) (v := ?vh1_0) rfl (by kernel_rfl) (by kernel_rfl) (by kernel_rfl) (fun _ _ _ h => h) (Or.inl ⟨by rfl, ?yh1_0⟩) hH0 ?rh1_0
    case yh1_0 => (intro w hSw; (try dsimp only at hSw); go_simp; try (with_reducible rfl))
    try simp only [Act.put, List.setIfInBounds_toArray, List.set_cons_zero, List.set_cons_succ]
    refine wpAnyH_take (i := 1) (oi := { dst := some 61, op := Op.binOp BinOp.neq 39 (Operand.tmp 60) (Operand.const (Value.int IntKind.i64 0)) 39, type := 4, pos := _, after := #[{ on := 0, ground := Ground.data }], guard := none }) (v := ?vh1_1) rfl (by kernel_rfl) (by kernel_rfl) (by kernel_rfl) (fun _ _ _ h => h) (Or.inl ⟨by rfl, ?yh1_1⟩) hH0 ?rh1_1
    case yh1_1 => (intro w hSw; (try dsimp only at hSw); go_simp; try (with_reducible rfl))
    try simp only [Act.put, List.setIfInBounds_toArray, List.set_cons_zero, List.set_cons_succ]
    refine wpAnyH_take (i := 2) (oi := { dst := some 62, op := Op.move (Operand.tmp 61), type := 4, pos := _, after := #[{ on := 1, ground := Ground.data }], guard := none }) (v := ?vh1_2) rfl (by kernel_rfl) (by kernel_rfl) (by kernel_rfl) (fun _ _ _ h => h) (Or.inl ⟨by rfl, ?yh1_2⟩) hH0 ?rh1_2
    case yh1_2 => (intro w hSw; (try dsimp only at hSw); go_simp; try (with_reducible rfl))
    try simp only [Act.put, List.setIfInBounds_toArray, List.set_cons_zero, List.set_cons_succ]
    refine wpAnyH_take (i := 3) (oi := { dst := some 63, op := Op.load 70 (Operand.tmp 9), type := 70, pos := _, after := #[{ on := 2, ground := Ground.guard }], guard := some (2, false) }) (v := ?vh1_3) rfl (by kernel_rfl) (by kernel_rfl) (by kernel_rfl) (fun _ _ _ h => h) (Or.inl ⟨by rfl, ?yh1_3⟩) hH0 ?rh1_3
    case yh1_3 => (intro w hSw; (try dsimp only at hSw); go_simp; try (with_reducible rfl))
    try simp only [Act.put, List.setIfInBounds_toArray, List.set_cons_zero, List.set_cons_succ]
    refine wpAnyH_take (i := 5) (oi := { dst := some 65, op := Op.load 66 (Operand.tmp 2), type := 66, pos := _, after := #[{ on := 2, ground := Ground.guard }], guard := some (2, false) }) (v := ?vh1_5) rfl (by kernel_rfl) (by kernel_rfl) (by kernel_rfl) (fun _ _ _ h => h) (Or.inl ⟨by rfl, ?yh1_5⟩) hH0 ?rh1_5
    case yh1_5 => (intro w hSw; (try dsimp only at hSw); go_simp; try (with_reducible rfl))
    try simp only [Act.put, List.setIfInBounds_toArray, List.set_cons_zero, List.set_cons_succ]
    refine wpAnyH_ready (rs := [4]) (by kernel_rfl) (by simp) ?_
    refine (AllReadyH.cons (o := { dst := some 64, op := Op.call { callee := Callee.value (Operand.func 41), args := #[Operand.tmp 63], argTypes := #[70] }, type := 66, pos := _, after := #[{ on := 3, ground := Ground.data }, { on := 2, ground := Ground.chain }, { on := 2, ground := Ground.guard }], guard := some (2, false) }) rfl (fun K hK => ?_) AllReadyH.nil)
    go_simp
    refine (toldN_any lf JK jK dK JV jV dV JD jD dD ye).mono ?_
    rintro e v2 ⟨rfl, hb2⟩
    have BN2 := Lib.hid ((hb2.block _ (lt_of_heap BNe.out)).trans BNe.out); have NY2 := Lib.hid ((hb2.block _ (lt_of_heap NYe.out)).trans NYe.out); have HZ2 := Lib.hid (HZe.out.trans (hb2.mono HZe.out.size)); have QA2 := Lib.hid (Q1e.out.keep hb2); have QB2 := Lib.hid (Q2e.out.keep hb2); have QC2 := Lib.hid (Q3e.out.keep hb2)
    clear hb2
    go_wp2_with fail
    refine hK.out _ _ (nd4 BN2.out (nd4 NY2.out trivial)) (fun hH2 => ?_)
    clear hK K
    try simp only [Act.put, List.setIfInBounds_toArray, List.set_cons_zero, List.set_cons_succ]
    refine wpAnyH_ready (rs := [6]) (by kernel_rfl) (by simp) ?_
    refine (AllReadyH.cons (o := { dst := some 66, op := Op.call { callee := Callee.value (Operand.func 40), args := #[Operand.tmp 64, Operand.tmp 65], argTypes := #[66, 66] }, type := 4, pos := _, after := #[{ on := 4, ground := Ground.data }, { on := 5, ground := Ground.data }, { on := 4, ground := Ground.chain }, { on := 2, ground := Ground.guard }], guard := some (2, false) }) rfl (fun K hK => ?_) AllReadyH.nil)
    go_simp
    refine (rsame_is true lf lf JK jK dK JV jV dV JD jD dD AK mK cK AV mV cV AD mD cD ks vs ks vs ds ds v2 (by simp) QA2.out QB2.out QC2.out (HX.out.keep HZ2.out) (HY.out.keep HZ2.out) (HZ.out.keep HZ2.out) (by omega) (by omega) (by omega) (by omega) (by omega) (by omega) HML.out HMM.out HML.out HMM.out).mono ?_
    rintro e v4 ⟨rfl, hb4⟩
    have BN4 := Lib.hid ((hb4.block _ (lt_of_heap BN2.out)).trans BN2.out); have NY4 := Lib.hid ((hb4.block _ (lt_of_heap NY2.out)).trans NY2.out); have HZ4 := Lib.hid (HZ2.out.trans (hb4.mono HZ2.out.size)); have QA4 := Lib.hid (QA2.out.keep hb4); have QB4 := Lib.hid (QB2.out.keep hb4); have QC4 := Lib.hid (QC2.out.keep hb4)
    clear hb4
    go_wp2_with fail
    refine hK.out _ _ (nd4 BN4.out (nd4 NY4.out trivial)) (fun hH4 => ?_)
    clear hK K
    try simp only [Act.put, List.setIfInBounds_toArray, List.set_cons_zero, List.set_cons_succ]
    refine wpAnyH_take (i := 7) (oi := { dst := some 67, op := Op.unOp UnOp.not 4 (Operand.tmp 66), type := 4, pos := _, after := #[{ on := 6, ground := Ground.data }, { on := 2, ground := Ground.guard }], guard := some (2, false) }) (v := ?vh5_7) rfl (by kernel_rfl) (by kernel_rfl) (by kernel_rfl) (fun _ _ _ h => h) (Or.inl ⟨by rfl, ?yh5_7⟩) hH4 ?rh5_7
    case yh5_7 => (intro w hSw; (try dsimp only at hSw); go_simp; try (with_reducible rfl))
    try simp only [Act.put, List.setIfInBounds_toArray, List.set_cons_zero, List.set_cons_succ]
    refine wpAnyH_take (i := 8) (oi := { dst := some 68, op := Op.pick (Operand.tmp 62) (Operand.const (Value.bool true)) (Operand.tmp 67), type := 4, pos := _, after := #[{ on := 2, ground := Ground.data }, { on := 7, ground := Ground.data }], guard := none }) (v := ?vh5_8) rfl (by kernel_rfl) (by kernel_rfl) (by kernel_rfl) (fun _ _ _ h => h) (Or.inl ⟨by rfl, ?yh5_8⟩) hH4 ?rh5_8
    case yh5_8 => (intro w hSw; (try dsimp only at hSw); go_simp; try (with_reducible rfl))
    try simp only [Act.put, List.setIfInBounds_toArray, List.set_cons_zero, List.set_cons_succ]
    refine wpAnyH_done (by kernel_rfl) ?_ _
    have HTL := HZ4
    go_wp2_with fail
    refine (copy_any AP np cp P v4 (HPP.out.keep HTL.out) (by omega)).mono ?_
    rintro e z1 ⟨AC, cc, rfl, ho1, hz1⟩
    have HC1 := Lib.hid (HTL.out.trans (hz1.mono HTL.out.size)); have hcc := ho1.cap; have PC1 := Lib.hid (ho1.bs HPP.out.2); clear ho1 hz1
    by_cases h512 : np = 512
    · subst h512
      have hP5 := HPL.out
      by_cases hC2 : encC (lfT P) (ksT P) (vsT P) (dsT P) = 0
      · by_cases hR2 : encR (lfT P) (ksT P) (vsT P) (dsT P) = P
        · go_wp2_with fail
          refine (decodeO_any AC cc P (lfT P) (ksT P) (vsT P) (dsT P) rfl rfl rfl rfl z1 PC1.out hcc hC2 hR2).mono ?_
          rintro e z2 ⟨JK, jK, dK, JV, jV, dV, JD, jD, dD, rfl, p1, p2, p3, g1, g2, g3, hz2⟩
          have HIN := dsT_bd PC1.out.2; have HLS := Lib.hid (ksT_len hP5); have HLT := Lib.hid (vsT_len hP5)
          have l1 := p1.bss.len; have l2 := p2.bss.len
          generalize lfT P = lg at *; generalize ksT P = ls at *; generalize vsT P = us at *; generalize dsT P = es at *
          have hza := below_alloc z2 (.cells (ndV lg JK jK dK JV jV dV JD jD dD) 70); have NZ := Lib.hid (heap_alloc_new z2 (.cells (ndV lg JK jK dK JV jV dV JD jD dD) 70))
          have Q1 := Lib.hid (p1.bss.keep hza); have Q2 := Lib.hid (p2.bss.keep hza); have Q3 : Hid (Ins _ JD jD es) := Lib.hid (Ins.keep ⟨p3.rd, fun d hd => by have := HIN d hd; omega⟩ hza); have HC2 := Lib.hid (HC1.out.trans ((hz2.trans (hza.mono hz2.size)).mono HC1.out.size))
          have HPQ := Lib.hid ((HPP.out.keep HC2.out))
          clear p1 p2 p3 hza hz2 HIN
          go_upto_region 13 with fail
          generalize z2.heap.size = gz at *
          generalize z2.alloc (.cells (ndV lg JK jK dK JV jV dV JD jD dD) 70) = z3 at *
          have q0 := rc_cell 0 (.bool lg) NZ.out rfl; have q1 := rc_cell 1 (.slice JK jK dK) NZ.out rfl; have q2 := rc_cell 2 (.slice JV jV dV) NZ.out rfl; have q3 := rc_cell 3 (.slice JD jD dD) NZ.out rfl
          go_wp2_with fail
          clear q0 q1 q2 q3
          refine (toldN_any lg JK jK dK JV jV dV JD jD dD z3).mono ?_
          rintro e z4 ⟨rfl, hz4⟩
          have Q1b := Lib.hid (Q1.out.keep hz4); have Q2b := Lib.hid (Q2.out.keep hz4); have Q3b := Lib.hid (Q3.out.keep hz4); have HC4 := Lib.hid (HC2.out.trans (hz4.mono HC2.out.size)); clear hz4 Q1 Q2 Q3
          go_wp2_with fail
          refine (rencode_any lg JK jK dK JV jV dV JD jD dD ls us es z4 Q1b.out Q2b.out Q3b.out (by omega) (by omega) (by omega) (fun x hx => Nat.le_trans (HLS.out x hx) (by omega)) (tz_of (m := 0) 1 HLS.out (by omega) (by omega)) (tz_of (m := 0) 2 HLT.out (by omega) (by omega))).mono ?_
          rintro e z5 ⟨B5, cB5, rfl, ho5, hz5⟩
          rw [hR2] at ho5 ⊢; rw [hC2]
          have PQ5 := Lib.hid (ho5.bs HPP.out.2); have HC5 := Lib.hid (HC4.out.trans (hz5.mono HC4.out.size)); clear ho5 hz5
          rw [hP5] at PQ5 ⊢
          clear hC2 hR2
          go_wp2_with fail
          refine (equal_is B5 AP 512 512 cB5 cp P P true (by rw [cmpL_self]; rfl) z5 PQ5.out (HPP.out.keep HC5.out) (by unfold maxLen; omega) (by unfold maxLen; omega)).mono ?_
          rintro e z6 ⟨rfl, hd6⟩
          have HC6 := Lib.hid (HC5.out.trans ((hd6.below z5.heap.size).mono HC5.out.size)); clear hd6
          go_wp2
          go_ret
          exact ⟨rfl, HC6.out⟩
        · go_wp2_with fail
          refine (decodeN_any AC cc P (lfT P) (ksT P) (vsT P) (dsT P) rfl rfl rfl rfl z1 PC1.out hcc hC2 hR2).mono ?_
          rintro e z2 ⟨rfl, hz2⟩
          have hza := below_alloc z2 (.cells ndZ 70); have NZ := Lib.hid (heap_alloc_new z2 (.cells ndZ 70)); have HC2 := Lib.hid (HC1.out.trans ((hz2.trans (hza.mono hz2.size)).mono HC1.out.size))
          clear hza hz2
          go_upto_region 13 with fail
          generalize z2.heap.size = gz at *
          generalize z2.alloc (.cells ndZ 70) = z3 at *
          have q0 := rc_cell 0 (.bool false) NZ.out rfl; have q1 := rc_cell 1 (.slice none 0 0) NZ.out rfl; have q2 := rc_cell 2 (.slice none 0 0) NZ.out rfl; have q3 := rc_cell 3 (.slice none 0 0) NZ.out rfl
          go_wp2
          go_ret
          exact ⟨rfl, HC2.out⟩
      · go_wp2_with fail
        refine (decodeE_any AC cc P (lfT P) (ksT P) (vsT P) (dsT P) rfl rfl rfl rfl z1 PC1.out hcc hC2).mono ?_
        rintro e z2 ⟨rfl, hz2⟩
        have hza := below_alloc z2 (.cells ndZ 70); have NZ := Lib.hid (heap_alloc_new z2 (.cells ndZ 70)); have HC2 := Lib.hid (HC1.out.trans ((hz2.trans (hza.mono hz2.size)).mono HC1.out.size))
        clear hza hz2
        go_upto_region 13 with fail
        generalize z2.heap.size = gz at *
        generalize z2.alloc (.cells ndZ 70) = z3 at *
        have q0 := rc_cell 0 (.bool false) NZ.out rfl; have q1 := rc_cell 1 (.slice none 0 0) NZ.out rfl; have q2 := rc_cell 2 (.slice none 0 0) NZ.out rfl; have q3 := rc_cell 3 (.slice none 0 0) NZ.out rfl
        go_wp2
        go_ret
        exact ⟨rfl, HC2.out⟩
    · have d5 : ((np : Int) != 512) = true := by simp; omega
      have d6 : ¬ (np : Int) = 512 := by omega
      go_wp2_with fail
      refine (decodeS_any AC np cc z1 h512 (by unfold maxLen; omega)).mono ?_
      rintro e z2 ⟨rfl, hz2⟩
      have hza := below_alloc z2 (.cells ndZ 70); have NZ := Lib.hid (heap_alloc_new z2 (.cells ndZ 70)); have HC2 := Lib.hid (HC1.out.trans ((hz2.trans (hza.mono hz2.size)).mono HC1.out.size))
      clear hza hz2
      go_upto_region 13 with fail
      generalize z2.heap.size = gz at *
      generalize z2.alloc (.cells ndZ 70) = z3 at *
      have q0 := rc_cell 0 (.bool false) NZ.out rfl; have q1 := rc_cell 1 (.slice none 0 0) NZ.out rfl; have q2 := rc_cell 2 (.slice none 0 0) NZ.out rfl; have q3 := rc_cell 3 (.slice none 0 0) NZ.out rfl
      go_wp2
      go_ret
      exact ⟨rfl, HC2.out⟩
  · have dC : ((C : Int) == 0) = false := by simp; omega
    have dC2 : ¬ (C : Int) = 0 := by omega
    go_wp2_with fail
    refine (copy_any AP np cp P wc (HPP.out.keep HB7.out) (by omega)).mono ?_
    rintro e z1 ⟨AC, cc, rfl, ho1, hz1⟩
    have HC1 := Lib.hid (HB7.out.trans (hz1.mono HB7.out.size)); have hcc := ho1.cap; have PC1 := Lib.hid (ho1.bs HPP.out.2); clear ho1 hz1
    by_cases h512 : np = 512
    · subst h512
      have hP5 := HPL.out
      by_cases hC2 : encC (lfT P) (ksT P) (vsT P) (dsT P) = 0
      · by_cases hR2 : encR (lfT P) (ksT P) (vsT P) (dsT P) = P
        · go_wp2_with fail
          refine (decodeO_any AC cc P (lfT P) (ksT P) (vsT P) (dsT P) rfl rfl rfl rfl z1 PC1.out hcc hC2 hR2).mono ?_
          rintro e z2 ⟨JK, jK, dK, JV, jV, dV, JD, jD, dD, rfl, p1, p2, p3, g1, g2, g3, hz2⟩
          have HIN := dsT_bd PC1.out.2; have HLS := Lib.hid (ksT_len hP5); have HLT := Lib.hid (vsT_len hP5)
          have l1 := p1.bss.len; have l2 := p2.bss.len
          generalize lfT P = lg at *; generalize ksT P = ls at *; generalize vsT P = us at *; generalize dsT P = es at *
          have hza := below_alloc z2 (.cells (ndV lg JK jK dK JV jV dV JD jD dD) 70); have NZ := Lib.hid (heap_alloc_new z2 (.cells (ndV lg JK jK dK JV jV dV JD jD dD) 70))
          have Q1 := Lib.hid (p1.bss.keep hza); have Q2 := Lib.hid (p2.bss.keep hza); have Q3 : Hid (Ins _ JD jD es) := Lib.hid (Ins.keep ⟨p3.rd, fun d hd => by have := HIN d hd; omega⟩ hza); have HC2 := Lib.hid (HC1.out.trans ((hz2.trans (hza.mono hz2.size)).mono HC1.out.size))
          have HPQ := Lib.hid ((HPP.out.keep HC2.out))
          clear p1 p2 p3 hza hz2 HIN
          go_upto_region 13 with fail
          generalize z2.heap.size = gz at *
          generalize z2.alloc (.cells (ndV lg JK jK dK JV jV dV JD jD dD) 70) = z3 at *
          have q0 := rc_cell 0 (.bool lg) NZ.out rfl; have q1 := rc_cell 1 (.slice JK jK dK) NZ.out rfl; have q2 := rc_cell 2 (.slice JV jV dV) NZ.out rfl; have q3 := rc_cell 3 (.slice JD jD dD) NZ.out rfl
          go_wp2_with fail
          clear q0 q1 q2 q3
          refine (toldN_any lg JK jK dK JV jV dV JD jD dD z3).mono ?_
          rintro e z4 ⟨rfl, hz4⟩
          have Q1b := Lib.hid (Q1.out.keep hz4); have Q2b := Lib.hid (Q2.out.keep hz4); have Q3b := Lib.hid (Q3.out.keep hz4); have HC4 := Lib.hid (HC2.out.trans (hz4.mono HC2.out.size)); clear hz4 Q1 Q2 Q3
          go_wp2_with fail
          refine (rencode_any lg JK jK dK JV jV dV JD jD dD ls us es z4 Q1b.out Q2b.out Q3b.out (by omega) (by omega) (by omega) (fun x hx => Nat.le_trans (HLS.out x hx) (by omega)) (tz_of (m := 0) 1 HLS.out (by omega) (by omega)) (tz_of (m := 0) 2 HLT.out (by omega) (by omega))).mono ?_
          rintro e z5 ⟨B5, cB5, rfl, ho5, hz5⟩
          rw [hR2] at ho5 ⊢; rw [hC2]
          have PQ5 := Lib.hid (ho5.bs HPP.out.2); have HC5 := Lib.hid (HC4.out.trans (hz5.mono HC4.out.size)); clear ho5 hz5
          rw [hP5] at PQ5 ⊢
          clear hC2 hR2
          go_wp2_with fail
          refine (equal_is B5 AP 512 512 cB5 cp P P true (by rw [cmpL_self]; rfl) z5 PQ5.out (HPP.out.keep HC5.out) (by unfold maxLen; omega) (by unfold maxLen; omega)).mono ?_
          rintro e z6 ⟨rfl, hd6⟩
          have HC6 := Lib.hid (HC5.out.trans ((hd6.below z5.heap.size).mono HC5.out.size)); clear hd6
          go_wp2
          go_ret
          exact ⟨rfl, HC6.out⟩
        · go_wp2_with fail
          refine (decodeN_any AC cc P (lfT P) (ksT P) (vsT P) (dsT P) rfl rfl rfl rfl z1 PC1.out hcc hC2 hR2).mono ?_
          rintro e z2 ⟨rfl, hz2⟩
          have hza := below_alloc z2 (.cells ndZ 70); have NZ := Lib.hid (heap_alloc_new z2 (.cells ndZ 70)); have HC2 := Lib.hid (HC1.out.trans ((hz2.trans (hza.mono hz2.size)).mono HC1.out.size))
          clear hza hz2
          go_upto_region 13 with fail
          generalize z2.heap.size = gz at *
          generalize z2.alloc (.cells ndZ 70) = z3 at *
          have q0 := rc_cell 0 (.bool false) NZ.out rfl; have q1 := rc_cell 1 (.slice none 0 0) NZ.out rfl; have q2 := rc_cell 2 (.slice none 0 0) NZ.out rfl; have q3 := rc_cell 3 (.slice none 0 0) NZ.out rfl
          go_wp2
          go_ret
          exact ⟨rfl, HC2.out⟩
      · go_wp2_with fail
        refine (decodeE_any AC cc P (lfT P) (ksT P) (vsT P) (dsT P) rfl rfl rfl rfl z1 PC1.out hcc hC2).mono ?_
        rintro e z2 ⟨rfl, hz2⟩
        have hza := below_alloc z2 (.cells ndZ 70); have NZ := Lib.hid (heap_alloc_new z2 (.cells ndZ 70)); have HC2 := Lib.hid (HC1.out.trans ((hz2.trans (hza.mono hz2.size)).mono HC1.out.size))
        clear hza hz2
        go_upto_region 13 with fail
        generalize z2.heap.size = gz at *
        generalize z2.alloc (.cells ndZ 70) = z3 at *
        have q0 := rc_cell 0 (.bool false) NZ.out rfl; have q1 := rc_cell 1 (.slice none 0 0) NZ.out rfl; have q2 := rc_cell 2 (.slice none 0 0) NZ.out rfl; have q3 := rc_cell 3 (.slice none 0 0) NZ.out rfl
        go_wp2
        go_ret
        exact ⟨rfl, HC2.out⟩
    · have d5 : ((np : Int) != 512) = true := by simp; omega
      have d6 : ¬ (np : Int) = 512 := by omega
      go_wp2_with fail
      refine (decodeS_any AC np cc z1 h512 (by unfold maxLen; omega)).mono ?_
      rintro e z2 ⟨rfl, hz2⟩
      have hza := below_alloc z2 (.cells ndZ 70); have NZ := Lib.hid (heap_alloc_new z2 (.cells ndZ 70)); have HC2 := Lib.hid (HC1.out.trans ((hz2.trans (hza.mono hz2.size)).mono HC1.out.size))
      clear hza hz2
      go_upto_region 13 with fail
      generalize z2.heap.size = gz at *
      generalize z2.alloc (.cells ndZ 70) = z3 at *
      have q0 := rc_cell 0 (.bool false) NZ.out rfl; have q1 := rc_cell 1 (.slice none 0 0) NZ.out rfl; have q2 := rc_cell 2 (.slice none 0 0) NZ.out rfl; have q3 := rc_cell 3 (.slice none 0 0) NZ.out rfl
      go_wp2
      go_ret
      exact ⟨rfl, HC2.out⟩
end Go.Proofs.Ytmjjbfcblmmipaa
