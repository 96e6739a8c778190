/- LeafSplits: a leaf that is split. -/
import Derived.Test.YtmjjbfcblmmipaaLspM
namespace Go.Proofs.Ytmjjbfcblmmipaa
set_option linter.unusedVariables false
set_option linter.unusedSimpArgs false
open Go.RowKit

set_option maxRecDepth 100000 in
set_option maxHeartbeats 16000000 in
theorem lspL_any (AK : Option Addr) (nK cK : Nat) (AV : Option Addr) (nV cV : Nat) (AD : Option Addr) (nD cD : Nat) (ks vs ks0 vs0 : List (List Int)) (ds ds0 : List Int) (mK mV mD : Nat) (w : World)
    (e1 : min nK 200 = mK) (e2 : min nV 200 = mV) (e3 : min nD 201 = mD) (hx : Bss w AK mK ks) (hy : Bss w AV mV vs) (hz : Ins w AD mD ds) (hKc : nK ≤ cK) (hVc : nV ≤ cV) (hDc : nD ≤ cD) (bK : nK ≤ 1048576) (bV : nV ≤ 1048576) (bD : nD ≤ 1048576)
    (lK : ∀ xs ∈ ks, xs.length ≤ 1048576) (lV : ∀ xs ∈ vs, xs.length ≤ 1048576) (hc : chkN true ks vs ds = 0) (hD : 2 ≤ mK) :
    Calls Try.prog 10 #[.agg (ndV true AK nK cK AV nV cV AD nD cD)] w fun e w' => e = .returned (.bool true) ∧ Below w.heap.size w w' := by
  have HX := Lib.hid hx; have HY := Lib.hid hy; have HZ := Lib.hid hz; have HLK := Lib.hid hx.len; have HLV := Lib.hid hy.len; have HLD := Lib.hid hz.len
  have HE1 := Lib.hid e1; have HE2 := Lib.hid e2; have HE3 := Lib.hid e3; have HCK := Lib.hid hc; have hmK : mK ≤ 200 := by omega
  have hmV : mV ≤ 200 := by omega
  have hmD : mD ≤ 201 := by omega
  have k1 : mK ≤ cK := by omega
  have k2 : mV ≤ cV := by omega
  have k3 : mD ≤ cD := by omega
  have HMK := Lib.hid lK; have HMV := Lib.hid lV
  obtain ⟨c1, c2, c3, c4, c5⟩ := chk_ok hc
  have HA1 := Lib.hid (anyL_mem c1); have HA2 := Lib.hid (anyL_mem c2); have HRI := Lib.hid c3
  have HML : Hid (∀ xs ∈ ks, xs.length ≤ maxLen) := Lib.hid (fun x hx => Nat.le_trans (HA1.out x hx) (by unfold maxLen; omega)); have HMM : Hid (∀ xs ∈ vs, xs.length ≤ maxLen) := Lib.hid (fun x hx => Nat.le_trans (HA2.out x hx) (by unfold maxLen; omega))
  have HQ1 : Hid (∀ xs ∈ ks, xs.length ≤ 140737488355328) := Lib.hid (fun x hx => Nat.le_trans (HA1.out x hx) (by omega)); have HQ2 : Hid (∀ xs ∈ vs, xs.length ≤ 140737488355328) := Lib.hid (fun x hx => Nat.le_trans (HA2.out x hx) (by omega))
  have HWF : Hid (mV = mK ∧ mD = 0) := Lib.hid (by rw [HLK.out, HLV.out, HLD.out] at c5; unfold badF at c5; simp at c5; omega)
  have sK : szW 1 ks ≤ 100000000000000000 := by have := szW_bd 1 64 ks HA1.out; have := HLK.out; omega
  have sV : szW 2 vs ≤ 100000000000000000 := by have := szW_bd 2 128 vs HA2.out; have := HLV.out; omega
  have HB := Lib.hid (below_alloc w (.cells (ndV true AK nK cK AV nV cV AD nD cD) 66)); have BN := Lib.hid (heap_alloc_new w (.cells (ndV true AK nK cK AV nV cV AD nD cD) 66))
  clear hx hy hz e1 e2 e3 hc lK lV c1 c2 c3 c4 c5
  go_enter Try.func10, Try.ntmps10
  go_wp2_with fail
  generalize w.alloc (.cells (ndV true AK nK cK AV nV cV AD nD cD) 66) = y at *
  refine (awakeL_any y).mono ?_
  rintro e x1 ⟨rfl, hb1⟩
  have BN1 := Lib.hid ((hb1.block _ (lt_of_heap BN.out)).trans BN.out); have HB1 := Lib.hid (HB.out.trans (hb1.mono HB.out.size)); clear hb1
  have q0 := rc_cell 0 (.bool true) BN1.out rfl; have q1 := rc_cell 1 (.slice AK nK cK) BN1.out rfl; have q2 := rc_cell 2 (.slice AV nV cV) BN1.out rfl; have q3 := rc_cell 3 (.slice AD nD cD) BN1.out rfl
  go_wp2_with fail
  clear q0 q1 q2 q3
  refine (few_is true AK nK cK AV nV cV AD nD cD 200 _ (by omega) mK mV mD HE1.out HE2.out HE3.out x1 (by omega) hKc hVc hDc bK bV bD).mono ?_
  rintro e x2 ⟨rfl, hb2⟩
  have BN2 := Lib.hid ((hb2.block _ (lt_of_heap BN1.out)).trans BN1.out); have HB2 := Lib.hid (HB1.out.trans (hb2.mono HB1.out.size)); clear hb2
  have q0 := rc_cell 0 (.bool true) BN2.out rfl; have q1 := rc_cell 1 (.slice AK nK cK) BN2.out rfl; have q2 := rc_cell 2 (.slice AV nV cV) BN2.out rfl; have q3 := rc_cell 3 (.slice AD nD cD) BN2.out rfl
  have t0 := two_frozen (i := 0) BN2.out; have t1 := two_frozen (i := 1) BN2.out; have t2 := two_frozen (i := 2) BN2.out; have t3 := two_frozen (i := 3) BN2.out
  have HS := Lib.hid (set4g x2 w.heap.size (.bool true) (.slice AK mK cK) (.slice AV mV cV) (.slice AD mD cD) _ _ _ _ 66 BN2.out)
  have r0 := rc_cell 0 (.bool true) HS.out.1 rfl; have r1 := rc_cell 1 (.slice AK mK cK) HS.out.1 rfl; have r2 := rc_cell 2 (.slice AV mV cV) HS.out.1 rfl; have r3 := rc_cell 3 (.slice AD mD cD) HS.out.1 rfl
  go_wp2_with fail
  clear q0 q1 q2 q3; clear t0 t1 t2 t3; clear r0 r1 r2 r3
  have BN3 := Lib.hid HS.out.1; have HB3 := Lib.hid (HB2.out.trans (HS.out.2.below (Nat.le_of_lt (lt_of_heap BN2.out))))
  clear HS
  generalize ((((x2.setCell ⟨w.heap.size, 0, none⟩ (.bool true)).setCell ⟨w.heap.size, 1, none⟩ (.slice AK mK cK)).setCell ⟨w.heap.size, 2, none⟩ (.slice AV mV cV)).setCell ⟨w.heap.size, 3, none⟩ (.slice AD mD cD)) = x3 at *
  refine (rcheck_any true AK mK cK AV mV cV AD mD cD ks vs ds x3 (HX.out.keep HB3.out) (HY.out.keep HB3.out) (HZ.out.keep HB3.out) (by omega) (by omega) (by omega) HML.out).mono ?_
  rintro e x4 ⟨rfl, hb4⟩
  rw [HCK.out]
  have BN4 := Lib.hid ((hb4.block _ (lt_of_heap BN3.out)).trans BN3.out); have HB4 := Lib.hid (HB3.out.trans (hb4.mono HB3.out.size)); clear hb4
  have q0 := rc_cell 0 (.bool true) BN4.out rfl; have q1 := rc_cell 1 (.slice AK mK cK) BN4.out rfl; have q2 := rc_cell 2 (.slice AV mV cV) BN4.out rfl; have q3 := rc_cell 3 (.slice AD mD cD) BN4.out rfl
  go_wp2_with fail
  clear q0 q1 q2 q3
  refine (ownN_any true AK mK cK AV mV cV AD mD cD ks vs ds x4 (HX.out.keep HB4.out) (HY.out.keep HB4.out) (HZ.out.keep HB4.out) (by omega) (by omega) (by omega) HMK.out HMV.out).mono ?_
  rintro e x5 ⟨A1, a1, A2, a2, A3, a3, rfl, p1, p2, p3, hb5⟩
  have BN5 := Lib.hid ((hb5.block _ (lt_of_heap BN4.out)).trans BN4.out); have HB5 := Lib.hid (HB4.out.trans (hb5.mono HB4.out.size))
  have P1 := Lib.hid p1.bss; have P2 := Lib.hid p2.bss; have P3 := Lib.hid (Ins.own p3 HZ.out.2); have C1 := Lib.hid p1.cap; have C2 := Lib.hid p2.cap; have C3 := Lib.hid p3.cap; have S3 := Lib.hid p3.shp
  clear hb5 p1 p2 p3
  go_wp2_with fail
  refine (psplitL_any A1 mK a1 A2 mV a2 A3 mD a3 ks vs ds x5 P1.out P2.out P3.out S3.out C1.out C2.out C3.out hD HWF.out.1 HWF.out.2 (by omega) HQ1.out HQ2.out sK sV).mono ?_
  rintro e x6 ⟨i, D1, f1, D2, f2, D3, f3, DK, xs, fk, E1, g1, E2, g2, E3, g3, rfl, hi, hxk, pk, p1, p2, p3, p4, p5, p6, hb6⟩
  have hin := bestN_in (gtr true ks vs mD) (mK - 2)
  have hi1 : 1 ≤ i := by omega
  have hi2 : i + 1 ≤ mK := by omega
  have HI := Lib.hid hi; have HXK := Lib.hid hxk; clear hin hi hxk
  have HKL : Hid (xs.length ≤ 64) := Lib.hid (HA1.out xs (List.mem_of_getElem? HXK.out))
  have PK := Lib.hid pk; have P4 := Lib.hid p4; have P5 := Lib.hid p5; have P6 := Lib.hid p6; clear pk p4 p5 p6
  obtain ⟨nx, HNX⟩ : ∃ nx : Nat, Hid (xs.length = nx) := ⟨_, rfl⟩
  rw [HNX.out] at PK HKL ⊢
  have hnx := HKL.out
  have BN6 := Lib.hid ((hb6.block _ (lt_of_heap BN5.out)).trans BN5.out); have HB6 := Lib.hid (HB5.out.trans (hb6.mono HB5.out.size))
  have R1 := Lib.hid p1; have R2 := Lib.hid p2; have R3 := Lib.hid p3; clear p1 p2 p3 hb6 P1 P2 P3 C1 C2 C3 S3
  have N7 := Lib.hid (alloc2 x6 #[.bool true, .slice D1 i f1, .slice D2 i f2, .slice D3 0 f3] #[.bool true, .slice E1 (mK - i) g1, .slice E2 (mV - i) g2, .slice E3 0 g3] 70)
  have hb7 := N7.out.2.2
  have BN7 := Lib.hid ((hb7.block _ (lt_of_heap BN6.out)).trans BN6.out); have HB7 := Lib.hid (HB6.out.trans (hb7.mono HB6.out.size))
  have BA := Lib.hid N7.out.1; have BB := Lib.hid N7.out.2.1; have H67 := Lib.hid hb7; clear hb7
  have q0 := rc_cell 0 (.bool true) BN7.out rfl; have q1 := rc_cell 1 (.slice AK mK cK) BN7.out rfl; have q2 := rc_cell 2 (.slice AV mV cV) BN7.out rfl; have q3 := rc_cell 3 (.slice AD mD cD) BN7.out rfl
  go_wp2_with fail
  clear q0 q1 q2 q3
  clear N7
  generalize ((x6.alloc (.cells #[.bool true, .slice D1 i f1, .slice D2 i f2, .slice D3 0 f3] 70)).alloc (.cells #[.bool true, .slice E1 (mK - i) g1, .slice E2 (mV - i) g2, .slice E3 0 g3] 70)) = x7 at *
  refine (rsplitL_any AK mK cK AV mV cV AD mD cD ks vs x7 (HX.out.keep HB7.out) (HY.out.keep HB7.out) k1 k2 k3 (by omega) (by omega) (by omega) sK sV hD (fun j h1 h2 => by have := HWF.out; unfold Cuts; simp; omega)).mono ?_
  rintro e x8 ⟨i2, B1, ys, b1, rfl, hi, hyk, pk, hb8⟩
  rw [← HI.out] at hi
  subst hi
  have he : ys = xs := by have := HXK.out; rw [hyk] at this; injection this
  subst he
  have PK2 := Lib.hid pk; clear pk hyk
  rw [HNX.out] at PK2 ⊢
  simp only [frV, bkV, if_true, Bool.false_eq_true, if_false]
  have BN8 := Lib.hid ((hb8.block _ (lt_of_heap BN7.out)).trans BN7.out); have HB8 := Lib.hid (HB7.out.trans (hb8.mono HB7.out.size))
  have BA8 := Lib.hid ((hb8.block _ (lt_of_heap BA.out)).trans BA.out); have BB8 := Lib.hid ((hb8.block _ (lt_of_heap BB.out)).trans BB.out); have H68 := Lib.hid (H67.out.trans (hb8.mono H67.out.size)); have H78 := Lib.hid hb8; clear hb8 BA BB H67
  have N9 := Lib.hid (alloc2 x8 #[.bool true, .slice AK i2 cK, .slice AV i2 cV, .slice none 0 0] #[.bool true, .slice (cutA AK cK i2) (mK - i2) (cK - i2), .slice (cutA AV cV i2) (mV - i2) (cV - i2), .slice none 0 0] 66)
  have hb9 := N9.out.2.2
  have BN9 := Lib.hid ((hb9.block _ (lt_of_heap BN8.out)).trans BN8.out); have HB9 := Lib.hid (HB8.out.trans (hb9.mono HB8.out.size))
  have BA9 := Lib.hid ((hb9.block _ (lt_of_heap BA8.out)).trans BA8.out); have BB9 := Lib.hid ((hb9.block _ (lt_of_heap BB8.out)).trans BB8.out); have H69 := Lib.hid (H68.out.trans (hb9.mono H68.out.size)); have H79 := Lib.hid (H78.out.trans (hb9.mono H78.out.size)); have BX9 := Lib.hid N9.out.1; have BY9 := Lib.hid N9.out.2.1; clear hb9 BA8 BB8 H68
  go_upto_region 8 with fail
  clear N9
  generalize ((x8.alloc (.cells #[.bool true, .slice AK i2 cK, .slice AV i2 cV, .slice none 0 0] 66)).alloc (.cells #[.bool true, .slice (cutA AK cK i2) (mK - i2) (cK - i2), .slice (cutA AV cV i2) (mV - i2) (cV - i2), .slice none 0 0] 66)) = x9 at *
  have HDS : Hid (ds = []) := Lib.hid (List.eq_nil_of_length_eq_zero (by rw [HLD.out]; exact HWF.out.2))
  have e3 : ds.take (i2 + 1) = [] ∧ ds.drop (i2 + 1) = [] := by rw [HDS.out]; simp
  rw [e3.1] at R3; rw [e3.2] at P6; clear e3
  have R1z := Lib.hid (R1.out.keep H69.out)
  have R2z := Lib.hid (R2.out.keep H69.out)
  have R3z := Lib.hid (R3.out.keep H69.out)
  have P4z := Lib.hid (P4.out.keep H69.out)
  have P5z := Lib.hid (P5.out.keep H69.out)
  have P6z := Lib.hid (P6.out.keep H69.out)
  have PKz := Lib.hid (PK.out.keep H69.out); have PK2z := Lib.hid (PK2.out.keep H79.out)
  have XKz := Lib.hid (HX.out.keep HB9.out); have XVz := Lib.hid (HY.out.keep HB9.out); have XDz := Lib.hid (HZ.out.keep HB9.out)
  have NIz : Hid (Ins x9 none 0 []) := Lib.hid (⟨Rd.nil_, fun _ h => by cases h⟩); have NBz : Hid (Bss x9 none 0 []) := Lib.hid Bss.nil_
  have X1z := Lib.hid (XKz.out.pre (show i2 ≤ mK by omega)); have X2z := Lib.hid (XVz.out.pre (show i2 ≤ mV by have := HWF.out.1; omega)); have Y1z := Lib.hid (XKz.out.cut (lo := i2) k1); have Y2z := Lib.hid (XVz.out.cut (lo := i2) k2)
  clear R1 R2 R3 P4 P5 P6 H69 PK PK2
  generalize x6.heap.size = ga at *
  generalize x8.heap.size = gx at *
  have BAd : Hid (x9.drew.heap[ga]? = some (.cells #[.bool true, .slice D1 i2 f1, .slice D2 i2 f2, .slice D3 0 f3] 70 (0, 0))) := BA9; have BBd : Hid (x9.drew.heap[ga + 1]? = some (.cells #[.bool true, .slice E1 (mK - i2) g1, .slice E2 (mV - i2) g2, .slice E3 0 g3] 70 (0, 0))) := BB9; have BXd : Hid (x9.drew.heap[gx]? = some (.cells #[.bool true, .slice AK i2 cK, .slice AV i2 cV, .slice none 0 0] 66 (0, 0))) := BX9; have BYd : Hid (x9.drew.heap[gx + 1]? = some (.cells #[.bool true, .slice (cutA AK cK i2) (mK - i2) (cK - i2), .slice (cutA AV cV i2) (mV - i2) (cV - i2), .slice none 0 0] 66 (0, 0))) := BY9; have BNd : Hid (x9.drew.heap[w.heap.size]? = some (.cells #[.bool true, .slice AK mK cK, .slice AV mV cV, .slice AD mD cD] 66 (0, 0))) := BN9
  have HZd : Hid (Below x9.heap.size x9 x9.drew) := Lib.hid ((Dr.refl x9).one.below _)
  refine wp_region_held_drew (S := fun w' => w'.cell? ⟨ga, 0, none⟩ = some (.bool true) ∧ w'.cell? ⟨ga, 1, none⟩ = some (.slice D1 i2 f1) ∧ w'.cell? ⟨ga, 2, none⟩ = some (.slice D2 i2 f2) ∧ w'.cell? ⟨ga, 3, none⟩ = some (.slice D3 0 f3) ∧ w'.cell? ⟨ga + 1, 0, none⟩ = some (.bool true) ∧ w'.cell? ⟨ga + 1, 1, none⟩ = some (.slice E1 (mK - i2) g1) ∧ w'.cell? ⟨ga + 1, 2, none⟩ = some (.slice E2 (mV - i2) g2) ∧ w'.cell? ⟨ga + 1, 3, none⟩ = some (.slice E3 0 g3) ∧ w'.cell? ⟨gx, 0, none⟩ = some (.bool true) ∧ w'.cell? ⟨gx, 1, none⟩ = some (.slice AK i2 cK) ∧ w'.cell? ⟨gx, 2, none⟩ = some (.slice AV i2 cV) ∧ w'.cell? ⟨gx, 3, none⟩ = some (.slice none 0 0) ∧ w'.cell? ⟨gx + 1, 0, none⟩ = some (.bool true) ∧ w'.cell? ⟨gx + 1, 1, none⟩ = some (.slice (cutA AK cK i2) (mK - i2) (cK - i2)) ∧ w'.cell? ⟨gx + 1, 2, none⟩ = some (.slice (cutA AV cV i2) (mV - i2) (cV - i2)) ∧ w'.cell? ⟨gx + 1, 3, none⟩ = some (.slice none 0 0) ∧ True) (by kernel_rfl) (nd4 BAd.out (nd4 BBd.out (nd4 BXd.out (nd4 BYd.out trivial)))) (fun hH0 => ?_)
  generalize x9.drew = yd at *
  refine wpAnyH_take (i := 0) (oi := { dst := some 30, op := Op.load 70 (Operand.tmp 3), type := 70, pos := _, after := #[], guard := none }) (v := ?va1_0) rfl (by kernel_rfl) (by kernel_rfl) (by kernel_rfl) (fun _ _ _ h => h) (Or.inl ⟨by rfl, ?ya1_0⟩) hH0 ?ra1_0
  case ya1_0 => (intro w hSw; (try dsimp only at hSw); go_simp; try (with_reducible rfl))
  try simp only [Act.put, List.setIfInBounds_toArray, List.set_cons_zero, List.set_cons_succ]
  refine wpAnyH_take (i := 2) (oi := { dst := some 32, op := Op.load 66 (Operand.tmp 6), type := 66, pos := _, after := #[], guard := none }) (v := ?va1_2) rfl (by kernel_rfl) (by kernel_rfl) (by kernel_rfl) (fun _ _ _ h => h) (Or.inl ⟨by rfl, ?ya1_2⟩) hH0 ?ra1_2
  case ya1_2 => (intro w hSw; (try dsimp only at hSw); go_simp; try (with_reducible rfl))
  try simp only [Act.put, List.setIfInBounds_toArray, List.set_cons_zero, List.set_cons_succ]
  refine wpAnyH_ready (rs := [1]) (by kernel_rfl) (by simp) ?_
  refine (AllReadyH.cons (o := { dst := some 31, op := Op.call { callee := Callee.value (Operand.func 41), args := #[Operand.tmp 30], argTypes := #[70] }, type := 66, pos := _, after := #[{ on := 0, ground := Ground.data }], guard := none }) rfl (fun K hK => ?_) AllReadyH.nil)
  go_simp
  refine (toldN_any true D1 i2 f1 D2 i2 f2 D3 0 f3 yd).mono ?_
  rintro e v2 ⟨rfl, hb2⟩
  have BA_2 := Lib.hid ((hb2.block _ (lt_of_heap BAd.out)).trans BAd.out)
  have BB_2 := Lib.hid ((hb2.block _ (lt_of_heap BBd.out)).trans BBd.out)
  have BX_2 := Lib.hid ((hb2.block _ (lt_of_heap BXd.out)).trans BXd.out)
  have BY_2 := Lib.hid ((hb2.block _ (lt_of_heap BYd.out)).trans BYd.out)
  have BN_2 := Lib.hid ((hb2.block _ (lt_of_heap BNd.out)).trans BNd.out)
  have HZ_2 := Lib.hid (HZd.out.trans (hb2.mono HZd.out.size))
  clear hb2
  go_wp2_with fail
  refine hK.out _ _ (nd4 BA_2.out (nd4 BB_2.out (nd4 BX_2.out (nd4 BY_2.out trivial)))) (fun hH2 => ?_)
  clear hK K
  try simp only [Act.put, List.setIfInBounds_toArray, List.set_cons_zero, List.set_cons_succ]
  refine wpAnyH_ready (rs := [3]) (by kernel_rfl) (by simp) ?_
  refine (AllReadyH.cons (o := { dst := some 33, op := Op.call { callee := Callee.value (Operand.func 40), args := #[Operand.tmp 31, Operand.tmp 32], argTypes := #[66, 66] }, type := 4, pos := _, after := #[{ on := 1, ground := Ground.data }, { on := 2, ground := Ground.data }, { on := 1, ground := Ground.chain }], guard := none }) rfl (fun K hK => ?_) AllReadyH.nil)
  go_simp
  refine (rsame_is true true true D1 i2 f1 D2 i2 f2 D3 0 f3 AK i2 cK AV i2 cV none 0 0 (ks.take i2) (vs.take i2) (ks.take i2) (vs.take i2) [] [] v2 (by simp) (R1z.out.keep HZ_2.out) (R2z.out.keep HZ_2.out) (R3z.out.keep HZ_2.out) (X1z.out.keep HZ_2.out) (X2z.out.keep HZ_2.out) (NIz.out.keep HZ_2.out) (by omega) (by omega) (by omega) (by omega) (by omega) (by omega) (fun x hx => HML.out x (List.mem_of_mem_take hx)) (fun x hx => HMM.out x (List.mem_of_mem_take hx)) (fun x hx => HML.out x (List.mem_of_mem_take hx)) (fun x hx => HMM.out x (List.mem_of_mem_take hx))).mono ?_
  rintro e v4 ⟨rfl, hb4⟩
  have BA_4 := Lib.hid ((hb4.block _ (lt_of_heap BA_2.out)).trans BA_2.out)
  have BB_4 := Lib.hid ((hb4.block _ (lt_of_heap BB_2.out)).trans BB_2.out)
  have BX_4 := Lib.hid ((hb4.block _ (lt_of_heap BX_2.out)).trans BX_2.out)
  have BY_4 := Lib.hid ((hb4.block _ (lt_of_heap BY_2.out)).trans BY_2.out)
  have BN_4 := Lib.hid ((hb4.block _ (lt_of_heap BN_2.out)).trans BN_2.out)
  have HZ_4 := Lib.hid (HZ_2.out.trans (hb4.mono HZ_2.out.size))
  clear hb4
  go_wp2_with fail
  refine hK.out _ _ (nd4 BA_4.out (nd4 BB_4.out (nd4 BX_4.out (nd4 BY_4.out trivial)))) (fun hH4 => ?_)
  clear hK K
  try simp only [Act.put, List.setIfInBounds_toArray, List.set_cons_zero, List.set_cons_succ]
  refine wpAnyH_take (i := 4) (oi := { dst := some 34, op := Op.unOp UnOp.not 4 (Operand.tmp 33), type := 4, pos := _, after := #[{ on := 3, ground := Ground.data }], guard := none }) (v := ?va5_4) rfl (by kernel_rfl) (by kernel_rfl) (by kernel_rfl) (fun _ _ _ h => h) (Or.inl ⟨by rfl, ?ya5_4⟩) hH4 ?ra5_4
  case ya5_4 => (intro w hSw; (try dsimp only at hSw); go_simp; try (with_reducible rfl))
  try simp only [Act.put, List.setIfInBounds_toArray, List.set_cons_zero, List.set_cons_succ]
  refine wpAnyH_take (i := 5) (oi := { dst := some 35, op := Op.move (Operand.tmp 34), type := 4, pos := _, after := #[{ on := 4, ground := Ground.data }, { on := 3, ground := Ground.chain }], guard := none }) (v := ?va5_5) rfl (by kernel_rfl) (by kernel_rfl) (by kernel_rfl) (fun _ _ _ h => h) (Or.inl ⟨by rfl, ?ya5_5⟩) hH4 ?ra5_5
  case ya5_5 => (intro w hSw; (try dsimp only at hSw); go_simp; try (with_reducible rfl))
  try simp only [Act.put, List.setIfInBounds_toArray, List.set_cons_zero, List.set_cons_succ]
  refine wpAnyH_take (i := 6) (oi := { dst := some 36, op := Op.load 70 (Operand.tmp 5), type := 70, pos := _, after := #[{ on := 5, ground := Ground.guard }], guard := some (5, false) }) (v := ?va5_6) rfl (by kernel_rfl) (by kernel_rfl) (by kernel_rfl) (fun _ _ _ h => h) (Or.inl ⟨by rfl, ?ya5_6⟩) hH4 ?ra5_6
  case ya5_6 => (intro w hSw; (try dsimp only at hSw); go_simp; try (with_reducible rfl))
  try simp only [Act.put, List.setIfInBounds_toArray, List.set_cons_zero, List.set_cons_succ]
  refine wpAnyH_take (i := 8) (oi := { dst := some 38, op := Op.load 66 (Operand.tmp 8), type := 66, pos := _, after := #[{ on := 5, ground := Ground.guard }], guard := some (5, false) }) (v := ?va5_8) rfl (by kernel_rfl) (by kernel_rfl) (by kernel_rfl) (fun _ _ _ h => h) (Or.inl ⟨by rfl, ?ya5_8⟩) hH4 ?ra5_8
  case ya5_8 => (intro w hSw; (try dsimp only at hSw); go_simp; try (with_reducible rfl))
  try simp only [Act.put, List.setIfInBounds_toArray, List.set_cons_zero, List.set_cons_succ]
  refine wpAnyH_ready (rs := [7]) (by kernel_rfl) (by simp) ?_
  refine (AllReadyH.cons (o := { dst := some 37, op := Op.call { callee := Callee.value (Operand.func 41), args := #[Operand.tmp 36], argTypes := #[70] }, type := 66, pos := _, after := #[{ on := 6, ground := Ground.data }, { on := 5, ground := Ground.chain }, { on := 5, ground := Ground.guard }], guard := some (5, false) }) rfl (fun K hK => ?_) AllReadyH.nil)
  go_simp
  refine (toldN_any true E1 (mK - i2) g1 E2 (mV - i2) g2 E3 0 g3 v4).mono ?_
  rintro e v6 ⟨rfl, hb6⟩
  have BA_6 := Lib.hid ((hb6.block _ (lt_of_heap BA_4.out)).trans BA_4.out)
  have BB_6 := Lib.hid ((hb6.block _ (lt_of_heap BB_4.out)).trans BB_4.out)
  have BX_6 := Lib.hid ((hb6.block _ (lt_of_heap BX_4.out)).trans BX_4.out)
  have BY_6 := Lib.hid ((hb6.block _ (lt_of_heap BY_4.out)).trans BY_4.out)
  have BN_6 := Lib.hid ((hb6.block _ (lt_of_heap BN_4.out)).trans BN_4.out)
  have HZ_6 := Lib.hid (HZ_4.out.trans (hb6.mono HZ_4.out.size))
  clear hb6
  go_wp2_with fail
  refine hK.out _ _ (nd4 BA_6.out (nd4 BB_6.out (nd4 BX_6.out (nd4 BY_6.out trivial)))) (fun hH6 => ?_)
  clear hK K
  try simp only [Act.put, List.setIfInBounds_toArray, List.set_cons_zero, List.set_cons_succ]
  refine wpAnyH_ready (rs := [9]) (by kernel_rfl) (by simp) ?_
  refine (AllReadyH.cons (o := { dst := some 39, op := Op.call { callee := Callee.value (Operand.func 40), args := #[Operand.tmp 37, Operand.tmp 38], argTypes := #[66, 66] }, type := 4, pos := _, after := #[{ on := 7, ground := Ground.data }, { on := 8, ground := Ground.data }, { on := 7, ground := Ground.chain }, { on := 5, ground := Ground.guard }], guard := some (5, false) }) rfl (fun K hK => ?_) AllReadyH.nil)
  go_simp
  refine (rsame_is true true true E1 (mK - i2) g1 E2 (mV - i2) g2 E3 0 g3 (cutA AK cK i2) (mK - i2) (cK - i2) (cutA AV cV i2) (mV - i2) (cV - i2) none 0 0 (ks.drop i2) (vs.drop i2) (ks.drop i2) (vs.drop i2) [] [] v6 (by simp) (P4z.out.keep HZ_6.out) (P5z.out.keep HZ_6.out) (P6z.out.keep HZ_6.out) (Y1z.out.keep HZ_6.out) (Y2z.out.keep HZ_6.out) (NIz.out.keep HZ_6.out) (by omega) (by omega) (by omega) (by omega) (by omega) (by omega) (fun x hx => HML.out x (List.mem_of_mem_drop hx)) (fun x hx => HMM.out x (List.mem_of_mem_drop hx)) (fun x hx => HML.out x (List.mem_of_mem_drop hx)) (fun x hx => HMM.out x (List.mem_of_mem_drop hx))).mono ?_
  rintro e v8 ⟨rfl, hb8⟩
  have BA_8 := Lib.hid ((hb8.block _ (lt_of_heap BA_6.out)).trans BA_6.out)
  have BB_8 := Lib.hid ((hb8.block _ (lt_of_heap BB_6.out)).trans BB_6.out)
  have BX_8 := Lib.hid ((hb8.block _ (lt_of_heap BX_6.out)).trans BX_6.out)
  have BY_8 := Lib.hid ((hb8.block _ (lt_of_heap BY_6.out)).trans BY_6.out)
  have BN_8 := Lib.hid ((hb8.block _ (lt_of_heap BN_6.out)).trans BN_6.out)
  have HZ_8 := Lib.hid (HZ_6.out.trans (hb8.mono HZ_6.out.size))
  clear hb8
  go_wp2_with fail
  refine hK.out _ _ (nd4 BA_8.out (nd4 BB_8.out (nd4 BX_8.out (nd4 BY_8.out trivial)))) (fun hH8 => ?_)
  clear hK K
  try simp only [Act.put, List.setIfInBounds_toArray, List.set_cons_zero, List.set_cons_succ]
  refine wpAnyH_take (i := 10) (oi := { dst := some 40, op := Op.unOp UnOp.not 4 (Operand.tmp 39), type := 4, pos := _, after := #[{ on := 9, ground := Ground.data }, { on := 5, ground := Ground.guard }], guard := some (5, false) }) (v := ?va9_10) rfl (by kernel_rfl) (by kernel_rfl) (by kernel_rfl) (fun _ _ _ h => h) (Or.inl ⟨by rfl, ?ya9_10⟩) hH8 ?ra9_10
  case ya9_10 => (intro w hSw; (try dsimp only at hSw); go_simp; try (with_reducible rfl))
  try simp only [Act.put, List.setIfInBounds_toArray, List.set_cons_zero, List.set_cons_succ]
  refine wpAnyH_take (i := 11) (oi := { dst := some 41, op := Op.pick (Operand.tmp 35) (Operand.const (Value.bool true)) (Operand.tmp 40), type := 4, pos := _, after := #[{ on := 5, ground := Ground.data }, { on := 10, ground := Ground.data }], guard := none }) (v := ?va9_11) rfl (by kernel_rfl) (by kernel_rfl) (by kernel_rfl) (fun _ _ _ h => h) (Or.inl ⟨by rfl, ?ya9_11⟩) hH8 ?ra9_11
  case ya9_11 => (intro w hSw; (try dsimp only at hSw); go_simp; try (with_reducible rfl))
  try simp only [Act.put, List.setIfInBounds_toArray, List.set_cons_zero, List.set_cons_succ]
  refine wpAnyH_take (i := 12) (oi := { dst := some 42, op := Op.move (Operand.tmp 41), type := 4, pos := _, after := #[{ on := 11, ground := Ground.data }, { on := 9, ground := Ground.chain }], guard := none }) (v := ?va9_12) rfl (by kernel_rfl) (by kernel_rfl) (by kernel_rfl) (fun _ _ _ h => h) (Or.inl ⟨by rfl, ?ya9_12⟩) hH8 ?ra9_12
  case ya9_12 => (intro w hSw; (try dsimp only at hSw); go_simp; try (with_reducible rfl))
  try simp only [Act.put, List.setIfInBounds_toArray, List.set_cons_zero, List.set_cons_succ]
  refine wpAnyH_take (i := 13) (oi := { dst := some 43, op := Op.move (Operand.tmp 4), type := 28, pos := _, after := #[{ on := 12, ground := Ground.guard }], guard := some (12, false) }) (v := ?va9_13) rfl (by kernel_rfl) (by kernel_rfl) (by kernel_rfl) (fun _ _ _ h => h) (Or.inl ⟨by rfl, ?ya9_13⟩) hH8 ?ra9_13
  case ya9_13 => (intro w hSw; (try dsimp only at hSw); go_simp; try (with_reducible rfl))
  try simp only [Act.put, List.setIfInBounds_toArray, List.set_cons_zero, List.set_cons_succ]
  refine wpAnyH_take (i := 14) (oi := { dst := some 44, op := Op.move (Operand.tmp 7), type := 28, pos := _, after := #[{ on := 12, ground := Ground.guard }], guard := some (12, false) }) (v := ?va9_14) rfl (by kernel_rfl) (by kernel_rfl) (by kernel_rfl) (fun _ _ _ h => h) (Or.inl ⟨by rfl, ?ya9_14⟩) hH8 ?ra9_14
  case ya9_14 => (intro w hSw; (try dsimp only at hSw); go_simp; try (with_reducible rfl))
  try simp only [Act.put, List.setIfInBounds_toArray, List.set_cons_zero, List.set_cons_succ]
  refine wpAnyH_ready (rs := [15]) (by kernel_rfl) (by simp) ?_
  refine (AllReadyH.cons (o := { dst := some 45, op := Op.call { callee := Callee.value (Operand.func 16), args := #[Operand.tmp 43, Operand.tmp 44], argTypes := #[28, 28] }, type := 4, pos := _, after := #[{ on := 13, ground := Ground.data }, { on := 14, ground := Ground.data }, { on := 12, ground := Ground.chain }, { on := 12, ground := Ground.guard }], guard := some (12, false) }) rfl (fun K hK => ?_) AllReadyH.nil)
  go_simp
  refine (equal_is DK B1 nx nx fk b1 ys ys true (by rw [cmpL_self]; rfl) v8 (PKz.out.keep HZ_8.out) (PK2z.out.keep HZ_8.out) (by unfold maxLen; omega) (by unfold maxLen; omega)).mono ?_
  rintro e v10 ⟨rfl, hd10⟩
  have hb10 := hd10.below v8.heap.size
  have BA_10 := Lib.hid ((hb10.block _ (lt_of_heap BA_8.out)).trans BA_8.out)
  have BB_10 := Lib.hid ((hb10.block _ (lt_of_heap BB_8.out)).trans BB_8.out)
  have BX_10 := Lib.hid ((hb10.block _ (lt_of_heap BX_8.out)).trans BX_8.out)
  have BY_10 := Lib.hid ((hb10.block _ (lt_of_heap BY_8.out)).trans BY_8.out)
  have BN_10 := Lib.hid ((hb10.block _ (lt_of_heap BN_8.out)).trans BN_8.out)
  have HZ_10 := Lib.hid (HZ_8.out.trans (hb10.mono HZ_8.out.size))
  clear hb10 hd10
  go_wp2_with fail
  refine hK.out _ _ (nd4 BA_10.out (nd4 BB_10.out (nd4 BX_10.out (nd4 BY_10.out trivial)))) (fun hH10 => ?_)
  clear hK K
  try simp only [Act.put, List.setIfInBounds_toArray, List.set_cons_zero, List.set_cons_succ]
  refine wpAnyH_take (i := 16) (oi := { dst := some 46, op := Op.unOp UnOp.not 4 (Operand.tmp 45), type := 4, pos := _, after := #[{ on := 15, ground := Ground.data }, { on := 12, ground := Ground.guard }], guard := some (12, false) }) (v := ?va11_16) rfl (by kernel_rfl) (by kernel_rfl) (by kernel_rfl) (fun _ _ _ h => h) (Or.inl ⟨by rfl, ?ya11_16⟩) hH10 ?ra11_16
  case ya11_16 => (intro w hSw; (try dsimp only at hSw); go_simp; try (with_reducible rfl))
  try simp only [Act.put, List.setIfInBounds_toArray, List.set_cons_zero, List.set_cons_succ]
  refine wpAnyH_take (i := 17) (oi := { dst := some 47, op := Op.pick (Operand.tmp 42) (Operand.const (Value.bool true)) (Operand.tmp 46), type := 4, pos := _, after := #[{ on := 12, ground := Ground.data }, { on := 16, ground := Ground.data }], guard := none }) (v := ?va11_17) rfl (by kernel_rfl) (by kernel_rfl) (by kernel_rfl) (fun _ _ _ h => h) (Or.inl ⟨by rfl, ?ya11_17⟩) hH10 ?ra11_17
  case ya11_17 => (intro w hSw; (try dsimp only at hSw); go_simp; try (with_reducible rfl))
  try simp only [Act.put, List.setIfInBounds_toArray, List.set_cons_zero, List.set_cons_succ]
  refine wpAnyH_done (by kernel_rfl) ?_ _
  have q0 := rc_cell 0 (.bool true) BN_10.out rfl; have q1 := rc_cell 1 (.slice AK mK cK) BN_10.out rfl; have q2 := rc_cell 2 (.slice AV mV cV) BN_10.out rfl; have q3 := rc_cell 3 (.slice AD mD cD) BN_10.out rfl
  have d1 : decide ((mK : Int) < 2) = false := by simp; omega
  go_upto_region 12 with fail
  clear q0 q1 q2 q3
  obtain ⟨j, HJ⟩ : ∃ j, Hid (i2 = j + 1) := ⟨i2 - 1, by show _ = _; omega⟩
  have hj := HJ.out
  have hji : j < i2 := by omega
  obtain ⟨bD, oD, KA, kn, kc, zs, hA, hblD, hclD, hzs, hkc, HZK⟩ := R1z.out.at_ hji
  obtain ⟨bE, oE, EA, en, ec, es, hE, hblE, hclE, hes, hec, HEK⟩ := P4z.out.at_ (k := 0) (by omega)
  have hzk : ks[j]? = some zs := by have := HZK.out; rw [List.getElem?_take, if_pos hji] at this; exact this
  have hek : es = ys := by have h1 := HEK.out; have h2 := HXK.out; rw [List.getElem?_drop, Nat.add_zero, h2] at h1; injection h1 with h1; exact h1.symm
  subst hek
  have hlt := risB_at HRI.out hzk (by rw [← hj]; exact HXK.out)
  obtain ⟨r, HR⟩ : ∃ r : Int, Hid (cmpL zs es = r) := ⟨_, rfl⟩
  rw [HR.out] at hlt
  have dr : decide ((0 : Int) ≤ r) = false := by simp; omega
  have HZS := Lib.hid hzs; have HES := Lib.hid hes; have hkn : kn ≤ 64 := by rw [← hzs.len]; exact HA1.out _ (List.mem_of_getElem? hzk)
  have hen : en ≤ 64 := by rw [← hes.len, HNX.out]; exact hnx
  have hwj : IntKind.i64.wrap ((i2 : Int) - 1) = (j : Int) := by rw [show (i2 : Int) - 1 = (j : Int) by omega]; exact IntWalk.i64_in _ (by omega)
  have y0 : (0 : Int) ≤ (j : Int) := by omega
  have y1 : (j : Int) < (i2 : Int) := by omega
  have y2 : (0 : Int) < ((mK - i2 : Nat) : Int) := by omega
  have y3 : 0 < mK - i2 := by omega
  rw [Nat.add_zero] at hclE
  subst hA hE; clear hzs hes hkc hec hzk hlt hj d1
  have BNe : Hid (v10.drew.heap[w.heap.size]? = some (.cells #[.bool true, .slice AK mK cK, .slice AV mV cV, .slice AD mD cD] 66 (0, 0))) := BN_10; have BAe : Hid (v10.drew.heap[ga]? = some (.cells #[.bool true, .slice (some ⟨bD, oD, none⟩) i2 f1, .slice D2 i2 f2, .slice D3 0 f3] 70 (0, 0))) := BA_10; have BBe : Hid (v10.drew.heap[ga + 1]? = some (.cells #[.bool true, .slice (some ⟨bE, oE, none⟩) (mK - i2) g1, .slice E2 (mV - i2) g2, .slice E3 0 g3] 70 (0, 0))) := BB_10
  have HZe := Lib.hid (HZ_10.out.trans ((Dr.refl v10).one.below _))
  refine wp_region_held_drew (S := fun w' => w'.cell? ⟨w.heap.size, 0, none⟩ = some (.bool true) ∧ w'.cell? ⟨w.heap.size, 1, none⟩ = some (.slice AK mK cK) ∧ w'.cell? ⟨w.heap.size, 2, none⟩ = some (.slice AV mV cV) ∧ w'.cell? ⟨w.heap.size, 3, none⟩ = some (.slice AD mD cD) ∧ w'.cell? ⟨ga, 0, none⟩ = some (.bool true) ∧ w'.cell? ⟨ga, 1, none⟩ = some (.slice (some ⟨bD, oD, none⟩) i2 f1) ∧ w'.cell? ⟨ga, 2, none⟩ = some (.slice D2 i2 f2) ∧ w'.cell? ⟨ga, 3, none⟩ = some (.slice D3 0 f3) ∧ w'.cell? ⟨ga + 1, 0, none⟩ = some (.bool true) ∧ w'.cell? ⟨ga + 1, 1, none⟩ = some (.slice (some ⟨bE, oE, none⟩) (mK - i2) g1) ∧ w'.cell? ⟨ga + 1, 2, none⟩ = some (.slice E2 (mV - i2) g2) ∧ w'.cell? ⟨ga + 1, 3, none⟩ = some (.slice E3 0 g3) ∧ w'.cell? ⟨bD, oD + j, none⟩ = some (.slice KA kn kc) ∧ w'.cell? ⟨bE, oE, none⟩ = some (.slice EA en ec)) (by kernel_rfl) (nd4 BNe.out (nd4 BAe.out (nd4 BBe.out ⟨(World.cell?_of_block (a := ⟨bD, oD + j, none⟩) (HZe.out.block bD hblD)).trans hclD, (World.cell?_of_block (a := ⟨bE, oE, none⟩) (HZe.out.block bE hblE)).trans hclE⟩))) (fun hH0 => ?_)
  generalize v10.drew = ye at *
  refine wpAnyH_take (i := 0) (oi := { dst := some 63, op := Op.fieldAddr 66 (Operand.tmp 1) 0, type := 0, pos := _, after := #[], guard := none }) (v := ?vb1_0) rfl (by kernel_rfl) (by kernel_rfl) (by kernel_rfl) (fun _ _ _ h => h) (Or.inl ⟨by rfl, ?yb1_0⟩) hH0 ?rb1_0
  case yb1_0 => (intro w hSw; (try dsimp only at hSw); go_simp; try (with_reducible rfl))
  try simp only [Act.put, List.setIfInBounds_toArray, List.set_cons_zero, List.set_cons_succ]
  refine wpAnyH_take (i := 1) (oi := { dst := some 64, op := Op.load 4 (Operand.tmp 63), type := 4, pos := _, after := #[{ on := 0, ground := Ground.data }], guard := none }) (v := ?vb1_1) rfl (by kernel_rfl) (by kernel_rfl) (by kernel_rfl) (fun _ _ _ h => h) (Or.inl ⟨by rfl, ?yb1_1⟩) hH0 ?rb1_1
  case yb1_1 => (intro w hSw; (try dsimp only at hSw); go_simp; try (with_reducible rfl))
  try simp only [Act.put, List.setIfInBounds_toArray, List.set_cons_zero, List.set_cons_succ]
  refine wpAnyH_take (i := 2) (oi := { dst := some 65, op := Op.move (Operand.tmp 64), type := 4, pos := _, after := #[{ on := 1, ground := Ground.data }], guard := none }) (v := ?vb1_2) rfl (by kernel_rfl) (by kernel_rfl) (by kernel_rfl) (fun _ _ _ h => h) (Or.inl ⟨by rfl, ?yb1_2⟩) hH0 ?rb1_2
  case yb1_2 => (intro w hSw; (try dsimp only at hSw); go_simp; try (with_reducible rfl))
  try simp only [Act.put, List.setIfInBounds_toArray, List.set_cons_zero, List.set_cons_succ]
  refine wpAnyH_take (i := 3) (oi := { dst := some 66, op := Op.load 70 (Operand.tmp 3), type := 70, pos := _, after := #[{ on := 2, ground := Ground.guard }], guard := some (2, true) }) (v := ?vb1_3) rfl (by kernel_rfl) (by kernel_rfl) (by kernel_rfl) (fun _ _ _ h => h) (Or.inl ⟨by rfl, ?yb1_3⟩) hH0 ?rb1_3
  case yb1_3 => (intro w hSw; (try dsimp only at hSw); go_simp; try (with_reducible rfl))
  try simp only [Act.put, List.setIfInBounds_toArray, List.set_cons_zero, List.set_cons_succ]
  refine wpAnyH_take (i := 4) (oi := { dst := some 67, op := Op.load 70 (Operand.tmp 5), type := 70, pos := _, after := #[{ on := 2, ground := Ground.guard }], guard := some (2, true) }) (v := ?vb1_4) rfl (by kernel_rfl) (by kernel_rfl) (by kernel_rfl) (fun _ _ _ h => h) (Or.inl ⟨by rfl, ?yb1_4⟩) hH0 ?rb1_4
  case yb1_4 => (intro w hSw; (try dsimp only at hSw); go_simp; try (with_reducible rfl))
  try simp only [Act.put, List.setIfInBounds_toArray, List.set_cons_zero, List.set_cons_succ]
  refine wpAnyH_take (i := 8) (oi := { dst := some 71, op := Op.load 66 (Operand.tmp 1), type := 66, pos := _, after := #[{ on := 2, ground := Ground.guard }], guard := some (2, true) }) (v := ?vb1_8) rfl (by kernel_rfl) (by kernel_rfl) (by kernel_rfl) (fun _ _ _ h => h) (Or.inl ⟨by rfl, ?yb1_8⟩) hH0 ?rb1_8
  case yb1_8 => (intro w hSw; (try dsimp only at hSw); go_simp; try (with_reducible rfl))
  try simp only [Act.put, List.setIfInBounds_toArray, List.set_cons_zero, List.set_cons_succ]
  refine wpAnyH_ready (rs := [5]) (by kernel_rfl) (by simp) ?_
  refine (AllReadyH.cons (o := { dst := some 68, op := Op.buildSlice 144 2 #[(0, Operand.tmp 66), (1, Operand.tmp 67)], type := 144, pos := _, after := #[{ on := 3, ground := Ground.data }, { on := 4, ground := Ground.data }, { on := 2, ground := Ground.guard }], guard := some (2, true) }) rfl (fun K hK => ?_) AllReadyH.nil)
  go_simp
  have hb2 := below_alloc ye (.cells #[.bool true, .slice (some ⟨bD, oD, none⟩) i2 f1, .slice D2 i2 f2, .slice D3 0 f3, .bool true, .slice (some ⟨bE, oE, none⟩) (mK - i2) g1, .slice E2 (mV - i2) g2, .slice E3 0 g3] 70)
  have NJ := Lib.hid (heap_alloc_new ye (.cells #[.bool true, .slice (some ⟨bD, oD, none⟩) i2 f1, .slice D2 i2 f2, .slice D3 0 f3, .bool true, .slice (some ⟨bE, oE, none⟩) (mK - i2) g1, .slice E2 (mV - i2) g2, .slice E3 0 g3] 70))
  have BN_2 := Lib.hid ((hb2.block _ (lt_of_heap BNe.out)).trans BNe.out)
  have BA_2 := Lib.hid ((hb2.block _ (lt_of_heap BAe.out)).trans BAe.out)
  have BB_2 := Lib.hid ((hb2.block _ (lt_of_heap BBe.out)).trans BBe.out)
  have HZ_2 := Lib.hid (HZe.out.trans (hb2.mono HZe.out.size))
  clear hb2
  refine hK.out _ _ (nd4 BN_2.out (nd4 BA_2.out (nd4 BB_2.out ⟨(World.cell?_of_block (a := ⟨bD, oD + j, none⟩) (HZ_2.out.block bD hblD)).trans hclD, (World.cell?_of_block (a := ⟨bE, oE, none⟩) (HZ_2.out.block bE hblE)).trans hclE⟩))) (fun hH2 => ?_)
  clear hK K
  try simp only [Act.put, List.setIfInBounds_toArray, List.set_cons_zero, List.set_cons_succ]
  generalize ye.alloc (.cells #[.bool true, .slice (some ⟨bD, oD, none⟩) i2 f1, .slice D2 i2 f2, .slice D3 0 f3, .bool true, .slice (some ⟨bE, oE, none⟩) (mK - i2) g1, .slice E2 (mV - i2) g2, .slice E3 0 g3] 70) = v2 at *
  generalize ye.heap.size = gJ at *
  refine wpAnyH_ready (rs := [6]) (by kernel_rfl) (by simp) ?_
  refine (AllReadyH.cons (o := { dst := some 69, op := Op.call { callee := Callee.value (Operand.func 50), args := #[Operand.tmp 68], argTypes := #[144] }, type := 70, pos := _, after := #[{ on := 5, ground := Ground.data }, { on := 2, ground := Ground.chain }, { on := 2, ground := Ground.guard }], guard := some (2, true) }) rfl (fun K hK => ?_) AllReadyH.nil)
  go_simp
  have HNR : ∀ (q : Nat) (x : Nde), ([⟨(some ⟨bD, oD, none⟩), i2, f1, D2, i2, f2, D3, 0, f3, (ks.take i2), (vs.take i2)⟩, ⟨(some ⟨bE, oE, none⟩), (mK - i2), g1, E2, (mV - i2), g2, E3, 0, g3, (ks.drop i2), (vs.drop i2)⟩] : List Nde)[q]? = some x → NdeR v2 gJ (q * 4) x := by
    intro q x hx
    rcases q with _ | _ | q
    · simp at hx; subst hx
      exact ⟨rc_cell 0 _ NJ.out rfl, rc_cell 1 _ NJ.out rfl, rc_cell 2 _ NJ.out rfl, rc_cell 3 _ NJ.out rfl, R1z.out.keep HZ_2.out, R2z.out.keep HZ_2.out, by show i2 ≤ 100000; omega, by show i2 ≤ 100000; omega, fun t ht => HQ1.out t (List.mem_of_mem_take ht), fun t ht => HQ2.out t (List.mem_of_mem_take ht)⟩
    · simp at hx; subst hx
      exact ⟨rc_cell 4 _ NJ.out rfl, rc_cell 5 _ NJ.out rfl, rc_cell 6 _ NJ.out rfl, rc_cell 7 _ NJ.out rfl, P4z.out.keep HZ_2.out, P5z.out.keep HZ_2.out, by show mK - i2 ≤ 100000; omega, by show mV - i2 ≤ 100000; omega, fun t ht => HQ1.out t (List.mem_of_mem_drop ht), fun t ht => HQ2.out t (List.mem_of_mem_drop ht)⟩
    · simp at hx
  refine (joinN_any [⟨(some ⟨bD, oD, none⟩), i2, f1, D2, i2, f2, D3, 0, f3, (ks.take i2), (vs.take i2)⟩, ⟨(some ⟨bE, oE, none⟩), (mK - i2), g1, E2, (mV - i2), g2, E3, 0, g3, (ks.drop i2), (vs.drop i2)⟩] gJ 2 2 v2 rfl (by omega) HNR (lt_of_heap NJ.out)).mono ?_
  rintro e v4 ⟨JA, jn, jc, JB, jm, jd, rfl, p1, p2, _, hb4⟩
  rw [show jk ([⟨(some ⟨bD, oD, none⟩), i2, f1, D2, i2, f2, D3, 0, f3, (ks.take i2), (vs.take i2)⟩, ⟨(some ⟨bE, oE, none⟩), (mK - i2), g1, E2, (mV - i2), g2, E3, 0, g3, (ks.drop i2), (vs.drop i2)⟩] : List Nde) = ks by simp [jk]] at p1; rw [show jv ([⟨(some ⟨bD, oD, none⟩), i2, f1, D2, i2, f2, D3, 0, f3, (ks.take i2), (vs.take i2)⟩, ⟨(some ⟨bE, oE, none⟩), (mK - i2), g1, E2, (mV - i2), g2, E3, 0, g3, (ks.drop i2), (vs.drop i2)⟩] : List Nde) = vs by simp [jv]] at p2
  have hjn : jn = mK := by rw [← p1.1]; exact HLK.out
  have hjm : jm = mV := by rw [← p2.1]; exact HLV.out
  have J1 := Lib.hid p1.bss; have J2 := Lib.hid p2.bss
  clear HNR p1 p2
  have BN_4 := Lib.hid ((hb4.block _ (lt_of_heap BN_2.out)).trans BN_2.out)
  have BA_4 := Lib.hid ((hb4.block _ (lt_of_heap BA_2.out)).trans BA_2.out)
  have BB_4 := Lib.hid ((hb4.block _ (lt_of_heap BB_2.out)).trans BB_2.out)
  have HZ_4 := Lib.hid (HZ_2.out.trans (hb4.mono HZ_2.out.size))
  have HJ0 : Hid (Below v4.heap.size v4 v4) := Lib.hid (Below.refl _ _)
  have bjn : jn ≤ 1048576 := by omega
  have bjm : jm ≤ 1048576 := by omega
  have JW := Lib.hid hjn; have JW2 := Lib.hid hjm
  clear hb4 hjn hjm
  go_wp2_with fail
  refine hK.out _ _ (nd4 BN_4.out (nd4 BA_4.out (nd4 BB_4.out ⟨(World.cell?_of_block (a := ⟨bD, oD + j, none⟩) (HZ_4.out.block bD hblD)).trans hclD, (World.cell?_of_block (a := ⟨bE, oE, none⟩) (HZ_4.out.block bE hblE)).trans hclE⟩))) (fun hH4 => ?_)
  clear hK K
  try simp only [Act.put, List.setIfInBounds_toArray, List.set_cons_zero, List.set_cons_succ]
  refine wpAnyH_ready (rs := [7]) (by kernel_rfl) (by simp) ?_
  refine (AllReadyH.cons (o := { dst := some 70, op := Op.call { callee := Callee.value (Operand.func 41), args := #[Operand.tmp 69], argTypes := #[70] }, type := 66, pos := _, after := #[{ on := 6, ground := Ground.data }, { on := 6, ground := Ground.chain }, { on := 2, ground := Ground.guard }], guard := some (2, true) }) rfl (fun K hK => ?_) AllReadyH.nil)
  go_simp
  refine (toldN_any true JA jn jc JB jm jd none 0 0 v4).mono ?_
  rintro e v6 ⟨rfl, hb6⟩
  have J3 := Lib.hid (J1.out.keep hb6); have J4 := Lib.hid (J2.out.keep hb6)
  have BN_6 := Lib.hid ((hb6.block _ (lt_of_heap BN_4.out)).trans BN_4.out)
  have BA_6 := Lib.hid ((hb6.block _ (lt_of_heap BA_4.out)).trans BA_4.out)
  have BB_6 := Lib.hid ((hb6.block _ (lt_of_heap BB_4.out)).trans BB_4.out)
  have HZ_6 := Lib.hid (HZ_4.out.trans (hb6.mono HZ_4.out.size))
  clear hb6
  go_wp2_with fail
  refine hK.out _ _ (nd4 BN_6.out (nd4 BA_6.out (nd4 BB_6.out ⟨(World.cell?_of_block (a := ⟨bD, oD + j, none⟩) (HZ_6.out.block bD hblD)).trans hclD, (World.cell?_of_block (a := ⟨bE, oE, none⟩) (HZ_6.out.block bE hblE)).trans hclE⟩))) (fun hH6 => ?_)
  clear hK K
  try simp only [Act.put, List.setIfInBounds_toArray, List.set_cons_zero, List.set_cons_succ]
  refine wpAnyH_ready (rs := [9]) (by kernel_rfl) (by simp) ?_
  refine (AllReadyH.cons (o := { dst := some 72, op := Op.call { callee := Callee.value (Operand.func 40), args := #[Operand.tmp 70, Operand.tmp 71], argTypes := #[66, 66] }, type := 4, pos := _, after := #[{ on := 7, ground := Ground.data }, { on := 8, ground := Ground.data }, { on := 7, ground := Ground.chain }, { on := 2, ground := Ground.guard }], guard := some (2, true) }) rfl (fun K hK => ?_) AllReadyH.nil)
  go_simp
  refine (rsame_is true true true JA jn jc JB jm jd none 0 0 AK mK cK AV mV cV AD mD cD ks vs ks vs [] ds v6 (by rw [HDS.out]; simp) J3.out J4.out ⟨Rd.nil_, fun _ h => by cases h⟩ (XKz.out.keep HZ_6.out) (XVz.out.keep HZ_6.out) (XDz.out.keep HZ_6.out) bjn bjm (by omega) (by omega) (by omega) (by omega) HML.out HMM.out HML.out HMM.out).mono ?_
  rintro e v8 ⟨rfl, hb8⟩
  have BN_8 := Lib.hid ((hb8.block _ (lt_of_heap BN_6.out)).trans BN_6.out)
  have BA_8 := Lib.hid ((hb8.block _ (lt_of_heap BA_6.out)).trans BA_6.out)
  have BB_8 := Lib.hid ((hb8.block _ (lt_of_heap BB_6.out)).trans BB_6.out)
  have HZ_8 := Lib.hid (HZ_6.out.trans (hb8.mono HZ_6.out.size))
  clear hb8
  go_wp2_with fail
  refine hK.out _ _ (nd4 BN_8.out (nd4 BA_8.out (nd4 BB_8.out ⟨(World.cell?_of_block (a := ⟨bD, oD + j, none⟩) (HZ_8.out.block bD hblD)).trans hclD, (World.cell?_of_block (a := ⟨bE, oE, none⟩) (HZ_8.out.block bE hblE)).trans hclE⟩))) (fun hH8 => ?_)
  clear hK K
  try simp only [Act.put, List.setIfInBounds_toArray, List.set_cons_zero, List.set_cons_succ]
  refine wpAnyH_take (i := 10) (oi := { dst := some 73, op := Op.unOp UnOp.not 4 (Operand.tmp 72), type := 4, pos := _, after := #[{ on := 9, ground := Ground.data }, { on := 2, ground := Ground.guard }], guard := some (2, true) }) (v := ?vb9_10) rfl (by kernel_rfl) (by kernel_rfl) (by kernel_rfl) (fun _ _ _ h => h) (Or.inl ⟨by rfl, ?yb9_10⟩) hH8 ?rb9_10
  case yb9_10 => (intro w hSw; (try dsimp only at hSw); go_simp; try (with_reducible rfl))
  try simp only [Act.put, List.setIfInBounds_toArray, List.set_cons_zero, List.set_cons_succ]
  refine wpAnyH_take (i := 11) (oi := { dst := some 74, op := Op.move (Operand.tmp 73), type := 4, pos := _, after := #[{ on := 10, ground := Ground.data }, { on := 9, ground := Ground.chain }, { on := 2, ground := Ground.guard }], guard := some (2, true) }) (v := ?vb9_11) rfl (by kernel_rfl) (by kernel_rfl) (by kernel_rfl) (fun _ _ _ h => h) (Or.inl ⟨by rfl, ?yb9_11⟩) hH8 ?rb9_11
  case yb9_11 => (intro w hSw; (try dsimp only at hSw); go_simp; try (with_reducible rfl))
  try simp only [Act.put, List.setIfInBounds_toArray, List.set_cons_zero, List.set_cons_succ]
  refine wpAnyH_take (i := 12) (oi := { dst := some 75, op := Op.fieldAddr 70 (Operand.tmp 3) 1, type := 0, pos := _, after := #[{ on := 11, ground := Ground.guard }], guard := some (11, false) }) (v := ?vb9_12) rfl (by kernel_rfl) (by kernel_rfl) (by kernel_rfl) (fun _ _ _ h => h) (Or.inl ⟨by rfl, ?yb9_12⟩) hH8 ?rb9_12
  case yb9_12 => (intro w hSw; (try dsimp only at hSw); go_simp; try (with_reducible rfl))
  try simp only [Act.put, List.setIfInBounds_toArray, List.set_cons_zero, List.set_cons_succ]
  refine wpAnyH_take (i := 13) (oi := { dst := some 76, op := Op.load 62 (Operand.tmp 75), type := 62, pos := _, after := #[{ on := 12, ground := Ground.data }, { on := 11, ground := Ground.guard }], guard := some (11, false) }) (v := ?vb9_13) rfl (by kernel_rfl) (by kernel_rfl) (by kernel_rfl) (fun _ _ _ h => h) (Or.inl ⟨by rfl, ?yb9_13⟩) hH8 ?rb9_13
  case yb9_13 => (intro w hSw; (try dsimp only at hSw); go_simp; try (with_reducible rfl))
  try simp only [Act.put, List.setIfInBounds_toArray, List.set_cons_zero, List.set_cons_succ]
  refine wpAnyH_take (i := 14) (oi := { dst := some 77, op := Op.fieldAddr 70 (Operand.tmp 3) 1, type := 0, pos := _, after := #[{ on := 11, ground := Ground.guard }], guard := some (11, false) }) (v := ?vb9_14) rfl (by kernel_rfl) (by kernel_rfl) (by kernel_rfl) (fun _ _ _ h => h) (Or.inl ⟨by rfl, ?yb9_14⟩) hH8 ?rb9_14
  case yb9_14 => (intro w hSw; (try dsimp only at hSw); go_simp; try (with_reducible rfl))
  try simp only [Act.put, List.setIfInBounds_toArray, List.set_cons_zero, List.set_cons_succ]
  refine wpAnyH_take (i := 15) (oi := { dst := some 78, op := Op.load 62 (Operand.tmp 77), type := 62, pos := _, after := #[{ on := 14, ground := Ground.data }, { on := 11, ground := Ground.guard }], guard := some (11, false) }) (v := ?vb9_15) rfl (by kernel_rfl) (by kernel_rfl) (by kernel_rfl) (fun _ _ _ h => h) (Or.inl ⟨by rfl, ?yb9_15⟩) hH8 ?rb9_15
  case yb9_15 => (intro w hSw; (try dsimp only at hSw); go_simp; try (with_reducible rfl))
  try simp only [Act.put, List.setIfInBounds_toArray, List.set_cons_zero, List.set_cons_succ]
  refine wpAnyH_take (i := 16) (oi := { dst := some 79, op := Op.call { callee := Callee.builtin Builtin.len, args := #[Operand.tmp 78], argTypes := #[62] }, type := 3, pos := _, after := #[{ on := 15, ground := Ground.data }, { on := 11, ground := Ground.guard }], guard := some (11, false) }) (v := ?vb9_16) rfl (by kernel_rfl) (by kernel_rfl) (by kernel_rfl) (fun _ _ _ h => h) (Or.inl ⟨by rfl, ?yb9_16⟩) hH8 ?rb9_16
  case yb9_16 => (intro w hSw; (try dsimp only at hSw); go_simp; try (with_reducible rfl))
  try simp only [Act.put, List.setIfInBounds_toArray, List.set_cons_zero, List.set_cons_succ]
  refine wpAnyH_take (i := 17) (oi := { dst := some 80, op := Op.binOp BinOp.sub 3 (Operand.tmp 79) (Operand.const (Value.int IntKind.i64 1)) 3, type := 3, pos := _, after := #[{ on := 16, ground := Ground.data }, { on := 11, ground := Ground.guard }], guard := some (11, false) }) (v := ?vb9_17) rfl (by kernel_rfl) (by kernel_rfl) (by kernel_rfl) (fun _ _ _ h => h) (Or.inl ⟨by rfl, ?yb9_17⟩) hH8 ?rb9_17
  case yb9_17 => (intro w hSw; (try dsimp only at hSw); go_simp; try (with_reducible rfl))
  try simp only [Act.put, List.setIfInBounds_toArray, List.set_cons_zero, List.set_cons_succ]
  refine wpAnyH_take (i := 18) (oi := { dst := some 81, op := Op.indexAddr 62 (Operand.tmp 76) (Operand.tmp 80), type := 0, pos := _, after := #[{ on := 13, ground := Ground.data }, { on := 17, ground := Ground.data }, { on := 11, ground := Ground.guard }], guard := some (11, false) }) (v := ?vb9_18) rfl (by kernel_rfl) (by kernel_rfl) (by kernel_rfl) (fun _ _ _ h => h) (Or.inl ⟨by rfl, ?yb9_18⟩) hH8 ?rb9_18
  case yb9_18 => (intro w hSw; (try dsimp only at hSw); go_simp; try (with_reducible rfl))
  try simp only [Act.put, List.setIfInBounds_toArray, List.set_cons_zero, List.set_cons_succ]
  refine wpAnyH_take (i := 19) (oi := { dst := some 82, op := Op.load 28 (Operand.tmp 81), type := 28, pos := _, after := #[{ on := 18, ground := Ground.data }, { on := 11, ground := Ground.guard }], guard := some (11, false) }) (v := ?vb9_19) rfl (by kernel_rfl) (by kernel_rfl) (by kernel_rfl) (fun _ _ _ h => h) (Or.inl ⟨by rfl, ?yb9_19⟩) hH8 ?rb9_19
  case yb9_19 => (intro w hSw; (try dsimp only at hSw); go_simp; try (with_reducible rfl))
  try simp only [Act.put, List.setIfInBounds_toArray, List.set_cons_zero, List.set_cons_succ]
  refine wpAnyH_take (i := 20) (oi := { dst := some 83, op := Op.move (Operand.tmp 4), type := 28, pos := _, after := #[{ on := 11, ground := Ground.guard }], guard := some (11, false) }) (v := ?vb9_20) rfl (by kernel_rfl) (by kernel_rfl) (by kernel_rfl) (fun _ _ _ h => h) (Or.inl ⟨by rfl, ?yb9_20⟩) hH8 ?rb9_20
  case yb9_20 => (intro w hSw; (try dsimp only at hSw); go_simp; try (with_reducible rfl))
  try simp only [Act.put, List.setIfInBounds_toArray, List.set_cons_zero, List.set_cons_succ]
  refine wpAnyH_ready (rs := [21]) (by kernel_rfl) (by simp) ?_
  refine (AllReadyH.cons (o := { dst := some 84, op := Op.call { callee := Callee.value (Operand.func 51), args := #[Operand.tmp 82, Operand.tmp 83], argTypes := #[28, 28] }, type := 3, pos := _, after := #[{ on := 19, ground := Ground.data }, { on := 20, ground := Ground.data }, { on := 11, ground := Ground.chain }, { on := 11, ground := Ground.guard }], guard := some (11, false) }) rfl (fun K hK => ?_) AllReadyH.nil)
  go_simp
  refine (cmp_is KA DK kn nx kc fk zs es r HR.out v8 (HZS.out.keep HZ_8.out) (PKz.out.keep HZ_8.out) (by unfold maxLen; omega) (by unfold maxLen; omega)).mono ?_
  rintro e v10 ⟨rfl, hd10⟩
  have hb10 := hd10.below v8.heap.size
  have BN_10 := Lib.hid ((hb10.block _ (lt_of_heap BN_8.out)).trans BN_8.out)
  have BA_10 := Lib.hid ((hb10.block _ (lt_of_heap BA_8.out)).trans BA_8.out)
  have BB_10 := Lib.hid ((hb10.block _ (lt_of_heap BB_8.out)).trans BB_8.out)
  have HZ_10 := Lib.hid (HZ_8.out.trans (hb10.mono HZ_8.out.size))
  clear hb10 hd10
  go_wp2_with fail
  refine hK.out _ _ (nd4 BN_10.out (nd4 BA_10.out (nd4 BB_10.out ⟨(World.cell?_of_block (a := ⟨bD, oD + j, none⟩) (HZ_10.out.block bD hblD)).trans hclD, (World.cell?_of_block (a := ⟨bE, oE, none⟩) (HZ_10.out.block bE hblE)).trans hclE⟩))) (fun hH10 => ?_)
  clear hK K
  try simp only [Act.put, List.setIfInBounds_toArray, List.set_cons_zero, List.set_cons_succ]
  refine wpAnyH_take (i := 22) (oi := { dst := some 85, op := Op.binOp BinOp.geq 3 (Operand.tmp 84) (Operand.const (Value.int IntKind.i64 0)) 3, type := 4, pos := _, after := #[{ on := 21, ground := Ground.data }, { on := 11, ground := Ground.guard }], guard := some (11, false) }) (v := ?vb11_22) rfl (by kernel_rfl) (by kernel_rfl) (by kernel_rfl) (fun _ _ _ h => h) (Or.inl ⟨by rfl, ?yb11_22⟩) hH10 ?rb11_22
  case yb11_22 => (intro w hSw; (try dsimp only at hSw); go_simp; try (with_reducible rfl))
  try simp only [Act.put, List.setIfInBounds_toArray, List.set_cons_zero, List.set_cons_succ]
  refine wpAnyH_take (i := 23) (oi := { dst := some 86, op := Op.pick (Operand.tmp 74) (Operand.const (Value.bool true)) (Operand.tmp 85), type := 4, pos := _, after := #[{ on := 11, ground := Ground.data }, { on := 22, ground := Ground.data }, { on := 2, ground := Ground.guard }], guard := some (2, true) }) (v := ?vb11_23) rfl (by kernel_rfl) (by kernel_rfl) (by kernel_rfl) (fun _ _ _ h => h) (Or.inl ⟨by rfl, ?yb11_23⟩) hH10 ?rb11_23
  case yb11_23 => (intro w hSw; (try dsimp only at hSw); go_simp; try (with_reducible rfl))
  try simp only [Act.put, List.setIfInBounds_toArray, List.set_cons_zero, List.set_cons_succ]
  refine wpAnyH_take (i := 24) (oi := { dst := some 87, op := Op.move (Operand.tmp 86), type := 4, pos := _, after := #[{ on := 23, ground := Ground.data }, { on := 21, ground := Ground.chain }, { on := 2, ground := Ground.guard }], guard := some (2, true) }) (v := ?vb11_24) rfl (by kernel_rfl) (by kernel_rfl) (by kernel_rfl) (fun _ _ _ h => h) (Or.inl ⟨by rfl, ?yb11_24⟩) hH10 ?rb11_24
  case yb11_24 => (intro w hSw; (try dsimp only at hSw); go_simp; try (with_reducible rfl))
  try simp only [Act.put, List.setIfInBounds_toArray, List.set_cons_zero, List.set_cons_succ]
  refine wpAnyH_take (i := 25) (oi := { dst := some 88, op := Op.move (Operand.tmp 4), type := 28, pos := _, after := #[{ on := 24, ground := Ground.guard }], guard := some (24, false) }) (v := ?vb11_25) rfl (by kernel_rfl) (by kernel_rfl) (by kernel_rfl) (fun _ _ _ h => h) (Or.inl ⟨by rfl, ?yb11_25⟩) hH10 ?rb11_25
  case yb11_25 => (intro w hSw; (try dsimp only at hSw); go_simp; try (with_reducible rfl))
  try simp only [Act.put, List.setIfInBounds_toArray, List.set_cons_zero, List.set_cons_succ]
  refine wpAnyH_take (i := 26) (oi := { dst := some 89, op := Op.fieldAddr 70 (Operand.tmp 5) 1, type := 0, pos := _, after := #[{ on := 24, ground := Ground.guard }], guard := some (24, false) }) (v := ?vb11_26) rfl (by kernel_rfl) (by kernel_rfl) (by kernel_rfl) (fun _ _ _ h => h) (Or.inl ⟨by rfl, ?yb11_26⟩) hH10 ?rb11_26
  case yb11_26 => (intro w hSw; (try dsimp only at hSw); go_simp; try (with_reducible rfl))
  try simp only [Act.put, List.setIfInBounds_toArray, List.set_cons_zero, List.set_cons_succ]
  refine wpAnyH_take (i := 27) (oi := { dst := some 90, op := Op.load 62 (Operand.tmp 89), type := 62, pos := _, after := #[{ on := 26, ground := Ground.data }, { on := 24, ground := Ground.guard }], guard := some (24, false) }) (v := ?vb11_27) rfl (by kernel_rfl) (by kernel_rfl) (by kernel_rfl) (fun _ _ _ h => h) (Or.inl ⟨by rfl, ?yb11_27⟩) hH10 ?rb11_27
  case yb11_27 => (intro w hSw; (try dsimp only at hSw); go_simp; try (with_reducible rfl))
  try simp only [Act.put, List.setIfInBounds_toArray, List.set_cons_zero, List.set_cons_succ]
  refine wpAnyH_take (i := 28) (oi := { dst := some 91, op := Op.indexAddr 62 (Operand.tmp 90) (Operand.const (Value.int IntKind.i64 0)), type := 0, pos := _, after := #[{ on := 27, ground := Ground.data }, { on := 24, ground := Ground.guard }], guard := some (24, false) }) (v := ?vb11_28) rfl (by kernel_rfl) (by kernel_rfl) (by kernel_rfl) (fun _ _ _ h => h) (Or.inl ⟨by rfl, ?yb11_28⟩) hH10 ?rb11_28
  case yb11_28 => (intro w hSw; (try dsimp only at hSw); go_simp; try (with_reducible rfl))
  try simp only [Act.put, List.setIfInBounds_toArray, List.set_cons_zero, List.set_cons_succ]
  refine wpAnyH_take (i := 29) (oi := { dst := some 92, op := Op.load 28 (Operand.tmp 91), type := 28, pos := _, after := #[{ on := 28, ground := Ground.data }, { on := 24, ground := Ground.guard }], guard := some (24, false) }) (v := ?vb11_29) rfl (by kernel_rfl) (by kernel_rfl) (by kernel_rfl) (fun _ _ _ h => h) (Or.inl ⟨by rfl, ?yb11_29⟩) hH10 ?rb11_29
  case yb11_29 => (intro w hSw; (try dsimp only at hSw); go_simp; try (with_reducible rfl))
  try simp only [Act.put, List.setIfInBounds_toArray, List.set_cons_zero, List.set_cons_succ]
  refine wpAnyH_ready (rs := [30]) (by kernel_rfl) (by simp) ?_
  refine (AllReadyH.cons (o := { dst := some 93, op := Op.call { callee := Callee.value (Operand.func 51), args := #[Operand.tmp 88, Operand.tmp 92], argTypes := #[28, 28] }, type := 3, pos := _, after := #[{ on := 25, ground := Ground.data }, { on := 29, ground := Ground.data }, { on := 24, ground := Ground.chain }, { on := 24, ground := Ground.guard }], guard := some (24, false) }) rfl (fun K hK => ?_) AllReadyH.nil)
  go_simp
  refine (cmp_is DK EA nx en fk ec es es 0 (cmpL_self es) v10 (PKz.out.keep HZ_10.out) (HES.out.keep HZ_10.out) (by unfold maxLen; omega) (by unfold maxLen; omega)).mono ?_
  rintro e v12 ⟨rfl, hd12⟩
  have hb12 := hd12.below v10.heap.size
  have BN_12 := Lib.hid ((hb12.block _ (lt_of_heap BN_10.out)).trans BN_10.out)
  have BA_12 := Lib.hid ((hb12.block _ (lt_of_heap BA_10.out)).trans BA_10.out)
  have BB_12 := Lib.hid ((hb12.block _ (lt_of_heap BB_10.out)).trans BB_10.out)
  have HZ_12 := Lib.hid (HZ_10.out.trans (hb12.mono HZ_10.out.size))
  clear hb12 hd12
  go_wp2_with fail
  refine hK.out _ _ (nd4 BN_12.out (nd4 BA_12.out (nd4 BB_12.out ⟨(World.cell?_of_block (a := ⟨bD, oD + j, none⟩) (HZ_12.out.block bD hblD)).trans hclD, (World.cell?_of_block (a := ⟨bE, oE, none⟩) (HZ_12.out.block bE hblE)).trans hclE⟩))) (fun hH12 => ?_)
  clear hK K
  try simp only [Act.put, List.setIfInBounds_toArray, List.set_cons_zero, List.set_cons_succ]
  refine wpAnyH_take (i := 31) (oi := { dst := some 94, op := Op.binOp BinOp.gtr 3 (Operand.tmp 93) (Operand.const (Value.int IntKind.i64 0)) 3, type := 4, pos := _, after := #[{ on := 30, ground := Ground.data }, { on := 24, ground := Ground.guard }], guard := some (24, false) }) (v := ?vb13_31) rfl (by kernel_rfl) (by kernel_rfl) (by kernel_rfl) (fun _ _ _ h => h) (Or.inl ⟨by rfl, ?yb13_31⟩) hH12 ?rb13_31
  case yb13_31 => (intro w hSw; (try dsimp only at hSw); go_simp; try (with_reducible rfl))
  try simp only [Act.put, List.setIfInBounds_toArray, List.set_cons_zero, List.set_cons_succ]
  refine wpAnyH_take (i := 32) (oi := { dst := some 95, op := Op.pick (Operand.tmp 87) (Operand.const (Value.bool true)) (Operand.tmp 94), type := 4, pos := _, after := #[{ on := 24, ground := Ground.data }, { on := 31, ground := Ground.data }, { on := 2, ground := Ground.guard }], guard := some (2, true) }) (v := ?vb13_32) rfl (by kernel_rfl) (by kernel_rfl) (by kernel_rfl) (fun _ _ _ h => h) (Or.inl ⟨by rfl, ?yb13_32⟩) hH12 ?rb13_32
  case yb13_32 => (intro w hSw; (try dsimp only at hSw); go_simp; try (with_reducible rfl))
  try simp only [Act.put, List.setIfInBounds_toArray, List.set_cons_zero, List.set_cons_succ]
  refine wpAnyH_take (i := 33) (oi := { dst := some 96, op := Op.pick (Operand.tmp 65) (Operand.tmp 95) (Operand.const (Value.bool false)), type := 4, pos := _, after := #[{ on := 2, ground := Ground.data }, { on := 32, ground := Ground.data }], guard := none }) (v := ?vb13_33) rfl (by kernel_rfl) (by kernel_rfl) (by kernel_rfl) (fun _ _ _ h => h) (Or.inl ⟨by rfl, ?yb13_33⟩) hH12 ?rb13_33
  case yb13_33 => (intro w hSw; (try dsimp only at hSw); go_simp; try (with_reducible rfl))
  try simp only [Act.put, List.setIfInBounds_toArray, List.set_cons_zero, List.set_cons_succ]
  refine wpAnyH_done (by kernel_rfl) ?_ _
  obtain ⟨sz, HSZ⟩ : ∃ sz : Nat, Hid (sizeN true ks vs mD = sz) := ⟨_, rfl⟩
  have qn0 := rc_cell 0 (.bool true) BN_12.out rfl; have qn1 := rc_cell 1 (.slice AK mK cK) BN_12.out rfl; have qn2 := rc_cell 2 (.slice AV mV cV) BN_12.out rfl; have qn3 := rc_cell 3 (.slice AD mD cD) BN_12.out rfl
  go_wp2_with fail
  clear qn0 qn1 qn2 qn3
  refine (rsize_any true AK mK cK AV mV cV AD mD cD ks vs v12 (XKz.out.keep HZ_12.out) (XVz.out.keep HZ_12.out) (by omega) (by omega) (by omega) sK sV).mono ?_
  rintro e vs0 ⟨rfl, hbs0⟩
  rw [HSZ.out]
  have BN_s0 := Lib.hid ((hbs0.block _ (lt_of_heap BN_12.out)).trans BN_12.out)
  have BA_s0 := Lib.hid ((hbs0.block _ (lt_of_heap BA_12.out)).trans BA_12.out)
  have BB_s0 := Lib.hid ((hbs0.block _ (lt_of_heap BB_12.out)).trans BB_12.out)
  have HZ_s0 := Lib.hid (HZ_12.out.trans (hbs0.mono HZ_12.out.size))
  clear hbs0
  by_cases hw : sz ≤ 707
  · have dz : decide ((sz : Int) ≤ 707) = true := by simp; omega
    have hge : gtr true ks vs mD i2 ≤ 512 := by rw [HI.out]; have := half_leaf ks vs mD (by rw [HLK.out, HLV.out]; exact HWF.out.1) (by rw [HLK.out]; exact hD) HA1.out HA2.out (by rw [HSZ.out]; exact hw); rwa [HLK.out] at this
    unfold gtr at hge
    obtain ⟨sa, HSA⟩ : ∃ sa : Nat, Hid (frN true ks vs i2 = sa) := ⟨_, rfl⟩
    obtain ⟨sb, HSB⟩ : ∃ sb : Nat, Hid (bkN true ks vs mD i2 = sb) := ⟨_, rfl⟩
    rw [HSA.out, HSB.out] at hge
    have da : decide ((sa : Int) ≤ 512) = true := by simp; omega
    have db : decide ((sb : Int) ≤ 512) = true := by simp; omega
    clear hge
    have qn0 := rc_cell 0 (.bool true) BN_s0.out rfl; have qn1 := rc_cell 1 (.slice AK mK cK) BN_s0.out rfl; have qn2 := rc_cell 2 (.slice AV mV cV) BN_s0.out rfl; have qn3 := rc_cell 3 (.slice AD mD cD) BN_s0.out rfl
    have qa0 := rc_cell 0 (.bool true) BA_s0.out rfl; have qa1 := rc_cell 1 (.slice (some ⟨bD, oD, none⟩) i2 f1) BA_s0.out rfl; have qa2 := rc_cell 2 (.slice D2 i2 f2) BA_s0.out rfl; have qa3 := rc_cell 3 (.slice D3 0 f3) BA_s0.out rfl
    go_wp2_with fail
    clear qn0 qn1 qn2 qn3 qa0 qa1 qa2 qa3
    refine (toldN_any true (some ⟨bD, oD, none⟩) i2 f1 D2 i2 f2 D3 0 f3 vs0).mono ?_
    rintro e vs1 ⟨rfl, hbs1⟩
    have BN_s1 := Lib.hid ((hbs1.block _ (lt_of_heap BN_s0.out)).trans BN_s0.out)
    have BA_s1 := Lib.hid ((hbs1.block _ (lt_of_heap BA_s0.out)).trans BA_s0.out)
    have BB_s1 := Lib.hid ((hbs1.block _ (lt_of_heap BB_s0.out)).trans BB_s0.out)
    have HZ_s1 := Lib.hid (HZ_s0.out.trans (hbs1.mono HZ_s0.out.size))
    clear hbs1
    go_wp2_with fail
    refine (rsize_any true (some ⟨bD, oD, none⟩) i2 f1 D2 i2 f2 D3 0 f3 (ks.take i2) (vs.take i2) vs1 (R1z.out.keep HZ_s1.out) (R2z.out.keep HZ_s1.out) (by omega) (by omega) (by omega) (Nat.le_trans (szW_le 1 ks _) sK) (Nat.le_trans (szW_le 2 vs _) sV)).mono ?_
    rintro e vs2 ⟨rfl, hbs2⟩
    rw [show sizeN true (ks.take i2) (vs.take i2) 0 = sa from by rw [← HSA.out]; rfl]
    have BN_s2 := Lib.hid ((hbs2.block _ (lt_of_heap BN_s1.out)).trans BN_s1.out)
    have BA_s2 := Lib.hid ((hbs2.block _ (lt_of_heap BA_s1.out)).trans BA_s1.out)
    have BB_s2 := Lib.hid ((hbs2.block _ (lt_of_heap BB_s1.out)).trans BB_s1.out)
    have HZ_s2 := Lib.hid (HZ_s1.out.trans (hbs2.mono HZ_s1.out.size))
    clear hbs2
    have qb0 := rc_cell 0 (.bool true) BB_s2.out rfl; have qb1 := rc_cell 1 (.slice (some ⟨bE, oE, none⟩) (mK - i2) g1) BB_s2.out rfl; have qb2 := rc_cell 2 (.slice E2 (mV - i2) g2) BB_s2.out rfl; have qb3 := rc_cell 3 (.slice E3 0 g3) BB_s2.out rfl
    go_wp2_with fail
    clear qb0 qb1 qb2 qb3
    refine (toldN_any true (some ⟨bE, oE, none⟩) (mK - i2) g1 E2 (mV - i2) g2 E3 0 g3 vs2).mono ?_
    rintro e vs3 ⟨rfl, hbs3⟩
    have BN_s3 := Lib.hid ((hbs3.block _ (lt_of_heap BN_s2.out)).trans BN_s2.out)
    have BA_s3 := Lib.hid ((hbs3.block _ (lt_of_heap BA_s2.out)).trans BA_s2.out)
    have BB_s3 := Lib.hid ((hbs3.block _ (lt_of_heap BB_s2.out)).trans BB_s2.out)
    have HZ_s3 := Lib.hid (HZ_s2.out.trans (hbs3.mono HZ_s2.out.size))
    clear hbs3
    go_wp2_with fail
    refine (rsize_any true (some ⟨bE, oE, none⟩) (mK - i2) g1 E2 (mV - i2) g2 E3 0 g3 (ks.drop i2) (vs.drop i2) vs3 (P4z.out.keep HZ_s3.out) (P5z.out.keep HZ_s3.out) (by omega) (by omega) (by omega) (Nat.le_trans (szW_drop 1 ks _) sK) (Nat.le_trans (szW_drop 2 vs _) sV)).mono ?_
    rintro e vs4 ⟨rfl, hbs4⟩
    rw [show sizeN true (ks.drop i2) (vs.drop i2) 0 = sb from by rw [← HSB.out]; rfl]
    have BN_s4 := Lib.hid ((hbs4.block _ (lt_of_heap BN_s3.out)).trans BN_s3.out)
    have BA_s4 := Lib.hid ((hbs4.block _ (lt_of_heap BA_s3.out)).trans BA_s3.out)
    have BB_s4 := Lib.hid ((hbs4.block _ (lt_of_heap BB_s3.out)).trans BB_s3.out)
    have HZ_s4 := Lib.hid (HZ_s3.out.trans (hbs4.mono HZ_s3.out.size))
    clear hbs4
    go_wp2
    go_ret
    exact ⟨rfl, HB9.out.trans (HZ_s4.out.mono HB9.out.size)⟩
  · have dz : decide ((sz : Int) ≤ 707) = false := by simp; omega
    have qn0 := rc_cell 0 (.bool true) BN_s0.out rfl; have qn1 := rc_cell 1 (.slice AK mK cK) BN_s0.out rfl; have qn2 := rc_cell 2 (.slice AV mV cV) BN_s0.out rfl; have qn3 := rc_cell 3 (.slice AD mD cD) BN_s0.out rfl
    go_wp2_with fail
    clear qn0 qn1 qn2 qn3
    refine (rsize_any true AK mK cK AV mV cV AD mD cD ks vs vs0 (XKz.out.keep HZ_s0.out) (XVz.out.keep HZ_s0.out) (by omega) (by omega) (by omega) sK sV).mono ?_
    rintro e vs5 ⟨rfl, hbs5⟩
    rw [HSZ.out]
    have BN_s5 := Lib.hid ((hbs5.block _ (lt_of_heap BN_s0.out)).trans BN_s0.out)
    have BA_s5 := Lib.hid ((hbs5.block _ (lt_of_heap BA_s0.out)).trans BA_s0.out)
    have BB_s5 := Lib.hid ((hbs5.block _ (lt_of_heap BB_s0.out)).trans BB_s0.out)
    have HZ_s5 := Lib.hid (HZ_s0.out.trans (hbs5.mono HZ_s0.out.size))
    clear hbs5
    have dz2 : decide ((sz : Int) ≤ 579) = false := by simp; omega
    have qn0 := rc_cell 0 (.bool true) BN_s5.out rfl; have qn1 := rc_cell 1 (.slice AK mK cK) BN_s5.out rfl; have qn2 := rc_cell 2 (.slice AV mV cV) BN_s5.out rfl; have qn3 := rc_cell 3 (.slice AD mD cD) BN_s5.out rfl
    go_wp2
    go_ret
    exact ⟨rfl, HB9.out.trans (HZ_s5.out.mono HB9.out.size)⟩
end Go.Proofs.Ytmjjbfcblmmipaa
