/- LeafFinds' walk. -/
import Derived.Test.YtmjjbfcblmmipaaFindW
namespace Go.Proofs.Ytmjjbfcblmmipaa
set_option linter.unusedVariables false
set_option linter.unusedSimpArgs false
open Go.RowKit
set_option maxRecDepth 100000 in
set_option maxHeartbeats 32000000 in
theorem fndX_any (lf : Bool) (AK : Option Addr) (nK cK : Nat) (AV : Option Addr) (nV cV : Nat) (AD : Option Addr) (nD cD : Nat) (ks vs : List (List Int)) (ds : List Int) (mK mV mD : Nat) (AP : Option Addr) (np cp : Nat) (P : List Int) (z : Int) (w : World)
    (e1 : min nK 100 = mK) (e2 : min nV 100 = mV) (e3 : min nD 101 = mD) (hx : Bss w AK mK ks) (hy : Bss w AV mV vs) (hz : Ins w AD mD ds) (hKc : nK ≤ cK) (hVc : nV ≤ cV) (hDc : nD ≤ cD) (bK : nK ≤ 1048576) (bV : nV ≤ 1048576) (bD : nD ≤ 1048576)
    (lK : ∀ xs ∈ ks, xs.length ≤ 1048576) (lV : ∀ xs ∈ vs, xs.length ≤ 1048576) (hp : Bs w AP np P) (hpc : np ≤ cp) (bp : np ≤ 1048576) :
    Calls Try.prog 9 #[.agg (ndV lf AK nK cK AV nV cV AD nD cD), .slice AP np cp, .int .i64 z] w fun e w' => e = .returned (.bool true) ∧ Below w.heap.size w w' := by
  have HX := Lib.hid hx; have HY := Lib.hid hy; have HZ := Lib.hid hz; have HPP := Lib.hid hp; have HPL := Lib.hid hp.len
  have HLK := Lib.hid hx.len; have HLV := Lib.hid hy.len; have HLD := Lib.hid hz.len
  have HE1 := Lib.hid e1; have HE2 := Lib.hid e2; have HE3 := Lib.hid e3
  have hmK : mK ≤ 100 := by omega
  have hmV : mV ≤ 100 := by omega
  have hmD : mD ≤ 101 := by omega
  have k1 : mK ≤ cK := by omega
  have k2 : mV ≤ cV := by omega
  have HMK := Lib.hid lK; have HMV := Lib.hid lV
  have HML : Hid (∀ xs ∈ ks, xs.length ≤ maxLen) := Lib.hid (fun x hx => Nat.le_trans (HMK.out x hx) (by unfold maxLen; omega)); have HMM : Hid (∀ xs ∈ vs, xs.length ≤ maxLen) := Lib.hid (fun x hx => Nat.le_trans (HMV.out x hx) (by unfold maxLen; omega))
  have HQ1 : Hid (∀ xs ∈ ks, xs.length ≤ 140737488355328) := Lib.hid (fun x hx => Nat.le_trans (HMK.out x hx) (by omega)); have HQ2 : Hid (∀ xs ∈ vs, xs.length ≤ 140737488355328) := Lib.hid (fun x hx => Nat.le_trans (HMV.out x hx) (by omega))
  have HB := Lib.hid (below_alloc w (.cells (ndV lf AK nK cK AV nV cV AD nD cD) 66)); have BN := Lib.hid (heap_alloc_new w (.cells (ndV lf AK nK cK AV nV cV AD nD cD) 66))
  clear hx hy hz e1 e2 e3 lK lV hp
  go_enter Try.func9, Try.ntmps9
  go_wp2_with fail
  generalize w.alloc (.cells (ndV lf AK nK cK AV nV cV AD nD cD) 66) = y at *
  refine (awakeL_any y).mono ?_
  rintro e x1 ⟨rfl, hb1⟩
  have BN1 := Lib.hid ((hb1.block _ (lt_of_heap BN.out)).trans BN.out); have HB1 := Lib.hid (HB.out.trans (hb1.mono HB.out.size)); clear hb1
  have q0 := rc_cell 0 (.bool lf) BN1.out rfl; have q1 := rc_cell 1 (.slice AK nK cK) BN1.out rfl; have q2 := rc_cell 2 (.slice AV nV cV) BN1.out rfl; have q3 := rc_cell 3 (.slice AD nD cD) BN1.out rfl
  go_wp2_with fail
  clear q0 q1 q2 q3
  refine (few_is lf AK nK cK AV nV cV AD nD cD 100 _ (by omega) mK mV mD HE1.out HE2.out HE3.out x1 (by omega) hKc hVc hDc bK bV bD).mono ?_
  rintro e x2 ⟨rfl, hb2⟩
  have BN2 := Lib.hid ((hb2.block _ (lt_of_heap BN1.out)).trans BN1.out); have HB2 := Lib.hid (HB1.out.trans (hb2.mono HB1.out.size)); clear hb2
  have q0 := rc_cell 0 (.bool lf) BN2.out rfl; have q1 := rc_cell 1 (.slice AK nK cK) BN2.out rfl; have q2 := rc_cell 2 (.slice AV nV cV) BN2.out rfl; have q3 := rc_cell 3 (.slice AD nD cD) BN2.out rfl
  have t0 := two_frozen (i := 0) BN2.out; have t1 := two_frozen (i := 1) BN2.out; have t2 := two_frozen (i := 2) BN2.out; have t3 := two_frozen (i := 3) BN2.out
  have HS := Lib.hid (set4g x2 w.heap.size (.bool lf) (.slice AK mK cK) (.slice AV mV cV) (.slice AD mD cD) _ _ _ _ 66 BN2.out)
  go_upto_region 4 with fail
  clear q0 q1 q2 q3; clear t0 t1 t2 t3
  have BN3 := Lib.hid HS.out.1; have HB3 := Lib.hid (HB2.out.trans (HS.out.2.below (Nat.le_of_lt (lt_of_heap BN2.out))))
  clear HS
  generalize ((((x2.setCell ⟨w.heap.size, 0, none⟩ (.bool lf)).setCell ⟨w.heap.size, 1, none⟩ (.slice AK mK cK)).setCell ⟨w.heap.size, 2, none⟩ (.slice AV mV cV)).setCell ⟨w.heap.size, 3, none⟩ (.slice AD mD cD)) = x3 at *
  have q0 := rc_cell 0 (.bool lf) BN3.out rfl; have q1 := rc_cell 1 (.slice AK mK cK) BN3.out rfl; have q2 := rc_cell 2 (.slice AV mV cV) BN3.out rfl; have q3 := rc_cell 3 (.slice AD mD cD) BN3.out rfl
  go_wp2_with fail
  clear q0 q1 q2 q3
  refine (rcheck_any lf AK mK cK AV mV cV AD mD cD ks vs ds x3 (HX.out.keep HB3.out) (HY.out.keep HB3.out) (HZ.out.keep HB3.out) (by omega) (by omega) (by omega) HML.out).mono ?_
  rintro e x4 ⟨rfl, hb4⟩
  have BN4 := Lib.hid ((hb4.block _ (lt_of_heap BN3.out)).trans BN3.out); have HB4 := Lib.hid (HB3.out.trans (hb4.mono HB3.out.size)); clear hb4
  by_cases hc : chkN lf ks vs ds = 0
  case neg =>
    obtain ⟨c, HC⟩ : ∃ c : Nat, Hid (chkN lf ks vs ds = c) := ⟨_, rfl⟩
    have hc0 : c ≠ 0 := by rw [← HC.out]; exact hc
    have dc : ((c : Int) != 0) = true := by rw [bne_iff_ne]; omega
    rw [HC.out]
    clear hc0 hc
    go_wp2
    go_ret
    exact ⟨rfl, HB4.out⟩
  case pos =>
    have hbad := (chk_ok hc).2.2.2.2
    rw [HLK.out, HLV.out, HLD.out] at hbad
    have HVK : Hid (lf = true → mV = mK) := Lib.hid (fun e => by subst e; unfold badF at hbad; rw [if_pos rfl, Bool.or_eq_false_iff, decide_eq_false_iff_not, decide_eq_false_iff_not] at hbad; omega)
    have HDZ : Hid (lf = true → mD = 0) := Lib.hid (fun e => by subst e; unfold badF at hbad; rw [if_pos rfl, Bool.or_eq_false_iff, decide_eq_false_iff_not, decide_eq_false_iff_not] at hbad; omega)
    rw [hc]
    clear hbad hc
    have q0 := rc_cell 0 (.bool lf) BN4.out rfl; have q1 := rc_cell 1 (.slice AK mK cK) BN4.out rfl; have q2 := rc_cell 2 (.slice AV mV cV) BN4.out rfl; have q3 := rc_cell 3 (.slice AD mD cD) BN4.out rfl
    go_wp2_with fail
    clear q0 q1 q2 q3
    refine (ownN_any lf AK mK cK AV mV cV AD mD cD ks vs ds x4 (HX.out.keep HB4.out) (HY.out.keep HB4.out) (HZ.out.keep HB4.out) (by omega) (by omega) (by omega) HMK.out HMV.out).mono ?_
    rintro e x5 ⟨A1, a1, A2, a2, A3, a3, rfl, p1, p2, p3, hbo⟩
    have BN5 := Lib.hid ((hbo.block _ (lt_of_heap BN4.out)).trans BN4.out); have HB5 := Lib.hid (HB4.out.trans (hbo.mono HB4.out.size))
    have P1 := Lib.hid p1.bss; clear hbo p1 p2 p3
    go_wp2_with fail
    refine (copy_any AP np cp P x5 (HPP.out.keep HB5.out) (by omega)).mono ?_
    rintro e x6 ⟨AC, cc, rfl, ho, hb6⟩
    have BN6 := Lib.hid ((hb6.block _ (lt_of_heap BN5.out)).trans BN5.out); have HB6 := Lib.hid (HB5.out.trans (hb6.mono HB5.out.size))
    have P16 := Lib.hid (P1.out.keep hb6); have PC := Lib.hid (ho.bs HPP.out.2); clear ho hb6 P1
    go_wp2_with fail
    refine (find_any lf A1 mK a1 A2 mV a2 A3 mD a3 ks AC np cc P x6 P16.out PC.out (by omega) (by omega) HMK.out).mono ?_
    rintro e x7 ⟨rfl, hb7⟩
    have BN7 := Lib.hid ((hb7.block _ (lt_of_heap BN6.out)).trans BN6.out); have HB7 := Lib.hid (HB6.out.trans (hb7.mono HB6.out.size))
    obtain ⟨fn, HFN⟩ : ∃ fn, Hid (fdN P ks = fn) := ⟨_, rfl⟩
    obtain ⟨fb, HFB⟩ : ∃ fb, Hid (fdB P ks = fb) := ⟨_, rfl⟩
    rw [HFN.out, HFB.out]
    clear hb7 P16 PC
    have q0 := rc_cell 0 (.bool lf) BN7.out rfl; have q1 := rc_cell 1 (.slice AK mK cK) BN7.out rfl; have q2 := rc_cell 2 (.slice AV mV cV) BN7.out rfl; have q3 := rc_cell 3 (.slice AD mD cD) BN7.out rfl
    go_wp2_with fail
    clear q0 q1 q2 q3
    refine (rfind_any lf AK mK cK AV mV cV AD mD cD ks AP np cp P x7 (HX.out.keep HB7.out) (HPP.out.keep HB7.out) (by omega) (by omega) HMK.out).mono ?_
    rintro e x8 ⟨rfl, hb8⟩
    have BN8 := Lib.hid ((hb8.block _ (lt_of_heap BN7.out)).trans BN7.out); have HB8 := Lib.hid (HB7.out.trans (hb8.mono HB7.out.size))
    rw [HFN.out, HFB.out]
    clear hb8
    go_upto_region 10 with fail
    have HMWK : Hid (∀ xs ∈ wL lf z mK ks P, xs.length ≤ maxLen) := Lib.hid (fun x hx => (wL_mem hx).elim (fun h => HML.out x h) (fun h => by rw [h, HPL.out]; unfold maxLen; omega))
    have HMWV : Hid (∀ xs ∈ wL lf z mK vs P, xs.length ≤ maxLen) := Lib.hid (fun x hx => (wL_mem hx).elim (fun h => HMM.out x h) (fun h => by rw [h, HPL.out]; unfold maxLen; omega))
    have HMDK : Hid (∀ xs ∈ dLs lf z mK ks, xs.length ≤ maxLen) := Lib.hid (fun x hx => HML.out x (dLs_mem hx))
    have HMDV : Hid (∀ xs ∈ dLs lf z mK vs, xs.length ≤ maxLen) := Lib.hid (fun x hx => HMM.out x (dLs_mem hx))
    have hlW1 : (wL lf z mK ks P).length ≤ 1048576 := by have := wL_le lf z mK ks P; have := HLK.out; omega
    have hlW2 : (wL lf z mK vs P).length ≤ 1048576 := by have := wL_le lf z mK vs P; have := HLV.out; omega
    have hlD1 : (dLs lf z mK ks).length ≤ 1048576 := by have := dLs_le lf z mK ks; have := HLK.out; omega
    have hlD2 : (dLs lf z mK vs).length ≤ 1048576 := by have := dLs_le lf z mK vs; have := HLV.out; omega
    have BNd : Hid (x8.drew.heap[w.heap.size]? = some (.cells #[.bool lf, .slice AK mK cK, .slice AV mV cV, .slice AD mD cD] 66 (0, 0))) := BN8; have HZd := Lib.hid (HB8.out.trans ((Dr.refl x8).one.below _))
    refine wp_region_held_drew (S := fun w' => w'.cell? ⟨w.heap.size, 0, none⟩ = some (.bool lf) ∧ w'.cell? ⟨w.heap.size, 1, none⟩ = some (.slice AK mK cK) ∧ w'.cell? ⟨w.heap.size, 2, none⟩ = some (.slice AV mV cV) ∧ w'.cell? ⟨w.heap.size, 3, none⟩ = some (.slice AD mD cD) ∧ True) (by kernel_rfl) (nd4 BNd.out trivial) (fun hH0 => ?_)
    generalize x8.drew = yd at *
    refine wpAnyH_take (i := 0) (oi := { dst := some 40, op := Op.load 66 (Operand.tmp 3), type := 66, pos := _, after := #[], guard := none }) (v := ?vh1_0) rfl (by kernel_rfl) (by kernel_rfl) (by kernel_rfl) (fun _ _ _ h => h) (Or.inl ⟨by rfl, ?yh1_0⟩) hH0 ?rh1_0
    case yh1_0 => (intro w hSw; (try dsimp only at hSw); go_simp; try (with_reducible rfl))
    try simp only [Act.put, List.setIfInBounds_toArray, List.set_cons_zero, List.set_cons_succ]
    refine wpAnyH_take (i := 2) (oi := { dst := some 42, op := Op.move (Operand.tmp 2), type := 3, pos := _, after := #[], guard := none }) (v := ?vh1_2) rfl (by kernel_rfl) (by kernel_rfl) (by kernel_rfl) (fun _ _ _ h => h) (Or.inl ⟨by rfl, ?yh1_2⟩) hH0 ?rh1_2
    case yh1_2 => (intro w hSw; (try dsimp only at hSw); go_simp; try (with_reducible rfl))
    try simp only [Act.put, List.setIfInBounds_toArray, List.set_cons_zero, List.set_cons_succ]
    refine wpAnyH_take (i := 3) (oi := { dst := some 43, op := Op.move (Operand.tmp 1), type := 28, pos := _, after := #[], guard := none }) (v := ?vh1_3) rfl (by kernel_rfl) (by kernel_rfl) (by kernel_rfl) (fun _ _ _ h => h) (Or.inl ⟨by rfl, ?yh1_3⟩) hH0 ?rh1_3
    case yh1_3 => (intro w hSw; (try dsimp only at hSw); go_simp; try (with_reducible rfl))
    try simp only [Act.put, List.setIfInBounds_toArray, List.set_cons_zero, List.set_cons_succ]
    refine wpAnyH_take (i := 5) (oi := { dst := some 45, op := Op.move (Operand.tmp 1), type := 28, pos := _, after := #[], guard := none }) (v := ?vh1_5) rfl (by kernel_rfl) (by kernel_rfl) (by kernel_rfl) (fun _ _ _ h => h) (Or.inl ⟨by rfl, ?yh1_5⟩) hH0 ?rh1_5
    case yh1_5 => (intro w hSw; (try dsimp only at hSw); go_simp; try (with_reducible rfl))
    try simp only [Act.put, List.setIfInBounds_toArray, List.set_cons_zero, List.set_cons_succ]
    refine wpAnyH_take (i := 8) (oi := { dst := some 48, op := Op.load 66 (Operand.tmp 3), type := 66, pos := _, after := #[], guard := none }) (v := ?vh1_8) rfl (by kernel_rfl) (by kernel_rfl) (by kernel_rfl) (fun _ _ _ h => h) (Or.inl ⟨by rfl, ?yh1_8⟩) hH0 ?rh1_8
    case yh1_8 => (intro w hSw; (try dsimp only at hSw); go_simp; try (with_reducible rfl))
    try simp only [Act.put, List.setIfInBounds_toArray, List.set_cons_zero, List.set_cons_succ]
    refine wpAnyH_take (i := 9) (oi := { dst := some 49, op := Op.move (Operand.tmp 2), type := 3, pos := _, after := #[], guard := none }) (v := ?vh1_9) rfl (by kernel_rfl) (by kernel_rfl) (by kernel_rfl) (fun _ _ _ h => h) (Or.inl ⟨by rfl, ?yh1_9⟩) hH0 ?rh1_9
    case yh1_9 => (intro w hSw; (try dsimp only at hSw); go_simp; try (with_reducible rfl))
    try simp only [Act.put, List.setIfInBounds_toArray, List.set_cons_zero, List.set_cons_succ]
    refine wpAnyH_take (i := 10) (oi := { dst := some 50, op := Op.move (Operand.tmp 1), type := 28, pos := _, after := #[], guard := none }) (v := ?vh1_10) rfl (by kernel_rfl) (by kernel_rfl) (by kernel_rfl) (fun _ _ _ h => h) (Or.inl ⟨by rfl, ?yh1_10⟩) hH0 ?rh1_10
    case yh1_10 => (intro w hSw; (try dsimp only at hSw); go_simp; try (with_reducible rfl))
    try simp only [Act.put, List.setIfInBounds_toArray, List.set_cons_zero, List.set_cons_succ]
    refine wpAnyH_take (i := 11) (oi := { dst := some 51, op := Op.move (Operand.tmp 1), type := 28, pos := _, after := #[], guard := none }) (v := ?vh1_11) rfl (by kernel_rfl) (by kernel_rfl) (by kernel_rfl) (fun _ _ _ h => h) (Or.inl ⟨by rfl, ?yh1_11⟩) hH0 ?rh1_11
    case yh1_11 => (intro w hSw; (try dsimp only at hSw); go_simp; try (with_reducible rfl))
    try simp only [Act.put, List.setIfInBounds_toArray, List.set_cons_zero, List.set_cons_succ]
    refine wpAnyH_ready (rs := [1]) (by kernel_rfl) (by simp) ?_
    refine (AllReadyH.cons (o := { dst := some 41, op := Op.call { callee := Callee.value (Operand.func 33), args := #[Operand.tmp 40], argTypes := #[66] }, type := 70, pos := _, after := #[{ on := 0, ground := Ground.data }], guard := none }) rfl (fun K hK => ?_) AllReadyH.nil)
    go_simp
    refine (ownN_any lf AK mK cK AV mV cV AD mD cD ks vs ds yd (HX.out.keep HZd.out) (HY.out.keep HZd.out) (HZ.out.keep HZd.out) (by omega) (by omega) (by omega) HMK.out HMV.out).mono ?_
    rintro e v2 ⟨O12, o12, O22, o22, O32, o32, rfl, p12, p22, p32, hb2⟩
    have BN2 := Lib.hid ((hb2.block _ (lt_of_heap BNd.out)).trans BNd.out); have HZ2 := Lib.hid (HZd.out.trans (hb2.mono HZd.out.size))
    have OA2 := Lib.hid p12.bss; have OB2 := Lib.hid p22.bss; have OC2 := Lib.hid (Ins.own p32 HZ.out.2); have OS2 := Lib.hid p32.shp
    clear hb2 p12 p22 p32
    go_wp2_with fail
    refine hK.out _ _ (nd4 BN2.out trivial) (fun hH2 => ?_)
    clear hK K
    try simp only [Act.put, List.setIfInBounds_toArray, List.set_cons_zero, List.set_cons_succ]
    refine wpAnyH_ready (rs := [4]) (by kernel_rfl) (by simp) ?_
    refine (AllReadyH.cons (o := { dst := some 44, op := Op.call { callee := Callee.value (Operand.func 22), args := #[Operand.tmp 43], argTypes := #[28] }, type := 28, pos := _, after := #[{ on := 3, ground := Ground.data }, { on := 1, ground := Ground.chain }], guard := none }) rfl (fun K hK => ?_) AllReadyH.nil)
    go_simp
    refine (copy_any AP np cp P v2 (HPP.out.keep HZ2.out) (by omega)).mono ?_
    rintro e v4 ⟨D4, d4, rfl, ho4, hb4⟩
    have BN4 := Lib.hid ((hb4.block _ (lt_of_heap BN2.out)).trans BN2.out); have HZ4 := Lib.hid (HZ2.out.trans (hb4.mono HZ2.out.size))
    have OA_4 := Lib.hid (OA2.out.keep hb4)
    have OB_4 := Lib.hid (OB2.out.keep hb4)
    have OC_4 := Lib.hid (OC2.out.keep hb4)
    have DC4 := Lib.hid (ho4.bs HPP.out.2)
    clear ho4 hb4
    go_wp2_with fail
    refine hK.out _ _ (nd4 BN4.out trivial) (fun hH4 => ?_)
    clear hK K
    try simp only [Act.put, List.setIfInBounds_toArray, List.set_cons_zero, List.set_cons_succ]
    refine wpAnyH_ready (rs := [6]) (by kernel_rfl) (by simp) ?_
    refine (AllReadyH.cons (o := { dst := some 46, op := Op.call { callee := Callee.value (Operand.func 44), args := #[Operand.tmp 41, Operand.tmp 42, Operand.tmp 44, Operand.tmp 45], argTypes := #[70, 3, 28, 28] }, type := 70, pos := _, after := #[{ on := 1, ground := Ground.data }, { on := 2, ground := Ground.data }, { on := 4, ground := Ground.data }, { on := 5, ground := Ground.data }, { on := 4, ground := Ground.chain }], guard := none }) rfl (fun K hK => ?_) AllReadyH.nil)
    go_simp
    refine (with_uni lf O12 mK o12 O22 mV o22 O32 mD o32 ks vs ds z D4 np d4 P AP np cp P v4 OA_4.out OB_4.out OC_4.out OS2.out DC4.out (HPP.out.keep HZ4.out) HVK.out (by omega) (by omega) (by omega) HQ1.out HQ2.out (by rw [HPL.out]; omega) (by rw [HPL.out]; omega)).mono ?_
    rintro e v6 ⟨W16, b16, W26, b26, W36, b36, rfl, p16, p26, p36, hb6⟩
    have BN6 := Lib.hid ((hb6.block _ (lt_of_heap BN4.out)).trans BN4.out); have HZ6 := Lib.hid (HZ4.out.trans (hb6.mono HZ4.out.size))
    have WA6 := Lib.hid p16; have WB6 := Lib.hid p26; have WC6 := Lib.hid p36
    clear p16 p26 p36 hb6
    go_wp2_with fail
    refine hK.out _ _ (nd4 BN6.out trivial) (fun hH6 => ?_)
    clear hK K
    try simp only [Act.put, List.setIfInBounds_toArray, List.set_cons_zero, List.set_cons_succ]
    refine wpAnyH_ready (rs := [7]) (by kernel_rfl) (by simp) ?_
    refine (AllReadyH.cons (o := { dst := some 47, op := Op.call { callee := Callee.value (Operand.func 41), args := #[Operand.tmp 46], argTypes := #[70] }, type := 66, pos := _, after := #[{ on := 6, ground := Ground.data }, { on := 6, ground := Ground.chain }], guard := none }) rfl (fun K hK => ?_) AllReadyH.nil)
    go_simp
    refine (toldN_any lf W16 (wL lf z mK ks P).length b16 W26 (wL lf z mK vs P).length b26 W36 mD b36 v6).mono ?_
    rintro e v8 ⟨rfl, hb8⟩
    have BN8 := Lib.hid ((hb8.block _ (lt_of_heap BN6.out)).trans BN6.out); have HZ8 := Lib.hid (HZ6.out.trans (hb8.mono HZ6.out.size))
    have WA_8 := Lib.hid (WA6.out.keep hb8)
    have WB_8 := Lib.hid (WB6.out.keep hb8)
    have WC_8 := Lib.hid (WC6.out.keep hb8)
    clear hb8
    go_wp2_with fail
    refine hK.out _ _ (nd4 BN8.out trivial) (fun hH8 => ?_)
    clear hK K
    try simp only [Act.put, List.setIfInBounds_toArray, List.set_cons_zero, List.set_cons_succ]
    refine wpAnyH_ready (rs := [12]) (by kernel_rfl) (by simp) ?_
    refine (AllReadyH.cons (o := { dst := some 52, op := Op.call { callee := Callee.value (Operand.func 45), args := #[Operand.tmp 48, Operand.tmp 49, Operand.tmp 50, Operand.tmp 51], argTypes := #[66, 3, 28, 28] }, type := 66, pos := _, after := #[{ on := 8, ground := Ground.data }, { on := 9, ground := Ground.data }, { on := 10, ground := Ground.data }, { on := 11, ground := Ground.data }, { on := 7, ground := Ground.chain }], guard := none }) rfl (fun K hK => ?_) AllReadyH.nil)
    go_simp
    refine (rwith_uni lf AK mK cK AV mV cV AD mD cD ks vs ds z AP np cp P AP np cp P v8 (HX.out.keep HZ8.out) (HY.out.keep HZ8.out) (HZ.out.keep HZ8.out) (HPP.out.keep HZ8.out) (HPP.out.keep HZ8.out) hpc hpc HVK.out HDZ.out k1 k2 (by omega)).mono ?_
    rintro e v10 ⟨X110, b110, X210, b210, X310, b310, rfl, p110, p210, p310, hb10⟩
    have BN10 := Lib.hid ((hb10.block _ (lt_of_heap BN8.out)).trans BN8.out); have HZ10 := Lib.hid (HZ8.out.trans (hb10.mono HZ8.out.size))
    have WA_10 := Lib.hid (WA_8.out.keep hb10)
    have WB_10 := Lib.hid (WB_8.out.keep hb10)
    have WC_10 := Lib.hid (WC_8.out.keep hb10)
    have XA10 := Lib.hid p110; have XB10 := Lib.hid p210; have XC10 := Lib.hid p310
    clear p110 p210 p310 hb10
    go_wp2_with fail
    refine hK.out _ _ (nd4 BN10.out trivial) (fun hH10 => ?_)
    clear hK K
    try simp only [Act.put, List.setIfInBounds_toArray, List.set_cons_zero, List.set_cons_succ]
    refine wpAnyH_ready (rs := [13]) (by kernel_rfl) (by simp) ?_
    refine (AllReadyH.cons (o := { dst := some 53, op := Op.call { callee := Callee.value (Operand.func 40), args := #[Operand.tmp 47, Operand.tmp 52], argTypes := #[66, 66] }, type := 4, pos := _, after := #[{ on := 7, ground := Ground.data }, { on := 12, ground := Ground.data }, { on := 12, ground := Ground.chain }], guard := none }) rfl (fun K hK => ?_) AllReadyH.nil)
    go_simp
    refine (rsame_is true lf lf W16 (wL lf z mK ks P).length b16 W26 (wL lf z mK vs P).length b26 W36 mD b36 X110 (wL lf z mK ks P).length b110 X210 (wL lf z mK vs P).length b210 X310 mD b310 (wL lf z mK ks P) (wL lf z mK vs P) (wL lf z mK ks P) (wL lf z mK vs P) ds ds v10 (by simp) WA_10.out WB_10.out WC_10.out XA10.out XB10.out XC10.out hlW1 hlW2 (by omega) hlW1 hlW2 (by omega) HMWK.out HMWV.out HMWK.out HMWV.out).mono ?_
    rintro e v12 ⟨rfl, hb12⟩
    have BN12 := Lib.hid ((hb12.block _ (lt_of_heap BN10.out)).trans BN10.out); have HZ12 := Lib.hid (HZ10.out.trans (hb12.mono HZ10.out.size))
    clear hb12
    go_wp2_with fail
    refine hK.out _ _ (nd4 BN12.out trivial) (fun hH12 => ?_)
    clear hK K
    try simp only [Act.put, List.setIfInBounds_toArray, List.set_cons_zero, List.set_cons_succ]
    refine wpAnyH_take (i := 14) (oi := { dst := some 54, op := Op.move (Operand.tmp 53), type := 4, pos := _, after := #[{ on := 13, ground := Ground.data }, { on := 13, ground := Ground.chain }], guard := none }) (v := ?vh13_14) rfl (by kernel_rfl) (by kernel_rfl) (by kernel_rfl) (fun _ _ _ h => h) (Or.inl ⟨by rfl, ?yh13_14⟩) hH12 ?rh13_14
    case yh13_14 => (intro w hSw; (try dsimp only at hSw); go_simp; try (with_reducible rfl))
    try simp only [Act.put, List.setIfInBounds_toArray, List.set_cons_zero, List.set_cons_succ]
    refine wpAnyH_take (i := 15) (oi := { dst := some 55, op := Op.load 66 (Operand.tmp 3), type := 66, pos := _, after := #[{ on := 14, ground := Ground.guard }], guard := some (14, true) }) (v := ?vh13_15) rfl (by kernel_rfl) (by kernel_rfl) (by kernel_rfl) (fun _ _ _ h => h) (Or.inl ⟨by rfl, ?yh13_15⟩) hH12 ?rh13_15
    case yh13_15 => (intro w hSw; (try dsimp only at hSw); go_simp; try (with_reducible rfl))
    try simp only [Act.put, List.setIfInBounds_toArray, List.set_cons_zero, List.set_cons_succ]
    refine wpAnyH_take (i := 17) (oi := { dst := some 57, op := Op.move (Operand.tmp 2), type := 3, pos := _, after := #[{ on := 14, ground := Ground.guard }], guard := some (14, true) }) (v := ?vh13_17) rfl (by kernel_rfl) (by kernel_rfl) (by kernel_rfl) (fun _ _ _ h => h) (Or.inl ⟨by rfl, ?yh13_17⟩) hH12 ?rh13_17
    case yh13_17 => (intro w hSw; (try dsimp only at hSw); go_simp; try (with_reducible rfl))
    try simp only [Act.put, List.setIfInBounds_toArray, List.set_cons_zero, List.set_cons_succ]
    refine wpAnyH_take (i := 20) (oi := { dst := some 60, op := Op.load 66 (Operand.tmp 3), type := 66, pos := _, after := #[{ on := 14, ground := Ground.guard }], guard := some (14, true) }) (v := ?vh13_20) rfl (by kernel_rfl) (by kernel_rfl) (by kernel_rfl) (fun _ _ _ h => h) (Or.inl ⟨by rfl, ?yh13_20⟩) hH12 ?rh13_20
    case yh13_20 => (intro w hSw; (try dsimp only at hSw); go_simp; try (with_reducible rfl))
    try simp only [Act.put, List.setIfInBounds_toArray, List.set_cons_zero, List.set_cons_succ]
    refine wpAnyH_take (i := 21) (oi := { dst := some 61, op := Op.move (Operand.tmp 2), type := 3, pos := _, after := #[{ on := 14, ground := Ground.guard }], guard := some (14, true) }) (v := ?vh13_21) rfl (by kernel_rfl) (by kernel_rfl) (by kernel_rfl) (fun _ _ _ h => h) (Or.inl ⟨by rfl, ?yh13_21⟩) hH12 ?rh13_21
    case yh13_21 => (intro w hSw; (try dsimp only at hSw); go_simp; try (with_reducible rfl))
    try simp only [Act.put, List.setIfInBounds_toArray, List.set_cons_zero, List.set_cons_succ]
    refine wpAnyH_ready (rs := [16]) (by kernel_rfl) (by simp) ?_
    refine (AllReadyH.cons (o := { dst := some 56, op := Op.call { callee := Callee.value (Operand.func 33), args := #[Operand.tmp 55], argTypes := #[66] }, type := 70, pos := _, after := #[{ on := 15, ground := Ground.data }, { on := 14, ground := Ground.chain }, { on := 14, ground := Ground.guard }], guard := some (14, true) }) rfl (fun K hK => ?_) AllReadyH.nil)
    go_simp
    refine (ownN_any lf AK mK cK AV mV cV AD mD cD ks vs ds v12 (HX.out.keep HZ12.out) (HY.out.keep HZ12.out) (HZ.out.keep HZ12.out) (by omega) (by omega) (by omega) HMK.out HMV.out).mono ?_
    rintro e v14 ⟨O114, o114, O214, o214, O314, o314, rfl, p114, p214, p314, hb14⟩
    have BN14 := Lib.hid ((hb14.block _ (lt_of_heap BN12.out)).trans BN12.out); have HZ14 := Lib.hid (HZ12.out.trans (hb14.mono HZ12.out.size))
    have OA14 := Lib.hid p114.bss; have OB14 := Lib.hid p214.bss; have OC14 := Lib.hid (Ins.own p314 HZ.out.2); have OS14 := Lib.hid p314.shp
    clear hb14 p114 p214 p314
    go_wp2_with fail
    refine hK.out _ _ (nd4 BN14.out trivial) (fun hH14 => ?_)
    clear hK K
    try simp only [Act.put, List.setIfInBounds_toArray, List.set_cons_zero, List.set_cons_succ]
    refine wpAnyH_ready (rs := [18]) (by kernel_rfl) (by simp) ?_
    refine (AllReadyH.cons (o := { dst := some 58, op := Op.call { callee := Callee.value (Operand.func 46), args := #[Operand.tmp 56, Operand.tmp 57], argTypes := #[70, 3] }, type := 70, pos := _, after := #[{ on := 16, ground := Ground.data }, { on := 17, ground := Ground.data }, { on := 16, ground := Ground.chain }, { on := 14, ground := Ground.guard }], guard := some (14, true) }) rfl (fun K hK => ?_) AllReadyH.nil)
    go_simp
    refine (without_uni lf O114 mK o114 O214 mV o214 O314 mD o314 ks vs ds z v14 OA14.out OB14.out OC14.out OS14.out HVK.out (by omega) (by omega) (by omega) HQ1.out HQ2.out).mono ?_
    rintro e v16 ⟨W116, b116, W216, b216, W316, b316, rfl, p116, p216, p316, hb16⟩
    have BN16 := Lib.hid ((hb16.block _ (lt_of_heap BN14.out)).trans BN14.out); have HZ16 := Lib.hid (HZ14.out.trans (hb16.mono HZ14.out.size))
    have WA16 := Lib.hid p116; have WB16 := Lib.hid p216; have WC16 := Lib.hid p316
    clear p116 p216 p316 hb16
    go_wp2_with fail
    refine hK.out _ _ (nd4 BN16.out trivial) (fun hH16 => ?_)
    clear hK K
    try simp only [Act.put, List.setIfInBounds_toArray, List.set_cons_zero, List.set_cons_succ]
    refine wpAnyH_ready (rs := [19]) (by kernel_rfl) (by simp) ?_
    refine (AllReadyH.cons (o := { dst := some 59, op := Op.call { callee := Callee.value (Operand.func 41), args := #[Operand.tmp 58], argTypes := #[70] }, type := 66, pos := _, after := #[{ on := 18, ground := Ground.data }, { on := 18, ground := Ground.chain }, { on := 14, ground := Ground.guard }], guard := some (14, true) }) rfl (fun K hK => ?_) AllReadyH.nil)
    go_simp
    refine (toldN_any lf W116 (dLs lf z mK ks).length b116 W216 (dLs lf z mK vs).length b216 W316 mD b316 v16).mono ?_
    rintro e v18 ⟨rfl, hb18⟩
    have BN18 := Lib.hid ((hb18.block _ (lt_of_heap BN16.out)).trans BN16.out); have HZ18 := Lib.hid (HZ16.out.trans (hb18.mono HZ16.out.size))
    have WA_18 := Lib.hid (WA16.out.keep hb18)
    have WB_18 := Lib.hid (WB16.out.keep hb18)
    have WC_18 := Lib.hid (WC16.out.keep hb18)
    clear hb18
    go_wp2_with fail
    refine hK.out _ _ (nd4 BN18.out trivial) (fun hH18 => ?_)
    clear hK K
    try simp only [Act.put, List.setIfInBounds_toArray, List.set_cons_zero, List.set_cons_succ]
    refine wpAnyH_ready (rs := [22]) (by kernel_rfl) (by simp) ?_
    refine (AllReadyH.cons (o := { dst := some 62, op := Op.call { callee := Callee.value (Operand.func 47), args := #[Operand.tmp 60, Operand.tmp 61], argTypes := #[66, 3] }, type := 66, pos := _, after := #[{ on := 20, ground := Ground.data }, { on := 21, ground := Ground.data }, { on := 19, ground := Ground.chain }, { on := 14, ground := Ground.guard }], guard := some (14, true) }) rfl (fun K hK => ?_) AllReadyH.nil)
    go_simp
    refine (rwithout_uni lf AK mK cK AV mV cV AD mD cD ks vs ds z v18 (HX.out.keep HZ18.out) (HY.out.keep HZ18.out) (HZ.out.keep HZ18.out) HVK.out HDZ.out k1 k2 (by omega)).mono ?_
    rintro e v20 ⟨X120, b120, X220, b220, X320, b320, rfl, p120, p220, p320, hb20⟩
    have BN20 := Lib.hid ((hb20.block _ (lt_of_heap BN18.out)).trans BN18.out); have HZ20 := Lib.hid (HZ18.out.trans (hb20.mono HZ18.out.size))
    have WA_20 := Lib.hid (WA_18.out.keep hb20)
    have WB_20 := Lib.hid (WB_18.out.keep hb20)
    have WC_20 := Lib.hid (WC_18.out.keep hb20)
    have XA20 := Lib.hid p120; have XB20 := Lib.hid p220; have XC20 := Lib.hid p320
    clear p120 p220 p320 hb20
    go_wp2_with fail
    refine hK.out _ _ (nd4 BN20.out trivial) (fun hH20 => ?_)
    clear hK K
    try simp only [Act.put, List.setIfInBounds_toArray, List.set_cons_zero, List.set_cons_succ]
    refine wpAnyH_ready (rs := [23]) (by kernel_rfl) (by simp) ?_
    refine (AllReadyH.cons (o := { dst := some 63, op := Op.call { callee := Callee.value (Operand.func 40), args := #[Operand.tmp 59, Operand.tmp 62], argTypes := #[66, 66] }, type := 4, pos := _, after := #[{ on := 19, ground := Ground.data }, { on := 22, ground := Ground.data }, { on := 22, ground := Ground.chain }, { on := 14, ground := Ground.guard }], guard := some (14, true) }) rfl (fun K hK => ?_) AllReadyH.nil)
    go_simp
    refine (rsame_is true lf lf W116 (dLs lf z mK ks).length b116 W216 (dLs lf z mK vs).length b216 W316 mD b316 X120 (dLs lf z mK ks).length b120 X220 (dLs lf z mK vs).length b220 X320 mD b320 (dLs lf z mK ks) (dLs lf z mK vs) (dLs lf z mK ks) (dLs lf z mK vs) ds ds v20 (by simp) WA_20.out WB_20.out WC_20.out XA20.out XB20.out XC20.out hlD1 hlD2 (by omega) hlD1 hlD2 (by omega) HMDK.out HMDV.out HMDK.out HMDV.out).mono ?_
    rintro e v22 ⟨rfl, hb22⟩
    have BN22 := Lib.hid ((hb22.block _ (lt_of_heap BN20.out)).trans BN20.out); have HZ22 := Lib.hid (HZ20.out.trans (hb22.mono HZ20.out.size))
    clear hb22
    go_wp2_with fail
    refine hK.out _ _ (nd4 BN22.out trivial) (fun hH22 => ?_)
    clear hK K
    try simp only [Act.put, List.setIfInBounds_toArray, List.set_cons_zero, List.set_cons_succ]
    refine wpAnyH_take (i := 24) (oi := { dst := some 64, op := Op.pick (Operand.tmp 54) (Operand.tmp 63) (Operand.const (Value.bool false)), type := 4, pos := _, after := #[{ on := 14, ground := Ground.data }, { on := 23, ground := Ground.data }], guard := none }) (v := ?vh23_24) rfl (by kernel_rfl) (by kernel_rfl) (by kernel_rfl) (fun _ _ _ h => h) (Or.inl ⟨by rfl, ?yh23_24⟩) hH22 ?rh23_24
    case yh23_24 => (intro w hSw; (try dsimp only at hSw); go_simp; try (with_reducible rfl))
    try simp only [Act.put, List.setIfInBounds_toArray, List.set_cons_zero, List.set_cons_succ]
    refine wpAnyH_take (i := 25) (oi := { dst := some 6, op := Op.assign (Operand.tmp 64), type := 4, pos := _, after := #[{ on := 24, ground := Ground.data }, { on := 23, ground := Ground.chain }, { on := 0, ground := Ground.phase }, { on := 1, ground := Ground.phase }, { on := 2, ground := Ground.phase }, { on := 3, ground := Ground.phase }, { on := 4, ground := Ground.phase }, { on := 5, ground := Ground.phase }, { on := 6, ground := Ground.phase }, { on := 7, ground := Ground.phase }, { on := 8, ground := Ground.phase }, { on := 9, ground := Ground.phase }, { on := 10, ground := Ground.phase }, { on := 11, ground := Ground.phase }, { on := 12, ground := Ground.phase }, { on := 13, ground := Ground.phase }, { on := 14, ground := Ground.phase }, { on := 15, ground := Ground.phase }, { on := 16, ground := Ground.phase }, { on := 17, ground := Ground.phase }, { on := 18, ground := Ground.phase }, { on := 19, ground := Ground.phase }, { on := 20, ground := Ground.phase }, { on := 21, ground := Ground.phase }, { on := 22, ground := Ground.phase }, { on := 23, ground := Ground.phase }, { on := 24, ground := Ground.phase }], guard := none }) (v := ?vh23_25) rfl (by kernel_rfl) (by kernel_rfl) (by kernel_rfl) (fun _ _ _ h => h) (Or.inl ⟨by rfl, ?yh23_25⟩) hH22 ?rh23_25
    case yh23_25 => (intro w hSw; (try dsimp only at hSw); go_simp; try (with_reducible rfl))
    try simp only [Act.put, List.setIfInBounds_toArray, List.set_cons_zero, List.set_cons_succ]
    refine wpAnyH_done (by kernel_rfl) ?_ _
    go_wp2
    go_ret
    exact ⟨rfl, HZ22.out⟩
end Go.Proofs.Ytmjjbfcblmmipaa
