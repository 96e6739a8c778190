/- The reference's Split. -/
import Derived.Test.YtmjjbfcblmmipaaRSplitW
import Derived.Deep.RegionHeld3
import Derived.IntWalk
namespace Go.Proofs.Ytmjjbfcblmmipaa
set_option linter.unusedVariables false
set_option linter.unusedSimpArgs false
open Go.RowKit
theorem nd5 {W : World} {g : Nat} {v0 v1 v2 v3 : Value} {T : TypeId} {p : Prop} (h : W.heap[g]? = some (.cells #[v0, v1, v2, v3] T (0, 0))) (hp : p) : W.cell? ⟨g, 0, none⟩ = some v0 ∧ W.cell? ⟨g, 1, none⟩ = some v1 ∧ W.cell? ⟨g, 2, none⟩ = some v2 ∧ W.cell? ⟨g, 3, none⟩ = some v3 ∧ p := ⟨rc_cell 0 _ h rfl, rc_cell 1 _ h rfl, rc_cell 2 _ h rfl, rc_cell 3 _ h rfl, hp⟩
set_option maxRecDepth 100000 in
set_option maxHeartbeats 4000000 in
theorem rsplitL_any (AK : Option Addr) (nK cK : Nat) (AV : Option Addr) (nV cV : Nat) (AD : Option Addr) (nD cD : Nat) (ks vs : List (List Int)) (w : World) (hx : Bss w AK nK ks) (hy : Bss w AV nV vs) (hKc : nK ≤ cK) (hVc : nV ≤ cV) (hDc : nD ≤ cD) (bK : nK ≤ 100000) (bV : nV ≤ 100000) (bD : nD ≤ 100000) (sK : szW 1 ks ≤ 100000000000000000) (sV : szW 2 vs ≤ 100000000000000000) (hn : 2 ≤ nK) (hc : ∀ j, 1 ≤ j → j ≤ nK - 2 + 1 → Cuts true nK nV nD j) :
    Calls Try.prog 49 #[.agg (ndV true AK nK cK AV nV cV AD nD cD)] w fun e w' => ∃ (k : Nat) (A' : Option Addr) (xs : List Int) (c' : Nat), e = .returned (.tuple #[frV true AK cK AV cV AD cD k, .slice A' xs.length c', bkV true AK nK cK AV nV cV AD nD cD k]) ∧ k = bestN (gtr true ks vs nD) (nK - 2) ∧ ks[k]? = some xs ∧ Bs w A' xs.length xs ∧ Below w.heap.size w w' := by
  have HK := Lib.hid hx; have HV := Lib.hid hy; have HC := Lib.hid hc
  clear hx hy hc
  have hb1 := below_alloc w (.cells (ndV true AK nK cK AV nV cV AD nD cD) 66)
  have hb2 := below_alloc (w.alloc (.cells (ndV true AK nK cK AV nV cV AD nD cD) 66)) (.cells ndZ 66)
  go_enter Try.func49, Try.ntmps49
  go_wp2_with fail
  have hs1 : (w.alloc (.cells (ndV true AK nK cK AV nV cV AD nD cD) 66)).heap.size = w.heap.size + 1 := by simp
  have hs2 : ((w.alloc (.cells (ndV true AK nK cK AV nV cV AD nD cD) 66)).alloc (.cells ndZ 66)).heap.size = w.heap.size + 2 := by simp
  have hs3 : (((w.alloc (.cells (ndV true AK nK cK AV nV cV AD nD cD) 66)).alloc (.cells ndZ 66)).alloc (.cells ndZ 66)).heap.size = w.heap.size + 3 := by simp
  have hb3 := below_alloc ((w.alloc (.cells (ndV true AK nK cK AV nV cV AD nD cD) 66)).alloc (.cells ndZ 66)) (.cells ndZ 66)
  have BX := Lib.hid ((hb3.block w.heap.size (by omega)).trans ((hb2.block w.heap.size (by omega)).trans (heap_alloc_new w (.cells (ndV true AK nK cK AV nV cV AD nD cD) 66))))
  have R2 : Hid ((((w.alloc (.cells (ndV true AK nK cK AV nV cV AD nD cD) 66)).alloc (.cells ndZ 66)).alloc (.cells ndZ 66)).heap[w.heap.size + 1]? = some (.cells ndZ 66 (0, 0))) := Lib.hid ((hb3.block (w.heap.size + 1) (by omega)).trans (by have := heap_alloc_new (w.alloc (.cells (ndV true AK nK cK AV nV cV AD nD cD) 66)) (.cells ndZ 66); rw [hs1] at this; exact this))
  have R4 : Hid ((((w.alloc (.cells (ndV true AK nK cK AV nV cV AD nD cD) 66)).alloc (.cells ndZ 66)).alloc (.cells ndZ 66)).heap[w.heap.size + 1 + 1]? = some (.cells ndZ 66 (0, 0))) := Lib.hid (by have := heap_alloc_new ((w.alloc (.cells (ndV true AK nK cK AV nV cV AD nD cD) 66)).alloc (.cells ndZ 66)) (.cells ndZ 66); rw [hs2] at this; exact this)
  have HB := Lib.hid (hb1.trans ((hb2.mono (by omega : w.heap.size ≤ _)).trans (hb3.mono (by omega : w.heap.size ≤ _))))
  have HSZ := Lib.hid hs3
  clear hb1 hb2 hb3 hs1 hs2 hs3
  change Hid ((((w.alloc (.cells (ndV true AK nK cK AV nV cV AD nD cD) 66)).alloc (.cells ndZ 66)).alloc (.cells ndZ 66)).heap.size = w.heap.size + 3) at HSZ
  generalize ((w.alloc (.cells (ndV true AK nK cK AV nV cV AD nD cD) 66)).alloc (.cells ndZ 66)).alloc (.cells ndZ 66) = y at *
  go_loopw [6, 7] (fun iv jv wr => ∃ kk : Nat, iv = .int .i64 ((bestN (gtr true ks vs nD) kk : Nat) : Int) ∧ jv = .int .i64 ((kk + 2 : Nat) : Int) ∧ kk ≤ nK - 2 ∧ Hid (Below (w.heap.size + 3) y wr)) (fun _ jv _ => nK - (intOf jv).toNat)
  case atStart => exact ⟨0, rfl, rfl, Nat.zero_le _, Lib.hid (Below.refl _ _)⟩
  case round =>
    obtain ⟨kk, rfl, rfl, hk, HBR⟩ := hrel
    have hsr := HBR.out.size
    obtain ⟨i, HI⟩ : ∃ i : Nat, Hid (bestN (gtr true ks vs nD) kk = i) := ⟨_, rfl⟩
    have hi := bestN_in (gtr true ks vs nD) kk
    rw [HI.out] at hi ⊢
    have BXr := Lib.hid ((HBR.out.block w.heap.size (by omega)).trans BX.out)
    have q0 := rc_cell 0 (.bool true) BXr.out rfl
    have q1 := rc_cell 1 (.slice AK nK cK) BXr.out rfl
    have q2 := rc_cell 2 (.slice AV nV cV) BXr.out rfl
    have q3 := rc_cell 3 (.slice AD nD cD) BXr.out rfl
    by_cases hlt : kk < nK - 2
    · have hdd : decide (((kk + 2 : Nat) : Int) ≤ (nK : Int) - 2 + 1) = true := by simp; omega
      go_wp2_with fail
      have BXd : Hid (wr.drew.heap[w.heap.size]? = some (.cells (ndV true AK nK cK AV nV cV AD nD cD) 66 (0, 0))) := BXr
      have HBd := Lib.hid (HBR.out.trans ((Dr.refl wr).one.below _))
      have HKd := Lib.hid ((HK.out.keep HB.out).keep (HBd.out.mono (by rw [HSZ.out]; exact Nat.le_refl _)))
      have HVd := Lib.hid ((HV.out.keep HB.out).keep (HBd.out.mono (by rw [HSZ.out]; exact Nat.le_refl _)))
      have hsd := HBd.out.size
      rw [HSZ.out] at hsd
      have c1 := Lib.hid (HC.out (kk + 2) (by omega) (by omega))
      have c2 := Lib.hid (HC.out i (by omega) (by omega))
      obtain ⟨g1, HG1⟩ : ∃ g : Nat, Hid (gtr true ks vs nD (kk + 2) = g) := ⟨_, rfl⟩
      obtain ⟨g2, HG2⟩ : ∃ g : Nat, Hid (gtr true ks vs nD i = g) := ⟨_, rfl⟩
      clear hdd q0 q1 q2 q3
      have q0 := rc_cell 0 (.bool true) BXd.out rfl
      have q1 := rc_cell 1 (.slice AK nK cK) BXd.out rfl
      have q2 := rc_cell 2 (.slice AV nV cV) BXd.out rfl
      have q3 := rc_cell 3 (.slice AD nD cD) BXd.out rfl
      have tok1 : True := trivial
      go_region_held3 (fun w' => w'.cell? ⟨w.heap.size, 0, none⟩ = some (.bool true) ∧ w'.cell? ⟨w.heap.size, 1, none⟩ = some (.slice AK nK cK) ∧ w'.cell? ⟨w.heap.size, 2, none⟩ = some (.slice AV nV cV) ∧ w'.cell? ⟨w.heap.size, 3, none⟩ = some (.slice AD nD cD)) (first | exact ⟨s0, s1, s2, s3⟩ | exact ⟨r0, r1, r2, r3⟩ | exact ⟨q0, q1, q2, q3⟩) (first
        | (have _tk := tok1; go_at_call 99; refine (greater_any true AK nK cK AV nV cV AD nD cD (kk + 2) ks vs _ HKd.out HVd.out hKc hVc hDc bK bV bD sK sV c1.out).mono ?_; rintro e x2 ⟨rfl, hb2⟩; rw [HG1.out]; clear tok1; have tok2 : True := trivial; have BX2 := Lib.hid ((hb2.block _ (lt_of_heap BXd.out)).trans BXd.out); have HB2 := Lib.hid (HBd.out.trans (hb2.mono hsd)); have HK2 := Lib.hid (HKd.out.keep hb2); have HV2 := Lib.hid (HVd.out.keep hb2); have hs2 := HB2.out.size; rw [HSZ.out] at hs2; have r0 := rc_cell 0 (.bool true) BX2.out rfl; have r1 := rc_cell 1 (.slice AK nK cK) BX2.out rfl; have r2 := rc_cell 2 (.slice AV nV cV) BX2.out rfl; have r3 := rc_cell 3 (.slice AD nD cD) BX2.out rfl; clear hb2)
        | (have _tk := tok2; go_at_call 99; refine (greater_any true AK nK cK AV nV cV AD nD cD i ks vs _ HK2.out HV2.out hKc hVc hDc bK bV bD sK sV c2.out).mono ?_; rintro e x3 ⟨rfl, hb3⟩; rw [HG2.out]; clear tok2; have BX3 := Lib.hid ((hb3.block _ (lt_of_heap BX2.out)).trans BX2.out); have HB3 := Lib.hid (HB2.out.trans (hb3.mono hs2)); have s0 := rc_cell 0 (.bool true) BX3.out rfl; have s1 := rc_cell 1 (.slice AK nK cK) BX3.out rfl; have s2 := rc_cell 2 (.slice AV nV cV) BX3.out rfl; have s3 := rc_cell 3 (.slice AD nD cD) BX3.out rfl; clear hb3))
      clear s0 s1 s2 s3 r0 r1 r2 r3 q0 q1 q2 q3
      have HBE := Lib.hid (bestN.eq_2 (gtr true ks vs nD) kk)
      by_cases hg : g1 < g2
      · have HBN : Hid (bestN (gtr true ks vs nD) (kk + 1) = kk + 2) := Lib.hid (by rw [HBE.out, HI.out, HG1.out, HG2.out, if_pos hg])
        go_wp2_with fail
        go_roundw
        case rel => exact ⟨kk + 1, by rw [HBN.out]; first | done | go_num, by go_num, by omega, HB3⟩
        case measure => simp [intOf]; omega
      · have HBN : Hid (bestN (gtr true ks vs nD) (kk + 1) = i) := Lib.hid (by rw [HBE.out, HI.out, HG1.out, HG2.out, if_neg hg])
        go_wp2_with fail
        go_roundw
        case rel => exact ⟨kk + 1, by rw [HBN.out]; first | done | go_num, by go_num, by omega, HB3⟩
        case measure => simp [intOf]; omega
    · have hdd : decide (((kk + 2 : Nat) : Int) ≤ (nK : Int) - 2 + 1) = false := by simp; omega
      go_wp2_with fail
      have hkk : kk = nK - 2 := by omega
      have HI2 : Hid (bestN (gtr true ks vs nD) (nK - 2) = i) := Lib.hid (by rw [← hkk]; exact HI.out)
      obtain ⟨b, off, A', n', c', xs, rfl, hbl, hcl, hxs, hnc, HXK⟩ := HK.out.at_ (k := i) (by omega)
      have HXS := Lib.hid hxs
      have HNL := Lib.hid hxs.len
      have BXd : Hid (wr.drew.heap[w.heap.size]? = some (.cells (ndV true (some ⟨b, off, none⟩) nK cK AV nV cV AD nD cD) 66 (0, 0))) := BXr
      have HBd := Lib.hid (HBR.out.trans ((Dr.refl wr).one.below _))
      have RAd := Lib.hid ((HBd.out.block (w.heap.size + 1) (by omega)).trans R2.out)
      have RBd := Lib.hid ((HBd.out.block (w.heap.size + 1 + 1) (by omega)).trans R4.out)
      have HWd := Lib.hid (HB.out.trans (HBd.out.mono (by omega : w.heap.size ≤ w.heap.size + 3)))
      have c2 := Lib.hid (HC.out i (by omega) (by omega))
      have z0 : (0 : Int) ≤ (i : Int) := by omega
      have z1 : (i : Int) < (nK : Int) := by omega
      have il : i < nK := by omega
      clear hdd q0 q1 q2 q3 hkk hxs hlt
      have q0 := rc_cell 0 (.bool true) BXd.out rfl; have q1 := rc_cell 1 (.slice (some ⟨b, off, none⟩) nK cK) BXd.out rfl; have q2 := rc_cell 2 (.slice AV nV cV) BXd.out rfl; have q3 := rc_cell 3 (.slice AD nD cD) BXd.out rfl
      have q4 := (World.cell?_of_block (a := ⟨b, off + i, none⟩) (HWd.out.block b hbl)).trans hcl
      have HS4 := q4
      clear q0 q1 q2 q3 q4 z0 z1
      have z0 : (0 : Int) ≤ (i : Int) := by omega
      have z1 : (i : Int) < (nK : Int) := by omega
      refine wp_region_held_drew (S := fun w' => w'.cell? ⟨w.heap.size, 0, none⟩ = some (.bool true) ∧ w'.cell? ⟨w.heap.size, 1, none⟩ = some (.slice (some ⟨b, off, none⟩) nK cK) ∧ w'.cell? ⟨w.heap.size, 2, none⟩ = some (.slice AV nV cV) ∧ w'.cell? ⟨w.heap.size, 3, none⟩ = some (.slice AD nD cD) ∧ w'.cell? ⟨b, off + i, none⟩ = some (.slice A' n' c')) (by kernel_rfl) (nd5 BXd.out HS4) (fun hH0 => ?_)
      generalize wr.drew = yd at *
      refine wpAnyH_take (i := 0) (oi := { dst := some 35, op := Op.load 66 (Operand.tmp 1), type := 66, pos := _, after := #[], guard := none }) (v := ?vt1_0) rfl (by kernel_rfl) (by kernel_rfl) (by kernel_rfl) (fun _ _ _ h => h) (Or.inl ⟨by rfl, ?yt1_0⟩) hH0 ?rt1_0
      case yt1_0 => (intro w hSw; (try dsimp only at hSw); go_simp; try (with_reducible rfl))
      try simp only [Act.put, List.setIfInBounds_toArray, List.set_cons_zero, List.set_cons_succ]
      refine wpAnyH_take (i := 1) (oi := { dst := some 36, op := Op.move (Operand.tmp 6), type := 3, pos := _, after := #[], guard := none }) (v := ?vt1_1) rfl (by kernel_rfl) (by kernel_rfl) (by kernel_rfl) (fun _ _ _ h => h) (Or.inl ⟨by rfl, ?yt1_1⟩) hH0 ?rt1_1
      case yt1_1 => (intro w hSw; (try dsimp only at hSw); go_simp; try (with_reducible rfl))
      try simp only [Act.put, List.setIfInBounds_toArray, List.set_cons_zero, List.set_cons_succ]
      refine wpAnyH_take (i := 3) (oi := { dst := some 38, op := Op.fieldAddr 66 (Operand.tmp 1) 1, type := 0, pos := _, after := #[{ on := 11, ground := Ground.gcOnly Departure.lateStores }], guard := none }) (v := ?vt1_3) rfl (by kernel_rfl) (by kernel_rfl) (by kernel_rfl) (fun _ _ _ h => h) (Or.inl ⟨by rfl, ?yt1_3⟩) hH0 ?rt1_3
      case yt1_3 => (intro w hSw; (try dsimp only at hSw); go_simp; try (with_reducible rfl))
      try simp only [Act.put, List.setIfInBounds_toArray, List.set_cons_zero, List.set_cons_succ]
      refine wpAnyH_take (i := 4) (oi := { dst := some 39, op := Op.load 62 (Operand.tmp 38), type := 62, pos := _, after := #[{ on := 3, ground := Ground.data }, { on := 11, ground := Ground.gcOnly Departure.lateStores }], guard := none }) (v := ?vt1_4) rfl (by kernel_rfl) (by kernel_rfl) (by kernel_rfl) (fun _ _ _ h => h) (Or.inl ⟨by rfl, ?yt1_4⟩) hH0 ?rt1_4
      case yt1_4 => (intro w hSw; (try dsimp only at hSw); go_simp; try (with_reducible rfl))
      try simp only [Act.put, List.setIfInBounds_toArray, List.set_cons_zero, List.set_cons_succ]
      refine wpAnyH_take (i := 5) (oi := { dst := some 40, op := Op.move (Operand.tmp 6), type := 3, pos := _, after := #[{ on := 11, ground := Ground.gcOnly Departure.lateStores }], guard := none }) (v := ?vt1_5) rfl (by kernel_rfl) (by kernel_rfl) (by kernel_rfl) (fun _ _ _ h => h) (Or.inl ⟨by rfl, ?yt1_5⟩) hH0 ?rt1_5
      case yt1_5 => (intro w hSw; (try dsimp only at hSw); go_simp; try (with_reducible rfl))
      try simp only [Act.put, List.setIfInBounds_toArray, List.set_cons_zero, List.set_cons_succ]
      refine wpAnyH_take (i := 6) (oi := { dst := some 41, op := Op.indexAddr 62 (Operand.tmp 39) (Operand.tmp 40), type := 0, pos := _, after := #[{ on := 4, ground := Ground.data }, { on := 5, ground := Ground.data }, { on := 11, ground := Ground.gcOnly Departure.lateStores }], guard := none }) (v := ?vt1_6) rfl (by kernel_rfl) (by kernel_rfl) (by kernel_rfl) (fun _ _ _ h => h) (Or.inl ⟨by rfl, ?yt1_6⟩) hH0 ?rt1_6
      case yt1_6 => (intro w hSw; (try dsimp only at hSw); go_simp; try (with_reducible rfl))
      try simp only [Act.put, List.setIfInBounds_toArray, List.set_cons_zero, List.set_cons_succ]
      refine wpAnyH_take (i := 7) (oi := { dst := some 42, op := Op.load 28 (Operand.tmp 41), type := 28, pos := _, after := #[{ on := 6, ground := Ground.data }, { on := 11, ground := Ground.gcOnly Departure.lateStores }], guard := none }) (v := ?vt1_7) rfl (by kernel_rfl) (by kernel_rfl) (by kernel_rfl) (fun _ _ _ h => h) (Or.inl ⟨by rfl, ?yt1_7⟩) hH0 ?rt1_7
      case yt1_7 => (intro w hSw; (try dsimp only at hSw); go_simp; try (with_reducible rfl))
      try simp only [Act.put, List.setIfInBounds_toArray, List.set_cons_zero, List.set_cons_succ]
      refine wpAnyH_take (i := 8) (oi := { dst := some 43, op := Op.load 66 (Operand.tmp 1), type := 66, pos := _, after := #[], guard := none }) (v := ?vt1_8) rfl (by kernel_rfl) (by kernel_rfl) (by kernel_rfl) (fun _ _ _ h => h) (Or.inl ⟨by rfl, ?yt1_8⟩) hH0 ?rt1_8
      case yt1_8 => (intro w hSw; (try dsimp only at hSw); go_simp; try (with_reducible rfl))
      try simp only [Act.put, List.setIfInBounds_toArray, List.set_cons_zero, List.set_cons_succ]
      refine wpAnyH_take (i := 9) (oi := { dst := some 44, op := Op.move (Operand.tmp 6), type := 3, pos := _, after := #[], guard := none }) (v := ?vt1_9) rfl (by kernel_rfl) (by kernel_rfl) (by kernel_rfl) (fun _ _ _ h => h) (Or.inl ⟨by rfl, ?yt1_9⟩) hH0 ?rt1_9
      case yt1_9 => (intro w hSw; (try dsimp only at hSw); go_simp; try (with_reducible rfl))
      try simp only [Act.put, List.setIfInBounds_toArray, List.set_cons_zero, List.set_cons_succ]
      refine wpAnyH_ready (rs := [2]) (by kernel_rfl) (by simp) ?_
      refine (AllReadyH.cons (o := { dst := some 37, op := Op.call { callee := Callee.value (Operand.func 100), args := #[Operand.tmp 35, Operand.tmp 36], argTypes := #[66, 3] }, type := 66, pos := _, after := #[{ on := 0, ground := Ground.data }, { on := 1, ground := Ground.data }], guard := none }) rfl (fun K hK => ?_) AllReadyH.nil)
      go_simp
      refine (frontL_any (some ⟨b, off, none⟩) nK cK AV nV cV AD nD cD i _ hKc hVc hDc bK bV bD c2.out.1 c2.out.2).mono ?_
      rintro e x2 ⟨rfl, hb2⟩
      have BX2 := Lib.hid ((hb2.block _ (lt_of_heap BXd.out)).trans BXd.out)
      have RA2 := Lib.hid ((hb2.block _ (lt_of_heap RAd.out)).trans RAd.out)
      have RB2 := Lib.hid ((hb2.block _ (lt_of_heap RBd.out)).trans RBd.out)
      have HW2 := Lib.hid (HWd.out.trans (hb2.mono HWd.out.size))
      have QC2 := (World.cell?_of_block (a := ⟨b, off + i, none⟩) (HW2.out.block b hbl)).trans hcl
      clear hb2
      go_wp2_with fail
      refine hK.out _ _ (nd5 BX2.out QC2) (fun hH2 => ?_)
      clear hK K
      try simp only [Act.put, List.setIfInBounds_toArray, List.set_cons_zero, List.set_cons_succ]
      refine wpAnyH_ready (rs := [10]) (by kernel_rfl) (by simp) ?_
      refine (AllReadyH.cons (o := { dst := some 45, op := Op.call { callee := Callee.value (Operand.func 101), args := #[Operand.tmp 43, Operand.tmp 44], argTypes := #[66, 3] }, type := 66, pos := _, after := #[{ on := 8, ground := Ground.data }, { on := 9, ground := Ground.data }, { on := 2, ground := Ground.chain }], guard := none }) rfl (fun K hK => ?_) AllReadyH.nil)
      go_simp
      refine (backL_any (some ⟨b, off, none⟩) nK cK AV nV cV AD nD cD i _ hKc hVc hDc bK bV bD c2.out.1 c2.out.2).mono ?_
      rintro e x4 ⟨rfl, hb4⟩
      have BX4 := Lib.hid ((hb4.block _ (lt_of_heap BX2.out)).trans BX2.out)
      have RA4 := Lib.hid ((hb4.block _ (lt_of_heap RA2.out)).trans RA2.out)
      have RB4 := Lib.hid ((hb4.block _ (lt_of_heap RB2.out)).trans RB2.out)
      have HW4 := Lib.hid (HW2.out.trans (hb4.mono HW2.out.size))
      have QC4 := (World.cell?_of_block (a := ⟨b, off + i, none⟩) (HW4.out.block b hbl)).trans hcl
      clear hb4
      go_wp2_with fail
      refine hK.out _ _ (nd5 BX4.out QC4) (fun hH4 => ?_)
      clear hK K
      try simp only [Act.put, List.setIfInBounds_toArray, List.set_cons_zero, List.set_cons_succ]
      refine wpAnyH_ready (rs := [11]) (by kernel_rfl) (by simp) ?_
      refine (AllReadyH.cons (o := { dst := none, op := Op.store 66 (Operand.tmp 2) (Operand.tmp 37), type := 0, pos := _, after := #[{ on := 2, ground := Ground.data }, { on := 10, ground := Ground.chain }, { on := 0, ground := Ground.phase }, { on := 1, ground := Ground.phase }, { on := 2, ground := Ground.phase }, { on := 3, ground := Ground.textOnly Departure.lateStores }, { on := 4, ground := Ground.textOnly Departure.lateStores }, { on := 5, ground := Ground.textOnly Departure.lateStores }, { on := 6, ground := Ground.textOnly Departure.lateStores }, { on := 7, ground := Ground.textOnly Departure.lateStores }, { on := 8, ground := Ground.textOnly Departure.lateStores }, { on := 9, ground := Ground.textOnly Departure.lateStores }, { on := 10, ground := Ground.textOnly Departure.lateStoresUnsure }], guard := none }) rfl (fun K hK => ?_) AllReadyH.nil)
      have z6_0 := rc_cell 0 (.bool false) RA4.out rfl; have y6_0 := two_frozen (i := 0) RA4.out
      have z6_1 := rc_cell 1 (.slice none 0 0) RA4.out rfl; have y6_1 := two_frozen (i := 1) RA4.out
      have z6_2 := rc_cell 2 (.slice none 0 0) RA4.out rfl; have y6_2 := two_frozen (i := 2) RA4.out
      have z6_3 := rc_cell 3 (.slice none 0 0) RA4.out rfl; have y6_3 := two_frozen (i := 3) RA4.out
      have HZ6 := Lib.hid (set4r x4 (w.heap.size + 1) (.bool true) (.slice (some ⟨b, off, none⟩) i cK) (.slice AV i cV) (.slice none 0 0) RA4.out)
      have BX6 := Lib.hid ((HZ6.out.2.block w.heap.size (lt_of_heap BX4.out) (by intro e; injection e with e; omega)).trans BX4.out)
      have O6 := Lib.hid ((HZ6.out.2.block _ (lt_of_heap RB4.out) (by intro e; injection e with e; omega)).trans RB4.out)
      have HW6 := Lib.hid (HW4.out.trans ((HZ6.out.2.below (Nat.le_of_lt (lt_of_heap RA4.out))).mono (by omega)))
      have QC6 := (World.cell?_of_block (a := ⟨b, off + i, none⟩) (HW6.out.block b hbl)).trans hcl
      go_simp
      refine hK.out _ _ (nd5 BX6.out QC6) (fun hH6 => ?_)
      clear hK K
      try simp only [Act.put, List.setIfInBounds_toArray, List.set_cons_zero, List.set_cons_succ]
      have N6 := Lib.hid HZ6.out.1
      clear HZ6 z6_0 y6_0 z6_1 y6_1 z6_2 y6_2 z6_3 y6_3
      generalize ((((x4.setCell ⟨w.heap.size + 1, 0, none⟩ (.bool true)).setCell ⟨w.heap.size + 1, 1, none⟩ (.slice (some ⟨b, off, none⟩) i cK)).setCell ⟨w.heap.size + 1, 2, none⟩ (.slice AV i cV)).setCell ⟨w.heap.size + 1, 3, none⟩ (.slice none 0 0)) = s6 at *
      refine wpAnyH_take (i := 12) (oi := { dst := some 3, op := Op.assign (Operand.tmp 42), type := 28, pos := _, after := #[{ on := 7, ground := Ground.data }, { on := 11, ground := Ground.chain }, { on := 0, ground := Ground.phase }, { on := 1, ground := Ground.phase }, { on := 2, ground := Ground.phase }, { on := 3, ground := Ground.phase }, { on := 4, ground := Ground.phase }, { on := 5, ground := Ground.phase }, { on := 6, ground := Ground.phase }, { on := 7, ground := Ground.phase }, { on := 8, ground := Ground.textOnly Departure.lateStores }, { on := 9, ground := Ground.textOnly Departure.lateStores }, { on := 10, ground := Ground.textOnly Departure.lateStoresUnsure }, { on := 11, ground := Ground.phase }], guard := none }) (v := ?vt7_12) rfl (by kernel_rfl) (by kernel_rfl) (by kernel_rfl) (fun _ _ _ h => h) (Or.inl ⟨by rfl, ?yt7_12⟩) hH6 ?rt7_12
      case yt7_12 => (intro w hSw; (try dsimp only at hSw); go_simp; try (with_reducible rfl))
      try simp only [Act.put, List.setIfInBounds_toArray, List.set_cons_zero, List.set_cons_succ]
      refine wpAnyH_ready (rs := [13]) (by kernel_rfl) (by simp) ?_
      refine (AllReadyH.cons (o := { dst := none, op := Op.store 66 (Operand.tmp 4) (Operand.tmp 45), type := 0, pos := _, after := #[{ on := 10, ground := Ground.data }, { on := 12, ground := Ground.chain }, { on := 0, ground := Ground.phase }, { on := 1, ground := Ground.phase }, { on := 2, ground := Ground.phase }, { on := 3, ground := Ground.phase }, { on := 4, ground := Ground.phase }, { on := 5, ground := Ground.phase }, { on := 6, ground := Ground.phase }, { on := 7, ground := Ground.phase }, { on := 8, ground := Ground.phase }, { on := 9, ground := Ground.phase }, { on := 10, ground := Ground.phase }, { on := 11, ground := Ground.phase }, { on := 12, ground := Ground.phase }], guard := none }) rfl (fun K hK => ?_) AllReadyH.nil)
      have z8_0 := rc_cell 0 (.bool false) O6.out rfl; have y8_0 := two_frozen (i := 0) O6.out
      have z8_1 := rc_cell 1 (.slice none 0 0) O6.out rfl; have y8_1 := two_frozen (i := 1) O6.out
      have z8_2 := rc_cell 2 (.slice none 0 0) O6.out rfl; have y8_2 := two_frozen (i := 2) O6.out
      have z8_3 := rc_cell 3 (.slice none 0 0) O6.out rfl; have y8_3 := two_frozen (i := 3) O6.out
      have HZ8 := Lib.hid (set4r s6 (w.heap.size + 1 + 1) (.bool true) (.slice (cutA (some ⟨b, off, none⟩) cK i) (nK - i) (cK - i)) (.slice (cutA AV cV i) (nV - i) (cV - i)) (.slice none 0 0) O6.out)
      have BX8 := Lib.hid ((HZ8.out.2.block w.heap.size (lt_of_heap BX6.out) (by intro e; injection e with e; omega)).trans BX6.out)
      have O8 := Lib.hid ((HZ8.out.2.block _ (lt_of_heap N6.out) (by intro e; injection e with e; omega)).trans N6.out)
      have HW8 := Lib.hid (HW6.out.trans ((HZ8.out.2.below (Nat.le_of_lt (lt_of_heap O6.out))).mono (by omega)))
      have QC8 := (World.cell?_of_block (a := ⟨b, off + i, none⟩) (HW8.out.block b hbl)).trans hcl
      go_simp
      refine hK.out _ _ (nd5 BX8.out QC8) (fun hH8 => ?_)
      clear hK K
      try simp only [Act.put, List.setIfInBounds_toArray, List.set_cons_zero, List.set_cons_succ]
      have N8 := Lib.hid HZ8.out.1
      clear HZ8 z8_0 y8_0 z8_1 y8_1 z8_2 y8_2 z8_3 y8_3
      generalize ((((s6.setCell ⟨w.heap.size + 1 + 1, 0, none⟩ (.bool true)).setCell ⟨w.heap.size + 1 + 1, 1, none⟩ (.slice (cutA (some ⟨b, off, none⟩) cK i) (nK - i) (cK - i))).setCell ⟨w.heap.size + 1 + 1, 2, none⟩ (.slice (cutA AV cV i) (nV - i) (cV - i))).setCell ⟨w.heap.size + 1 + 1, 3, none⟩ (.slice none 0 0)) = s8 at *
      refine wpAnyH_done (by kernel_rfl) ?_ _
      have e0 := rc_cell 0 (.bool true) O8.out rfl
      have e1 := rc_cell 1 (.slice (some ⟨b, off, none⟩) i cK) O8.out rfl
      have e2 := rc_cell 2 (.slice AV i cV) O8.out rfl
      have e3 := rc_cell 3 (.slice none 0 0) O8.out rfl
      have g0 := rc_cell 0 (.bool true) N8.out rfl
      have g1 := rc_cell 1 (.slice (cutA (some ⟨b, off, none⟩) cK i) (nK - i) (cK - i)) N8.out rfl
      have g2 := rc_cell 2 (.slice (cutA AV cV i) (nV - i) (cV - i)) N8.out rfl
      have g3 := rc_cell 3 (.slice none 0 0) N8.out rfl
      go_wp2
      refine bodyPost_ret (v := .tuple #[.agg #[.bool true, .slice (some ⟨b, off, none⟩) i cK, .slice AV i cV, .slice none 0 0], .slice A' n' c', .agg #[.bool true, .slice (cutA (some ⟨b, off, none⟩) cK i) (nK - i) (cK - i), .slice (cutA AV cV i) (nV - i) (cV - i), .slice none 0 0]]) (by simp [results, Try.f49, go_sem, Try.isAgg66, Try.sizeOf66, e0, e1, e2, e3, g0, g1, g2, g3]) rfl ⟨i, A', xs, c', by rw [HNL.out]; rfl, HI2.out.symm, HXK.out, by rw [HNL.out]; exact HXS.out, HW8.out⟩
set_option maxRecDepth 100000 in
set_option maxHeartbeats 4000000 in
theorem rsplitF_any (AK : Option Addr) (nK cK : Nat) (AV : Option Addr) (nV cV : Nat) (AD : Option Addr) (nD cD : Nat) (ks vs : List (List Int)) (w : World) (hx : Bss w AK nK ks) (hy : Bss w AV nV vs) (hKc : nK ≤ cK) (hVc : nV ≤ cV) (hDc : nD ≤ cD) (bK : nK ≤ 100000) (bV : nV ≤ 100000) (bD : nD ≤ 100000) (sK : szW 1 ks ≤ 100000000000000000) (sV : szW 2 vs ≤ 100000000000000000) (hn : 3 ≤ nK) (hc : ∀ j, 1 ≤ j → j ≤ nK - 3 + 1 → Cuts false nK nV nD j) :
    Calls Try.prog 49 #[.agg (ndV false AK nK cK AV nV cV AD nD cD)] w fun e w' => ∃ (k : Nat) (A' : Option Addr) (xs : List Int) (c' : Nat), e = .returned (.tuple #[frV false AK cK AV cV AD cD k, .slice A' xs.length c', bkV false AK nK cK AV nV cV AD nD cD k]) ∧ k = bestN (gtr false ks vs nD) (nK - 3) ∧ ks[k]? = some xs ∧ Bs w A' xs.length xs ∧ Below w.heap.size w w' := by
  have HK := Lib.hid hx; have HV := Lib.hid hy; have HC := Lib.hid hc
  clear hx hy hc
  have hb1 := below_alloc w (.cells (ndV false AK nK cK AV nV cV AD nD cD) 66)
  have hb2 := below_alloc (w.alloc (.cells (ndV false AK nK cK AV nV cV AD nD cD) 66)) (.cells ndZ 66)
  go_enter Try.func49, Try.ntmps49
  go_wp2_with fail
  have hs1 : (w.alloc (.cells (ndV false AK nK cK AV nV cV AD nD cD) 66)).heap.size = w.heap.size + 1 := by simp
  have hs2 : ((w.alloc (.cells (ndV false AK nK cK AV nV cV AD nD cD) 66)).alloc (.cells ndZ 66)).heap.size = w.heap.size + 2 := by simp
  have hs3 : (((w.alloc (.cells (ndV false AK nK cK AV nV cV AD nD cD) 66)).alloc (.cells ndZ 66)).alloc (.cells ndZ 66)).heap.size = w.heap.size + 3 := by simp
  have hb3 := below_alloc ((w.alloc (.cells (ndV false AK nK cK AV nV cV AD nD cD) 66)).alloc (.cells ndZ 66)) (.cells ndZ 66)
  have BX := Lib.hid ((hb3.block w.heap.size (by omega)).trans ((hb2.block w.heap.size (by omega)).trans (heap_alloc_new w (.cells (ndV false AK nK cK AV nV cV AD nD cD) 66))))
  have R2 : Hid ((((w.alloc (.cells (ndV false AK nK cK AV nV cV AD nD cD) 66)).alloc (.cells ndZ 66)).alloc (.cells ndZ 66)).heap[w.heap.size + 1]? = some (.cells ndZ 66 (0, 0))) := Lib.hid ((hb3.block (w.heap.size + 1) (by omega)).trans (by have := heap_alloc_new (w.alloc (.cells (ndV false AK nK cK AV nV cV AD nD cD) 66)) (.cells ndZ 66); rw [hs1] at this; exact this))
  have R4 : Hid ((((w.alloc (.cells (ndV false AK nK cK AV nV cV AD nD cD) 66)).alloc (.cells ndZ 66)).alloc (.cells ndZ 66)).heap[w.heap.size + 1 + 1]? = some (.cells ndZ 66 (0, 0))) := Lib.hid (by have := heap_alloc_new ((w.alloc (.cells (ndV false AK nK cK AV nV cV AD nD cD) 66)).alloc (.cells ndZ 66)) (.cells ndZ 66); rw [hs2] at this; exact this)
  have HB := Lib.hid (hb1.trans ((hb2.mono (by omega : w.heap.size ≤ _)).trans (hb3.mono (by omega : w.heap.size ≤ _))))
  have HSZ := Lib.hid hs3
  clear hb1 hb2 hb3 hs1 hs2 hs3
  change Hid ((((w.alloc (.cells (ndV false AK nK cK AV nV cV AD nD cD) 66)).alloc (.cells ndZ 66)).alloc (.cells ndZ 66)).heap.size = w.heap.size + 3) at HSZ
  generalize ((w.alloc (.cells (ndV false AK nK cK AV nV cV AD nD cD) 66)).alloc (.cells ndZ 66)).alloc (.cells ndZ 66) = y at *
  go_loopw [6, 7] (fun iv jv wr => ∃ kk : Nat, iv = .int .i64 ((bestN (gtr false ks vs nD) kk : Nat) : Int) ∧ jv = .int .i64 ((kk + 2 : Nat) : Int) ∧ kk ≤ nK - 3 ∧ Hid (Below (w.heap.size + 3) y wr)) (fun _ jv _ => nK - (intOf jv).toNat)
  case atStart => exact ⟨0, rfl, rfl, Nat.zero_le _, Lib.hid (Below.refl _ _)⟩
  case round =>
    obtain ⟨kk, rfl, rfl, hk, HBR⟩ := hrel
    have hsr := HBR.out.size
    obtain ⟨i, HI⟩ : ∃ i : Nat, Hid (bestN (gtr false ks vs nD) kk = i) := ⟨_, rfl⟩
    have hi := bestN_in (gtr false ks vs nD) kk
    rw [HI.out] at hi ⊢
    have BXr := Lib.hid ((HBR.out.block w.heap.size (by omega)).trans BX.out)
    have q0 := rc_cell 0 (.bool false) BXr.out rfl
    have q1 := rc_cell 1 (.slice AK nK cK) BXr.out rfl
    have q2 := rc_cell 2 (.slice AV nV cV) BXr.out rfl
    have q3 := rc_cell 3 (.slice AD nD cD) BXr.out rfl
    by_cases hlt : kk < nK - 3
    · have hdd : decide (((kk + 2 : Nat) : Int) ≤ (nK : Int) - 3 + 1) = true := by simp; omega
      go_wp2_with fail
      have BXd : Hid (wr.drew.heap[w.heap.size]? = some (.cells (ndV false AK nK cK AV nV cV AD nD cD) 66 (0, 0))) := BXr
      have HBd := Lib.hid (HBR.out.trans ((Dr.refl wr).one.below _))
      have HKd := Lib.hid ((HK.out.keep HB.out).keep (HBd.out.mono (by rw [HSZ.out]; exact Nat.le_refl _)))
      have HVd := Lib.hid ((HV.out.keep HB.out).keep (HBd.out.mono (by rw [HSZ.out]; exact Nat.le_refl _)))
      have hsd := HBd.out.size
      rw [HSZ.out] at hsd
      have c1 := Lib.hid (HC.out (kk + 2) (by omega) (by omega))
      have c2 := Lib.hid (HC.out i (by omega) (by omega))
      obtain ⟨g1, HG1⟩ : ∃ g : Nat, Hid (gtr false ks vs nD (kk + 2) = g) := ⟨_, rfl⟩
      obtain ⟨g2, HG2⟩ : ∃ g : Nat, Hid (gtr false ks vs nD i = g) := ⟨_, rfl⟩
      clear hdd q0 q1 q2 q3
      have q0 := rc_cell 0 (.bool false) BXd.out rfl
      have q1 := rc_cell 1 (.slice AK nK cK) BXd.out rfl
      have q2 := rc_cell 2 (.slice AV nV cV) BXd.out rfl
      have q3 := rc_cell 3 (.slice AD nD cD) BXd.out rfl
      have tok1 : True := trivial
      go_region_held3 (fun w' => w'.cell? ⟨w.heap.size, 0, none⟩ = some (.bool false) ∧ w'.cell? ⟨w.heap.size, 1, none⟩ = some (.slice AK nK cK) ∧ w'.cell? ⟨w.heap.size, 2, none⟩ = some (.slice AV nV cV) ∧ w'.cell? ⟨w.heap.size, 3, none⟩ = some (.slice AD nD cD)) (first | exact ⟨s0, s1, s2, s3⟩ | exact ⟨r0, r1, r2, r3⟩ | exact ⟨q0, q1, q2, q3⟩) (first
        | (have _tk := tok1; go_at_call 99; refine (greater_any false AK nK cK AV nV cV AD nD cD (kk + 2) ks vs _ HKd.out HVd.out hKc hVc hDc bK bV bD sK sV c1.out).mono ?_; rintro e x2 ⟨rfl, hb2⟩; rw [HG1.out]; clear tok1; have tok2 : True := trivial; have BX2 := Lib.hid ((hb2.block _ (lt_of_heap BXd.out)).trans BXd.out); have HB2 := Lib.hid (HBd.out.trans (hb2.mono hsd)); have HK2 := Lib.hid (HKd.out.keep hb2); have HV2 := Lib.hid (HVd.out.keep hb2); have hs2 := HB2.out.size; rw [HSZ.out] at hs2; have r0 := rc_cell 0 (.bool false) BX2.out rfl; have r1 := rc_cell 1 (.slice AK nK cK) BX2.out rfl; have r2 := rc_cell 2 (.slice AV nV cV) BX2.out rfl; have r3 := rc_cell 3 (.slice AD nD cD) BX2.out rfl; clear hb2)
        | (have _tk := tok2; go_at_call 99; refine (greater_any false AK nK cK AV nV cV AD nD cD i ks vs _ HK2.out HV2.out hKc hVc hDc bK bV bD sK sV c2.out).mono ?_; rintro e x3 ⟨rfl, hb3⟩; rw [HG2.out]; clear tok2; have BX3 := Lib.hid ((hb3.block _ (lt_of_heap BX2.out)).trans BX2.out); have HB3 := Lib.hid (HB2.out.trans (hb3.mono hs2)); have s0 := rc_cell 0 (.bool false) BX3.out rfl; have s1 := rc_cell 1 (.slice AK nK cK) BX3.out rfl; have s2 := rc_cell 2 (.slice AV nV cV) BX3.out rfl; have s3 := rc_cell 3 (.slice AD nD cD) BX3.out rfl; clear hb3))
      clear s0 s1 s2 s3 r0 r1 r2 r3 q0 q1 q2 q3
      have HBE := Lib.hid (bestN.eq_2 (gtr false ks vs nD) kk)
      by_cases hg : g1 < g2
      · have HBN : Hid (bestN (gtr false ks vs nD) (kk + 1) = kk + 2) := Lib.hid (by rw [HBE.out, HI.out, HG1.out, HG2.out, if_pos hg])
        go_wp2_with fail
        go_roundw
        case rel => exact ⟨kk + 1, by rw [HBN.out]; first | done | go_num, by go_num, by omega, HB3⟩
        case measure => simp [intOf]; omega
      · have HBN : Hid (bestN (gtr false ks vs nD) (kk + 1) = i) := Lib.hid (by rw [HBE.out, HI.out, HG1.out, HG2.out, if_neg hg])
        go_wp2_with fail
        go_roundw
        case rel => exact ⟨kk + 1, by rw [HBN.out]; first | done | go_num, by go_num, by omega, HB3⟩
        case measure => simp [intOf]; omega
    · have hdd : decide (((kk + 2 : Nat) : Int) ≤ (nK : Int) - 3 + 1) = false := by simp; omega
      go_wp2_with fail
      have hkk : kk = nK - 3 := by omega
      have HI2 : Hid (bestN (gtr false ks vs nD) (nK - 3) = i) := Lib.hid (by rw [← hkk]; exact HI.out)
      obtain ⟨b, off, A', n', c', xs, rfl, hbl, hcl, hxs, hnc, HXK⟩ := HK.out.at_ (k := i) (by omega)
      have HXS := Lib.hid hxs
      have HNL := Lib.hid hxs.len
      have BXd : Hid (wr.drew.heap[w.heap.size]? = some (.cells (ndV false (some ⟨b, off, none⟩) nK cK AV nV cV AD nD cD) 66 (0, 0))) := BXr
      have HBd := Lib.hid (HBR.out.trans ((Dr.refl wr).one.below _))
      have RAd := Lib.hid ((HBd.out.block (w.heap.size + 1) (by omega)).trans R2.out)
      have RBd := Lib.hid ((HBd.out.block (w.heap.size + 1 + 1) (by omega)).trans R4.out)
      have HWd := Lib.hid (HB.out.trans (HBd.out.mono (by omega : w.heap.size ≤ w.heap.size + 3)))
      have c2 := Lib.hid (HC.out i (by omega) (by omega))
      have z0 : (0 : Int) ≤ (i : Int) := by omega
      have z1 : (i : Int) < (nK : Int) := by omega
      have il : i < nK := by omega
      clear hdd q0 q1 q2 q3 hkk hxs hlt
      have q0 := rc_cell 0 (.bool false) BXd.out rfl; have q1 := rc_cell 1 (.slice (some ⟨b, off, none⟩) nK cK) BXd.out rfl; have q2 := rc_cell 2 (.slice AV nV cV) BXd.out rfl; have q3 := rc_cell 3 (.slice AD nD cD) BXd.out rfl
      have q4 := (World.cell?_of_block (a := ⟨b, off + i, none⟩) (HWd.out.block b hbl)).trans hcl
      have HS4 := q4
      clear q0 q1 q2 q3 q4 z0 z1
      have z0 : (0 : Int) ≤ (i : Int) := by omega
      have z1 : (i : Int) < (nK : Int) := by omega
      refine wp_region_held_drew (S := fun w' => w'.cell? ⟨w.heap.size, 0, none⟩ = some (.bool false) ∧ w'.cell? ⟨w.heap.size, 1, none⟩ = some (.slice (some ⟨b, off, none⟩) nK cK) ∧ w'.cell? ⟨w.heap.size, 2, none⟩ = some (.slice AV nV cV) ∧ w'.cell? ⟨w.heap.size, 3, none⟩ = some (.slice AD nD cD) ∧ w'.cell? ⟨b, off + i, none⟩ = some (.slice A' n' c')) (by kernel_rfl) (nd5 BXd.out HS4) (fun hH0 => ?_)
      generalize wr.drew = yd at *
      refine wpAnyH_take (i := 0) (oi := { dst := some 35, op := Op.load 66 (Operand.tmp 1), type := 66, pos := _, after := #[], guard := none }) (v := ?vf1_0) rfl (by kernel_rfl) (by kernel_rfl) (by kernel_rfl) (fun _ _ _ h => h) (Or.inl ⟨by rfl, ?yf1_0⟩) hH0 ?rf1_0
      case yf1_0 => (intro w hSw; (try dsimp only at hSw); go_simp; try (with_reducible rfl))
      try simp only [Act.put, List.setIfInBounds_toArray, List.set_cons_zero, List.set_cons_succ]
      refine wpAnyH_take (i := 1) (oi := { dst := some 36, op := Op.move (Operand.tmp 6), type := 3, pos := _, after := #[], guard := none }) (v := ?vf1_1) rfl (by kernel_rfl) (by kernel_rfl) (by kernel_rfl) (fun _ _ _ h => h) (Or.inl ⟨by rfl, ?yf1_1⟩) hH0 ?rf1_1
      case yf1_1 => (intro w hSw; (try dsimp only at hSw); go_simp; try (with_reducible rfl))
      try simp only [Act.put, List.setIfInBounds_toArray, List.set_cons_zero, List.set_cons_succ]
      refine wpAnyH_take (i := 3) (oi := { dst := some 38, op := Op.fieldAddr 66 (Operand.tmp 1) 1, type := 0, pos := _, after := #[{ on := 11, ground := Ground.gcOnly Departure.lateStores }], guard := none }) (v := ?vf1_3) rfl (by kernel_rfl) (by kernel_rfl) (by kernel_rfl) (fun _ _ _ h => h) (Or.inl ⟨by rfl, ?yf1_3⟩) hH0 ?rf1_3
      case yf1_3 => (intro w hSw; (try dsimp only at hSw); go_simp; try (with_reducible rfl))
      try simp only [Act.put, List.setIfInBounds_toArray, List.set_cons_zero, List.set_cons_succ]
      refine wpAnyH_take (i := 4) (oi := { dst := some 39, op := Op.load 62 (Operand.tmp 38), type := 62, pos := _, after := #[{ on := 3, ground := Ground.data }, { on := 11, ground := Ground.gcOnly Departure.lateStores }], guard := none }) (v := ?vf1_4) rfl (by kernel_rfl) (by kernel_rfl) (by kernel_rfl) (fun _ _ _ h => h) (Or.inl ⟨by rfl, ?yf1_4⟩) hH0 ?rf1_4
      case yf1_4 => (intro w hSw; (try dsimp only at hSw); go_simp; try (with_reducible rfl))
      try simp only [Act.put, List.setIfInBounds_toArray, List.set_cons_zero, List.set_cons_succ]
      refine wpAnyH_take (i := 5) (oi := { dst := some 40, op := Op.move (Operand.tmp 6), type := 3, pos := _, after := #[{ on := 11, ground := Ground.gcOnly Departure.lateStores }], guard := none }) (v := ?vf1_5) rfl (by kernel_rfl) (by kernel_rfl) (by kernel_rfl) (fun _ _ _ h => h) (Or.inl ⟨by rfl, ?yf1_5⟩) hH0 ?rf1_5
      case yf1_5 => (intro w hSw; (try dsimp only at hSw); go_simp; try (with_reducible rfl))
      try simp only [Act.put, List.setIfInBounds_toArray, List.set_cons_zero, List.set_cons_succ]
      refine wpAnyH_take (i := 6) (oi := { dst := some 41, op := Op.indexAddr 62 (Operand.tmp 39) (Operand.tmp 40), type := 0, pos := _, after := #[{ on := 4, ground := Ground.data }, { on := 5, ground := Ground.data }, { on := 11, ground := Ground.gcOnly Departure.lateStores }], guard := none }) (v := ?vf1_6) rfl (by kernel_rfl) (by kernel_rfl) (by kernel_rfl) (fun _ _ _ h => h) (Or.inl ⟨by rfl, ?yf1_6⟩) hH0 ?rf1_6
      case yf1_6 => (intro w hSw; (try dsimp only at hSw); go_simp; try (with_reducible rfl))
      try simp only [Act.put, List.setIfInBounds_toArray, List.set_cons_zero, List.set_cons_succ]
      refine wpAnyH_take (i := 7) (oi := { dst := some 42, op := Op.load 28 (Operand.tmp 41), type := 28, pos := _, after := #[{ on := 6, ground := Ground.data }, { on := 11, ground := Ground.gcOnly Departure.lateStores }], guard := none }) (v := ?vf1_7) rfl (by kernel_rfl) (by kernel_rfl) (by kernel_rfl) (fun _ _ _ h => h) (Or.inl ⟨by rfl, ?yf1_7⟩) hH0 ?rf1_7
      case yf1_7 => (intro w hSw; (try dsimp only at hSw); go_simp; try (with_reducible rfl))
      try simp only [Act.put, List.setIfInBounds_toArray, List.set_cons_zero, List.set_cons_succ]
      refine wpAnyH_take (i := 8) (oi := { dst := some 43, op := Op.load 66 (Operand.tmp 1), type := 66, pos := _, after := #[], guard := none }) (v := ?vf1_8) rfl (by kernel_rfl) (by kernel_rfl) (by kernel_rfl) (fun _ _ _ h => h) (Or.inl ⟨by rfl, ?yf1_8⟩) hH0 ?rf1_8
      case yf1_8 => (intro w hSw; (try dsimp only at hSw); go_simp; try (with_reducible rfl))
      try simp only [Act.put, List.setIfInBounds_toArray, List.set_cons_zero, List.set_cons_succ]
      refine wpAnyH_take (i := 9) (oi := { dst := some 44, op := Op.move (Operand.tmp 6), type := 3, pos := _, after := #[], guard := none }) (v := ?vf1_9) rfl (by kernel_rfl) (by kernel_rfl) (by kernel_rfl) (fun _ _ _ h => h) (Or.inl ⟨by rfl, ?yf1_9⟩) hH0 ?rf1_9
      case yf1_9 => (intro w hSw; (try dsimp only at hSw); go_simp; try (with_reducible rfl))
      try simp only [Act.put, List.setIfInBounds_toArray, List.set_cons_zero, List.set_cons_succ]
      refine wpAnyH_ready (rs := [2]) (by kernel_rfl) (by simp) ?_
      refine (AllReadyH.cons (o := { dst := some 37, op := Op.call { callee := Callee.value (Operand.func 100), args := #[Operand.tmp 35, Operand.tmp 36], argTypes := #[66, 3] }, type := 66, pos := _, after := #[{ on := 0, ground := Ground.data }, { on := 1, ground := Ground.data }], guard := none }) rfl (fun K hK => ?_) AllReadyH.nil)
      go_simp
      refine (frontF_any (some ⟨b, off, none⟩) nK cK AV nV cV AD nD cD i _ hKc hVc hDc bK bV bD (by have := c2.out.1; omega) c2.out.2).mono ?_
      rintro e x2 ⟨rfl, hb2⟩
      have BX2 := Lib.hid ((hb2.block _ (lt_of_heap BXd.out)).trans BXd.out)
      have RA2 := Lib.hid ((hb2.block _ (lt_of_heap RAd.out)).trans RAd.out)
      have RB2 := Lib.hid ((hb2.block _ (lt_of_heap RBd.out)).trans RBd.out)
      have HW2 := Lib.hid (HWd.out.trans (hb2.mono HWd.out.size))
      have QC2 := (World.cell?_of_block (a := ⟨b, off + i, none⟩) (HW2.out.block b hbl)).trans hcl
      clear hb2
      go_wp2_with fail
      refine hK.out _ _ (nd5 BX2.out QC2) (fun hH2 => ?_)
      clear hK K
      try simp only [Act.put, List.setIfInBounds_toArray, List.set_cons_zero, List.set_cons_succ]
      refine wpAnyH_ready (rs := [10]) (by kernel_rfl) (by simp) ?_
      refine (AllReadyH.cons (o := { dst := some 45, op := Op.call { callee := Callee.value (Operand.func 101), args := #[Operand.tmp 43, Operand.tmp 44], argTypes := #[66, 3] }, type := 66, pos := _, after := #[{ on := 8, ground := Ground.data }, { on := 9, ground := Ground.data }, { on := 2, ground := Ground.chain }], guard := none }) rfl (fun K hK => ?_) AllReadyH.nil)
      go_simp
      refine (backF_any (some ⟨b, off, none⟩) nK cK AV nV cV AD nD cD i _ hKc hVc hDc bK bV bD c2.out.1 c2.out.2).mono ?_
      rintro e x4 ⟨rfl, hb4⟩
      have BX4 := Lib.hid ((hb4.block _ (lt_of_heap BX2.out)).trans BX2.out)
      have RA4 := Lib.hid ((hb4.block _ (lt_of_heap RA2.out)).trans RA2.out)
      have RB4 := Lib.hid ((hb4.block _ (lt_of_heap RB2.out)).trans RB2.out)
      have HW4 := Lib.hid (HW2.out.trans (hb4.mono HW2.out.size))
      have QC4 := (World.cell?_of_block (a := ⟨b, off + i, none⟩) (HW4.out.block b hbl)).trans hcl
      clear hb4
      go_wp2_with fail
      refine hK.out _ _ (nd5 BX4.out QC4) (fun hH4 => ?_)
      clear hK K
      try simp only [Act.put, List.setIfInBounds_toArray, List.set_cons_zero, List.set_cons_succ]
      refine wpAnyH_ready (rs := [11]) (by kernel_rfl) (by simp) ?_
      refine (AllReadyH.cons (o := { dst := none, op := Op.store 66 (Operand.tmp 2) (Operand.tmp 37), type := 0, pos := _, after := #[{ on := 2, ground := Ground.data }, { on := 10, ground := Ground.chain }, { on := 0, ground := Ground.phase }, { on := 1, ground := Ground.phase }, { on := 2, ground := Ground.phase }, { on := 3, ground := Ground.textOnly Departure.lateStores }, { on := 4, ground := Ground.textOnly Departure.lateStores }, { on := 5, ground := Ground.textOnly Departure.lateStores }, { on := 6, ground := Ground.textOnly Departure.lateStores }, { on := 7, ground := Ground.textOnly Departure.lateStores }, { on := 8, ground := Ground.textOnly Departure.lateStores }, { on := 9, ground := Ground.textOnly Departure.lateStores }, { on := 10, ground := Ground.textOnly Departure.lateStoresUnsure }], guard := none }) rfl (fun K hK => ?_) AllReadyH.nil)
      have z6_0 := rc_cell 0 (.bool false) RA4.out rfl; have y6_0 := two_frozen (i := 0) RA4.out
      have z6_1 := rc_cell 1 (.slice none 0 0) RA4.out rfl; have y6_1 := two_frozen (i := 1) RA4.out
      have z6_2 := rc_cell 2 (.slice none 0 0) RA4.out rfl; have y6_2 := two_frozen (i := 2) RA4.out
      have z6_3 := rc_cell 3 (.slice none 0 0) RA4.out rfl; have y6_3 := two_frozen (i := 3) RA4.out
      have HZ6 := Lib.hid (set4r x4 (w.heap.size + 1) (.bool false) (.slice (some ⟨b, off, none⟩) i cK) (.slice none 0 0) (.slice AD (i + 1) cD) RA4.out)
      have BX6 := Lib.hid ((HZ6.out.2.block w.heap.size (lt_of_heap BX4.out) (by intro e; injection e with e; omega)).trans BX4.out)
      have O6 := Lib.hid ((HZ6.out.2.block _ (lt_of_heap RB4.out) (by intro e; injection e with e; omega)).trans RB4.out)
      have HW6 := Lib.hid (HW4.out.trans ((HZ6.out.2.below (Nat.le_of_lt (lt_of_heap RA4.out))).mono (by omega)))
      have QC6 := (World.cell?_of_block (a := ⟨b, off + i, none⟩) (HW6.out.block b hbl)).trans hcl
      go_simp
      refine hK.out _ _ (nd5 BX6.out QC6) (fun hH6 => ?_)
      clear hK K
      try simp only [Act.put, List.setIfInBounds_toArray, List.set_cons_zero, List.set_cons_succ]
      have N6 := Lib.hid HZ6.out.1
      clear HZ6 z6_0 y6_0 z6_1 y6_1 z6_2 y6_2 z6_3 y6_3
      generalize ((((x4.setCell ⟨w.heap.size + 1, 0, none⟩ (.bool false)).setCell ⟨w.heap.size + 1, 1, none⟩ (.slice (some ⟨b, off, none⟩) i cK)).setCell ⟨w.heap.size + 1, 2, none⟩ (.slice none 0 0)).setCell ⟨w.heap.size + 1, 3, none⟩ (.slice AD (i + 1) cD)) = s6 at *
      refine wpAnyH_take (i := 12) (oi := { dst := some 3, op := Op.assign (Operand.tmp 42), type := 28, pos := _, after := #[{ on := 7, ground := Ground.data }, { on := 11, ground := Ground.chain }, { on := 0, ground := Ground.phase }, { on := 1, ground := Ground.phase }, { on := 2, ground := Ground.phase }, { on := 3, ground := Ground.phase }, { on := 4, ground := Ground.phase }, { on := 5, ground := Ground.phase }, { on := 6, ground := Ground.phase }, { on := 7, ground := Ground.phase }, { on := 8, ground := Ground.textOnly Departure.lateStores }, { on := 9, ground := Ground.textOnly Departure.lateStores }, { on := 10, ground := Ground.textOnly Departure.lateStoresUnsure }, { on := 11, ground := Ground.phase }], guard := none }) (v := ?vf7_12) rfl (by kernel_rfl) (by kernel_rfl) (by kernel_rfl) (fun _ _ _ h => h) (Or.inl ⟨by rfl, ?yf7_12⟩) hH6 ?rf7_12
      case yf7_12 => (intro w hSw; (try dsimp only at hSw); go_simp; try (with_reducible rfl))
      try simp only [Act.put, List.setIfInBounds_toArray, List.set_cons_zero, List.set_cons_succ]
      refine wpAnyH_ready (rs := [13]) (by kernel_rfl) (by simp) ?_
      refine (AllReadyH.cons (o := { dst := none, op := Op.store 66 (Operand.tmp 4) (Operand.tmp 45), type := 0, pos := _, after := #[{ on := 10, ground := Ground.data }, { on := 12, ground := Ground.chain }, { on := 0, ground := Ground.phase }, { on := 1, ground := Ground.phase }, { on := 2, ground := Ground.phase }, { on := 3, ground := Ground.phase }, { on := 4, ground := Ground.phase }, { on := 5, ground := Ground.phase }, { on := 6, ground := Ground.phase }, { on := 7, ground := Ground.phase }, { on := 8, ground := Ground.phase }, { on := 9, ground := Ground.phase }, { on := 10, ground := Ground.phase }, { on := 11, ground := Ground.phase }, { on := 12, ground := Ground.phase }], guard := none }) rfl (fun K hK => ?_) AllReadyH.nil)
      have z8_0 := rc_cell 0 (.bool false) O6.out rfl; have y8_0 := two_frozen (i := 0) O6.out
      have z8_1 := rc_cell 1 (.slice none 0 0) O6.out rfl; have y8_1 := two_frozen (i := 1) O6.out
      have z8_2 := rc_cell 2 (.slice none 0 0) O6.out rfl; have y8_2 := two_frozen (i := 2) O6.out
      have z8_3 := rc_cell 3 (.slice none 0 0) O6.out rfl; have y8_3 := two_frozen (i := 3) O6.out
      have HZ8 := Lib.hid (set4r s6 (w.heap.size + 1 + 1) (.bool false) (.slice (cutA (some ⟨b, off, none⟩) cK (i + 1)) (nK - (i + 1)) (cK - (i + 1))) (.slice none 0 0) (.slice (cutA AD cD (i + 1)) (nD - (i + 1)) (cD - (i + 1))) O6.out)
      have BX8 := Lib.hid ((HZ8.out.2.block w.heap.size (lt_of_heap BX6.out) (by intro e; injection e with e; omega)).trans BX6.out)
      have O8 := Lib.hid ((HZ8.out.2.block _ (lt_of_heap N6.out) (by intro e; injection e with e; omega)).trans N6.out)
      have HW8 := Lib.hid (HW6.out.trans ((HZ8.out.2.below (Nat.le_of_lt (lt_of_heap O6.out))).mono (by omega)))
      have QC8 := (World.cell?_of_block (a := ⟨b, off + i, none⟩) (HW8.out.block b hbl)).trans hcl
      go_simp
      refine hK.out _ _ (nd5 BX8.out QC8) (fun hH8 => ?_)
      clear hK K
      try simp only [Act.put, List.setIfInBounds_toArray, List.set_cons_zero, List.set_cons_succ]
      have N8 := Lib.hid HZ8.out.1
      clear HZ8 z8_0 y8_0 z8_1 y8_1 z8_2 y8_2 z8_3 y8_3
      generalize ((((s6.setCell ⟨w.heap.size + 1 + 1, 0, none⟩ (.bool false)).setCell ⟨w.heap.size + 1 + 1, 1, none⟩ (.slice (cutA (some ⟨b, off, none⟩) cK (i + 1)) (nK - (i + 1)) (cK - (i + 1)))).setCell ⟨w.heap.size + 1 + 1, 2, none⟩ (.slice none 0 0)).setCell ⟨w.heap.size + 1 + 1, 3, none⟩ (.slice (cutA AD cD (i + 1)) (nD - (i + 1)) (cD - (i + 1)))) = s8 at *
      refine wpAnyH_done (by kernel_rfl) ?_ _
      have e0 := rc_cell 0 (.bool false) O8.out rfl
      have e1 := rc_cell 1 (.slice (some ⟨b, off, none⟩) i cK) O8.out rfl
      have e2 := rc_cell 2 (.slice none 0 0) O8.out rfl
      have e3 := rc_cell 3 (.slice AD (i + 1) cD) O8.out rfl
      have g0 := rc_cell 0 (.bool false) N8.out rfl
      have g1 := rc_cell 1 (.slice (cutA (some ⟨b, off, none⟩) cK (i + 1)) (nK - (i + 1)) (cK - (i + 1))) N8.out rfl
      have g2 := rc_cell 2 (.slice none 0 0) N8.out rfl
      have g3 := rc_cell 3 (.slice (cutA AD cD (i + 1)) (nD - (i + 1)) (cD - (i + 1))) N8.out rfl
      go_wp2
      refine bodyPost_ret (v := .tuple #[.agg #[.bool false, .slice (some ⟨b, off, none⟩) i cK, .slice none 0 0, .slice AD (i + 1) cD], .slice A' n' c', .agg #[.bool false, .slice (cutA (some ⟨b, off, none⟩) cK (i + 1)) (nK - (i + 1)) (cK - (i + 1)), .slice none 0 0, .slice (cutA AD cD (i + 1)) (nD - (i + 1)) (cD - (i + 1))]]) (by simp [results, Try.f49, go_sem, Try.isAgg66, Try.sizeOf66, e0, e1, e2, e3, g0, g1, g2, g3]) rfl ⟨i, A', xs, c', by rw [HNL.out]; rfl, HI2.out.symm, HXK.out, by rw [HNL.out]; exact HXS.out, HW8.out⟩
end Go.Proofs.Ytmjjbfcblmmipaa
