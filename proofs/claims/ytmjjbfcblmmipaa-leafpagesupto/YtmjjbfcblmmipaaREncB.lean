/- The reference's Encode of a node out of form, and of one too great. -/
import Derived.Test.YtmjjbfcblmmipaaAwkL
namespace Go.Proofs.Ytmjjbfcblmmipaa
set_option linter.unusedVariables false
set_option linter.unusedSimpArgs false
open Go.RowKit
/-- The reference's page in its making: the node's box, the bytes so far. -/
structure ER (w : World) (V : Array Value) (A : Option Addr) (n c : Nat) (P : List Int) (W : World) : Prop where
  nb : W.heap[w.heap.size]? = some (.cells V 66 (0, 0))
  own : Own W (w.heap.size + 1) 5 A n c (By P)
  len : P.length = n
  hs : w.heap.size + 1 ≤ W.heap.size
  hb : Below w.heap.size w W
theorem ER.keep {w W W' : World} {V : Array Value} {A : Option Addr} {n c : Nat} {P : List Int} (h : ER w V A n c P W) (hb : Below W.heap.size W W') : ER w V A n c P W' :=
  ⟨(hb.block _ (lt_of_heap h.nb)).trans h.nb, h.own.below hb (fun k hk => (h.own.lies k hk).2), h.len, Nat.le_trans h.hs hb.size, h.hb.trans (hb.mono h.hb.size)⟩
theorem ER.grow {w W W' : World} {V : Array Value} {A A' : Option Addr} {n n' c c' : Nat} {P P' : List Int} (h : ER w V A n c P W) (ho : Own W' (w.heap.size + 1) 5 A' n' c' (By P')) (hl : P'.length = n') (hg : Grows W W' A A') : ER w V A' n' c' P' W' := by
  refine ⟨(hg.1.block _ (lt_of_heap h.nb) (fun e => ?_)).trans h.nb, ho, hl, Nat.le_trans h.hs hg.size, h.hb.trans (hg.below h.hb.size (fun k hk => ?_))⟩
  · have := (h.own.lies _ e.symm).1; omega
  · have := (h.own.lies k hk).1; omega
theorem quo256 (n : Nat) : Int.tdiv (n : Int) 256 = ((n / 256 : Nat) : Int) := by rw [Int.tdiv_eq_ediv_of_nonneg (by omega)]; omega

set_option maxRecDepth 100000 in
set_option maxHeartbeats 16000000 in
theorem rencodeL_any (AK : Option Addr) (nK cK : Nat) (AV : Option Addr) (nV cV : Nat) (AD : Option Addr) (nD cD : Nat) (ks vs : List (List Int)) (ds : List Int) (w : World) (hx : Bss w AK nK ks) (hy : Bss w AV nV vs) (hz : Ins w AD nD ds)
    (bK : nK ≤ 100000) (bV : nV ≤ 100000) (bD : nD ≤ 100000) (hc : chkN true ks vs ds = 0) (hs : sizeN true ks vs nD ≤ 512) :
    Calls Try.prog 34 #[.agg (ndV true AK nK cK AV nV cV AD nD cD)] w fun e w' => ∃ A c, e = .returned (.tuple #[.slice A 512 c, .int .i64 0]) ∧ Own w' w.heap.size 5 A 512 c (pgL (encP true ks vs ds nK)) ∧ Below w.heap.size w w' := by
  obtain ⟨i5, hi5, hz5, hsz5, hby5⟩ := info_parts info5
  obtain ⟨c1, c2, c3, c4, c5⟩ := chk_ok hc
  have HX := Lib.hid hx; have HY := Lib.hid hy; have HZ := Lib.hid hz; have HLK := Lib.hid hx.len; have HLV := Lib.hid hy.len; have HLD := Lib.hid hz.len
  have HM1 := Lib.hid (anyL_mem c1); have HM2 := Lib.hid (anyL_mem c2); have HM3 := Lib.hid (dsB_mem c4)
  have hVK : nV = nK := by rw [HLK.out, HLV.out, HLD.out] at c5; unfold badF at c5; simp at c5; omega
  have HEL := Lib.hid (fun j (hj : j ≤ nK) => encP_len true ks vs ds (fun _ => by rw [HLK.out, HLV.out]; exact hVK) j (by rw [HLK.out]; exact hj))
  have HFA : Hid (frN true ks vs nK ≤ 512) := Lib.hid (by have := fr_all ks vs nD (by rw [HLK.out, HLV.out]; exact hVK); rw [HLK.out] at this; omega)
  have sK : szW 1 ks ≤ 100000000000000000 := by have := szW_bd 1 64 ks HM1.out; have := HLK.out; omega
  have sV : szW 2 vs ≤ 100000000000000000 := by have := szW_bd 2 128 vs HM2.out; have := HLV.out; omega
  have hKs : nK ≤ 512 := by
    have h1 : ∀ l : List (List Int), l.length ≤ szW 1 l := by intro l; induction l with | nil => simp [szW] | cons x l ih => simp only [szW, List.length_cons]; omega
    have h2 := h1 ks; have := HLK.out; unfold sizeN at hs; omega
  obtain ⟨sz, HSZ⟩ : ∃ sz : Nat, Hid (sizeN true ks vs nD = sz) := ⟨_, rfl⟩
  have hs2 : sz ≤ 512 := by rw [← HSZ.out]; exact hs
  have hds : decide ((512 : Int) < (sz : Int)) = false := by simp; omega
  have HVK := Lib.hid hVK; have HCK := Lib.hid hc
  have hgs : (w.alloc (.cells (ndV true AK nK cK AV nV cV AD nD cD) 66)).heap.size = w.heap.size + 1 := by simp
  have HB := Lib.hid (below_alloc w (.cells (ndV true AK nK cK AV nV cV AD nD cD) 66))
  have BX := Lib.hid (heap_alloc_new w (.cells (ndV true AK nK cK AV nV cV AD nD cD) 66))
  have q0 := rc_cell 0 (.bool true) BX.out rfl; have q1 := rc_cell 1 (.slice AK nK cK) BX.out rfl; have q2 := rc_cell 2 (.slice AV nV cV) BX.out rfl; have q3 := rc_cell 3 (.slice AD nD cD) BX.out rfl
  clear hx hy hz c1 c2 c3 c4 c5 hVK hs hc
  go_enter Try.func34, Try.ntmps34
  go_wp2_with fail
  clear q0 q1 q2 q3
  generalize w.alloc (.cells (ndV true AK nK cK AV nV cV AD nD cD) 66) = y at *
  refine (rcheck_any true AK nK cK AV nV cV AD nD cD ks vs ds y (HX.out.keep HB.out) (HY.out.keep HB.out) (HZ.out.keep HB.out) bK bV bD (fun x hx => Nat.le_trans (HM1.out x hx) (by unfold maxLen; omega))).mono ?_
  rintro e x1 ⟨rfl, hb1⟩
  rw [HCK.out]
  have BX1 := Lib.hid ((hb1.block _ (lt_of_heap BX.out)).trans BX.out); have HB1 := Lib.hid (HB.out.trans (hb1.mono HB.out.size)); have hs1 := hb1.size; rw [hgs] at hs1
  clear hb1 BX HB hgs
  have q0 := rc_cell 0 (.bool true) BX1.out rfl; have q1 := rc_cell 1 (.slice AK nK cK) BX1.out rfl; have q2 := rc_cell 2 (.slice AV nV cV) BX1.out rfl; have q3 := rc_cell 3 (.slice AD nD cD) BX1.out rfl
  go_wp2_with fail
  clear q0 q1 q2 q3
  refine (rsize_any true AK nK cK AV nV cV AD nD cD ks vs x1 (HX.out.keep HB1.out) (HY.out.keep HB1.out) (by omega) (by omega) (by omega) sK sV).mono ?_
  rintro e x2 ⟨rfl, hb2⟩
  rw [HSZ.out]
  have BX2 := Lib.hid ((hb2.block _ (lt_of_heap BX1.out)).trans BX1.out); have HB2 := Lib.hid (HB1.out.trans (hb2.mono HB1.out.size)); have hs3 := hb2.size
  clear hb2 BX1 HB1
  have hs4 : w.heap.size + 1 ≤ x2.heap.size := by omega
  have q0 := rc_cell 0 (.bool true) BX2.out rfl; have q1 := rc_cell 1 (.slice AK nK cK) BX2.out rfl; have q2 := rc_cell 2 (.slice AV nV cV) BX2.out rfl; have q3 := rc_cell 3 (.slice AD nD cD) BX2.out rfl
  have w1 : IntKind.u8.wrap (Int.tdiv (nK : Int) 256) = ((nK / 256 : Nat) : Int) := by rw [quo256]; exact u8_is _ _ (by omega) (by omega)
  have w2 : IntKind.u8.wrap (nK : Int) = ((nK % 256 : Nat) : Int) := u8_is _ _ (by omega) (by omega)
  have E0 : Hid (ER w (ndV true AK nK cK AV nV cV AD nD cD) (some ⟨x2.heap.size, 0, none⟩) 3 3 (encP true ks vs ds 0) (x2.alloc (.cells #[.int .u8 1, .int .u8 ((nK : Int) / 256), .int .u8 ((nK : Int) % 256)] 5))) := Lib.hid (by
    have hba := below_alloc x2 (.cells #[.int .u8 1, .int .u8 ((nK : Int) / 256), .int .u8 ((nK : Int) % 256)] 5)
    have hP : By (encP true ks vs ds 0) = [.int .u8 1, .int .u8 ((nK : Int) / 256), .int .u8 ((nK : Int) % 256)] := by rw [encP, HLK.out]; simp [By, tw]
    refine ⟨(hba.block _ (lt_of_heap BX2.out)).trans BX2.out, ?_, by rw [HEL.out 0 (Nat.zero_le _)]; rfl, by have := hba.size; omega, HB2.out.trans (hba.mono HB2.out.size)⟩
    rw [hP]
    exact Own.of_block (heap_alloc_new x2 _) hs4 rfl (by unfold maxLen; omega))
  have r0 := rc_cell 0 (.bool true) E0.out.nb rfl
  go_upto_region 12 with fail
  clear q0 q1 q2 q3 r0
  generalize (x2.alloc (.cells #[.int .u8 1, .int .u8 ((nK : Int) / 256), .int .u8 ((nK : Int) % 256)] 5)) = y2 at *
  generalize (some ⟨x2.heap.size, 0, none⟩ : Option Addr) = A0 at *
  clear BX2 HB2 hs3 hs1 hs4 w1 w2
  go_wp2_with fail
  go_loopw [6, 7] (fun ov iv wr => ∃ (kk n c : Nat) (A : Option Addr), ov = .slice A n c ∧ iv = .int .i64 (kk : Int) ∧ kk ≤ nK ∧ Hid (ER w (ndV true AK nK cK AV nV cV AD nD cD) A n c (encP true ks vs ds kk) wr)) (fun _ iv _ => nK - (intOf iv).toNat)
  case atStart => exact ⟨0, 3, 3, A0, rfl, rfl, Nat.zero_le _, E0⟩
  case round =>
    obtain ⟨kk, n, c, A, rfl, rfl, hk, HE⟩ := hrel
    by_cases hlt : kk < nK
    · obtain ⟨b, off, A1, n1, c1, xs, hA, hbl, hcl0, hxs, hnc, HXK⟩ := HX.out.at_ hlt
      have HXS := Lib.hid hxs; have HNL := Lib.hid hxs.len; have hn1 : n1 ≤ 64 := by rw [← hxs.len]; exact HM1.out _ (List.mem_of_getElem? HXK.out)
      have z0 : (0 : Int) ≤ (kk : Int) := by omega
      have z1 : (kk : Int) < (nK : Int) := by omega
      obtain ⟨Pk, HPK⟩ : ∃ Pk, Hid (encP true ks vs ds kk = Pk) := ⟨_, rfl⟩
      have hlen := HEL.out kk hk
      have hmono := fr_mono true ks vs (kk + 1) nK hlt
      have hfa := HFA.out
      have hkV : kk < nV := by rw [HVK.out]; exact hlt
      obtain ⟨b', off', A2, n2, c2, ys, hA2, hbl2, hcl2, hys, hnc2, HYK⟩ := HY.out.at_ hkV
      have HYS := Lib.hid hys; have HNL2 := Lib.hid hys.len; have hn2 : n2 ≤ 128 := by rw [← hys.len]; exact HM2.out _ (List.mem_of_getElem? HYK.out)
      have z2 : (kk : Int) < (nV : Int) := by omega
      have hst := fr_leaf ks vs kk xs ys HXK.out HYK.out
      rw [HNL.out, HNL2.out] at hst
      rw [HPK.out] at hlen
      have hnP : Pk.length = n := by have := HE.out.len; rw [HPK.out] at this; exact this
      have hroom : n + 1 + n1 + 2 + n2 ≤ 512 := by omega
      have HNX : Hid (((Pk ++ [(n1 : Int)]) ++ xs ++ [((n2 / 256 : Nat) : Int), ((n2 % 256 : Nat) : Int)]) ++ ys = encP true ks vs ds (kk + 1)) := Lib.hid (by rw [encP, HPK.out, if_pos rfl, getD_of HXK.out, getD_of HYK.out, HNL.out, HNL2.out]; simp [tw])
      rw [HPK.out] at HE
      subst hA hA2
      have m1 : ((n1 : Int) % 256) = (n1 : Int) := by omega
      clear hxs hys hnc hnc2 hst hlen hmono hfa hkV
      have HCK1 := Lib.hid hcl0; have HCK2 := Lib.hid hcl2
      have hbk := Lib.hid HE.out.hb
      have q1 := rc_cell 1 (.slice (some ⟨b, off, none⟩) nK cK) HE.out.nb rfl; have q4 := (World.cell?_of_block (a := ⟨b, off + kk, none⟩) (HE.out.hb.block b hbl)).trans hcl0
      clear hcl0 hcl2
      go_wp2_with (at_builtin; refine wpList_append_rd rfl _ _ 28 rfl i5 (.int .u8 0) 1 Try.underlying28 hi5 hz5 hsz5 hby5 rfl rfl (HE.out.own.alloc (.cells #[.int .u8 (n1 : Int)] 5)) (some ⟨wr.heap.size, 0, none⟩) 1 1 (By [(n1 : Int)]) rfl (rd_oneV wr _ 5) (By_one _) ?a1 ?a2 ?a3 ?_)
      case a1 => unfold maxLen; omega
      case a2 => omega
      case a3 => have := HE.out.hs; simp; omega
      intro A3 c3 v1 ho hg
      rw [← By_append] at ho
      have G1 := Lib.hid ((HE.out.keep (below_alloc wr (.cells #[.int .u8 (n1 : Int)] 5))).grow ho (by simp; omega) hg)
      clear ho hg q1 q4
      have q1 := rc_cell 1 (.slice (some ⟨b, off, none⟩) nK cK) G1.out.nb rfl; have q4 := (World.cell?_of_block (a := ⟨b, off + kk, none⟩) (G1.out.hb.block b hbl)).trans HCK1.out
      go_wp2_with (at_builtin; refine wpList_append_rd rfl _ _ 28 rfl i5 (.int .u8 0) 1 Try.underlying28 hi5 hz5 hsz5 hby5 rfl rfl G1.out.own A1 n1 c1 (By xs) rfl (HXS.out.keep G1.out.hb).1 (By_one _) ?a1 ?a2 ?a3 ?_)
      case a1 => unfold maxLen; omega
      case a2 => omega
      case a3 => exact G1.out.hs
      intro A4 c4 v2 ho hg
      rw [← By_append] at ho
      have G2 := Lib.hid (G1.out.grow ho (by simp [HNL.out]; omega) hg)
      clear ho hg q1 q4
      have q0 := rc_cell 0 (.bool true) G2.out.nb rfl
      go_wp2_with fail
      clear q0
      have D2 := Lib.hid (G2.out.keep ((Dr.refl v2).one.below _))
      have e1 := rc_cell 2 (.slice (some ⟨b', off', none⟩) nV cV) D2.out.nb rfl; have e2 := (World.cell?_of_block (a := ⟨b', off' + kk, none⟩) (D2.out.hb.block b' hbl2)).trans HCK2.out
      have w3 : Hid (IntKind.u8.wrap (IntKind.i64.wrap ((n2 : Int) / 256)) = ((n2 / 256 : Nat) : Int)) := Lib.hid (by rw [show IntKind.i64.wrap ((n2 : Int) / 256) = (n2 : Int) / 256 from IntWalk.i64_in _ (by omega)]; exact u8_is _ _ (by omega) (by omega))
      have w4 : Hid (IntKind.u8.wrap (n2 : Int) = ((n2 % 256 : Nat) : Int)) := Lib.hid (u8_is _ _ (by omega) (by omega))
      have HLL : Hid ((Pk ++ [(n1 : Int)] ++ xs ++ [IntKind.u8.wrap (IntKind.i64.wrap ((n2 : Int) / 256)), IntKind.u8.wrap (n2 : Int)]).length = n + 1 + n1 + 2) := Lib.hid (by simp [HNL.out]; omega)
      have L1 := Lib.hid (G2.out.keep (below_alloc v2 (.cells #[.int .u8 (IntKind.u8.wrap (IntKind.i64.wrap ((n2 : Int) / 256))), .int .u8 (IntKind.u8.wrap (n2 : Int))] 5)))
      have L2 := Lib.hid (L1.out.keep ((Dr.refl _).one.below _))
      have f1 := rc_cell 2 (.slice (some ⟨b', off', none⟩) nV cV) L2.out.nb rfl; have f2 := (World.cell?_of_block (a := ⟨b', off' + kk, none⟩) (L2.out.hb.block b' hbl2)).trans HCK2.out
      go_region_held3 (fun w' => w'.cell? ⟨w.heap.size, 2, none⟩ = some (.slice (some ⟨b', off', none⟩) nV cV) ∧ w'.cell? ⟨b', off' + kk, none⟩ = some (.slice A2 n2 c2)) (first | exact ⟨e1, e2⟩ | exact ⟨f1, f2⟩ | exact ⟨g1, g2⟩) (first | (refine step_append_rd rfl (.tmp 72) (.tmp 88) 28 rfl i5 (.int .u8 0) 1 Try.underlying28 hi5 hz5 hsz5 hby5 rfl (by simp [Act.eval, Act.put]) L2.out.own (some ⟨v2.heap.size, 0, none⟩) 2 2 (By [IntKind.u8.wrap (IntKind.i64.wrap ((n2 : Int) / 256)), IntKind.u8.wrap (n2 : Int)]) (by simp [Act.eval, Act.put]) (Rd.of_block (cs := #[.int .u8 (IntKind.u8.wrap (IntKind.i64.wrap ((n2 : Int) / 256))), .int .u8 (IntKind.u8.wrap (n2 : Int))]) (show ((v2.alloc (.cells #[.int .u8 (IntKind.u8.wrap (IntKind.i64.wrap ((n2 : Int) / 256))), .int .u8 (IntKind.u8.wrap (n2 : Int))] 5)).drew).heap[v2.heap.size]? = _ from heap_alloc_new v2 _) rfl) (By_one _) (by unfold maxLen; omega) (by omega) L2.out.hs ?_; intro A5 c5 v3 ho hg; rw [← By_append] at ho; have G3 := Lib.hid (L2.out.grow ho HLL.out hg); clear ho hg; have g1 := rc_cell 2 (.slice (some ⟨b', off', none⟩) nV cV) G3.out.nb rfl; have g2 := (World.cell?_of_block (a := ⟨b', off' + kk, none⟩) (G3.out.hb.block b' hbl2)).trans HCK2.out))
      clear e1 e2 f1 f2
      go_wp2_with (at_builtin; refine wpList_append_rd rfl _ _ 28 rfl i5 (.int .u8 0) 1 Try.underlying28 hi5 hz5 hsz5 hby5 rfl rfl G3.out.own A2 n2 c2 (By ys) rfl (HYS.out.keep G3.out.hb).1 (By_one _) ?a1 ?a2 ?a3 ?_)
      case a1 => unfold maxLen; omega
      case a2 => omega
      case a3 => exact G3.out.hs
      intro A6 c6 v4 ho hg
      rw [← By_append] at ho
      have G4 := Lib.hid (G3.out.grow ho (by simp [HNL.out, HNL2.out]; omega) hg)
      clear ho hg g1 g2
      rw [w3.out, w4.out] at G4
      have HNX2 := HNX.out
      simp only [List.append_assoc, List.cons_append, List.nil_append] at HNX2 G4
      rw [HNX2] at G4
      clear HNX2
      go_wp2
      go_roundw
      case rel => exact ⟨kk + 1, n + 1 + n1 + 2 + n2, c6, A6, rfl, by go_num, by omega, G4⟩
      case measure => simp [intOf]; omega
    · obtain rfl : nK = kk := by omega
      have hlen := HEL.out nK (Nat.le_refl _)
      have hle : (encP true ks vs ds nK).length ≤ 512 := by rw [hlen]; exact HFA.out
      have hnP := HE.out.len
      obtain ⟨P, HP⟩ : ∃ P, Hid (encP true ks vs ds nK = P) := ⟨_, rfl⟩
      rw [HP.out] at HE hle hnP hlen
      have q1 := rc_cell 1 (.slice AK nK cK) HE.out.nb rfl
      go_wp2_with fail
      clear q1
      go_loopw [6] (fun ov wr => ∃ (m c : Nat) (A : Option Addr), ov = .slice A m c ∧ n ≤ m ∧ m ≤ 512 ∧ Hid (ER w (ndV true AK nK cK AV nV cV AD nD cD) A m c (P ++ List.replicate (m - n) 0) wr)) (fun ov _ => 512 - (match ov with | .slice _ n _ => n | _ => 0))
      case atStart => exact ⟨n, c, A, rfl, Nat.le_refl _, by omega, by rw [Nat.sub_self]; simpa using HE⟩
      case round =>
        obtain ⟨m, c', A', rfl, hnm, hm, HE'⟩ := hrel
        by_cases hlt2 : m < 512
        · go_wp2_with (at_builtin; refine wpList_append_rd rfl _ _ 28 rfl i5 (.int .u8 0) 1 Try.underlying28 hi5 hz5 hsz5 hby5 rfl rfl (HE'.out.own.alloc (.cells #[.int .u8 0] 5)) (some ⟨wr.heap.size, 0, none⟩) 1 1 (By [0]) rfl (rd_oneV wr _ 5) (By_one _) ?a1 ?a2 ?a3 ?_)
          case a1 => unfold maxLen; omega
          case a2 => omega
          case a3 => have := HE'.out.hs; simp; omega
          intro A7 c7 v5 ho hg
          rw [← By_append] at ho
          have G5 := Lib.hid ((HE'.out.keep (below_alloc wr (.cells #[.int .u8 0] 5))).grow ho (by simp; omega) hg)
          clear ho hg
          go_wp2
          go_roundw
          case rel => exact ⟨m + 1, c7, A7, rfl, by omega, by omega, by rw [show m + 1 - n = (m - n) + 1 by omega, List.replicate_succ', ← List.append_assoc]; exact G5⟩
          case measure => show 512 - (m + 1) < 512 - m; omega
        · obtain rfl : m = 512 := by omega
          go_wp2
          go_ret2
          refine ⟨A', c', rfl, ?_, HE'.out.hb⟩
          have h := HE'.out.own
          have e : By (P ++ List.replicate (512 - n) 0) = pgL P := by unfold pgL; rw [By_append, hnP]; simp [By, zer]
          rw [e, ← HP.out] at h
          exact h.mono (Nat.le_succ w.heap.size)
end Go.Proofs.Ytmjjbfcblmmipaa
namespace Go.Proofs.Ytmjjbfcblmmipaa
set_option linter.unusedVariables false
set_option linter.unusedSimpArgs false
open Go.RowKit

set_option maxRecDepth 100000 in
set_option maxHeartbeats 16000000 in
theorem rencodeF_any (AK : Option Addr) (nK cK : Nat) (AV : Option Addr) (nV cV : Nat) (AD : Option Addr) (nD cD : Nat) (ks vs : List (List Int)) (ds : List Int) (w : World) (hx : Bss w AK nK ks) (hy : Bss w AV nV vs) (hz : Ins w AD nD ds)
    (bK : nK ≤ 100000) (bV : nV ≤ 100000) (bD : nD ≤ 100000) (hc : chkN false ks vs ds = 0) (hs : sizeN false ks vs nD ≤ 512) :
    Calls Try.prog 34 #[.agg (ndV false AK nK cK AV nV cV AD nD cD)] w fun e w' => ∃ A c, e = .returned (.tuple #[.slice A 512 c, .int .i64 0]) ∧ Own w' w.heap.size 5 A 512 c (pgL (encP false ks vs ds nK)) ∧ Below w.heap.size w w' := by
  obtain ⟨i5, hi5, hz5, hsz5, hby5⟩ := info_parts info5
  obtain ⟨c1, c2, c3, c4, c5⟩ := chk_ok hc
  have HLK := Lib.hid hx.len; have HLV := Lib.hid hy.len; have HLD := Lib.hid hz.len
  have hVK : nD = nK + 1 := by rw [HLK.out, HLV.out, HLD.out] at c5; unfold badF at c5; simp at c5; omega
  have HM1 := Lib.hid (anyL_mem c1); have HM2 := Lib.hid (anyL_mem c2); have HM3 := Lib.hid (dsB_mem c4)
  obtain ⟨b3, o3, x0, hD, hbl3, _, _, hcl3, HZ0⟩ := hz.get (k := 0) (by omega)
  rw [Nat.add_zero] at hcl3
  have hm3 := HM3.out x0 (List.mem_of_getElem? HZ0.out)
  obtain ⟨n0, hn0⟩ : ∃ n0 : Nat, x0 = (n0 : Int) := ⟨x0.toNat, by omega⟩
  subst hn0 hD
  have hn0b : n0 ≤ 65535 := by omega
  have HX := Lib.hid hx; have HY := Lib.hid hy; have HZ := Lib.hid hz
  have HEL := Lib.hid (fun j (hj : j ≤ nK) => encP_len false ks vs ds (fun e => by cases e) j (by rw [HLK.out]; exact hj))
  have HFA : Hid (frN false ks vs nK ≤ 512) := Lib.hid (by have := fr_allF ks vs nD (by rw [HLK.out]; exact hVK); rw [HLK.out] at this; omega)
  have sK : szW 1 ks ≤ 100000000000000000 := by have := szW_bd 1 64 ks HM1.out; have := HLK.out; omega
  have sV : szW 2 vs ≤ 100000000000000000 := by have := szW_bd 2 128 vs HM2.out; have := HLV.out; omega
  have hKs : nK ≤ 512 := by
    have h1 : ∀ l : List (List Int), l.length ≤ szW 1 l := by intro l; induction l with | nil => simp [szW] | cons x l ih => simp only [szW, List.length_cons]; omega
    have h2 := h1 ks; have := HLK.out; unfold sizeN at hs; omega
  obtain ⟨sz, HSZ⟩ : ∃ sz : Nat, Hid (sizeN false ks vs nD = sz) := ⟨_, rfl⟩
  have hs2 : sz ≤ 512 := by rw [← HSZ.out]; exact hs
  have hds : decide ((512 : Int) < (sz : Int)) = false := by simp; omega
  have HVK := Lib.hid hVK; have HCK := Lib.hid hc
  have hgs : (w.alloc (.cells (ndV false AK nK cK AV nV cV (some ⟨b3, o3, none⟩) nD cD) 66)).heap.size = w.heap.size + 1 := by simp
  have HB := Lib.hid (below_alloc w (.cells (ndV false AK nK cK AV nV cV (some ⟨b3, o3, none⟩) nD cD) 66))
  have BX := Lib.hid (heap_alloc_new w (.cells (ndV false AK nK cK AV nV cV (some ⟨b3, o3, none⟩) nD cD) 66))
  have q0 := rc_cell 0 (.bool false) BX.out rfl; have q1 := rc_cell 1 (.slice AK nK cK) BX.out rfl; have q2 := rc_cell 2 (.slice AV nV cV) BX.out rfl; have q3 := rc_cell 3 (.slice (some ⟨b3, o3, none⟩) nD cD) BX.out rfl
  clear hx hy hz c1 c2 c3 c4 c5 hVK hs hc
  go_enter Try.func34, Try.ntmps34
  go_wp2_with fail
  clear q0 q1 q2 q3
  generalize w.alloc (.cells (ndV false AK nK cK AV nV cV (some ⟨b3, o3, none⟩) nD cD) 66) = y at *
  refine (rcheck_any false AK nK cK AV nV cV (some ⟨b3, o3, none⟩) nD cD ks vs ds y (HX.out.keep HB.out) (HY.out.keep HB.out) (HZ.out.keep HB.out) bK bV bD (fun x hx => Nat.le_trans (HM1.out x hx) (by unfold maxLen; omega))).mono ?_
  rintro e x1 ⟨rfl, hb1⟩
  rw [HCK.out]
  have BX1 := Lib.hid ((hb1.block _ (lt_of_heap BX.out)).trans BX.out); have HB1 := Lib.hid (HB.out.trans (hb1.mono HB.out.size)); have hs1 := hb1.size; rw [hgs] at hs1
  clear hb1 BX HB hgs
  have q0 := rc_cell 0 (.bool false) BX1.out rfl; have q1 := rc_cell 1 (.slice AK nK cK) BX1.out rfl; have q2 := rc_cell 2 (.slice AV nV cV) BX1.out rfl; have q3 := rc_cell 3 (.slice (some ⟨b3, o3, none⟩) nD cD) BX1.out rfl
  go_wp2_with fail
  clear q0 q1 q2 q3
  refine (rsize_any false AK nK cK AV nV cV (some ⟨b3, o3, none⟩) nD cD ks vs x1 (HX.out.keep HB1.out) (HY.out.keep HB1.out) (by omega) (by omega) (by omega) sK sV).mono ?_
  rintro e x2 ⟨rfl, hb2⟩
  rw [HSZ.out]
  have BX2 := Lib.hid ((hb2.block _ (lt_of_heap BX1.out)).trans BX1.out); have HB2 := Lib.hid (HB1.out.trans (hb2.mono HB1.out.size)); have hs3 := hb2.size
  clear hb2 BX1 HB1
  have hs4 : w.heap.size + 1 ≤ x2.heap.size := by omega
  have q0 := rc_cell 0 (.bool false) BX2.out rfl; have q1 := rc_cell 1 (.slice AK nK cK) BX2.out rfl; have q2 := rc_cell 2 (.slice AV nV cV) BX2.out rfl; have q3 := rc_cell 3 (.slice (some ⟨b3, o3, none⟩) nD cD) BX2.out rfl
  have w1 : IntKind.u8.wrap (Int.tdiv (nK : Int) 256) = ((nK / 256 : Nat) : Int) := by rw [quo256]; exact u8_is _ _ (by omega) (by omega)
  have w2 : IntKind.u8.wrap (nK : Int) = ((nK % 256 : Nat) : Int) := u8_is _ _ (by omega) (by omega)
  obtain ⟨P1, HP1⟩ : ∃ P1 : List Int, Hid ([(2 : Int), (nK : Int) / 256, (nK : Int) % 256] = P1) := ⟨_, Lib.hid rfl⟩
  have HPL : Hid (P1.length = 3) := Lib.hid (by rw [← HP1.out]; rfl)
  have E0 : Hid (ER w (ndV false AK nK cK AV nV cV (some ⟨b3, o3, none⟩) nD cD) (some ⟨x2.heap.size, 0, none⟩) 3 3 P1 (x2.alloc (.cells #[.int .u8 2, .int .u8 ((nK : Int) / 256), .int .u8 ((nK : Int) % 256)] 5))) := Lib.hid (by
    have hba := below_alloc x2 (.cells #[.int .u8 2, .int .u8 ((nK : Int) / 256), .int .u8 ((nK : Int) % 256)] 5)
    refine ⟨(hba.block _ (lt_of_heap BX2.out)).trans BX2.out, ?_, HPL.out, by have := hba.size; omega, HB2.out.trans (hba.mono HB2.out.size)⟩
    rw [← HP1.out]
    exact Own.of_block (heap_alloc_new x2 _) hs4 rfl (by unfold maxLen; omega))
  have r0 := rc_cell 0 (.bool false) E0.out.nb rfl
  clear w1 w2
  go_wp2_with fail
  clear q0 q1 q2 q3 r0
  generalize (x2.alloc (.cells #[.int .u8 2, .int .u8 ((nK : Int) / 256), .int .u8 ((nK : Int) % 256)] 5)) = y2 at *
  generalize (some ⟨x2.heap.size, 0, none⟩ : Option Addr) = A0 at *
  clear BX2 HB2 hs3 hs1 hs4
  have HC3 := Lib.hid hcl3
  clear hcl3
  have z00 : (0 : Int) < (nD : Int) := by have := HVK.out; omega
  have z01 : 0 < nD := by omega
  have z02 : decide ((0 : Int) < (nD : Int)) = true := by simp; omega
  have w3 : Hid (IntKind.u8.wrap (IntKind.i64.wrap ((n0 : Int) / 256)) = ((n0 / 256 : Nat) : Int)) := Lib.hid (by rw [show IntKind.i64.wrap ((n0 : Int) / 256) = (n0 : Int) / 256 from IntWalk.i64_in _ (by omega)]; exact u8_is _ _ (by omega) (by omega))
  have w4 : Hid (IntKind.u8.wrap (n0 : Int) = ((n0 % 256 : Nat) : Int)) := Lib.hid (u8_is _ _ (by omega) (by omega))
  have HLL : Hid ((P1 ++ [IntKind.u8.wrap (IntKind.i64.wrap ((n0 : Int) / 256)), IntKind.u8.wrap (n0 : Int)]).length = 3 + 2) := Lib.hid (by simp [HPL.out])
  have D2 := Lib.hid (E0.out.keep ((Dr.refl y2).one.below _))
  have e1 := rc_cell 3 (.slice (some ⟨b3, o3, none⟩) nD cD) D2.out.nb rfl; have e2 := (World.cell?_of_block (a := ⟨b3, o3, none⟩) (D2.out.hb.block b3 hbl3)).trans HC3.out
  have L1 := Lib.hid (E0.out.keep (below_alloc y2 (.cells #[.int .u8 (IntKind.u8.wrap (IntKind.i64.wrap ((n0 : Int) / 256))), .int .u8 (IntKind.u8.wrap (n0 : Int))] 5)))
  have L2 := Lib.hid (L1.out.keep ((Dr.refl _).one.below _))
  have f1 := rc_cell 3 (.slice (some ⟨b3, o3, none⟩) nD cD) L2.out.nb rfl; have f2 := (World.cell?_of_block (a := ⟨b3, o3, none⟩) (L2.out.hb.block b3 hbl3)).trans HC3.out
  go_region_held3 (fun w' => w'.cell? ⟨w.heap.size, 3, none⟩ = some (.slice (some ⟨b3, o3, none⟩) nD cD) ∧ w'.cell? ⟨b3, o3, none⟩ = some (.int .i64 (n0 : Int))) (first | exact ⟨e1, e2⟩ | exact ⟨f1, f2⟩ | exact ⟨g1, g2⟩) (first | (refine step_append_rd rfl (.tmp 32) (.tmp 44) 28 rfl i5 (.int .u8 0) 1 Try.underlying28 hi5 hz5 hsz5 hby5 rfl (by simp [Act.eval, Act.put]) L2.out.own (some ⟨y2.heap.size, 0, none⟩) 2 2 (By [IntKind.u8.wrap (IntKind.i64.wrap ((n0 : Int) / 256)), IntKind.u8.wrap (n0 : Int)]) (by simp [Act.eval, Act.put]) (Rd.of_block (cs := #[.int .u8 (IntKind.u8.wrap (IntKind.i64.wrap ((n0 : Int) / 256))), .int .u8 (IntKind.u8.wrap (n0 : Int))]) (show ((y2.alloc (.cells #[.int .u8 (IntKind.u8.wrap (IntKind.i64.wrap ((n0 : Int) / 256))), .int .u8 (IntKind.u8.wrap (n0 : Int))] 5)).drew).heap[y2.heap.size]? = _ from heap_alloc_new y2 _) rfl) (By_one _) (by unfold maxLen; omega) (by omega) L2.out.hs ?_; intro A9 c9 y3 ho hg; rw [← By_append] at ho; have E1 := Lib.hid (L2.out.grow ho HLL.out hg); clear ho hg; have g1 := rc_cell 3 (.slice (some ⟨b3, o3, none⟩) nD cD) E1.out.nb rfl; have g2 := (World.cell?_of_block (a := ⟨b3, o3, none⟩) (E1.out.hb.block b3 hbl3)).trans HC3.out))
  clear e1 e2 f1 f2 g1 g2
  have HPE : Hid (P1 ++ [((n0 / 256 : Nat) : Int), ((n0 % 256 : Nat) : Int)] = encP false ks vs ds 0) := Lib.hid (by
    rw [← HP1.out, encP, if_neg (by simp), if_neg (by simp), getD_of HZ0.out, HLK.out]; simp [tw])
  rw [w3.out, w4.out, HPE.out] at E1
  clear w3 w4 HLL D2 L1 L2
  go_wp2_with fail
  try simp only [Nat.reduceAdd]
  generalize IntKind.u8.wrap (IntKind.i64.wrap ((n0 : Int) / 256)) = X1
  generalize IntKind.i64.wrap ((n0 : Int) / 256) = X2
  generalize IntKind.u8.wrap (n0 : Int) = X3
  go_loopw [6, 7] (fun ov iv wr => ∃ (kk n c : Nat) (A : Option Addr), ov = .slice A n c ∧ iv = .int .i64 (kk : Int) ∧ kk ≤ nK ∧ Hid (ER w (ndV false AK nK cK AV nV cV (some ⟨b3, o3, none⟩) nD cD) A n c (encP false ks vs ds kk) wr)) (fun _ iv _ => nK - (intOf iv).toNat)
  case atStart => exact ⟨0, 5, c9, A9, rfl, rfl, Nat.zero_le _, E1⟩
  case round =>
    obtain ⟨kk, n, c, A, rfl, rfl, hk, HE⟩ := hrel
    by_cases hlt : kk < nK
    · obtain ⟨b, off, A1, n1, c1, xs, hA, hbl, hcl0, hxs, hnc, HXK⟩ := HX.out.at_ hlt
      have HXS := Lib.hid hxs; have HNL := Lib.hid hxs.len; have hn1 : n1 ≤ 64 := by rw [← hxs.len]; exact HM1.out _ (List.mem_of_getElem? HXK.out)
      have z0 : (0 : Int) ≤ (kk : Int) := by omega
      have z1 : (kk : Int) < (nK : Int) := by omega
      obtain ⟨Pk, HPK⟩ : ∃ Pk, Hid (encP false ks vs ds kk = Pk) := ⟨_, rfl⟩
      have hlen := HEL.out kk hk
      have hmono := fr_mono false ks vs (kk + 1) nK hlt
      have hfa := HFA.out
      obtain ⟨b4, o4, x1', hD4, hbl4, _, _, hcl4, HZ1⟩ := HZ.out.get (k := kk + 1) (by have := HVK.out; omega)
      injection hD4 with hD4; injection hD4 with e4 e5 _; subst e4 e5
      have hm4 := HM3.out x1' (List.mem_of_getElem? HZ1.out)
      obtain ⟨n2, hn2⟩ : ∃ n2 : Nat, x1' = (n2 : Int) := ⟨x1'.toNat, by omega⟩
      subst hn2
      have hn2b : n2 ≤ 65535 := by omega
      have hwk : IntKind.i64.wrap ((kk : Int) + 1) = (kk : Int) + 1 := IntWalk.i64_in _ (by omega)
      have z2' : (0 : Int) ≤ (kk : Int) + 1 := by omega
      have z3' : (kk : Int) + 1 < (nD : Int) := by have := HVK.out; omega
      have hst := fr_fork ks vs kk xs HXK.out
      rw [HNL.out] at hst
      rw [HPK.out] at hlen
      have hnP : Pk.length = n := by have := HE.out.len; rw [HPK.out] at this; exact this
      have hroom : n + 1 + n1 + 2 ≤ 512 := by omega
      have HNX : Hid (((Pk ++ [(n1 : Int)]) ++ xs) ++ [((n2 / 256 : Nat) : Int), ((n2 % 256 : Nat) : Int)] = encP false ks vs ds (kk + 1)) := Lib.hid (by rw [encP, HPK.out, if_neg (by simp), getD_of HXK.out, getD_of HZ1.out, HNL.out]; simp [tw])
      rw [HPK.out] at HE
      subst hA
      have m1 : ((n1 : Int) % 256) = (n1 : Int) := by omega
      clear hxs hnc hst hlen hmono hfa hm4
      have HCK1 := Lib.hid hcl0; have HC4 := Lib.hid hcl4
      have hbk := Lib.hid HE.out.hb
      have q1 := rc_cell 1 (.slice (some ⟨b, off, none⟩) nK cK) HE.out.nb rfl; have q4 := (World.cell?_of_block (a := ⟨b, off + kk, none⟩) (HE.out.hb.block b hbl)).trans hcl0
      clear hcl0 hcl4
      go_wp2_with (at_builtin; refine wpList_append_rd rfl _ _ 28 rfl i5 (.int .u8 0) 1 Try.underlying28 hi5 hz5 hsz5 hby5 rfl rfl (HE.out.own.alloc (.cells #[.int .u8 (n1 : Int)] 5)) (some ⟨wr.heap.size, 0, none⟩) 1 1 (By [(n1 : Int)]) rfl (rd_oneV wr _ 5) (By_one _) ?a1 ?a2 ?a3 ?_)
      case a1 => unfold maxLen; omega
      case a2 => omega
      case a3 => have := HE.out.hs; simp; omega
      intro A3 c3 v1 ho hg
      rw [← By_append] at ho
      have G1 := Lib.hid ((HE.out.keep (below_alloc wr (.cells #[.int .u8 (n1 : Int)] 5))).grow ho (by simp; omega) hg)
      clear ho hg q1 q4
      have q1 := rc_cell 1 (.slice (some ⟨b, off, none⟩) nK cK) G1.out.nb rfl; have q4 := (World.cell?_of_block (a := ⟨b, off + kk, none⟩) (G1.out.hb.block b hbl)).trans HCK1.out
      go_wp2_with (at_builtin; refine wpList_append_rd rfl _ _ 28 rfl i5 (.int .u8 0) 1 Try.underlying28 hi5 hz5 hsz5 hby5 rfl rfl G1.out.own A1 n1 c1 (By xs) rfl (HXS.out.keep G1.out.hb).1 (By_one _) ?a1 ?a2 ?a3 ?_)
      case a1 => unfold maxLen; omega
      case a2 => omega
      case a3 => exact G1.out.hs
      intro A4 c4 v2 ho hg
      rw [← By_append] at ho
      have G2 := Lib.hid (G1.out.grow ho (by simp [HNL.out]; omega) hg)
      clear ho hg q1 q4
      have q0 := rc_cell 0 (.bool false) G2.out.nb rfl
      go_wp2_with fail
      clear q0
      have w3 : Hid (IntKind.u8.wrap (IntKind.i64.wrap ((n2 : Int) / 256)) = ((n2 / 256 : Nat) : Int)) := Lib.hid (by rw [show IntKind.i64.wrap ((n2 : Int) / 256) = (n2 : Int) / 256 from IntWalk.i64_in _ (by omega)]; exact u8_is _ _ (by omega) (by omega))
      have w4 : Hid (IntKind.u8.wrap (n2 : Int) = ((n2 % 256 : Nat) : Int)) := Lib.hid (u8_is _ _ (by omega) (by omega))
      have HLL : Hid (((Pk ++ [(n1 : Int)] ++ xs) ++ [IntKind.u8.wrap (IntKind.i64.wrap ((n2 : Int) / 256)), IntKind.u8.wrap (n2 : Int)]).length = n + 1 + n1 + 2) := Lib.hid (by simp [HNL.out]; omega)
      have D2 := Lib.hid (G2.out.keep ((Dr.refl v2).one.below _))
      have e1 := rc_cell 3 (.slice (some ⟨b3, o3, none⟩) nD cD) D2.out.nb rfl; have e2 := (World.cell?_of_block (a := ⟨b3, o3 + (kk + 1), none⟩) (D2.out.hb.block b3 hbl3)).trans HC4.out
      have L1 := Lib.hid (G2.out.keep (below_alloc v2 (.cells #[.int .u8 (IntKind.u8.wrap (IntKind.i64.wrap ((n2 : Int) / 256))), .int .u8 (IntKind.u8.wrap (n2 : Int))] 5)))
      have L2 := Lib.hid (L1.out.keep ((Dr.refl _).one.below _))
      have f1 := rc_cell 3 (.slice (some ⟨b3, o3, none⟩) nD cD) L2.out.nb rfl; have f2 := (World.cell?_of_block (a := ⟨b3, o3 + (kk + 1), none⟩) (L2.out.hb.block b3 hbl3)).trans HC4.out
      go_region_held3 (fun w' => w'.cell? ⟨w.heap.size, 3, none⟩ = some (.slice (some ⟨b3, o3, none⟩) nD cD) ∧ w'.cell? ⟨b3, o3 + (kk + 1), none⟩ = some (.int .i64 (n2 : Int))) (first | exact ⟨e1, e2⟩ | exact ⟨f1, f2⟩ | exact ⟨g1, g2⟩) (first | (refine step_append_rd rfl (.tmp 97) (.tmp 113) 28 rfl i5 (.int .u8 0) 1 Try.underlying28 hi5 hz5 hsz5 hby5 rfl (by simp [Act.eval, Act.put]) L2.out.own (some ⟨v2.heap.size, 0, none⟩) 2 2 (By [IntKind.u8.wrap (IntKind.i64.wrap ((n2 : Int) / 256)), IntKind.u8.wrap (n2 : Int)]) (by simp [Act.eval, Act.put]) (Rd.of_block (cs := #[.int .u8 (IntKind.u8.wrap (IntKind.i64.wrap ((n2 : Int) / 256))), .int .u8 (IntKind.u8.wrap (n2 : Int))]) (show ((v2.alloc (.cells #[.int .u8 (IntKind.u8.wrap (IntKind.i64.wrap ((n2 : Int) / 256))), .int .u8 (IntKind.u8.wrap (n2 : Int))] 5)).drew).heap[v2.heap.size]? = _ from heap_alloc_new v2 _) rfl) (By_one _) (by unfold maxLen; omega) (by omega) L2.out.hs ?_; intro A5 c5 v3 ho hg; rw [← By_append] at ho; have G3 := Lib.hid (L2.out.grow ho HLL.out hg); clear ho hg; have g1 := rc_cell 3 (.slice (some ⟨b3, o3, none⟩) nD cD) G3.out.nb rfl; have g2 := (World.cell?_of_block (a := ⟨b3, o3 + (kk + 1), none⟩) (G3.out.hb.block b3 hbl3)).trans HC4.out))
      clear e1 e2 f1 f2 g1 g2
      rw [w3.out, w4.out] at G3
      have HNX2 := HNX.out
      simp only [List.append_assoc, List.cons_append, List.nil_append] at HNX2 G3
      rw [HNX2] at G3
      clear HNX2
      go_wp2
      go_roundw
      case rel => exact ⟨kk + 1, n + 1 + n1 + 2, c5, A5, rfl, by go_num, by omega, G3⟩
      case measure => simp [intOf]; omega
    · obtain rfl : nK = kk := by omega
      have hlen := HEL.out nK (Nat.le_refl _)
      have hle : (encP false ks vs ds nK).length ≤ 512 := by rw [hlen]; exact HFA.out
      have hnP := HE.out.len
      obtain ⟨P, HP⟩ : ∃ P, Hid (encP false ks vs ds nK = P) := ⟨_, rfl⟩
      rw [HP.out] at HE hle hnP hlen
      have q1 := rc_cell 1 (.slice AK nK cK) HE.out.nb rfl
      go_wp2_with fail
      clear q1
      go_loopw [6] (fun ov wr => ∃ (m c : Nat) (A : Option Addr), ov = .slice A m c ∧ n ≤ m ∧ m ≤ 512 ∧ Hid (ER w (ndV false AK nK cK AV nV cV (some ⟨b3, o3, none⟩) nD cD) A m c (P ++ List.replicate (m - n) 0) wr)) (fun ov _ => 512 - (match ov with | .slice _ n _ => n | _ => 0))
      case atStart => exact ⟨n, c, A, rfl, Nat.le_refl _, by omega, by rw [Nat.sub_self]; simpa using HE⟩
      case round =>
        obtain ⟨m, c', A', rfl, hnm, hm, HE'⟩ := hrel
        by_cases hlt2 : m < 512
        · go_wp2_with (at_builtin; refine wpList_append_rd rfl _ _ 28 rfl i5 (.int .u8 0) 1 Try.underlying28 hi5 hz5 hsz5 hby5 rfl rfl (HE'.out.own.alloc (.cells #[.int .u8 0] 5)) (some ⟨wr.heap.size, 0, none⟩) 1 1 (By [0]) rfl (rd_oneV wr _ 5) (By_one _) ?a1 ?a2 ?a3 ?_)
          case a1 => unfold maxLen; omega
          case a2 => omega
          case a3 => have := HE'.out.hs; simp; omega
          intro A7 c7 v5 ho hg
          rw [← By_append] at ho
          have G5 := Lib.hid ((HE'.out.keep (below_alloc wr (.cells #[.int .u8 0] 5))).grow ho (by simp; omega) hg)
          clear ho hg
          go_wp2
          go_roundw
          case rel => exact ⟨m + 1, c7, A7, rfl, by omega, by omega, by rw [show m + 1 - n = (m - n) + 1 by omega, List.replicate_succ', ← List.append_assoc]; exact G5⟩
          case measure => show 512 - (m + 1) < 512 - m; omega
        · obtain rfl : m = 512 := by omega
          go_wp2
          go_ret2
          refine ⟨A', c', rfl, ?_, HE'.out.hb⟩
          have h := HE'.out.own
          have e : By (P ++ List.replicate (512 - n) 0) = pgL P := by unfold pgL; rw [By_append, hnP]; simp [By, zer]
          rw [e, ← HP.out] at h
          exact h.mono (Nat.le_succ w.heap.size)
end Go.Proofs.Ytmjjbfcblmmipaa
namespace Go.Proofs.Ytmjjbfcblmmipaa
set_option linter.unusedVariables false
set_option linter.unusedSimpArgs false
open Go.RowKit
set_option maxRecDepth 100000 in
set_option maxHeartbeats 8000000 in
theorem rencodeBad_any (lf : Bool) (AK : Option Addr) (nK cK : Nat) (AV : Option Addr) (nV cV : Nat) (AD : Option Addr) (nD cD : Nat) (ks vs : List (List Int)) (ds : List Int) (w : World) (hx : Bss w AK nK ks) (hy : Bss w AV nV vs) (hz : Ins w AD nD ds)
    (bK : nK ≤ 100000) (bV : nV ≤ 100000) (bD : nD ≤ 100000) (sK : ∀ xs ∈ ks, xs.length ≤ 1048576) (tK : szW 1 ks ≤ 100000000000000000) (tV : szW 2 vs ≤ 100000000000000000) (c : Nat) (hc : chkN lf ks vs ds = c) (h0 : c ≠ 0) :
    Calls Try.prog 34 #[.agg (ndV lf AK nK cK AV nV cV AD nD cD)] w fun e w' => e = .returned (.tuple #[.slice none 0 0, .int .i64 (c : Int)]) ∧ Below w.heap.size w w' := by
  have HX := Lib.hid hx; have HY := Lib.hid hy; have HZ := Lib.hid hz; have HCK := Lib.hid hc; have HSK := Lib.hid sK
  have HB := Lib.hid (below_alloc w (.cells (ndV lf AK nK cK AV nV cV AD nD cD) 66))
  have BX := Lib.hid (heap_alloc_new w (.cells (ndV lf AK nK cK AV nV cV AD nD cD) 66))
  have q0 := rc_cell 0 (.bool lf) BX.out rfl; have q1 := rc_cell 1 (.slice AK nK cK) BX.out rfl; have q2 := rc_cell 2 (.slice AV nV cV) BX.out rfl; have q3 := rc_cell 3 (.slice AD nD cD) BX.out rfl
  clear hx hy hz hc sK
  have d1 : ((c : Int) != 0) = true := by rw [bne_iff_ne]; omega
  clear h0
  go_enter Try.func34, Try.ntmps34
  go_wp2_with fail
  clear q0 q1 q2 q3
  generalize w.alloc (.cells (ndV lf AK nK cK AV nV cV AD nD cD) 66) = y at *
  refine (rcheck_any lf AK nK cK AV nV cV AD nD cD ks vs ds y (HX.out.keep HB.out) (HY.out.keep HB.out) (HZ.out.keep HB.out) bK bV bD (fun x hx => Nat.le_trans (HSK.out x hx) (by unfold maxLen; omega))).mono ?_
  rintro e x1 ⟨rfl, hb1⟩
  rw [HCK.out]
  have BX1 := Lib.hid ((hb1.block _ (lt_of_heap BX.out)).trans BX.out); have HB1 := Lib.hid (HB.out.trans (hb1.mono HB.out.size)); clear hb1
  have q0 := rc_cell 0 (.bool lf) BX1.out rfl; have q1 := rc_cell 1 (.slice AK nK cK) BX1.out rfl; have q2 := rc_cell 2 (.slice AV nV cV) BX1.out rfl; have q3 := rc_cell 3 (.slice AD nD cD) BX1.out rfl
  go_wp2
  go_ret2
  exact ⟨rfl, HB1.out⟩
set_option maxRecDepth 100000 in
set_option maxHeartbeats 8000000 in
theorem rencodeFull_any (lf : Bool) (AK : Option Addr) (nK cK : Nat) (AV : Option Addr) (nV cV : Nat) (AD : Option Addr) (nD cD : Nat) (ks vs : List (List Int)) (ds : List Int) (w : World) (hx : Bss w AK nK ks) (hy : Bss w AV nV vs) (hz : Ins w AD nD ds)
    (bK : nK ≤ 100000) (bV : nV ≤ 100000) (bD : nD ≤ 100000) (sK : ∀ xs ∈ ks, xs.length ≤ 1048576) (tK : szW 1 ks ≤ 100000000000000000) (tV : szW 2 vs ≤ 100000000000000000) (hc : chkN lf ks vs ds = 0) (s : Nat) (hs : sizeN lf ks vs nD = s) (h0 : 512 < s) :
    Calls Try.prog 34 #[.agg (ndV lf AK nK cK AV nV cV AD nD cD)] w fun e w' => e = .returned (.tuple #[.slice none 0 0, .int .i64 8]) ∧ Below w.heap.size w w' := by
  have HX := Lib.hid hx; have HY := Lib.hid hy; have HZ := Lib.hid hz; have HCK := Lib.hid hc; have HSK := Lib.hid sK
  have HSS := Lib.hid hs
  have HB := Lib.hid (below_alloc w (.cells (ndV lf AK nK cK AV nV cV AD nD cD) 66))
  have BX := Lib.hid (heap_alloc_new w (.cells (ndV lf AK nK cK AV nV cV AD nD cD) 66))
  have q0 := rc_cell 0 (.bool lf) BX.out rfl; have q1 := rc_cell 1 (.slice AK nK cK) BX.out rfl; have q2 := rc_cell 2 (.slice AV nV cV) BX.out rfl; have q3 := rc_cell 3 (.slice AD nD cD) BX.out rfl
  clear hx hy hz hc sK hs
  have d1 : decide ((512 : Int) < (s : Int)) = true := by simp; omega
  clear h0
  go_enter Try.func34, Try.ntmps34
  go_wp2_with fail
  clear q0 q1 q2 q3
  generalize w.alloc (.cells (ndV lf AK nK cK AV nV cV AD nD cD) 66) = y at *
  refine (rcheck_any lf AK nK cK AV nV cV AD nD cD ks vs ds y (HX.out.keep HB.out) (HY.out.keep HB.out) (HZ.out.keep HB.out) bK bV bD (fun x hx => Nat.le_trans (HSK.out x hx) (by unfold maxLen; omega))).mono ?_
  rintro e x1 ⟨rfl, hb1⟩
  rw [HCK.out]
  have BX1 := Lib.hid ((hb1.block _ (lt_of_heap BX.out)).trans BX.out); have HB1 := Lib.hid (HB.out.trans (hb1.mono HB.out.size)); clear hb1
  have q0 := rc_cell 0 (.bool lf) BX1.out rfl; have q1 := rc_cell 1 (.slice AK nK cK) BX1.out rfl; have q2 := rc_cell 2 (.slice AV nV cV) BX1.out rfl; have q3 := rc_cell 3 (.slice AD nD cD) BX1.out rfl
  go_wp2_with fail
  clear q0 q1 q2 q3
  refine (rsize_any lf AK nK cK AV nV cV AD nD cD ks vs x1 (HX.out.keep HB1.out) (HY.out.keep HB1.out) (by omega) (by omega) (by omega) tK tV).mono ?_
  rintro e x2 ⟨rfl, hb2⟩
  rw [HSS.out]
  have HB2 := Lib.hid (HB1.out.trans (hb2.mono HB1.out.size)); clear hb2
  go_wp2
  go_ret2
  exact ⟨rfl, HB2.out⟩
end Go.Proofs.Ytmjjbfcblmmipaa
