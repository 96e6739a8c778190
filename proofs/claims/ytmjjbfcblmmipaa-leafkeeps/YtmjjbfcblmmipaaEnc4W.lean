/- leaf.Encode of a fork in form that fits; of a node out of form; of one too great. -/
import Derived.Test.YtmjjbfcblmmipaaAwkL
namespace Go.Proofs.Ytmjjbfcblmmipaa
set_option linter.unusedVariables false
set_option linter.unusedSimpArgs false
open Go.RowKit

set_option maxRecDepth 100000 in
set_option maxHeartbeats 16000000 in
theorem encodeF_any (AK : Option Addr) (nK cK : Nat) (AV : Option Addr) (nV cV : Nat) (AD : Option Addr) (nD cD : Nat) (ks vs : List (List Int)) (ds : List Int) (w : World) (hx : Bss w AK nK ks) (hy : Bss w AV nV vs) (hz : Ins w AD nD ds)
    (bK : nK ≤ 1048576) (bV : nV ≤ 1048576) (bD : nD ≤ 1048576) (hc : chkN false ks vs ds = 0) (hs : sizeN false ks vs nD ≤ 512) :
    Calls Try.prog 32 #[.agg (ndV false AK nK cK AV nV cV AD nD cD)] w fun e w' => ∃ pg, e = .returned (.tuple #[.slice (some ⟨pg, 0, none⟩) 512 512, .int .i64 0]) ∧ Own w' w.heap.size 5 (some ⟨pg, 0, none⟩) 512 512 (pgL (encP false ks vs ds nK)) ∧ Below w.heap.size w w' := by
  obtain ⟨i5, hi5, hz5, hsz5, hby5⟩ := info_parts info5
  have mk : ∀ W : World, (Instr.makeSlice 28 (.int .i64 512) (.int .i64 512)).run Try.prog W = .ok (.slice (some ⟨W.heap.size, 0, none⟩) 512 512) (W.alloc (.cells (zerA 512) 5)) := fun W => run_make_bytes 28 5 i5 Try.underlying28 hi5 hz5 hsz5 hby5 512 512 rfl (by omega) W
  obtain ⟨c1, c2, c3, c4, c5⟩ := chk_ok hc
  have HLK := Lib.hid hx.len; have HLV := Lib.hid hy.len; have HLD := Lib.hid hz.len
  have hVK : nD = nK + 1 := by rw [HLK.out, HLV.out, HLD.out] at c5; unfold badF at c5; simp at c5; omega
  have HM1 := Lib.hid (anyL_mem c1); have HM2 := Lib.hid (anyL_mem c2); have HM3 := Lib.hid (dsB_mem c4)
  obtain ⟨b3, o3, x0, hD, hbl3, _, _, hcl3, HZ0⟩ := hz.get (k := 0) (by omega)
  rw [Nat.add_zero] at hcl3
  have hm3 := HM3.out x0 (List.mem_of_getElem? HZ0.out)
  obtain ⟨n0, hn0⟩ : ∃ n0 : Nat, x0 = (n0 : Int) := ⟨x0.toNat, by omega⟩
  subst hn0 hD
  have hn0b : n0 ≤ 65535 := by omega
  have HX := Lib.hid hx; have HY := Lib.hid hy; have HZ := Lib.hid hz
  have HEL := Lib.hid (fun j (hj : j ≤ nK) => encP_len false ks vs ds (fun e => by cases e) j (by rw [HLK.out]; exact hj))
  have HFA : Hid (frN false ks vs nK ≤ 512) := Lib.hid (by have := fr_allF ks vs nD (by rw [HLK.out]; exact hVK); rw [HLK.out] at this; omega)
  have sK : szW 1 ks ≤ 100000000000000000 := by have := szW_bd 1 64 ks HM1.out; have := HLK.out; omega
  have sV : szW 2 vs ≤ 100000000000000000 := by have := szW_bd 2 128 vs HM2.out; have := HLV.out; omega
  have hKs : nK ≤ 512 := by
    have h1 : ∀ l : List (List Int), l.length ≤ szW 1 l := by intro l; induction l with | nil => simp [szW] | cons x l ih => simp only [szW, List.length_cons]; omega
    have h2 := h1 ks; have := HLK.out; unfold sizeN at hs; omega
  obtain ⟨sz, HSZ⟩ : ∃ sz : Nat, Hid (sizeN false ks vs nD = sz) := ⟨_, rfl⟩
  have hs2 : sz ≤ 512 := by rw [← HSZ.out]; exact hs
  have hds : decide ((512 : Int) < (sz : Int)) = false := by simp; omega
  have HVK := Lib.hid hVK; have HCK := Lib.hid hc
  have hgs : (w.alloc (.cells (ndV false AK nK cK AV nV cV (some ⟨b3, o3, none⟩) nD cD) 70)).heap.size = w.heap.size + 1 := by simp
  have HB := Lib.hid (below_alloc w (.cells (ndV false AK nK cK AV nV cV (some ⟨b3, o3, none⟩) nD cD) 70))
  have BX := Lib.hid (heap_alloc_new w (.cells (ndV false AK nK cK AV nV cV (some ⟨b3, o3, none⟩) nD cD) 70))
  have q0 := rc_cell 0 (.bool false) BX.out rfl; have q1 := rc_cell 1 (.slice AK nK cK) BX.out rfl; have q2 := rc_cell 2 (.slice AV nV cV) BX.out rfl; have q3 := rc_cell 3 (.slice (some ⟨b3, o3, none⟩) nD cD) BX.out rfl
  clear hx hy hz c1 c2 c3 c4 c5 hVK hs hc hm3
  go_enter Try.func32, Try.ntmps32
  go_wp2_with fail
  clear q0 q1 q2 q3
  generalize w.alloc (.cells (ndV false AK nK cK AV nV cV (some ⟨b3, o3, none⟩) nD cD) 70) = y at *
  refine (check_any false AK nK cK AV nV cV (some ⟨b3, o3, none⟩) nD cD ks vs ds y (HX.out.keep HB.out) (HY.out.keep HB.out) (HZ.out.keep HB.out) bK bV bD (fun x hx => Nat.le_trans (HM1.out x hx) (by unfold maxLen; omega))).mono ?_
  rintro e x1 ⟨rfl, hb1⟩
  rw [HCK.out]
  have BX1 := Lib.hid ((hb1.block _ (lt_of_heap BX.out)).trans BX.out); have HB1 := Lib.hid (HB.out.trans (hb1.mono HB.out.size)); have hs1 := hb1.size; rw [hgs] at hs1
  clear hb1 BX HB hgs
  have q0 := rc_cell 0 (.bool false) BX1.out rfl; have q1 := rc_cell 1 (.slice AK nK cK) BX1.out rfl; have q2 := rc_cell 2 (.slice AV nV cV) BX1.out rfl; have q3 := rc_cell 3 (.slice (some ⟨b3, o3, none⟩) nD cD) BX1.out rfl
  go_wp2_with fail
  clear q0 q1 q2 q3
  refine (size_any false AK nK cK AV nV cV (some ⟨b3, o3, none⟩) nD cD ks vs x1 (HX.out.keep HB1.out) (HY.out.keep HB1.out) (by omega) (by omega) (by omega) sK sV).mono ?_
  rintro e x2 ⟨rfl, hb2⟩
  rw [HSZ.out]
  have BX2 := Lib.hid ((hb2.block _ (lt_of_heap BX1.out)).trans BX1.out); have HB2 := Lib.hid (HB1.out.trans (hb2.mono HB1.out.size)); have hs3 := hb2.size
  clear hb2 BX1 HB1
  have E0 : Hid (ES w (ndV false AK nK cK AV nV cV (some ⟨b3, o3, none⟩) nD cD) x2.heap.size [] ((((x2.alloc (.cells (zerA 512) 5)).alloc (.cells #[.slice (some ⟨x2.heap.size, 0, none⟩) 512 512] 28)).alloc (.cells #[.int .i64 0] 3)).alloc (.cells #[oneF x2.heap.size] 125))) := Lib.hid (by
      have A4 := alloc4 x2 (zerA 512) #[.slice (some ⟨x2.heap.size, 0, none⟩) 512 512] #[.int .i64 0] #[oneF x2.heap.size] 5 28 3 125
      exact ⟨(A4.2.2.2.2.block _ (lt_of_heap BX2.out)).trans BX2.out, ⟨by rw [pgA_nil]; exact A4.1, A4.2.1, A4.2.2.1⟩, A4.2.2.2.1, by omega, HB2.out.trans (A4.2.2.2.2.mono HB2.out.size)⟩)
  go_upto_region 11 with fail
  generalize ((((x2.alloc (.cells (zerA 512) 5)).alloc (.cells #[.slice (some ⟨x2.heap.size, 0, none⟩) 512 512] 28)).alloc (.cells #[.int .i64 0] 3)).alloc (.cells #[oneF x2.heap.size] 125)) = y2 at *
  generalize x2.heap.size = pg at *
  clear BX2 HB2 hs3 hs1 mk
  have Ed : Hid (ES w (ndV false AK nK cK AV nV cV (some ⟨b3, o3, none⟩) nD cD) pg [] y2.drew) := Lib.hid (E0.out.keep ((Dr.refl y2).one.below _))
  refine wp_region_held_drew (S := fun w' => w'.cell? ⟨w.heap.size, 0, none⟩ = some (.bool false) ∧ w'.cell? ⟨w.heap.size, 1, none⟩ = some (.slice AK nK cK) ∧ w'.cell? ⟨w.heap.size, 2, none⟩ = some (.slice AV nV cV) ∧ w'.cell? ⟨w.heap.size, 3, none⟩ = some (.slice (some ⟨b3, o3, none⟩) nD cD) ∧ w'.cell? ⟨pg + 1 + 1 + 1, 0, none⟩ = some (oneF pg)) (by kernel_rfl) (nd4 Ed.out.nb (rc_cell 0 (oneF pg) Ed.out.g7 rfl)) (fun hH0 => ?_)
  generalize y2.drew = yd at *
  refine wpAnyH_take (i := 0) (oi := { dst := some 24, op := Op.load 125 (Operand.tmp 7), type := 125, pos := _, after := #[], guard := none }) (v := ?vk1_0) rfl (by kernel_rfl) (by kernel_rfl) (by kernel_rfl) (fun _ _ _ h => h) (Or.inl ⟨by rfl, ?yk1_0⟩) hH0 ?rk1_0
  case yk1_0 => (intro w hSw; (try dsimp only at hSw); go_simp; try (with_reducible rfl))
  try simp only [Act.put, List.setIfInBounds_toArray, List.set_cons_zero, List.set_cons_succ]
  refine wpAnyH_take (i := 1) (oi := { dst := some 25, op := Op.load 70 (Operand.tmp 1), type := 70, pos := _, after := #[], guard := none }) (v := ?vk1_1) rfl (by kernel_rfl) (by kernel_rfl) (by kernel_rfl) (fun _ _ _ h => h) (Or.inl ⟨by rfl, ?yk1_1⟩) hH0 ?rk1_1
  case yk1_1 => (intro w hSw; (try dsimp only at hSw); go_simp; try (with_reducible rfl))
  try simp only [Act.put, List.setIfInBounds_toArray, List.set_cons_zero, List.set_cons_succ]
  refine wpAnyH_ready (rs := [2]) (by kernel_rfl) (by simp) ?_
  refine (AllReadyH.cons (o := { dst := some 26, op := Op.call { callee := Callee.value (Operand.func 77), args := #[Operand.tmp 25], argTypes := #[70] }, type := 3, pos := _, after := #[{ on := 1, ground := Ground.data }], guard := none }) rfl (fun K hK => ?_) AllReadyH.nil)
  go_simp
  refine (kind_any false AK nK cK AV nV cV (some ⟨b3, o3, none⟩) nD cD yd).mono ?_
  rintro e x2 ⟨rfl, hb2⟩
  have E2 := Lib.hid (Ed.out.keep hb2)
  clear hb2
  go_wp2_with fail
  refine hK.out _ _ (nd4 E2.out.nb (rc_cell 0 (oneF pg) E2.out.g7 rfl)) (fun hH2 => ?_)
  clear hK K
  try simp only [Act.put, List.setIfInBounds_toArray, List.set_cons_zero, List.set_cons_succ]
  refine wpAnyH_ready (rs := [3]) (by kernel_rfl) (by simp) ?_
  refine (AllReadyH.cons (o := { dst := some 27, op := Op.call { callee := Callee.value (Operand.tmp 24), args := #[Operand.tmp 26], argTypes := #[3] }, type := 0, pos := _, after := #[{ on := 0, ground := Ground.data }, { on := 2, ground := Ground.data }, { on := 2, ground := Ground.chain }], guard := none }) rfl (fun K hK => ?_) AllReadyH.nil)
  go_simp
  refine (one_any 2 2 (u8_is _ _ (by omega) (by omega)) pg (pg + 1) (pg + 1 + 1) [] x2 E2.out.pgs (by simp)).mono ?_
  rintro e x4 ⟨rfl, hp4, ho4⟩
  have E4 := Lib.hid (E2.out.on2 ho4 hp4)
  clear hp4 ho4
  go_wp2_with fail
  refine hK.out _ _ (nd4 E4.out.nb (rc_cell 0 (oneF pg) E4.out.g7 rfl)) (fun hH4 => ?_)
  clear hK K
  try simp only [Act.put, List.setIfInBounds_toArray, List.set_cons_zero, List.set_cons_succ]
  refine wpAnyH_done (by kernel_rfl) ?_ _
  obtain ⟨P1, HP1⟩ : ∃ P1 : List Int, Hid ((([] : List Int) ++ [2]) = P1) := ⟨[2], Lib.hid rfl⟩
  rw [HP1.out] at E4
  have HL1 : Hid (P1.length = 1) := Lib.hid (by rw [← HP1.out]; rfl)
  have q0 := rc_cell 0 (.bool false) E4.out.nb rfl; have q1 := rc_cell 1 (.slice AK nK cK) E4.out.nb rfl; have q2 := rc_cell 2 (.slice AV nV cV) E4.out.nb rfl; have q3 := rc_cell 3 (.slice (some ⟨b3, o3, none⟩) nD cD) E4.out.nb rfl
  go_wp2_with fail
  clear q0 q1 q2 q3
  refine (two_any nK pg (pg + 1) (pg + 1 + 1) (pg + 1 + 1 + 1) P1 x4 (by omega) E4.out.pgs (by rw [HL1.out]; omega) E4.out.g7 (by omega) (by omega)).mono ?_
  rintro e z1 ⟨rfl, hp, ho⟩
  have F1 := Lib.hid (E4.out.on2 ho hp); clear hp ho
  have hD0 : 0 < nD := by have := HVK.out; omega
  have hD1 : (0 : Int) < (nD : Int) := by omega
  have q0 := rc_cell 0 (.bool false) F1.out.nb rfl; have q1 := rc_cell 1 (.slice AK nK cK) F1.out.nb rfl; have q2 := rc_cell 2 (.slice AV nV cV) F1.out.nb rfl; have q3 := rc_cell 3 (.slice (some ⟨b3, o3, none⟩) nD cD) F1.out.nb rfl; have q4 := (World.cell?_of_block (a := ⟨b3, o3, none⟩) (F1.out.hb.block b3 hbl3)).trans hcl3
  go_wp2_with fail
  clear q0 q1 q2 q3 q4
  refine (two_any n0 pg (pg + 1) (pg + 1 + 1) (pg + 1 + 1 + 1) (P1 ++ [((nK / 256 : Nat) : Int), ((nK % 256 : Nat) : Int)]) z1 hn0b F1.out.pgs (by simp [HL1.out]) F1.out.g7 (by omega) (by omega)).mono ?_
  rintro e z2 ⟨rfl, hp, ho⟩
  have F2 := Lib.hid (F1.out.on2 ho hp); clear hp ho F1
  have HP0 : Hid ((P1 ++ [((nK / 256 : Nat) : Int), ((nK % 256 : Nat) : Int)]) ++ [((n0 / 256 : Nat) : Int), ((n0 % 256 : Nat) : Int)] = encP false ks vs ds 0) := Lib.hid (by rw [← HP1.out, encP, getD_of HZ0.out, HLK.out]; simp [tw])
  rw [HP0.out] at F2
  have q0 := rc_cell 0 (.bool false) F2.out.nb rfl; have q1 := rc_cell 1 (.slice AK nK cK) F2.out.nb rfl; have q2 := rc_cell 2 (.slice AV nV cV) F2.out.nb rfl; have q3 := rc_cell 3 (.slice (some ⟨b3, o3, none⟩) nD cD) F2.out.nb rfl
  go_wp2_with fail
  clear q0 q1 q2 q3
  go_loopw [45] (fun iv wr => ∃ kk : Nat, iv = .int .i64 (kk : Int) ∧ kk ≤ nK ∧ Hid (ES w (ndV false AK nK cK AV nV cV (some ⟨b3, o3, none⟩) nD cD) pg (encP false ks vs ds kk) wr)) (fun iv _ => nK - (intOf iv).toNat)
  case atStart => exact ⟨0, rfl, Nat.zero_le _, F2⟩
  case round =>
    obtain ⟨kk, rfl, hk, HE⟩ := hrel
    by_cases hlt : kk < nK
    · obtain ⟨b, off, A1, n1, c1, xs, hA, hbl, hcl0, hxs, hnc, HXK⟩ := HX.out.at_ hlt
      have HXS := Lib.hid hxs; have HNL := Lib.hid hxs.len; have hn1 : n1 ≤ 64 := by rw [← hxs.len]; exact HM1.out _ (List.mem_of_getElem? HXK.out)
      have hcl := (World.cell?_of_block (a := ⟨b, off + kk, none⟩) (HE.out.hb.block b hbl)).trans hcl0
      obtain ⟨b4, o4, x1, hD4, hbl4, _, _, hcl4, HZ1⟩ := HZ.out.get (k := kk + 1) (by have := HVK.out; omega)
      injection hD4 with hD4; injection hD4 with e4 e5 _; subst e4 e5
      have hm4 := HM3.out x1 (List.mem_of_getElem? HZ1.out)
      obtain ⟨n2, hn2⟩ : ∃ n2 : Nat, x1 = (n2 : Int) := ⟨x1.toNat, by omega⟩
      subst hn2
      have hn2b : n2 ≤ 65535 := by omega
      have z0 : (0 : Int) ≤ (kk : Int) := by omega
      have z1' : (kk : Int) < (nK : Int) := by omega
      have hwk : IntKind.i64.wrap ((kk : Int) + 1) = (kk : Int) + 1 := IntWalk.i64_in _ (by omega)
      have z2' : (0 : Int) ≤ (kk : Int) + 1 := by omega
      have z3' : (kk : Int) + 1 < (nD : Int) := by have := HVK.out; omega
      obtain ⟨Pk, HPK⟩ : ∃ Pk, Hid (encP false ks vs ds kk = Pk) := ⟨_, rfl⟩
      have hlen := HEL.out kk hk
      have hmono := fr_mono false ks vs (kk + 1) nK hlt
      have hfa := HFA.out
      have hst := fr_fork ks vs kk xs HXK.out
      rw [HNL.out] at hst
      rw [HPK.out] at hlen
      have hroom : Pk.length + 1 + n1 + 2 ≤ 512 := by omega
      have HNX : Hid (((Pk ++ [(n1 : Int)]) ++ xs) ++ [((n2 / 256 : Nat) : Int), ((n2 % 256 : Nat) : Int)] = encP false ks vs ds (kk + 1)) := Lib.hid (by rw [encP, HPK.out, if_neg (by simp), getD_of HXK.out, getD_of HZ1.out, HNL.out]; simp [tw])
      rw [HPK.out] at HE
      subst hA
      clear hxs hnc hst hlen hmono hfa hm4
      have q7 := rc_cell 0 (oneF pg) HE.out.g7 rfl
      go_wp2_with fail
      clear q7
      refine (one_any (n1 : Int) (n1 : Int) (u8_is _ _ (by omega) (by omega)) pg (pg + 1) (pg + 1 + 1) Pk wr HE.out.pgs (by omega)).mono ?_
      rintro e v1 ⟨rfl, hp, ho⟩
      have G1 := Lib.hid (HE.out.on2 ho hp); clear hp ho
      go_wp2_with fail
      refine (text_any A1 n1 c1 pg (pg + 1) (pg + 1 + 1) (Pk ++ [(n1 : Int)]) xs v1 (HXS.out.keep G1.out.hb) G1.out.pgs (by simp; omega)).mono ?_
      rintro e v2 ⟨rfl, hp, ho⟩
      have G2 := Lib.hid (G1.out.on2 ho hp); clear hp ho
      have q0 := rc_cell 0 (.bool false) G2.out.nb rfl; have q3 := rc_cell 3 (.slice (some ⟨b3, o3, none⟩) nD cD) G2.out.nb rfl; have q4 := (World.cell?_of_block (a := ⟨b3, o3 + (kk + 1), none⟩) (G2.out.hb.block b3 hbl3)).trans hcl4
      go_wp2_with fail
      clear q0 q3 q4
      refine (two_any n2 pg (pg + 1) (pg + 1 + 1) (pg + 1 + 1 + 1) ((Pk ++ [(n1 : Int)]) ++ xs) v2 hn2b G2.out.pgs (by simp [HNL.out]; omega) G2.out.g7 (by omega) (by omega)).mono ?_
      rintro e v3 ⟨rfl, hp, ho⟩
      have G3 := Lib.hid (G2.out.on2 ho hp); clear hp ho
      rw [HNX.out] at G3
      go_wp2
      go_roundw
      case rel => exact ⟨kk + 1, by go_num, by omega, G3⟩
      case measure => simp [intOf]; omega
    · obtain rfl : nK = kk := by omega
      have q5 := rc_cell 0 (.slice (some ⟨pg, 0, none⟩) 512 512) HE.out.pgs.sl rfl
      have HLE : Hid ((encP false ks vs ds nK).length ≤ 512) := Lib.hid (by rw [HEL.out nK (Nat.le_refl _)]; exact HFA.out)
      go_wp2
      go_ret2
      exact ⟨pg, rfl, Own.of_block (by have := HE.out.pgs.row; exact this) (Nat.le_of_lt HE.out.lt) (pgL_len _ HLE.out) (by unfold maxLen; omega), HE.out.hb⟩
set_option maxRecDepth 100000 in
set_option maxHeartbeats 8000000 in
theorem encodeBad_any (lf : Bool) (AK : Option Addr) (nK cK : Nat) (AV : Option Addr) (nV cV : Nat) (AD : Option Addr) (nD cD : Nat) (ks vs : List (List Int)) (ds : List Int) (w : World) (hx : Bss w AK nK ks) (hy : Bss w AV nV vs) (hz : Ins w AD nD ds)
    (bK : nK ≤ 1048576) (bV : nV ≤ 1048576) (bD : nD ≤ 1048576) (sK : ∀ xs ∈ ks, xs.length ≤ 1048576) (tK : szW 1 ks ≤ 100000000000000000) (tV : szW 2 vs ≤ 100000000000000000) (c : Nat) (hc : chkN lf ks vs ds = c) (h0 : c ≠ 0) :
    Calls Try.prog 32 #[.agg (ndV lf AK nK cK AV nV cV AD nD cD)] w fun e w' => e = .returned (.tuple #[.slice none 0 0, .int .i64 (c : Int)]) ∧ Below w.heap.size w w' := by
  have HX := Lib.hid hx; have HY := Lib.hid hy; have HZ := Lib.hid hz; have HCK := Lib.hid hc; have HSK := Lib.hid sK
  have HB := Lib.hid (below_alloc w (.cells (ndV lf AK nK cK AV nV cV AD nD cD) 70))
  have BX := Lib.hid (heap_alloc_new w (.cells (ndV lf AK nK cK AV nV cV AD nD cD) 70))
  have q0 := rc_cell 0 (.bool lf) BX.out rfl; have q1 := rc_cell 1 (.slice AK nK cK) BX.out rfl; have q2 := rc_cell 2 (.slice AV nV cV) BX.out rfl; have q3 := rc_cell 3 (.slice AD nD cD) BX.out rfl
  clear hx hy hz hc sK
  have d1 : ((c : Int) != 0) = true := by rw [bne_iff_ne]; omega
  clear h0
  go_enter Try.func32, Try.ntmps32
  go_wp2_with fail
  clear q0 q1 q2 q3
  generalize w.alloc (.cells (ndV lf AK nK cK AV nV cV AD nD cD) 70) = y at *
  refine (check_any lf AK nK cK AV nV cV AD nD cD ks vs ds y (HX.out.keep HB.out) (HY.out.keep HB.out) (HZ.out.keep HB.out) bK bV bD (fun x hx => Nat.le_trans (HSK.out x hx) (by unfold maxLen; omega))).mono ?_
  rintro e x1 ⟨rfl, hb1⟩
  rw [HCK.out]
  have BX1 := Lib.hid ((hb1.block _ (lt_of_heap BX.out)).trans BX.out); have HB1 := Lib.hid (HB.out.trans (hb1.mono HB.out.size)); clear hb1
  have q0 := rc_cell 0 (.bool lf) BX1.out rfl; have q1 := rc_cell 1 (.slice AK nK cK) BX1.out rfl; have q2 := rc_cell 2 (.slice AV nV cV) BX1.out rfl; have q3 := rc_cell 3 (.slice AD nD cD) BX1.out rfl
  go_wp2
  go_ret2
  exact ⟨rfl, HB1.out⟩
set_option maxRecDepth 100000 in
set_option maxHeartbeats 8000000 in
theorem encodeFull_any (lf : Bool) (AK : Option Addr) (nK cK : Nat) (AV : Option Addr) (nV cV : Nat) (AD : Option Addr) (nD cD : Nat) (ks vs : List (List Int)) (ds : List Int) (w : World) (hx : Bss w AK nK ks) (hy : Bss w AV nV vs) (hz : Ins w AD nD ds)
    (bK : nK ≤ 1048576) (bV : nV ≤ 1048576) (bD : nD ≤ 1048576) (sK : ∀ xs ∈ ks, xs.length ≤ 1048576) (tK : szW 1 ks ≤ 100000000000000000) (tV : szW 2 vs ≤ 100000000000000000) (hc : chkN lf ks vs ds = 0) (s : Nat) (hs : sizeN lf ks vs nD = s) (h0 : 512 < s) :
    Calls Try.prog 32 #[.agg (ndV lf AK nK cK AV nV cV AD nD cD)] w fun e w' => e = .returned (.tuple #[.slice none 0 0, .int .i64 8]) ∧ Below w.heap.size w w' := by
  have HX := Lib.hid hx; have HY := Lib.hid hy; have HZ := Lib.hid hz; have HCK := Lib.hid hc; have HSK := Lib.hid sK
  have HSS := Lib.hid hs
  have HB := Lib.hid (below_alloc w (.cells (ndV lf AK nK cK AV nV cV AD nD cD) 70))
  have BX := Lib.hid (heap_alloc_new w (.cells (ndV lf AK nK cK AV nV cV AD nD cD) 70))
  have q0 := rc_cell 0 (.bool lf) BX.out rfl; have q1 := rc_cell 1 (.slice AK nK cK) BX.out rfl; have q2 := rc_cell 2 (.slice AV nV cV) BX.out rfl; have q3 := rc_cell 3 (.slice AD nD cD) BX.out rfl
  clear hx hy hz hc sK hs
  have d1 : decide ((512 : Int) < (s : Int)) = true := by simp; omega
  clear h0
  go_enter Try.func32, Try.ntmps32
  go_wp2_with fail
  clear q0 q1 q2 q3
  generalize w.alloc (.cells (ndV lf AK nK cK AV nV cV AD nD cD) 70) = y at *
  refine (check_any lf AK nK cK AV nV cV AD nD cD ks vs ds y (HX.out.keep HB.out) (HY.out.keep HB.out) (HZ.out.keep HB.out) bK bV bD (fun x hx => Nat.le_trans (HSK.out x hx) (by unfold maxLen; omega))).mono ?_
  rintro e x1 ⟨rfl, hb1⟩
  rw [HCK.out]
  have BX1 := Lib.hid ((hb1.block _ (lt_of_heap BX.out)).trans BX.out); have HB1 := Lib.hid (HB.out.trans (hb1.mono HB.out.size)); clear hb1
  have q0 := rc_cell 0 (.bool lf) BX1.out rfl; have q1 := rc_cell 1 (.slice AK nK cK) BX1.out rfl; have q2 := rc_cell 2 (.slice AV nV cV) BX1.out rfl; have q3 := rc_cell 3 (.slice AD nD cD) BX1.out rfl
  go_wp2_with fail
  clear q0 q1 q2 q3
  refine (size_any lf AK nK cK AV nV cV AD nD cD ks vs x1 (HX.out.keep HB1.out) (HY.out.keep HB1.out) (by omega) (by omega) (by omega) tK tV).mono ?_
  rintro e x2 ⟨rfl, hb2⟩
  rw [HSS.out]
  have HB2 := Lib.hid (HB1.out.trans (hb2.mono HB1.out.size)); clear hb2
  go_wp2
  go_ret2
  exact ⟨rfl, HB2.out⟩
end Go.Proofs.Ytmjjbfcblmmipaa
