/- LeafBuilds' walk. -/
import Derived.Test.YtmjjbfcblmmipaaBldW
namespace Go.Proofs.Ytmjjbfcblmmipaa
set_option linter.unusedVariables false
set_option linter.unusedSimpArgs false
open Go.RowKit
/-- A leaf in a box: the keys' box, the leaf's, its rows. -/
structure LB (w : World) (AK : Option Addr) (n cK g : Nat) (A1 : Option Addr) (m c1 : Nat) (A2 : Option Addr) (c2 : Nat) (A3 : Option Addr) (c3 : Nat) (L : List (List Int)) (W : World) : Prop where
  kb : W.heap[w.heap.size]? = some (.cells #[.slice AK n cK] 62 (0, 0))
  nd : W.heap[g]? = some (.cells #[.bool true, .slice A1 m c1, .slice A2 m c2, .slice A3 0 c3] 70 (0, 0))
  gl : w.heap.size + 1 ≤ g
  pk : Prts W (w.heap.size + 1) A1 m c1 L
  pv : Prts W (w.heap.size + 1) A2 m c2 L
  od : Own W (w.heap.size + 1) 3 A3 0 c3 (([] : List Int).map (Value.int .i64))
  hb : Below w.heap.size w W
theorem LB.keep {w W W' : World} {AK A1 A2 A3 : Option Addr} {n cK g m c1 c2 c3 : Nat} {L : List (List Int)} (h : LB w AK n cK g A1 m c1 A2 c2 A3 c3 L W) (hb : Below W.heap.size W W') : LB w AK n cK g A1 m c1 A2 c2 A3 c3 L W' :=
  ⟨(hb.block _ (lt_of_heap h.kb)).trans h.kb, (hb.block _ (lt_of_heap h.nd)).trans h.nd, h.gl, h.pk.keep hb, h.pv.keep hb, h.od.below hb (fun k hk => (h.od.lies k hk).2), h.hb.trans (hb.mono h.hb.size)⟩
theorem LB.sz {w W : World} {AK A1 A2 A3 : Option Addr} {n cK g m c1 c2 c3 : Nat} {L : List (List Int)} (h : LB w AK n cK g A1 m c1 A2 c2 A3 c3 L W) : w.heap.size + 1 ≤ W.heap.size := by have := lt_of_heap h.kb; omega
theorem LB.put {w W W' : World} {AK A1 A2 A3 B1 B2 B3 : Option Addr} {n cK g m c1 c2 c3 m' d1 d2 d3 : Nat} {L L' : List (List Int)} (h : LB w AK n cK g A1 m c1 A2 c2 A3 c3 L W) (hb : Below W.heap.size W W') (p1 : Prts W' W.heap.size B1 m' d1 L') (p2 : Prts W' W.heap.size B2 m' d2 L') (p3 : Own W' W.heap.size 3 B3 0 d3 (([] : List Int).map (Value.int .i64))) :
    LB w AK n cK g B1 m' d1 B2 d2 B3 d3 L' ((((W'.setCell ⟨g, 0, none⟩ (.bool true)).setCell ⟨g, 1, none⟩ (.slice B1 m' d1)).setCell ⟨g, 2, none⟩ (.slice B2 m' d2)).setCell ⟨g, 3, none⟩ (.slice B3 0 d3)) := by
  have k := h.keep hb
  have hs := h.sz; have hg := h.gl
  have HS := set4g W' g (.bool true) (.slice B1 m' d1) (.slice B2 m' d2) (.slice B3 0 d3) _ _ _ _ 70 k.nd
  exact ⟨(HS.2.block _ (lt_of_heap k.kb) (by intro e; injection e with e; omega)).trans k.kb, HS.1, hg, (p1.set HS.2 k.nd (by decide) (by decide)).mono hs, (p2.set HS.2 k.nd (by decide) (by decide)).mono hs, (p3.onl HS.2 (p3.ne_blk k.nd (by decide))).mono hs, k.hb.trans ((HS.2.below (Nat.le_of_lt (lt_of_heap k.nd))).mono (by omega))⟩
/-- A leaf that a call answered is put into a new box. -/
theorem LB.new {w W W' : World} {AK B1 B2 B3 : Option Addr} {n cK m' d1 d2 d3 : Nat} {L' : List (List Int)} (kb : W.heap[w.heap.size]? = some (.cells #[.slice AK n cK] 62 (0, 0))) (hw : Below w.heap.size w W) (hb : Below W.heap.size W W') (p1 : Prts W' W.heap.size B1 m' d1 L') (p2 : Prts W' W.heap.size B2 m' d2 L') (p3 : Own W' W.heap.size 3 B3 0 d3 (([] : List Int).map (Value.int .i64))) (V : World) (g : Nat) (hv : Below W'.heap.size W' V) (hn : V.heap[g]? = some (.cells #[.bool true, .slice B1 m' d1, .slice B2 m' d2, .slice B3 0 d3] 70 (0, 0))) (hg : w.heap.size + 1 ≤ g) :
    LB w AK n cK g B1 m' d1 B2 d2 B3 d3 L' V := by
  have hs := lt_of_heap kb
  have hh := hb.trans (hv.mono hb.size)
  exact ⟨(hh.block _ hs).trans kb, hn, hg, (p1.keep hv).mono (by omega), (p2.keep hv).mono (by omega), (p3.below hv (fun k hk => (p3.lies k hk).2)).mono (by omega), hw.trans (hh.mono hw.size)⟩
set_option maxRecDepth 100000 in
set_option maxHeartbeats 32000000 in
theorem bld_any (AK : Option Addr) (n0 cK : Nat) (keys0 : List (List Int)) (z : Int) (w : World) (hx : Bss w AK n0 keys0) (hc : n0 ≤ cK) (bn : n0 ≤ 1048576) (lK : ∀ xs ∈ keys0, xs.length ≤ 1048576) (hz1 : -9223372036854775808 ≤ z) (hz2 : z ≤ 9223372036854775807) :
    Calls Try.prog 12 #[.slice AK n0 cK, .int .i64 z] w fun e w' => e = .returned (.bool true) ∧ Below w.heap.size w w' := by
  obtain ⟨n, HN⟩ : ∃ n, Hid (min n0 40 = n) := ⟨_, rfl⟩
  obtain ⟨keys, HKS⟩ : ∃ keys, Hid (keys0.take n = keys) := ⟨_, rfl⟩
  have hnn : n ≤ n0 := by rw [← HN.out]; exact Nat.min_le_left _ _
  have hn40 : n ≤ 40 := by rw [← HN.out]; exact Nat.min_le_right _ _
  have hx2 : Bss w AK n keys := by rw [← HKS.out]; exact hx.pre hnn
  have HX := Lib.hid hx2; have HLN := Lib.hid hx2.len
  have HMK : Hid (∀ xs ∈ keys, xs.length ≤ 1048576) := Lib.hid (fun x h => by rw [← HKS.out] at h; exact lK x (List.mem_of_mem_take h))
  have HB := Lib.hid (below_alloc w (.cells #[.slice AK n0 cK] 62)); have BN := Lib.hid (heap_alloc_new w (.cells #[.slice AK n0 cK] 62))
  clear hx hx2 lK
  go_enter Try.func12, Try.ntmps12
  go_wp2_with fail
  generalize w.alloc (.cells #[.slice AK n0 cK] 62) = y at *
  refine (awakeL_any y).mono ?_
  rintro e x1 ⟨rfl, hb1⟩
  have BN1 := Lib.hid ((hb1.block _ (lt_of_heap BN.out)).trans BN.out); have HB1 := Lib.hid (HB.out.trans (hb1.mono HB.out.size)); clear hb1 BN HB
  have q0 := rc_cell 0 (.slice AK n0 cK) BN1.out rfl
  go_upto_if 19 with fail
  go_cut [] from 20 (fun wx => Hid (wx.heap[w.heap.size]? = some (.cells #[.slice AK n cK] 62 (0, 0))) ∧ Hid (Below w.heap.size w wx))
  case first =>
    by_cases h40 : 40 < n0
    · have hd : decide ((40 : Int) < (n0 : Int)) = true := by simp; omega
      obtain rfl : n = 40 := by have := HN.out; omega
      have sl : ∀ W, (Instr.slice 62 (.slice AK n0 cK) none (some (.int .i64 40)) none).run Try.prog W = .ok (.slice AK 40 cK) W := fun W => slice62_h AK n0 cK 40 (by omega) W
      have f0 := two_frozen (i := 0) BN1.out
      have S1 := rc_set (cs' := #[.slice AK 40 cK]) 0 (.slice AK 40 cK) BN1.out rfl
      have S2 := Lib.hid S1; have S3 := Lib.hid (HB1.out.trans ((onl_set x1 w.heap.size 0 (.slice AK 40 cK)).below (Nat.le_of_lt (lt_of_heap BN1.out))))
      clear S1
      go_wp2_with fail
      go_meet
      case rel => exact ⟨S2, S3⟩
    · have hd : decide ((40 : Int) < (n0 : Int)) = false := by simp; omega
      obtain rfl : n = n0 := by have := HN.out; omega
      go_wp2_with fail
      go_meet
      case rel => exact ⟨BN1, HB1⟩
  obtain ⟨BN2, HB2⟩ := hcut
  clear q0 BN1 HB1
  have q0 := rc_cell 0 (.slice AK n cK) BN2.out rfl
  by_cases h0 : n = 0
  · subst h0
    go_wp2
    go_ret
    exact ⟨rfl, HB2.out⟩
  have hn0 : ¬ (n : Int) = 0 := by omega
  have hnb : ((n : Int) == 0) = false := by simpa using hn0
  obtain ⟨r, HR⟩ : ∃ r, Hid (Int.tmod z (n : Int) = r) := ⟨_, rfl⟩
  have hr1 : -(n : Int) < r ∧ r < (n : Int) := by
    rw [← HR.out]
    have h1 := Int.tmod_lt_of_pos z (show (0 : Int) < (n : Int) by omega)
    have h2 := Int.lt_tmod_of_pos z (show (0 : Int) < (n : Int) by omega)
    omega
  have hrm := HR.out
  go_upto_if 31 with fail
  go_cut [6] from 32 (fun pv wx => ∃ f : Nat, pv = .int .i64 (f : Int) ∧ f < n ∧ wx = wc)
  case first =>
    by_cases hneg : r < 0
    · have hd : decide (r < 0) = true := by simpa using hneg
      obtain ⟨f, hf⟩ : ∃ f : Nat, r + (n : Int) = (f : Int) := ⟨(r + (n : Int)).toNat, by omega⟩
      have hw : IntKind.i64.wrap (r + (n : Int)) = (f : Int) := by rw [hf]; exact IntWalk.i64_in _ (by omega)
      go_wp2_with fail
      go_meet
      case rel => exact ⟨f, rfl, by omega, rfl⟩
    · have hd : decide (r < 0) = false := by simpa using hneg
      obtain ⟨f, hf⟩ : ∃ f : Nat, r = (f : Int) := ⟨r.toNat, by omega⟩
      subst hf
      go_wp2_with fail
      go_meet
      case rel => exact ⟨f, rfl, by omega, rfl⟩
  obtain ⟨f, rfl, hf, rfl⟩ := hcut
  clear hrm hr1 HR
  have hpos : 0 < n := by omega
  obtain ⟨k, hk⟩ : ∃ k, n - 1 = k := ⟨_, rfl⟩
  have hwk : IntKind.i64.wrap ((n : Int) - 1) = (k : Int) := by rw [show (n : Int) - 1 = (k : Int) by omega]; exact IntWalk.i64_in _ (by omega)
  have CV := Lib.hid (cov_one n 0 hpos); have CF := Lib.hid (cov_one n f hf); have CK : Hid (Cov n k k) := Lib.hid (by rw [← hk]; exact cov_back n hpos)
  obtain ⟨L, HL⟩ : ∃ L, Hid (bq keys n 0 1 n = L) := ⟨_, rfl⟩
  obtain ⟨m, HM⟩ : ∃ m, Hid (L.length = m) := ⟨_, rfl⟩
  have HLF : Hid (bq keys n f 1 n = L) := Lib.hid (by rw [← HL.out]; exact bq_same HLN.out hpos CF.out CV.out); have HLK : Hid (bq keys n k k n = L) := Lib.hid (by rw [← HL.out]; exact bq_same HLN.out hpos CK.out CV.out)
  have HRI : Hid (L.Pairwise ltL) := Lib.hid (by rw [← HL.out]; exact bq_rise ..); have HAL : Hid (∀ x, x ∈ L → x ∈ keys) := Lib.hid (fun x hx => (bq_all HLN.out hpos CV.out x).1 (by rw [HL.out]; exact hx))
  have hm40 : m ≤ 40 := by rw [← HM.out, ← HL.out]; exact Nat.le_trans (bq_len ..) hn40
  have HMM : Hid (∀ x ∈ L, x.length ≤ 1048576) := Lib.hid (fun x hx => HMK.out x (HAL.out x hx))
  have HMX : Hid (∀ x ∈ L, x.length ≤ maxLen) := Lib.hid (fun x hx => Nat.le_trans (HMM.out x hx) (by unfold maxLen; omega))
  clear CV CF CK q0
  go_wp2_with fail
  refine (build_any AK n cK w.heap.size 0 1 0 1 rfl rfl keys wc (HX.out.keep HB2.out) BN2.out hpos hn40 hpos (by omega) HMK.out).mono ?_
  rintro e y1 ⟨A1, a1, A2, a2, A3, a3, rfl, pa1, pa2, pa3, hb1⟩
  rw [HL.out, HM.out] at pa1 pa2 ⊢
  have BN3 := Lib.hid ((hb1.block _ (lt_of_heap BN2.out)).trans BN2.out); have HB3 := Lib.hid (HB2.out.trans (hb1.mono HB2.out.size))
  go_wp2_with fail
  refine (build_any AK n cK w.heap.size f 1 (f : Int) 1 rfl rfl keys y1 (HX.out.keep HB3.out) BN3.out hpos hn40 hf (by omega) HMK.out).mono ?_
  rintro e y2 ⟨B1, b1, B2, b2, B3, b3, rfl, pb1, pb2, pb3, hb2⟩
  rw [HLF.out, HM.out] at pb1 pb2 ⊢
  have BN4 := Lib.hid ((hb2.block _ (lt_of_heap BN3.out)).trans BN3.out); have HB4 := Lib.hid (HB3.out.trans (hb2.mono HB3.out.size))
  have N3 := alloc2 y2 #[.bool true, .slice A1 m a1, .slice A2 m a2, .slice A3 0 a3] #[.bool true, .slice B1 m b1, .slice B2 m b2, .slice B3 0 b3] 70
  have hg7 : w.heap.size + 1 ≤ y2.heap.size := lt_of_heap BN4.out
  have LA : Hid (LB w AK n cK y2.heap.size A1 m a1 A2 a2 A3 a3 L ((y2.alloc (.cells #[.bool true, .slice A1 m a1, .slice A2 m a2, .slice A3 0 a3] 70)).alloc (.cells #[.bool true, .slice B1 m b1, .slice B2 m b2, .slice B3 0 b3] 70))) := Lib.hid (LB.new BN2.out HB2.out hb1 pa1 pa2 pa3 _ _ (hb2.trans (N3.2.2.mono hb2.size)) N3.1 hg7)
  have LC : Hid (LB w AK n cK (y2.heap.size + 1) B1 m b1 B2 b2 B3 b3 L ((y2.alloc (.cells #[.bool true, .slice A1 m a1, .slice A2 m a2, .slice A3 0 a3] 70)).alloc (.cells #[.bool true, .slice B1 m b1, .slice B2 m b2, .slice B3 0 b3] 70))) := Lib.hid (LB.new BN3.out HB3.out hb2 pb1 pb2 pb3 _ _ N3.2.2 N3.2.1 (by omega))
  clear pa1 pa2 pa3 pb1 pb2 pb3 hb1 hb2 N3 BN2 HB2 BN3 HB3 BN4 HB4
  go_upto_region 12 with fail
  generalize y2.heap.size = g7 at *
  generalize (y2.alloc (.cells #[.bool true, .slice A1 m a1, .slice A2 m a2, .slice A3 0 a3] 70)).alloc (.cells #[.bool true, .slice B1 m b1, .slice B2 m b2, .slice B3 0 b3] 70) = y3 at *
  have r0 := rc_cell 0 (.slice AK n cK) LA.out.kb rfl
  go_wp2_with fail
  clear r0
  refine (build_any AK n cK w.heap.size k k (k : Int) (k : Int) rfl rfl keys y3 (HX.out.keep LA.out.hb) LA.out.kb hpos hn40 (by omega) (by omega) HMK.out).mono ?_
  rintro e y4 ⟨C1, e1, C2, e2, C3, e3, rfl, pc1, pc2, pc3, hb4⟩
  rw [HLK.out, HM.out] at pc1 pc2 ⊢
  have hb5 := below_alloc y4 (.cells #[.bool true, .slice C1 m e1, .slice C2 m e2, .slice C3 0 e3] 70)
  have LD : Hid (LB w AK n cK y4.heap.size C1 m e1 C2 e2 C3 e3 L (y4.alloc (.cells #[.bool true, .slice C1 m e1, .slice C2 m e2, .slice C3 0 e3] 70))) := Lib.hid (LB.new LA.out.kb LA.out.hb hb4 pc1 pc2 pc3 _ _ hb5 (heap_alloc_new y4 _) (by have := LA.out.sz; have := hb4.size; omega))
  have hbb := hb4.trans (hb5.mono hb4.size)
  have LA2 := Lib.hid (LA.out.keep hbb); have LC2 := Lib.hid (LC.out.keep hbb)
  clear pc1 pc2 pc3 hb4 hb5 hbb LA LC
  go_upto_region 13 with fail
  generalize y4.heap.size = g9 at *
  generalize y4.alloc (.cells #[.bool true, .slice C1 m e1, .slice C2 m e2, .slice C3 0 e3] 70) = y5 at *
  go_cut [67] from 49 (fun pv wx => pv = .bool false ∧ Hid (LB w AK n cK g7 A1 m a1 A2 a2 A3 a3 L wx) ∧ Hid (LB w AK n cK (g7 + 1) B1 m b1 B2 b2 B3 b3 L wx))
  case first =>
    by_cases h2 : 2 < n
    · have hd2 : decide ((2 : Int) < (n : Int)) = true := by simp; omega
      have hd3 : decide (2 < n) = true := by simp; omega
      have hdb := (Dr.refl y5).one.below y5.heap.size
      have LAd := Lib.hid (LA2.out.keep hdb); have LCd := Lib.hid (LC2.out.keep hdb); have LDd := Lib.hid (LD.out.keep hdb)
      clear hdb
      refine wp_region_held_drew (S := fun w' => w'.cell? ⟨g7, 0, none⟩ = some (.bool true) ∧ w'.cell? ⟨g7, 1, none⟩ = some (.slice A1 m a1) ∧ w'.cell? ⟨g7, 2, none⟩ = some (.slice A2 m a2) ∧ w'.cell? ⟨g7, 3, none⟩ = some (.slice A3 0 a3) ∧ w'.cell? ⟨g7 + 1, 0, none⟩ = some (.bool true) ∧ w'.cell? ⟨g7 + 1, 1, none⟩ = some (.slice B1 m b1) ∧ w'.cell? ⟨g7 + 1, 2, none⟩ = some (.slice B2 m b2) ∧ w'.cell? ⟨g7 + 1, 3, none⟩ = some (.slice B3 0 b3) ∧ w'.cell? ⟨g9, 0, none⟩ = some (.bool true) ∧ w'.cell? ⟨g9, 1, none⟩ = some (.slice C1 m e1) ∧ w'.cell? ⟨g9, 2, none⟩ = some (.slice C2 m e2) ∧ w'.cell? ⟨g9, 3, none⟩ = some (.slice C3 0 e3) ∧ w'.cell? ⟨w.heap.size, 0, none⟩ = some (.slice AK n cK) ∧ True) (by kernel_rfl) (nd4 LAd.out.nd (nd4 LCd.out.nd (nd4 LDd.out.nd ⟨rc_cell 0 _ LAd.out.kb rfl, trivial⟩))) (fun hH0 => ?_)
      generalize y5.drew = yd at *
      refine wpAnyH_take (i := 0) (oi := { dst := some 49, op := Op.load 70 (Operand.tmp 7), type := 70, pos := _, after := #[], guard := none }) (v := ?vt1_0) rfl (by kernel_rfl) (by kernel_rfl) (by kernel_rfl) (fun _ _ _ h => h) (Or.inl ⟨by rfl, ?yt1_0⟩) hH0 ?rt1_0
      case yt1_0 => (intro w hSw; (try dsimp only at hSw); go_simp; try (with_reducible rfl))
      try simp only [Act.put, List.setIfInBounds_toArray, List.set_cons_zero, List.set_cons_succ]
      refine wpAnyH_take (i := 2) (oi := { dst := some 51, op := Op.load 70 (Operand.tmp 8), type := 70, pos := _, after := #[], guard := none }) (v := ?vt1_2) rfl (by kernel_rfl) (by kernel_rfl) (by kernel_rfl) (fun _ _ _ h => h) (Or.inl ⟨by rfl, ?yt1_2⟩) hH0 ?rt1_2
      case yt1_2 => (intro w hSw; (try dsimp only at hSw); go_simp; try (with_reducible rfl))
      try simp only [Act.put, List.setIfInBounds_toArray, List.set_cons_zero, List.set_cons_succ]
      refine wpAnyH_ready (rs := [1]) (by kernel_rfl) (by simp) ?_
      refine (AllReadyH.cons (o := { dst := some 50, op := Op.call { callee := Callee.value (Operand.func 41), args := #[Operand.tmp 49], argTypes := #[70] }, type := 66, pos := _, after := #[{ on := 0, ground := Ground.data }], guard := none }) rfl (fun K hK => ?_) AllReadyH.nil)
      go_simp
      refine (toldN_any true A1 m a1 A2 m a2 A3 0 a3 yd).mono ?_
      rintro e v2 ⟨rfl, hb2⟩
      have LA2 := Lib.hid (LAd.out.keep hb2); have LC2 := Lib.hid (LCd.out.keep hb2); have LD2 := Lib.hid (LDd.out.keep hb2)
      clear hb2
      go_wp2_with fail
      refine hK.out _ _ (nd4 LA2.out.nd (nd4 LC2.out.nd (nd4 LD2.out.nd ⟨rc_cell 0 _ LA2.out.kb rfl, trivial⟩))) (fun hH2 => ?_)
      clear hK K
      try simp only [Act.put, List.setIfInBounds_toArray, List.set_cons_zero, List.set_cons_succ]
      refine wpAnyH_ready (rs := [3]) (by kernel_rfl) (by simp) ?_
      refine (AllReadyH.cons (o := { dst := some 52, op := Op.call { callee := Callee.value (Operand.func 41), args := #[Operand.tmp 51], argTypes := #[70] }, type := 66, pos := _, after := #[{ on := 2, ground := Ground.data }, { on := 1, ground := Ground.chain }], guard := none }) rfl (fun K hK => ?_) AllReadyH.nil)
      go_simp
      refine (toldN_any true B1 m b1 B2 m b2 B3 0 b3 v2).mono ?_
      rintro e v4 ⟨rfl, hb4⟩
      have LA4 := Lib.hid (LA2.out.keep hb4); have LC4 := Lib.hid (LC2.out.keep hb4); have LD4 := Lib.hid (LD2.out.keep hb4)
      clear hb4
      go_wp2_with fail
      refine hK.out _ _ (nd4 LA4.out.nd (nd4 LC4.out.nd (nd4 LD4.out.nd ⟨rc_cell 0 _ LA4.out.kb rfl, trivial⟩))) (fun hH4 => ?_)
      clear hK K
      try simp only [Act.put, List.setIfInBounds_toArray, List.set_cons_zero, List.set_cons_succ]
      refine wpAnyH_ready (rs := [4]) (by kernel_rfl) (by simp) ?_
      refine (AllReadyH.cons (o := { dst := some 53, op := Op.call { callee := Callee.value (Operand.func 40), args := #[Operand.tmp 50, Operand.tmp 52], argTypes := #[66, 66] }, type := 4, pos := _, after := #[{ on := 1, ground := Ground.data }, { on := 3, ground := Ground.data }, { on := 3, ground := Ground.chain }], guard := none }) rfl (fun K hK => ?_) AllReadyH.nil)
      go_simp
      refine (rsame_is true true true A1 m a1 A2 m a2 A3 0 a3 B1 m b1 B2 m b2 B3 0 b3 L L L L [] [] v4 (by simp) LA4.out.pk.bss LA4.out.pv.bss ⟨Rd.nil_, fun _ h => by cases h⟩ LC4.out.pk.bss LC4.out.pv.bss ⟨Rd.nil_, fun _ h => by cases h⟩ (by omega) (by omega) (by omega) (by omega) (by omega) (by omega) HMX.out HMX.out HMX.out HMX.out).mono ?_
      rintro e v6 ⟨rfl, hb6⟩
      have LA6 := Lib.hid (LA4.out.keep hb6); have LC6 := Lib.hid (LC4.out.keep hb6); have LD6 := Lib.hid (LD4.out.keep hb6)
      clear hb6
      go_wp2_with fail
      refine hK.out _ _ (nd4 LA6.out.nd (nd4 LC6.out.nd (nd4 LD6.out.nd ⟨rc_cell 0 _ LA6.out.kb rfl, trivial⟩))) (fun hH6 => ?_)
      clear hK K
      try simp only [Act.put, List.setIfInBounds_toArray, List.set_cons_zero, List.set_cons_succ]
      refine wpAnyH_take (i := 5) (oi := { dst := some 54, op := Op.unOp UnOp.not 4 (Operand.tmp 53), type := 4, pos := _, after := #[{ on := 4, ground := Ground.data }], guard := none }) (v := ?vt7_5) rfl (by kernel_rfl) (by kernel_rfl) (by kernel_rfl) (fun _ _ _ h => h) (Or.inl ⟨by rfl, ?yt7_5⟩) hH6 ?rt7_5
      case yt7_5 => (intro w hSw; (try dsimp only at hSw); go_simp; try (with_reducible rfl))
      try simp only [Act.put, List.setIfInBounds_toArray, List.set_cons_zero, List.set_cons_succ]
      refine wpAnyH_take (i := 6) (oi := { dst := some 55, op := Op.move (Operand.tmp 54), type := 4, pos := _, after := #[{ on := 5, ground := Ground.data }, { on := 4, ground := Ground.chain }], guard := none }) (v := ?vt7_6) rfl (by kernel_rfl) (by kernel_rfl) (by kernel_rfl) (fun _ _ _ h => h) (Or.inl ⟨by rfl, ?yt7_6⟩) hH6 ?rt7_6
      case yt7_6 => (intro w hSw; (try dsimp only at hSw); go_simp; try (with_reducible rfl))
      try simp only [Act.put, List.setIfInBounds_toArray, List.set_cons_zero, List.set_cons_succ]
      refine wpAnyH_take (i := 7) (oi := { dst := some 56, op := Op.load 62 (Operand.tmp 2), type := 62, pos := _, after := #[{ on := 6, ground := Ground.guard }], guard := some (6, false) }) (v := ?vt7_7) rfl (by kernel_rfl) (by kernel_rfl) (by kernel_rfl) (fun _ _ _ h => h) (Or.inl ⟨by rfl, ?yt7_7⟩) hH6 ?rt7_7
      case yt7_7 => (intro w hSw; (try dsimp only at hSw); go_simp; try (with_reducible rfl))
      try simp only [Act.put, List.setIfInBounds_toArray, List.set_cons_zero, List.set_cons_succ]
      refine wpAnyH_take (i := 8) (oi := { dst := some 57, op := Op.call { callee := Callee.builtin Builtin.len, args := #[Operand.tmp 56], argTypes := #[62] }, type := 3, pos := _, after := #[{ on := 7, ground := Ground.data }, { on := 6, ground := Ground.guard }], guard := some (6, false) }) (v := ?vt7_8) rfl (by kernel_rfl) (by kernel_rfl) (by kernel_rfl) (fun _ _ _ h => h) (Or.inl ⟨by rfl, ?yt7_8⟩) hH6 ?rt7_8
      case yt7_8 => (intro w hSw; (try dsimp only at hSw); go_simp; try (with_reducible rfl))
      try simp only [Act.put, List.setIfInBounds_toArray, List.set_cons_zero, List.set_cons_succ]
      refine wpAnyH_take (i := 9) (oi := { dst := some 58, op := Op.binOp BinOp.gtr 3 (Operand.tmp 57) (Operand.const (Value.int IntKind.i64 2)) 3, type := 4, pos := _, after := #[{ on := 8, ground := Ground.data }, { on := 6, ground := Ground.guard }], guard := some (6, false) }) (v := ?vt7_9) rfl (by kernel_rfl) (by kernel_rfl) (by kernel_rfl) (fun _ _ _ h => h) (Or.inl ⟨by rfl, ?yt7_9⟩) hH6 ?rt7_9
      case yt7_9 => (intro w hSw; (try dsimp only at hSw); go_simp; try (with_reducible rfl))
      try simp only [Act.put, List.setIfInBounds_toArray, List.set_cons_zero, List.set_cons_succ]
      refine wpAnyH_take (i := 10) (oi := { dst := some 59, op := Op.move (Operand.tmp 58), type := 4, pos := _, after := #[{ on := 9, ground := Ground.data }, { on := 6, ground := Ground.chain }, { on := 6, ground := Ground.guard }], guard := some (6, false) }) (v := ?vt7_10) rfl (by kernel_rfl) (by kernel_rfl) (by kernel_rfl) (fun _ _ _ h => h) (Or.inl ⟨by rfl, ?yt7_10⟩) hH6 ?rt7_10
      case yt7_10 => (intro w hSw; (try dsimp only at hSw); go_simp; try (with_reducible rfl))
      try simp only [Act.put, List.setIfInBounds_toArray, List.set_cons_zero, List.set_cons_succ]
      refine wpAnyH_take (i := 11) (oi := { dst := some 60, op := Op.load 70 (Operand.tmp 7), type := 70, pos := _, after := #[{ on := 10, ground := Ground.guard }], guard := some (10, true) }) (v := ?vt7_11) rfl (by kernel_rfl) (by kernel_rfl) (by kernel_rfl) (fun _ _ _ h => h) (Or.inl ⟨by rfl, ?yt7_11⟩) hH6 ?rt7_11
      case yt7_11 => (intro w hSw; (try dsimp only at hSw); go_simp; try (with_reducible rfl))
      try simp only [Act.put, List.setIfInBounds_toArray, List.set_cons_zero, List.set_cons_succ]
      refine wpAnyH_take (i := 13) (oi := { dst := some 62, op := Op.load 70 (Operand.tmp 9), type := 70, pos := _, after := #[{ on := 10, ground := Ground.guard }], guard := some (10, true) }) (v := ?vt7_13) rfl (by kernel_rfl) (by kernel_rfl) (by kernel_rfl) (fun _ _ _ h => h) (Or.inl ⟨by rfl, ?yt7_13⟩) hH6 ?rt7_13
      case yt7_13 => (intro w hSw; (try dsimp only at hSw); go_simp; try (with_reducible rfl))
      try simp only [Act.put, List.setIfInBounds_toArray, List.set_cons_zero, List.set_cons_succ]
      refine wpAnyH_ready (rs := [12]) (by kernel_rfl) (by simp) ?_
      refine (AllReadyH.cons (o := { dst := some 61, op := Op.call { callee := Callee.value (Operand.func 41), args := #[Operand.tmp 60], argTypes := #[70] }, type := 66, pos := _, after := #[{ on := 11, ground := Ground.data }, { on := 10, ground := Ground.chain }, { on := 10, ground := Ground.guard }], guard := some (10, true) }) rfl (fun K hK => ?_) AllReadyH.nil)
      go_simp
      refine (toldN_any true A1 m a1 A2 m a2 A3 0 a3 v6).mono ?_
      rintro e v8 ⟨rfl, hb8⟩
      have LA8 := Lib.hid (LA6.out.keep hb8); have LC8 := Lib.hid (LC6.out.keep hb8); have LD8 := Lib.hid (LD6.out.keep hb8)
      clear hb8
      go_wp2_with fail
      refine hK.out _ _ (nd4 LA8.out.nd (nd4 LC8.out.nd (nd4 LD8.out.nd ⟨rc_cell 0 _ LA8.out.kb rfl, trivial⟩))) (fun hH8 => ?_)
      clear hK K
      try simp only [Act.put, List.setIfInBounds_toArray, List.set_cons_zero, List.set_cons_succ]
      refine wpAnyH_ready (rs := [14]) (by kernel_rfl) (by simp) ?_
      refine (AllReadyH.cons (o := { dst := some 63, op := Op.call { callee := Callee.value (Operand.func 41), args := #[Operand.tmp 62], argTypes := #[70] }, type := 66, pos := _, after := #[{ on := 13, ground := Ground.data }, { on := 12, ground := Ground.chain }, { on := 10, ground := Ground.guard }], guard := some (10, true) }) rfl (fun K hK => ?_) AllReadyH.nil)
      go_simp
      refine (toldN_any true C1 m e1 C2 m e2 C3 0 e3 v8).mono ?_
      rintro e v10 ⟨rfl, hb10⟩
      have LA10 := Lib.hid (LA8.out.keep hb10); have LC10 := Lib.hid (LC8.out.keep hb10); have LD10 := Lib.hid (LD8.out.keep hb10)
      clear hb10
      go_wp2_with fail
      refine hK.out _ _ (nd4 LA10.out.nd (nd4 LC10.out.nd (nd4 LD10.out.nd ⟨rc_cell 0 _ LA10.out.kb rfl, trivial⟩))) (fun hH10 => ?_)
      clear hK K
      try simp only [Act.put, List.setIfInBounds_toArray, List.set_cons_zero, List.set_cons_succ]
      refine wpAnyH_ready (rs := [15]) (by kernel_rfl) (by simp) ?_
      refine (AllReadyH.cons (o := { dst := some 64, op := Op.call { callee := Callee.value (Operand.func 40), args := #[Operand.tmp 61, Operand.tmp 63], argTypes := #[66, 66] }, type := 4, pos := _, after := #[{ on := 12, ground := Ground.data }, { on := 14, ground := Ground.data }, { on := 14, ground := Ground.chain }, { on := 10, ground := Ground.guard }], guard := some (10, true) }) rfl (fun K hK => ?_) AllReadyH.nil)
      go_simp
      refine (rsame_is true true true A1 m a1 A2 m a2 A3 0 a3 C1 m e1 C2 m e2 C3 0 e3 L L L L [] [] v10 (by simp) LA10.out.pk.bss LA10.out.pv.bss ⟨Rd.nil_, fun _ h => by cases h⟩ LD10.out.pk.bss LD10.out.pv.bss ⟨Rd.nil_, fun _ h => by cases h⟩ (by omega) (by omega) (by omega) (by omega) (by omega) (by omega) HMX.out HMX.out HMX.out HMX.out).mono ?_
      rintro e v12 ⟨rfl, hb12⟩
      have LA12 := Lib.hid (LA10.out.keep hb12); have LC12 := Lib.hid (LC10.out.keep hb12); have LD12 := Lib.hid (LD10.out.keep hb12)
      clear hb12
      go_wp2_with fail
      refine hK.out _ _ (nd4 LA12.out.nd (nd4 LC12.out.nd (nd4 LD12.out.nd ⟨rc_cell 0 _ LA12.out.kb rfl, trivial⟩))) (fun hH12 => ?_)
      clear hK K
      try simp only [Act.put, List.setIfInBounds_toArray, List.set_cons_zero, List.set_cons_succ]
      refine wpAnyH_take (i := 16) (oi := { dst := some 65, op := Op.unOp UnOp.not 4 (Operand.tmp 64), type := 4, pos := _, after := #[{ on := 15, ground := Ground.data }, { on := 10, ground := Ground.guard }], guard := some (10, true) }) (v := ?vt13_16) rfl (by kernel_rfl) (by kernel_rfl) (by kernel_rfl) (fun _ _ _ h => h) (Or.inl ⟨by rfl, ?yt13_16⟩) hH12 ?rt13_16
      case yt13_16 => (intro w hSw; (try dsimp only at hSw); go_simp; try (with_reducible rfl))
      try simp only [Act.put, List.setIfInBounds_toArray, List.set_cons_zero, List.set_cons_succ]
      refine wpAnyH_take (i := 17) (oi := { dst := some 66, op := Op.pick (Operand.tmp 59) (Operand.tmp 65) (Operand.const (Value.bool false)), type := 4, pos := _, after := #[{ on := 10, ground := Ground.data }, { on := 16, ground := Ground.data }, { on := 6, ground := Ground.guard }], guard := some (6, false) }) (v := ?vt13_17) rfl (by kernel_rfl) (by kernel_rfl) (by kernel_rfl) (fun _ _ _ h => h) (Or.inl ⟨by rfl, ?yt13_17⟩) hH12 ?rt13_17
      case yt13_17 => (intro w hSw; (try dsimp only at hSw); go_simp; try (with_reducible rfl))
      try simp only [Act.put, List.setIfInBounds_toArray, List.set_cons_zero, List.set_cons_succ]
      refine wpAnyH_take (i := 18) (oi := { dst := some 67, op := Op.pick (Operand.tmp 55) (Operand.const (Value.bool true)) (Operand.tmp 66), type := 4, pos := _, after := #[{ on := 6, ground := Ground.data }, { on := 17, ground := Ground.data }], guard := none }) (v := ?vt13_18) rfl (by kernel_rfl) (by kernel_rfl) (by kernel_rfl) (fun _ _ _ h => h) (Or.inl ⟨by rfl, ?yt13_18⟩) hH12 ?rt13_18
      case yt13_18 => (intro w hSw; (try dsimp only at hSw); go_simp; try (with_reducible rfl))
      try simp only [Act.put, List.setIfInBounds_toArray, List.set_cons_zero, List.set_cons_succ]
      refine wpAnyH_done (by kernel_rfl) ?_ _
      go_wp2_with fail
      go_meet
      case rel => exact ⟨rfl, LA12, LC12⟩
    · have hd2 : decide ((2 : Int) < (n : Int)) = false := by simp; omega
      have hd3 : decide (2 < n) = false := by simp; omega
      have hdb := (Dr.refl y5).one.below y5.heap.size
      have LAd := Lib.hid (LA2.out.keep hdb); have LCd := Lib.hid (LC2.out.keep hdb); have LDd := Lib.hid (LD.out.keep hdb)
      clear hdb
      refine wp_region_held_drew (S := fun w' => w'.cell? ⟨g7, 0, none⟩ = some (.bool true) ∧ w'.cell? ⟨g7, 1, none⟩ = some (.slice A1 m a1) ∧ w'.cell? ⟨g7, 2, none⟩ = some (.slice A2 m a2) ∧ w'.cell? ⟨g7, 3, none⟩ = some (.slice A3 0 a3) ∧ w'.cell? ⟨g7 + 1, 0, none⟩ = some (.bool true) ∧ w'.cell? ⟨g7 + 1, 1, none⟩ = some (.slice B1 m b1) ∧ w'.cell? ⟨g7 + 1, 2, none⟩ = some (.slice B2 m b2) ∧ w'.cell? ⟨g7 + 1, 3, none⟩ = some (.slice B3 0 b3) ∧ w'.cell? ⟨g9, 0, none⟩ = some (.bool true) ∧ w'.cell? ⟨g9, 1, none⟩ = some (.slice C1 m e1) ∧ w'.cell? ⟨g9, 2, none⟩ = some (.slice C2 m e2) ∧ w'.cell? ⟨g9, 3, none⟩ = some (.slice C3 0 e3) ∧ w'.cell? ⟨w.heap.size, 0, none⟩ = some (.slice AK n cK) ∧ True) (by kernel_rfl) (nd4 LAd.out.nd (nd4 LCd.out.nd (nd4 LDd.out.nd ⟨rc_cell 0 _ LAd.out.kb rfl, trivial⟩))) (fun hH0 => ?_)
      generalize y5.drew = yd at *
      refine wpAnyH_take (i := 0) (oi := { dst := some 49, op := Op.load 70 (Operand.tmp 7), type := 70, pos := _, after := #[], guard := none }) (v := ?vu1_0) rfl (by kernel_rfl) (by kernel_rfl) (by kernel_rfl) (fun _ _ _ h => h) (Or.inl ⟨by rfl, ?yu1_0⟩) hH0 ?ru1_0
      case yu1_0 => (intro w hSw; (try dsimp only at hSw); go_simp; try (with_reducible rfl))
      try simp only [Act.put, List.setIfInBounds_toArray, List.set_cons_zero, List.set_cons_succ]
      refine wpAnyH_take (i := 2) (oi := { dst := some 51, op := Op.load 70 (Operand.tmp 8), type := 70, pos := _, after := #[], guard := none }) (v := ?vu1_2) rfl (by kernel_rfl) (by kernel_rfl) (by kernel_rfl) (fun _ _ _ h => h) (Or.inl ⟨by rfl, ?yu1_2⟩) hH0 ?ru1_2
      case yu1_2 => (intro w hSw; (try dsimp only at hSw); go_simp; try (with_reducible rfl))
      try simp only [Act.put, List.setIfInBounds_toArray, List.set_cons_zero, List.set_cons_succ]
      refine wpAnyH_ready (rs := [1]) (by kernel_rfl) (by simp) ?_
      refine (AllReadyH.cons (o := { dst := some 50, op := Op.call { callee := Callee.value (Operand.func 41), args := #[Operand.tmp 49], argTypes := #[70] }, type := 66, pos := _, after := #[{ on := 0, ground := Ground.data }], guard := none }) rfl (fun K hK => ?_) AllReadyH.nil)
      go_simp
      refine (toldN_any true A1 m a1 A2 m a2 A3 0 a3 yd).mono ?_
      rintro e v2 ⟨rfl, hb2⟩
      have LA2 := Lib.hid (LAd.out.keep hb2); have LC2 := Lib.hid (LCd.out.keep hb2); have LD2 := Lib.hid (LDd.out.keep hb2)
      clear hb2
      go_wp2_with fail
      refine hK.out _ _ (nd4 LA2.out.nd (nd4 LC2.out.nd (nd4 LD2.out.nd ⟨rc_cell 0 _ LA2.out.kb rfl, trivial⟩))) (fun hH2 => ?_)
      clear hK K
      try simp only [Act.put, List.setIfInBounds_toArray, List.set_cons_zero, List.set_cons_succ]
      refine wpAnyH_ready (rs := [3]) (by kernel_rfl) (by simp) ?_
      refine (AllReadyH.cons (o := { dst := some 52, op := Op.call { callee := Callee.value (Operand.func 41), args := #[Operand.tmp 51], argTypes := #[70] }, type := 66, pos := _, after := #[{ on := 2, ground := Ground.data }, { on := 1, ground := Ground.chain }], guard := none }) rfl (fun K hK => ?_) AllReadyH.nil)
      go_simp
      refine (toldN_any true B1 m b1 B2 m b2 B3 0 b3 v2).mono ?_
      rintro e v4 ⟨rfl, hb4⟩
      have LA4 := Lib.hid (LA2.out.keep hb4); have LC4 := Lib.hid (LC2.out.keep hb4); have LD4 := Lib.hid (LD2.out.keep hb4)
      clear hb4
      go_wp2_with fail
      refine hK.out _ _ (nd4 LA4.out.nd (nd4 LC4.out.nd (nd4 LD4.out.nd ⟨rc_cell 0 _ LA4.out.kb rfl, trivial⟩))) (fun hH4 => ?_)
      clear hK K
      try simp only [Act.put, List.setIfInBounds_toArray, List.set_cons_zero, List.set_cons_succ]
      refine wpAnyH_ready (rs := [4]) (by kernel_rfl) (by simp) ?_
      refine (AllReadyH.cons (o := { dst := some 53, op := Op.call { callee := Callee.value (Operand.func 40), args := #[Operand.tmp 50, Operand.tmp 52], argTypes := #[66, 66] }, type := 4, pos := _, after := #[{ on := 1, ground := Ground.data }, { on := 3, ground := Ground.data }, { on := 3, ground := Ground.chain }], guard := none }) rfl (fun K hK => ?_) AllReadyH.nil)
      go_simp
      refine (rsame_is true true true A1 m a1 A2 m a2 A3 0 a3 B1 m b1 B2 m b2 B3 0 b3 L L L L [] [] v4 (by simp) LA4.out.pk.bss LA4.out.pv.bss ⟨Rd.nil_, fun _ h => by cases h⟩ LC4.out.pk.bss LC4.out.pv.bss ⟨Rd.nil_, fun _ h => by cases h⟩ (by omega) (by omega) (by omega) (by omega) (by omega) (by omega) HMX.out HMX.out HMX.out HMX.out).mono ?_
      rintro e v6 ⟨rfl, hb6⟩
      have LA6 := Lib.hid (LA4.out.keep hb6); have LC6 := Lib.hid (LC4.out.keep hb6); have LD6 := Lib.hid (LD4.out.keep hb6)
      clear hb6
      go_wp2_with fail
      refine hK.out _ _ (nd4 LA6.out.nd (nd4 LC6.out.nd (nd4 LD6.out.nd ⟨rc_cell 0 _ LA6.out.kb rfl, trivial⟩))) (fun hH6 => ?_)
      clear hK K
      try simp only [Act.put, List.setIfInBounds_toArray, List.set_cons_zero, List.set_cons_succ]
      refine wpAnyH_take (i := 5) (oi := { dst := some 54, op := Op.unOp UnOp.not 4 (Operand.tmp 53), type := 4, pos := _, after := #[{ on := 4, ground := Ground.data }], guard := none }) (v := ?vu7_5) rfl (by kernel_rfl) (by kernel_rfl) (by kernel_rfl) (fun _ _ _ h => h) (Or.inl ⟨by rfl, ?yu7_5⟩) hH6 ?ru7_5
      case yu7_5 => (intro w hSw; (try dsimp only at hSw); go_simp; try (with_reducible rfl))
      try simp only [Act.put, List.setIfInBounds_toArray, List.set_cons_zero, List.set_cons_succ]
      refine wpAnyH_take (i := 6) (oi := { dst := some 55, op := Op.move (Operand.tmp 54), type := 4, pos := _, after := #[{ on := 5, ground := Ground.data }, { on := 4, ground := Ground.chain }], guard := none }) (v := ?vu7_6) rfl (by kernel_rfl) (by kernel_rfl) (by kernel_rfl) (fun _ _ _ h => h) (Or.inl ⟨by rfl, ?yu7_6⟩) hH6 ?ru7_6
      case yu7_6 => (intro w hSw; (try dsimp only at hSw); go_simp; try (with_reducible rfl))
      try simp only [Act.put, List.setIfInBounds_toArray, List.set_cons_zero, List.set_cons_succ]
      refine wpAnyH_take (i := 7) (oi := { dst := some 56, op := Op.load 62 (Operand.tmp 2), type := 62, pos := _, after := #[{ on := 6, ground := Ground.guard }], guard := some (6, false) }) (v := ?vu7_7) rfl (by kernel_rfl) (by kernel_rfl) (by kernel_rfl) (fun _ _ _ h => h) (Or.inl ⟨by rfl, ?yu7_7⟩) hH6 ?ru7_7
      case yu7_7 => (intro w hSw; (try dsimp only at hSw); go_simp; try (with_reducible rfl))
      try simp only [Act.put, List.setIfInBounds_toArray, List.set_cons_zero, List.set_cons_succ]
      refine wpAnyH_take (i := 8) (oi := { dst := some 57, op := Op.call { callee := Callee.builtin Builtin.len, args := #[Operand.tmp 56], argTypes := #[62] }, type := 3, pos := _, after := #[{ on := 7, ground := Ground.data }, { on := 6, ground := Ground.guard }], guard := some (6, false) }) (v := ?vu7_8) rfl (by kernel_rfl) (by kernel_rfl) (by kernel_rfl) (fun _ _ _ h => h) (Or.inl ⟨by rfl, ?yu7_8⟩) hH6 ?ru7_8
      case yu7_8 => (intro w hSw; (try dsimp only at hSw); go_simp; try (with_reducible rfl))
      try simp only [Act.put, List.setIfInBounds_toArray, List.set_cons_zero, List.set_cons_succ]
      refine wpAnyH_take (i := 9) (oi := { dst := some 58, op := Op.binOp BinOp.gtr 3 (Operand.tmp 57) (Operand.const (Value.int IntKind.i64 2)) 3, type := 4, pos := _, after := #[{ on := 8, ground := Ground.data }, { on := 6, ground := Ground.guard }], guard := some (6, false) }) (v := ?vu7_9) rfl (by kernel_rfl) (by kernel_rfl) (by kernel_rfl) (fun _ _ _ h => h) (Or.inl ⟨by rfl, ?yu7_9⟩) hH6 ?ru7_9
      case yu7_9 => (intro w hSw; (try dsimp only at hSw); go_simp; try (with_reducible rfl))
      try simp only [Act.put, List.setIfInBounds_toArray, List.set_cons_zero, List.set_cons_succ]
      refine wpAnyH_take (i := 10) (oi := { dst := some 59, op := Op.move (Operand.tmp 58), type := 4, pos := _, after := #[{ on := 9, ground := Ground.data }, { on := 6, ground := Ground.chain }, { on := 6, ground := Ground.guard }], guard := some (6, false) }) (v := ?vu7_10) rfl (by kernel_rfl) (by kernel_rfl) (by kernel_rfl) (fun _ _ _ h => h) (Or.inl ⟨by rfl, ?yu7_10⟩) hH6 ?ru7_10
      case yu7_10 => (intro w hSw; (try dsimp only at hSw); go_simp; try (with_reducible rfl))
      try simp only [Act.put, List.setIfInBounds_toArray, List.set_cons_zero, List.set_cons_succ]
      refine wpAnyH_take (i := 11) (oi := { dst := some 60, op := Op.load 70 (Operand.tmp 7), type := 70, pos := _, after := #[{ on := 10, ground := Ground.guard }], guard := some (10, true) }) (v := undef) rfl (by kernel_rfl) (by kernel_rfl) (by kernel_rfl) (fun _ _ _ h => h) (Or.inr ⟨by rfl, rfl⟩) hH6 ?_
      try simp only [Act.put, List.setIfInBounds_toArray, List.set_cons_zero, List.set_cons_succ]
      refine wpAnyH_take (i := 12) (oi := { dst := some 61, op := Op.call { callee := Callee.value (Operand.func 41), args := #[Operand.tmp 60], argTypes := #[70] }, type := 66, pos := _, after := #[{ on := 11, ground := Ground.data }, { on := 10, ground := Ground.chain }, { on := 10, ground := Ground.guard }], guard := some (10, true) }) (v := undef) rfl (by kernel_rfl) (by kernel_rfl) (by kernel_rfl) (fun _ _ _ h => h) (Or.inr ⟨by rfl, rfl⟩) hH6 ?_
      try simp only [Act.put, List.setIfInBounds_toArray, List.set_cons_zero, List.set_cons_succ]
      refine wpAnyH_take (i := 13) (oi := { dst := some 62, op := Op.load 70 (Operand.tmp 9), type := 70, pos := _, after := #[{ on := 10, ground := Ground.guard }], guard := some (10, true) }) (v := undef) rfl (by kernel_rfl) (by kernel_rfl) (by kernel_rfl) (fun _ _ _ h => h) (Or.inr ⟨by rfl, rfl⟩) hH6 ?_
      try simp only [Act.put, List.setIfInBounds_toArray, List.set_cons_zero, List.set_cons_succ]
      refine wpAnyH_take (i := 14) (oi := { dst := some 63, op := Op.call { callee := Callee.value (Operand.func 41), args := #[Operand.tmp 62], argTypes := #[70] }, type := 66, pos := _, after := #[{ on := 13, ground := Ground.data }, { on := 12, ground := Ground.chain }, { on := 10, ground := Ground.guard }], guard := some (10, true) }) (v := undef) rfl (by kernel_rfl) (by kernel_rfl) (by kernel_rfl) (fun _ _ _ h => h) (Or.inr ⟨by rfl, rfl⟩) hH6 ?_
      try simp only [Act.put, List.setIfInBounds_toArray, List.set_cons_zero, List.set_cons_succ]
      refine wpAnyH_take (i := 15) (oi := { dst := some 64, op := Op.call { callee := Callee.value (Operand.func 40), args := #[Operand.tmp 61, Operand.tmp 63], argTypes := #[66, 66] }, type := 4, pos := _, after := #[{ on := 12, ground := Ground.data }, { on := 14, ground := Ground.data }, { on := 14, ground := Ground.chain }, { on := 10, ground := Ground.guard }], guard := some (10, true) }) (v := undef) rfl (by kernel_rfl) (by kernel_rfl) (by kernel_rfl) (fun _ _ _ h => h) (Or.inr ⟨by rfl, rfl⟩) hH6 ?_
      try simp only [Act.put, List.setIfInBounds_toArray, List.set_cons_zero, List.set_cons_succ]
      refine wpAnyH_take (i := 16) (oi := { dst := some 65, op := Op.unOp UnOp.not 4 (Operand.tmp 64), type := 4, pos := _, after := #[{ on := 15, ground := Ground.data }, { on := 10, ground := Ground.guard }], guard := some (10, true) }) (v := undef) rfl (by kernel_rfl) (by kernel_rfl) (by kernel_rfl) (fun _ _ _ h => h) (Or.inr ⟨by rfl, rfl⟩) hH6 ?_
      try simp only [Act.put, List.setIfInBounds_toArray, List.set_cons_zero, List.set_cons_succ]
      refine wpAnyH_take (i := 17) (oi := { dst := some 66, op := Op.pick (Operand.tmp 59) (Operand.tmp 65) (Operand.const (Value.bool false)), type := 4, pos := _, after := #[{ on := 10, ground := Ground.data }, { on := 16, ground := Ground.data }, { on := 6, ground := Ground.guard }], guard := some (6, false) }) (v := ?vu7_17) rfl (by kernel_rfl) (by kernel_rfl) (by kernel_rfl) (fun _ _ _ h => h) (Or.inl ⟨by rfl, ?yu7_17⟩) hH6 ?ru7_17
      case yu7_17 => (intro w hSw; (try dsimp only at hSw); go_simp; try (with_reducible rfl))
      try simp only [Act.put, List.setIfInBounds_toArray, List.set_cons_zero, List.set_cons_succ]
      refine wpAnyH_take (i := 18) (oi := { dst := some 67, op := Op.pick (Operand.tmp 55) (Operand.const (Value.bool true)) (Operand.tmp 66), type := 4, pos := _, after := #[{ on := 6, ground := Ground.data }, { on := 17, ground := Ground.data }], guard := none }) (v := ?vu7_18) rfl (by kernel_rfl) (by kernel_rfl) (by kernel_rfl) (fun _ _ _ h => h) (Or.inl ⟨by rfl, ?yu7_18⟩) hH6 ?ru7_18
      case yu7_18 => (intro w hSw; (try dsimp only at hSw); go_simp; try (with_reducible rfl))
      try simp only [Act.put, List.setIfInBounds_toArray, List.set_cons_zero, List.set_cons_succ]
      refine wpAnyH_done (by kernel_rfl) ?_ _
      go_wp2_with fail
      go_meet
      case rel => exact ⟨rfl, LA6, LC6⟩
  obtain ⟨rfl, LA3, LC3⟩ := hcut
  clear LA2 LC2 LD
  go_wp2_with fail
  go_loopw [10] (fun iv wr => ∃ kk qd : Nat, iv = .int .i64 (kk : Int) ∧ wr = wc.drewN qd ∧ 1 ≤ kk ∧ kk ≤ 41) (fun iv _ => 41 - (intOf iv).toNat)
  case atStart => exact ⟨1, 0, rfl, rfl, Nat.le_refl _, by omega⟩
  case round =>
    obtain ⟨kk, qd, rfl, rfl, hk1, hk41⟩ := hrel
    have LAq : Hid (LB w AK n cK g7 A1 m a1 A2 a2 A3 a3 L (wc.drewN qd)) := Lib.hid (LA3.out.keep (below_n (Below.refl _ _) qd)); have LCq : Hid (LB w AK n cK (g7 + 1) B1 m b1 B2 b2 B3 b3 L (wc.drewN qd)) := Lib.hid (LC3.out.keep (below_n (Below.refl _ _) qd))
    have r1 := rc_cell 1 (.slice A1 m a1) LAq.out.nd rfl
    by_cases hlt : kk < m
    · obtain ⟨j, hj⟩ : ∃ j, kk - 1 = j := ⟨_, rfl⟩
      have hjk : kk = j + 1 := by omega
      subst hjk
      obtain ⟨b, off, T1, n1, d1, xs, hA, hbl, hcl, hxs, hnc, HXK⟩ := LAq.out.pk.bss.at_ (k := j) (by omega)
      obtain ⟨b', off', T2, n2, d2, ys, hA', hbl', hcl', hys, hnc', HYK⟩ := LAq.out.pk.bss.at_ (k := j + 1) hlt
      rw [hA] at hA'
      obtain ⟨rfl, rfl⟩ : b = b' ∧ off = off' := by injection hA' with h; injection h with h1 h2; exact ⟨h1, h2⟩
      have hr : cmpL xs ys < 0 := by
        have hp := List.pairwise_iff_getElem.1 HRI.out j (j + 1) (by rw [HM.out]; omega) (by rw [HM.out]; omega) (by omega)
        have h1 := HXK.out; have h2 := HYK.out
        rw [List.getElem?_eq_getElem (by rw [HM.out]; omega)] at h1 h2
        injection h1 with h1; injection h2 with h2
        rw [h1, h2] at hp; exact hp
      obtain ⟨r, HRR⟩ : ∃ r, Hid (cmpL xs ys = r) := ⟨_, rfl⟩
      rw [HRR.out] at hr
      have hn1 : n1 ≤ maxLen := by rw [← hxs.len]; exact HMX.out _ (List.mem_of_getElem? HXK.out)
      have hn2 : n2 ≤ maxLen := by rw [← hys.len]; exact HMX.out _ (List.mem_of_getElem? HYK.out)
      have HXS := Lib.hid hxs; have HYS := Lib.hid hys; have CX := Lib.hid hcl; have CY := Lib.hid hcl'
      have hw1 : IntKind.i64.wrap (((j + 1 : Nat) : Int) - 1) = (j : Int) := by rw [show ((j + 1 : Nat) : Int) - 1 = (j : Int) by omega]; exact IntWalk.i64_in _ (by omega)
      have hw1' : IntKind.i64.wrap ((j : Int) + 1 - 1) = (j : Int) := by rw [show (j : Int) + 1 - 1 = (j : Int) by omega]; exact IntWalk.i64_in _ (by omega)
      have z0 : (0 : Int) ≤ (j : Int) := by omega
      have z1 : (j : Int) < (m : Int) := by omega
      have z2 : (0 : Int) ≤ ((j + 1 : Nat) : Int) := by omega
      have z3 : ((j + 1 : Nat) : Int) < (m : Int) := by omega
      have z2' : (0 : Int) ≤ (j : Int) + 1 := by omega
      have z3' : (j : Int) + 1 < (m : Int) := by omega
      have hwj : IntKind.i64.wrap (j : Int) = (j : Int) := IntWalk.i64_in _ (by omega)
      have hge : decide ((0 : Int) ≤ r) = false := by simp; omega
      subst hA
      clear hxs hys hcl hcl' hnc hnc' hA'
      go_upto_region 18 with fail
      clear r1
      refine wp_region_held_drew (S := fun w' => w'.cell? ⟨g7, 1, none⟩ = some (.slice (some ⟨b, off, none⟩) m a1) ∧ w'.cell? ⟨b, off + j, none⟩ = some (.slice T1 n1 d1) ∧ w'.cell? ⟨b, off + (j + 1), none⟩ = some (.slice T2 n2 d2)) (by kernel_rfl) ⟨rc_cell 1 _ LAq.out.nd rfl, CX.out, CY.out⟩ (fun hH0 => ?_)
      refine wpAnyH_take (i := 0) (oi := { dst := some 75, op := Op.fieldAddr 70 (Operand.tmp 7) 1, type := 0, pos := _, after := #[], guard := none }) (v := ?vs1_0) rfl (by kernel_rfl) (by kernel_rfl) (by kernel_rfl) (fun _ _ _ h => h) (Or.inl ⟨by rfl, ?ys1_0⟩) hH0 ?rs1_0
      case ys1_0 => (intro w hSw; (try dsimp only at hSw); go_simp; try (with_reducible rfl))
      try simp only [Act.put, List.setIfInBounds_toArray, List.set_cons_zero, List.set_cons_succ]
      refine wpAnyH_take (i := 1) (oi := { dst := some 76, op := Op.load 62 (Operand.tmp 75), type := 62, pos := _, after := #[{ on := 0, ground := Ground.data }], guard := none }) (v := ?vs1_1) rfl (by kernel_rfl) (by kernel_rfl) (by kernel_rfl) (fun _ _ _ h => h) (Or.inl ⟨by rfl, ?ys1_1⟩) hH0 ?rs1_1
      case ys1_1 => (intro w hSw; (try dsimp only at hSw); go_simp; try (with_reducible rfl))
      try simp only [Act.put, List.setIfInBounds_toArray, List.set_cons_zero, List.set_cons_succ]
      refine wpAnyH_take (i := 2) (oi := { dst := some 77, op := Op.move (Operand.tmp 10), type := 3, pos := _, after := #[], guard := none }) (v := ?vs1_2) rfl (by kernel_rfl) (by kernel_rfl) (by kernel_rfl) (fun _ _ _ h => h) (Or.inl ⟨by rfl, ?ys1_2⟩) hH0 ?rs1_2
      case ys1_2 => (intro w hSw; (try dsimp only at hSw); go_simp; try (with_reducible rfl))
      try simp only [Act.put, List.setIfInBounds_toArray, List.set_cons_zero, List.set_cons_succ]
      refine wpAnyH_take (i := 3) (oi := { dst := some 78, op := Op.binOp BinOp.sub 3 (Operand.tmp 77) (Operand.const (Value.int IntKind.i64 1)) 3, type := 3, pos := _, after := #[{ on := 2, ground := Ground.data }], guard := none }) (v := ?vs1_3) rfl (by kernel_rfl) (by kernel_rfl) (by kernel_rfl) (fun _ _ _ h => h) (Or.inl ⟨by rfl, ?ys1_3⟩) hH0 ?rs1_3
      case ys1_3 => (intro w hSw; (try dsimp only at hSw); go_simp; try (with_reducible rfl))
      try simp only [Act.put, List.setIfInBounds_toArray, List.set_cons_zero, List.set_cons_succ]
      refine wpAnyH_take (i := 4) (oi := { dst := some 79, op := Op.indexAddr 62 (Operand.tmp 76) (Operand.tmp 78), type := 0, pos := _, after := #[{ on := 1, ground := Ground.data }, { on := 3, ground := Ground.data }], guard := none }) (v := ?vs1_4) rfl (by kernel_rfl) (by kernel_rfl) (by kernel_rfl) (fun _ _ _ h => h) (Or.inl ⟨by rfl, ?ys1_4⟩) hH0 ?rs1_4
      case ys1_4 => (intro w hSw; (try dsimp only at hSw); go_simp; try (with_reducible rfl))
      try simp only [Act.put, List.setIfInBounds_toArray, List.set_cons_zero, List.set_cons_succ]
      refine wpAnyH_take (i := 5) (oi := { dst := some 80, op := Op.load 28 (Operand.tmp 79), type := 28, pos := _, after := #[{ on := 4, ground := Ground.data }], guard := none }) (v := ?vs1_5) rfl (by kernel_rfl) (by kernel_rfl) (by kernel_rfl) (fun _ _ _ h => h) (Or.inl ⟨by rfl, ?ys1_5⟩) hH0 ?rs1_5
      case ys1_5 => (intro w hSw; (try dsimp only at hSw); go_simp; try (with_reducible rfl))
      try simp only [Act.put, List.setIfInBounds_toArray, List.set_cons_zero, List.set_cons_succ]
      refine wpAnyH_take (i := 6) (oi := { dst := some 81, op := Op.fieldAddr 70 (Operand.tmp 7) 1, type := 0, pos := _, after := #[], guard := none }) (v := ?vs1_6) rfl (by kernel_rfl) (by kernel_rfl) (by kernel_rfl) (fun _ _ _ h => h) (Or.inl ⟨by rfl, ?ys1_6⟩) hH0 ?rs1_6
      case ys1_6 => (intro w hSw; (try dsimp only at hSw); go_simp; try (with_reducible rfl))
      try simp only [Act.put, List.setIfInBounds_toArray, List.set_cons_zero, List.set_cons_succ]
      refine wpAnyH_take (i := 7) (oi := { dst := some 82, op := Op.load 62 (Operand.tmp 81), type := 62, pos := _, after := #[{ on := 6, ground := Ground.data }], guard := none }) (v := ?vs1_7) rfl (by kernel_rfl) (by kernel_rfl) (by kernel_rfl) (fun _ _ _ h => h) (Or.inl ⟨by rfl, ?ys1_7⟩) hH0 ?rs1_7
      case ys1_7 => (intro w hSw; (try dsimp only at hSw); go_simp; try (with_reducible rfl))
      try simp only [Act.put, List.setIfInBounds_toArray, List.set_cons_zero, List.set_cons_succ]
      refine wpAnyH_take (i := 8) (oi := { dst := some 83, op := Op.move (Operand.tmp 10), type := 3, pos := _, after := #[], guard := none }) (v := ?vs1_8) rfl (by kernel_rfl) (by kernel_rfl) (by kernel_rfl) (fun _ _ _ h => h) (Or.inl ⟨by rfl, ?ys1_8⟩) hH0 ?rs1_8
      case ys1_8 => (intro w hSw; (try dsimp only at hSw); go_simp; try (with_reducible rfl))
      try simp only [Act.put, List.setIfInBounds_toArray, List.set_cons_zero, List.set_cons_succ]
      refine wpAnyH_take (i := 9) (oi := { dst := some 84, op := Op.indexAddr 62 (Operand.tmp 82) (Operand.tmp 83), type := 0, pos := _, after := #[{ on := 7, ground := Ground.data }, { on := 8, ground := Ground.data }], guard := none }) (v := ?vs1_9) rfl (by kernel_rfl) (by kernel_rfl) (by kernel_rfl) (fun _ _ _ h => h) (Or.inl ⟨by rfl, ?ys1_9⟩) hH0 ?rs1_9
      case ys1_9 => (intro w hSw; (try dsimp only at hSw); go_simp; try (with_reducible rfl))
      try simp only [Act.put, List.setIfInBounds_toArray, List.set_cons_zero, List.set_cons_succ]
      refine wpAnyH_take (i := 10) (oi := { dst := some 85, op := Op.load 28 (Operand.tmp 84), type := 28, pos := _, after := #[{ on := 9, ground := Ground.data }], guard := none }) (v := ?vs1_10) rfl (by kernel_rfl) (by kernel_rfl) (by kernel_rfl) (fun _ _ _ h => h) (Or.inl ⟨by rfl, ?ys1_10⟩) hH0 ?rs1_10
      case ys1_10 => (intro w hSw; (try dsimp only at hSw); go_simp; try (with_reducible rfl))
      try simp only [Act.put, List.setIfInBounds_toArray, List.set_cons_zero, List.set_cons_succ]
      refine wpAnyH_ready (rs := [11]) (by kernel_rfl) (by simp) ?_
      refine (AllReadyH.cons (o := { dst := some 86, op := Op.call { callee := Callee.value (Operand.func 51), args := #[Operand.tmp 80, Operand.tmp 85], argTypes := #[28, 28] }, type := 3, pos := _, after := #[{ on := 5, ground := Ground.data }, { on := 10, ground := Ground.data }], guard := none }) rfl (fun K hK => ?_) AllReadyH.nil)
      go_simp
      refine (cmp_is T1 T2 n1 n2 d1 d2 xs ys r HRR.out ((wc.drewN qd).drew) HXS.out HYS.out hn1 hn2).mono ?_
      rintro e y9 ⟨rfl, qe, rfl⟩
      go_wp2_with fail
      refine hK.out _ _ ⟨rc_cell 1 _ LAq.out.nd rfl, CX.out, CY.out⟩ (fun hH2 => ?_)
      clear hK K
      try simp only [Act.put, List.setIfInBounds_toArray, List.set_cons_zero, List.set_cons_succ]
      refine wpAnyH_take (i := 12) (oi := { dst := some 87, op := Op.binOp BinOp.geq 3 (Operand.tmp 86) (Operand.const (Value.int IntKind.i64 0)) 3, type := 4, pos := _, after := #[{ on := 11, ground := Ground.data }], guard := none }) (v := ?vs3_12) rfl (by kernel_rfl) (by kernel_rfl) (by kernel_rfl) (fun _ _ _ h => h) (Or.inl ⟨by rfl, ?ys3_12⟩) hH2 ?rs3_12
      case ys3_12 => (intro w hSw; (try dsimp only at hSw); go_simp; try (with_reducible rfl))
      try simp only [Act.put, List.setIfInBounds_toArray, List.set_cons_zero, List.set_cons_succ]
      refine wpAnyH_done (by kernel_rfl) ?_ _
      go_wp2
      go_roundw
      case rel => exact ⟨j + 2, qd + 1 + qe, by go_num, by first | rfl | (rw [World.drew, World.drewN_drewN, World.drewN_drewN]), by omega, by omega⟩
      case measure => simp [intOf]; omega
    · have hlt2 : decide ((kk : Int) < (m : Int)) = false := by simp; omega
      have rk := rc_cell 0 (.slice AK n cK) LCq.out.kb rfl
      go_upto_region 20 with fail
      clear r1
      generalize wc.drewN qd = yq at *
      go_wp2_with fail
      clear rk
      go_loopw [90] (fun iv wr => ∃ (kk c1 c2 c3 : Nat) (D1 D2 D3 : Option Addr), iv = .int .i64 (kk : Int) ∧ kk ≤ n ∧ Hid (LB w AK n cK (g7 + 1) D1 (dq keys L kk).length c1 D2 c2 D3 c3 (dq keys L kk) wr)) (fun iv _ => n - (intOf iv).toNat)
      case atStart => exact ⟨0, b1, b2, b3, B1, B2, B3, rfl, Nat.zero_le _, by rw [show dq keys L 0 = L from rfl, HM.out]; exact LCq⟩
      case round =>
        clear LAq LCq LA3 LC3
        obtain ⟨kk, c1, c2, c3, D1, D2, D3, rfl, hkk, HD⟩ := hrel
        obtain ⟨Q, HQ⟩ : ∃ Q, Hid (dq keys L kk = Q) := ⟨_, rfl⟩
        obtain ⟨mq, HMQ⟩ : ∃ mq, Hid (Q.length = mq) := ⟨_, rfl⟩
        have hmq : mq ≤ 40 := by rw [← HMQ.out, ← HQ.out]; exact Nat.le_trans (dq_len keys L kk) (by rw [HM.out]; exact hm40)
        have HQM : Hid (∀ x ∈ Q, x.length ≤ 1048576) := Lib.hid (fun x hx => HMM.out x (dq_mem keys HRI.out kk (by rw [HQ.out]; exact hx)).1)
        rw [HQ.out, HMQ.out] at HD
        by_cases hlt : kk < n
        · obtain ⟨b, off, AT, n1, d1, key, hA, hbl, hcl, hxs, hnc, HXK⟩ := (HX.out.keep HD.out.hb).at_ hlt
          obtain rfl := hxs.len
          have HXS := Lib.hid hxs; have hkl : key.length ≤ 1048576 := HMK.out _ (List.mem_of_getElem? HXK.out)
          have HNX : Hid (dq keys L (kk + 1) = dst key Q) := Lib.hid (by rw [dq, HQ.out]; congr 1; simp [List.getD, HXK.out])
          have z0 : (0 : Int) ≤ (kk : Int) := by omega
          have z1 : (kk : Int) < (n : Int) := by omega
          subst hA
          have rc := hcl
          have q0 := rc_cell 0 (.bool true) HD.out.nd rfl; have q1 := rc_cell 1 (.slice D1 mq c1) HD.out.nd rfl; have q2 := rc_cell 2 (.slice D2 mq c2) HD.out.nd rfl; have q3 := rc_cell 3 (.slice D3 0 c3) HD.out.nd rfl
          clear hxs hnc hcl
          go_wp2_with fail
          clear q0 q1 q2 q3; clear rc
          refine (find_any true D1 mq c1 D2 mq c2 D3 0 c3 Q AT key.length d1 key wr HD.out.pk.bss HXS.out (by omega) hkl HQM.out).mono ?_
          rintro e y7 ⟨rfl, hb7⟩
          have HD7 := Lib.hid (HD.out.keep hb7)
          obtain ⟨fb, HFB⟩ : ∃ fb, Hid (fdB key Q = fb) := ⟨_, rfl⟩
          obtain ⟨fn, HFN⟩ : ∃ fn, Hid (fdN key Q = fn) := ⟨_, rfl⟩
          rw [HFB.out, HFN.out]
          clear hb7
          cases fb with
          | false =>
            have HE : Hid (dq keys L (kk + 1) = Q) := Lib.hid (by rw [HNX.out]; unfold dst; rw [if_neg (by rw [HFB.out]; decide)])
            go_wp2
            go_roundw
            case rel => exact ⟨kk + 1, c1, c2, c3, D1, D2, D3, by go_num, by omega, by rw [HE.out, HMQ.out]; exact HD7⟩
            case measure => simp [intOf]; omega
          | true =>
            have hfn : fn < mq := by
              have h1 := fd_le key Q; rw [HFN.out, HMQ.out] at h1
              rcases Nat.lt_or_ge fn mq with h | h
              · exact h
              · have := fd_none (key := key) (ks := Q) (by rw [HFN.out, HMQ.out]; omega); rw [HFB.out] at this; cases this
            have HE : Hid (dq keys L (kk + 1) = delL Q fn) := Lib.hid (by rw [HNX.out]; unfold dst; rw [if_pos HFB.out, HFN.out])
            have HLE : Hid ((delL Q fn).length = mq - 1) := Lib.hid (by rw [delL_len _ _ (by rw [HMQ.out]; exact hfn), HMQ.out])
            have q0 := rc_cell 0 (.bool true) HD7.out.nd rfl; have q1 := rc_cell 1 (.slice D1 mq c1) HD7.out.nd rfl; have q2 := rc_cell 2 (.slice D2 mq c2) HD7.out.nd rfl; have q3 := rc_cell 3 (.slice D3 0 c3) HD7.out.nd rfl
            go_wp2_with fail
            clear q0 q1 q2 q3
            refine (withoutOk_any D1 mq c1 D2 mq c2 D3 0 c3 Q Q [] fn _ rfl y7 HD7.out.pk.bss HD7.out.pv.bss ⟨Rd.nil_, fun _ h => by cases h⟩ HD7.out.od.shp hfn rfl (by omega) (by omega) (by omega) (fun x hx => Nat.le_trans (HQM.out x hx) (by omega)) (fun x hx => Nat.le_trans (HQM.out x hx) (by omega))).mono ?_
            rintro e y8 ⟨E1, f1, E2, f2, E3, f3, rfl, p1, p2, p3, _, hb8⟩
            have HD8 := Lib.hid (HD7.out.put hb8 p1 p2 p3)
            have NB := (hb8.block _ (lt_of_heap HD7.out.nd)).trans HD7.out.nd
            have q0 := rc_cell 0 (.bool true) NB rfl; have q1 := rc_cell 1 (.slice D1 mq c1) NB rfl; have q2 := rc_cell 2 (.slice D2 mq c2) NB rfl; have q3 := rc_cell 3 (.slice D3 0 c3) NB rfl
            have t0 := two_frozen (i := 0) NB; have t1 := two_frozen (i := 1) NB; have t2 := two_frozen (i := 2) NB; have t3 := two_frozen (i := 3) NB
            clear p1 p2 p3 hb8
            go_wp2
            go_roundw
            case rel => exact ⟨kk + 1, f1, f2, f3, E1, E2, E3, by go_num, by omega, by rw [HE.out, HLE.out]; exact HD8⟩
            case measure => simp [intOf]; omega
        · obtain rfl : n = kk := by omega
          have hnil := dq_nil HLN.out HRI.out HAL.out
          rw [HQ.out] at hnil
          have hmz : mq = 0 := by rw [← HMQ.out, hnil]; rfl
          subst hmz
          have q0 := rc_cell 0 (.bool true) HD.out.nd rfl; have q1 := rc_cell 1 (.slice D1 0 c1) HD.out.nd rfl; have q2 := rc_cell 2 (.slice D2 0 c2) HD.out.nd rfl; have q3 := rc_cell 3 (.slice D3 0 c3) HD.out.nd rfl
          have HBE := Lib.hid HD.out.hb
          clear hnil
          go_wp2
          go_ret
          exact ⟨rfl, HBE.out⟩
end Go.Proofs.Ytmjjbfcblmmipaa
