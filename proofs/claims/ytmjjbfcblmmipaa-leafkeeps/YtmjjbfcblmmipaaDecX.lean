/- leaf.Decode of a leaf's page: its texts lie apart. -/
import Derived.Test.YtmjjbfcblmmipaaTakC
import Derived.Test.YtmjjbfcblmmipaaJoinY
import Derived.Test.YtmjjbfcblmmipaaEnc4W
import Derived.Test.YtmjjbfcblmmipaaDecK
namespace Go.Proofs.Ytmjjbfcblmmipaa
set_option linter.unusedVariables false
set_option linter.unusedSimpArgs false
open Go.RowKit
/-- taken's state, and the texts of both rows lie apart. -/
structure TX (w : World) (A : Option Addr) (c : Nat) (P : List Int) (gn : Nat) (k : Nat) (lf : Bool) (A1 : Option Addr) (n1 c1 : Nat) (ks : List (List Int)) (A2 : Option Addr) (n2 c2 : Nat) (vs : List (List Int)) (A3 : Option Addr) (n3 c3 : Nat) (ds : List Int) (W : World) : Prop where
  t : TN w A c P gn k lf A1 n1 c1 ks A2 n2 c2 vs A3 n3 c3 ds W
  x : XD W A1 n1 A2 n2
section
variable {w W W' : World} {A A1 A2 A3 A' T : Option Addr} {c gn k k' n1 c1 n2 c2 n3 c3 c' l e s : Nat} {P ds : List Int} {lf : Bool} {ks vs xs' : List (List Int)} {us : List Value}
theorem TX.turn (h : TX w A c P gn k lf A1 n1 c1 ks A2 n2 c2 vs A3 n3 c3 ds W) (t : TN w A c P gn k' lf A1 n1 c1 ks A2 n2 c2 vs A3 n3 c3 ds W') (hk : ∀ (X : Option Addr) (n c : Nat) (us : List Value), Own W (w.heap.size + 4) 28 X n c us → Own W' (w.heap.size + 4) 28 X n c us) : TX w A c P gn k' lf A1 n1 c1 ks A2 n2 c2 vs A3 n3 c3 ds W' := by
  obtain ⟨us, ho, _⟩ := h.t.pk.texts
  obtain ⟨ts, hp, _⟩ := h.t.pv.texts
  exact ⟨t, h.x.turn ho.rd hp.rd (hk _ _ _ _ ho).rd (hk _ _ _ _ hp).rd⟩
theorem TX.keep (h : TX w A c P gn k lf A1 n1 c1 ks A2 n2 c2 vs A3 n3 c3 ds W) (hb : Below W.heap.size W W') : TX w A c P gn k lf A1 n1 c1 ks A2 n2 c2 vs A3 n3 c3 ds W' :=
  h.turn (h.t.keep hb) (fun X n c us ho => ho.below hb (fun k hk => (ho.lies k hk).2))
theorem TX.move (h : TX w A c P gn k lf A1 n1 c1 ks A2 n2 c2 vs A3 n3 c3 ds W) (t : TC W' w.heap.size (w.heap.size + 1 + 1) A c P k') (ho : Onl (w.heap.size + 1 + 1) W W') : TX w A c P gn k' lf A1 n1 c1 ks A2 n2 c2 vs A3 n3 c3 ds W' :=
  h.turn (h.t.move t ho) (fun X n c us hw => hw.onl ho (fun e => by have := (hw.lies _ e).1; omega))
theorem TX.app1 (h : TX w A c P gn k lf A1 n1 c1 ks A2 n2 c2 vs A3 n3 c3 ds W) (ho : Own W (w.heap.size + 4) 28 A1 n1 c1 us) (hg : Grows W W' A1 A') (hp : Prts W' (w.heap.size + 4) A' (n1 + 1) c' xs') (hw : Own W' (w.heap.size + 4) 28 A' (n1 + 1) c' (us ++ [.slice T l e])) (hnew : ∀ k, blk T = some k → s ≤ k) (hold : OldT W A2 n2 s) :
    W'.heap[gn]? = some (.cells #[.bool lf, .slice A1 n1 c1, .slice A2 n2 c2, .slice A3 n3 c3] 70 (0, 0)) ∧ TX w A c P gn k lf A' (n1 + 1) c' xs' A2 n2 c2 vs A3 n3 c3 ds (W'.setCell ⟨gn, 1, none⟩ (.slice A' (n1 + 1) c')) := by
  obtain ⟨g1, t⟩ := h.t.app1 ho hg hp
  obtain ⟨ts, hq, _⟩ := h.t.pv.texts
  have hq' := hq.kept hg.1 (dist_symm h.t.ap)
  have hul : us.length = n1 := ho.len
  have x1 : XD W' A' (n1 + 1) A2 n2 := h.x.ins1 (i0 := n1) ho.rd hq.rd (Nat.le_refl _) (by rw [← hul, insL_end, hul]; exact hw.rd) hq'.rd hnew hold
  have o := onl_set W' gn 1 (.slice A' (n1 + 1) c')
  exact ⟨g1, t, x1.turn hw.rd hq'.rd (hw.onl o (hw.ne_blk g1 (by decide))).rd (hq'.onl o (hq'.ne_blk g1 (by decide))).rd⟩
theorem TX.app2 (h : TX w A c P gn k lf A1 n1 c1 ks A2 n2 c2 vs A3 n3 c3 ds W) (ho : Own W (w.heap.size + 4) 28 A2 n2 c2 us) (hg : Grows W W' A2 A') (hp : Prts W' (w.heap.size + 4) A' (n2 + 1) c' xs') (hw : Own W' (w.heap.size + 4) 28 A' (n2 + 1) c' (us ++ [.slice T l e])) (hnew : ∀ k, blk T = some k → s ≤ k) (hold : OldT W A1 n1 s) :
    W'.heap[gn]? = some (.cells #[.bool lf, .slice A1 n1 c1, .slice A2 n2 c2, .slice A3 n3 c3] 70 (0, 0)) ∧ TX w A c P gn k lf A1 n1 c1 ks A' (n2 + 1) c' xs' A3 n3 c3 ds (W'.setCell ⟨gn, 2, none⟩ (.slice A' (n2 + 1) c')) := by
  obtain ⟨g1, t⟩ := h.t.app2 ho hg hp
  obtain ⟨ts, hq, _⟩ := h.t.pk.texts
  have hq' := hq.kept hg.1 h.t.ap
  have hul : us.length = n2 := ho.len
  have x1 : XD W' A1 n1 A' (n2 + 1) := h.x.ins2 (i0 := n2) hq.rd ho.rd (Nat.le_refl _) hq'.rd (by rw [← hul, insL_end, hul]; exact hw.rd) hnew hold
  have o := onl_set W' gn 2 (.slice A' (n2 + 1) c')
  exact ⟨g1, t, x1.turn hq'.rd hw.rd (hq'.onl o (hq'.ne_blk g1 (by decide))).rd (hw.onl o (hw.ne_blk g1 (by decide))).rd⟩
end
end Go.Proofs.Ytmjjbfcblmmipaa
namespace Go.Proofs.Ytmjjbfcblmmipaa
set_option linter.unusedVariables false
set_option linter.unusedSimpArgs false
open Go.RowKit
theorem ran_dropX {P : List Int} (h : Ran P) (k s : Nat) (hs : s ≤ 2) : nmL (txL P k s) ≤ 65535 := nm_bd (by unfold txL; rw [List.length_take]; omega) (tx_ran h k s)
set_option maxRecDepth 100000 in
set_option maxHeartbeats 16000000 in
theorem takenX_any (A : Option Addr) (c : Nat) (P : List Int) (w : World) (hx : Bs w A 512 P) (hc : 512 ≤ c) (hl : lfT P = true) :
    Calls Try.prog 86 #[.slice A 512 c] w fun e w' => ∃ (A1 : Option Addr) (n c1 : Nat) (A2 : Option Addr) (c2 : Nat), e = .returned (.agg (ndV true A1 n c1 A2 n c2 none 0 0)) ∧ Prts w' w.heap.size A1 n c1 (ksT P) ∧ Prts w' w.heap.size A2 n c2 (vsT P) ∧ n ≤ 512 ∧ XD w' A1 n A2 n ∧ Below w.heap.size w w' := by
  obtain ⟨i0, hi, hz0, hz1, hz2⟩ := info_parts info23; obtain ⟨i3, hi3, hz3, hsz3, hby3⟩ := info_parts info3
  have HP := Lib.hid hx.len; have HPR := Lib.hid hx.2; have HL := Lib.hid hl
  have hA : ∀ b, blk A = some b → b < w.heap.size := by
    obtain ⟨b, off, rfl, hb, _⟩ := hx.1.2 (by omega)
    intro b' e; have e2 : b = b' := by simpa [blk] using e
    omega
  have HLO := Lib.hid hA
  have A4 := alloc4 w #[.slice A 512 c] ndZ #[.int .i64 0] #[txF w.heap.size (w.heap.size + 1 + 1)] 28 70 3 175
  have T0 : Hid (TC ((((w.alloc (.cells #[.slice A 512 c] 28)).alloc (.cells ndZ 70)).alloc (.cells #[.int .i64 0] 3)).alloc (.cells #[txF w.heap.size (w.heap.size + 1 + 1)] 175)) w.heap.size (w.heap.size + 1 + 1) A c P 0) := Lib.hid ⟨A4.1, A4.2.2.1, hx.keep A4.2.2.2.2, (fun e => by have := hA _ e; omega), hc, Nat.zero_le _⟩
  have RS0 : Hid (((((w.alloc (.cells #[.slice A 512 c] 28)).alloc (.cells ndZ 70)).alloc (.cells #[.int .i64 0] 3)).alloc (.cells #[txF w.heap.size (w.heap.size + 1 + 1)] 175)).heap[w.heap.size + 1]? = some (.cells ndZ 70 (0, 0))) := Lib.hid A4.2.1
  have FN0 : Hid (((((w.alloc (.cells #[.slice A 512 c] 28)).alloc (.cells ndZ 70)).alloc (.cells #[.int .i64 0] 3)).alloc (.cells #[txF w.heap.size (w.heap.size + 1 + 1)] 175)).heap[w.heap.size + 1 + 1 + 1]? = some (.cells #[txF w.heap.size (w.heap.size + 1 + 1)] 175 (0, 0))) := Lib.hid A4.2.2.2.1
  have HB0 : Hid (Below w.heap.size w ((((w.alloc (.cells #[.slice A 512 c] 28)).alloc (.cells ndZ 70)).alloc (.cells #[.int .i64 0] 3)).alloc (.cells #[txF w.heap.size (w.heap.size + 1 + 1)] 175))) := Lib.hid A4.2.2.2.2
  clear A4 hx hA
  go_enter Try.func86, Try.ntmps86
  go_upto_region 4 with fail
  generalize ((((w.alloc (.cells #[.slice A 512 c] 28)).alloc (.cells ndZ 70)).alloc (.cells #[.int .i64 0] 3)).alloc (.cells #[txF w.heap.size (w.heap.size + 1 + 1)] 175)) = y at *
  obtain ⟨h0, HH0⟩ : ∃ h0 : Nat, Hid (nmL (txL P 0 1) = h0) := ⟨_, rfl⟩
  have HLF : Hid ((h0 == 1) = true) := Lib.hid (by rw [← HH0.out, ← HL.out]; rfl)
  obtain rfl : h0 = 1 := by have := HLF.out; simpa using this
  go_wp2_with fail
  refine (numc_any A c w.heap.size (w.heap.size + 1 + 1) (w.heap.size + 1 + 1 + 1) 0 1 1 1 _ P y T0.out rfl (by omega) rfl FN0.out HH0.out).mono ?_
  rintro e x1 ⟨rfl, t1, o1⟩
  have RS1 := Lib.hid ((o1.block _ (lt_of_heap RS0.out) (by intro e; injection e with e; omega)).trans RS0.out); have FN1 := Lib.hid ((o1.block _ (lt_of_heap FN0.out) (by intro e; injection e with e; omega)).trans FN0.out)
  have hs1 := lt_of_heap FN1.out; have hs0 := lt_of_heap FN0.out
  have HB1 := Lib.hid (HB0.out.trans ((o1.below (by omega)).mono (by omega)))
  have T1 : Hid (TX w A c P x1.heap.size 1 true none 0 0 [] none 0 0 [] none 0 0 [] (x1.alloc (.cells #[.bool true, .slice none 0 0, .slice none 0 0, .slice none 0 0] 70))) := Lib.hid (by
    have hba := below_alloc x1 (.cells #[.bool true, .slice none 0 0, .slice none 0 0, .slice none 0 0] 70)
    exact ⟨⟨TC.keep t1 hba, (hba.block _ (lt_of_heap RS1.out)).trans RS1.out, (hba.block _ (lt_of_heap FN1.out)).trans FN1.out, heap_alloc_new x1 _, Prts.nil_, Prts.nil_, Own.nil_, .inl rfl, by omega, HLO.out, HB1.out.trans (hba.mono HB1.out.size)⟩, XD.nil1 _ _ _ _⟩)
  clear t1 o1 RS1 FN1 HB1 HB0 T0 RS0 FN0 hs1 hs0
  go_upto_region 5 with fail
  generalize hgn : x1.heap.size = gn at *
  generalize x1.alloc (.cells #[.bool true, .slice none 0 0, .slice none 0 0, .slice none 0 0] 70) = y1 at *
  clear hgn
  obtain ⟨cnt, HCN⟩ : ∃ cnt : Nat, Hid (nmL (txL P 1 2) = cnt) := ⟨_, rfl⟩
  have bcn : cnt ≤ 65535 := by rw [← HCN.out]; exact ran_dropX HPR.out 1 2 (by omega)
  go_wp2_with fail
  refine (numc_any A c w.heap.size (w.heap.size + 1 + 1) (w.heap.size + 1 + 1 + 1) 1 2 2 cnt _ P y1 T1.out.t.tc rfl (by omega) rfl T1.out.t.fn HCN.out).mono ?_
  rintro e x2 ⟨rfl, t2, o2⟩
  have T2 := Lib.hid (T1.out.move (k' := 3) t2 o2)
  clear t2 o2 T1
  have r0 := rc_cell 0 (.bool true) T2.out.t.nd rfl
  have HK0 : Hid ([] ++ tkE keyO true (cnt - 0) (P.drop 3) = ksT P) := Lib.hid (by unfold ksT R0; rw [HL.out, if_pos rfl, ← HCN.out]; rfl)
  have HV0 : Hid ([] ++ tkE valO true (cnt - 0) (P.drop 3) = vsT P) := Lib.hid (by unfold vsT R0; rw [HL.out, if_pos rfl, if_pos rfl, ← HCN.out]; rfl)
  go_wp2_with fail
  clear r0
  go_loopg [] 513 (fun gk wr => ∃ (kk j c1 c2 : Nat) (A1 A2 : Option Addr) (ks vs : List (List Int)), kk ≤ 512 ∧ 512 - kk < gk ∧ j ≤ cnt ∧ j ≤ kk ∧ Hid (TX w A c P gn kk true A1 j c1 ks A2 j c2 vs none 0 0 [] wr) ∧ Hid (ks ++ tkE keyO true (cnt - j) (P.drop kk) = ksT P) ∧ Hid (vs ++ tkE valO true (cnt - j) (P.drop kk) = vsT P))
  case atStart => exact ⟨3, 0, 0, 0, none, none, [], [], by omega, by omega, by omega, by omega, T2, HK0, HV0⟩
  case round =>
    clear T2 HK0 HV0
    obtain ⟨kk, j, c1, c2, A1, A2, ks, vs, hkk, hgk, hjc, hjk, HT, HK, HV⟩ := hrel
    have hj512 : j ≤ 512 := by omega
    have q1 := rc_cell 1 (.slice A1 j c1) HT.out.t.nd rfl; have qa := rc_cell 0 (.int .i64 (kk : Int)) HT.out.t.tc.at_ rfl; have qb := rc_cell 0 (.slice A 512 c) HT.out.t.tc.box rfl
    by_cases hlt : j < cnt
    · have d1 : decide ((j : Int) < (cnt : Int)) = true := by simp; omega
      by_cases hlk : kk < 512
      · have d2 : decide ((kk : Int) < 512) = true := by simp; omega
        obtain ⟨sz, HSZ⟩ : ∃ sz : Nat, Hid (nmL (txL P kk 1) = sz) := ⟨_, rfl⟩
        have bsz : sz ≤ 65535 := by rw [← HSZ.out]; exact ran_dropX HPR.out kk 1 (by omega)
        obtain ⟨mt, hmt⟩ : ∃ mt, min sz (512 - (kk + 1)) = mt := ⟨_, rfl⟩
        have hm1 : min 1 (512 - kk) = 1 := by omega
        have LEN1 : Hid ((txL P (kk + 1) sz).length = mt) := Lib.hid (by rw [tx_len HP.out]; exact hmt)
        have HRK := Lib.hid (round_key HP.out kk sz mt HSZ.out hmt)
        obtain ⟨sv, HSV⟩ : ∃ sv : Nat, Hid (nmL (txL P (kk + 1 + mt) 2) = sv) := ⟨_, rfl⟩
        have bsv : sv ≤ 65535 := by rw [← HSV.out]; exact ran_dropX HPR.out _ 2 (by omega)
        obtain ⟨m2, hm2⟩ : ∃ m2, min 2 (512 - (kk + 1 + mt)) = m2 := ⟨_, rfl⟩
        obtain ⟨m3, hm3⟩ : ∃ m3, min sv (512 - (kk + 1 + mt + m2)) = m3 := ⟨_, rfl⟩
        have LEN2 : Hid ((txL P (kk + 1 + mt + m2) sv).length = m3) := Lib.hid (by rw [tx_len HP.out]; exact hm3)
        have HR2 := Lib.hid (round_two HP.out kk (kk + 1 + mt) m2 sv m3 HRK.out.2 hm2 HSV.out hm3)
        have hpos : 0 < (P.drop kk).length := by rw [List.length_drop, HP.out]; omega
        have hsub : cnt - j = (cnt - (j + 1)) + 1 := by omega
        have HNK : Hid ((ks ++ [txL P (kk + 1) sz]) ++ tkE keyO true (cnt - (j + 1)) (P.drop (kk + 1 + mt + m2 + m3)) = ksT P) := Lib.hid (by rw [← HK.out, hsub, tkE_succ _ _ _ _ hpos, HRK.out.1, HR2.out.2.2.1]; simp)
        have HNV : Hid ((vs ++ [txL P (kk + 1 + mt + m2) sv]) ++ tkE valO true (cnt - (j + 1)) (P.drop (kk + 1 + mt + m2 + m3)) = vsT P) := Lib.hid (by rw [← HV.out, hsub, tkE_succ _ _ _ _ hpos, HR2.out.1, HR2.out.2.2.1]; simp)
        clear hpos hsub HRK HR2 HK HV
        go_upto_region 9 with fail
        clear q1 qa qb
        go_cut [] from 37 to 63 (fun wx => ∃ (AE : Option Addr) (cE : Nat), Hid (TX w A c P gn (kk + 1 + mt) true AE (j + 1) cE (ks ++ [txL P (kk + 1) sz]) A2 j c2 vs none 0 0 [] wx))
        case first =>
          have Td9 := Lib.hid (HT.out.keep ((Dr.refl wr).one.below _))
          refine wp_region_held_drew (S := fun w' => w'.cell? ⟨w.heap.size + 1 + 1 + 1, 0, none⟩ = some (txF w.heap.size (w.heap.size + 1 + 1)) ∧ True) (by kernel_rfl) ⟨rc_cell 0 _ Td9.out.t.fn rfl, trivial⟩ (fun hH0 => ?_)
          generalize wr.drew = yd at *
          refine wpAnyH_take (i := 0) (oi := { dst := some 37, op := Op.fieldAddr 70 (Operand.tmp 6) 1, type := 0, pos := _, after := #[], guard := none }) (v := ?vk91_0) rfl (by kernel_rfl) (by kernel_rfl) (by kernel_rfl) (fun _ _ _ h => h) (Or.inl ⟨by rfl, ?yk91_0⟩) hH0 ?rk91_0
          case yk91_0 => (intro w hSw; (try dsimp only at hSw); go_simp; try (with_reducible rfl))
          try simp only [Act.put, List.setIfInBounds_toArray, List.set_cons_zero, List.set_cons_succ]
          refine wpAnyH_take (i := 2) (oi := { dst := some 39, op := Op.load 175 (Operand.tmp 4), type := 175, pos := _, after := #[], guard := none }) (v := ?vk91_2) rfl (by kernel_rfl) (by kernel_rfl) (by kernel_rfl) (fun _ _ _ h => h) (Or.inl ⟨by rfl, ?yk91_2⟩) hH0 ?rk91_2
          case yk91_2 => (intro w hSw; (try dsimp only at hSw); go_simp; try (with_reducible rfl))
          try simp only [Act.put, List.setIfInBounds_toArray, List.set_cons_zero, List.set_cons_succ]
          refine wpAnyH_take (i := 3) (oi := { dst := some 40, op := Op.move (Operand.tmp 5), type := 116, pos := _, after := #[], guard := none }) (v := ?vk91_3) rfl (by kernel_rfl) (by kernel_rfl) (by kernel_rfl) (fun _ _ _ h => h) (Or.inl ⟨by rfl, ?yk91_3⟩) hH0 ?rk91_3
          case yk91_3 => (intro w hSw; (try dsimp only at hSw); go_simp; try (with_reducible rfl))
          try simp only [Act.put, List.setIfInBounds_toArray, List.set_cons_zero, List.set_cons_succ]
          refine wpAnyH_ready (rs := [1, 4]) (by kernel_rfl) (by simp) ?_
          refine (AllReadyH.cons (o := { dst := some 38, op := Op.load 62 (Operand.tmp 37), type := 62, pos := _, after := #[{ on := 0, ground := Ground.data }], guard := none }) rfl (fun K hK => ?_) (AllReadyH.cons (o := { dst := some 41, op := Op.call { callee := Callee.value (Operand.tmp 40), args := #[Operand.const (Value.int IntKind.i64 1)], argTypes := #[3] }, type := 3, pos := _, after := #[{ on := 3, ground := Ground.data }], guard := none }) rfl (fun K hK => ?_) AllReadyH.nil))
          · have lc2 := rc_cell 1 (.slice A1 j c1) Td9.out.t.nd rfl
            go_simp
            refine hK.out _ _ ⟨rc_cell 0 _ Td9.out.t.fn rfl, trivial⟩ (fun hH2 => ?_)
            clear hK K
            try simp only [Act.put, List.setIfInBounds_toArray, List.set_cons_zero, List.set_cons_succ]
            refine wpAnyH_ready (rs := [4]) (by kernel_rfl) (by simp) ?_
            refine (AllReadyH.cons (o := { dst := some 41, op := Op.call { callee := Callee.value (Operand.tmp 40), args := #[Operand.const (Value.int IntKind.i64 1)], argTypes := #[3] }, type := 3, pos := _, after := #[{ on := 3, ground := Ground.data }], guard := none }) rfl (fun K hK => ?_) AllReadyH.nil)
            go_simp
            refine (numc_any A c w.heap.size (w.heap.size + 1 + 1) (w.heap.size + 1 + 1 + 1) (kk) 1 1 sz _ P yd Td9.out.t.tc rfl (by omega) hm1 Td9.out.t.fn HSZ.out).mono ?_
            rintro e x4 ⟨rfl, t4, o4⟩
            have T4 := Lib.hid (Td9.out.move t4 o4)
            clear t4 o4
            go_wp2_with fail
            refine hK.out _ _ ⟨rc_cell 0 _ T4.out.t.fn rfl, trivial⟩ (fun hH4 => ?_)
            clear hK K
            try simp only [Act.put, List.setIfInBounds_toArray, List.set_cons_zero, List.set_cons_succ]
            refine wpAnyH_ready (rs := [5]) (by kernel_rfl) (by simp) ?_
            refine (AllReadyH.cons (o := { dst := some 42, op := Op.call { callee := Callee.value (Operand.tmp 39), args := #[Operand.tmp 41], argTypes := #[3] }, type := 28, pos := _, after := #[{ on := 2, ground := Ground.data }, { on := 4, ground := Ground.data }, { on := 4, ground := Ground.chain }], guard := none }) rfl (fun K hK => ?_) AllReadyH.nil)
            go_simp
            refine (textc_any A c w.heap.size (w.heap.size + 1 + 1) (kk + 1) sz mt P x4 T4.out.t.tc bsz hmt).mono ?_
            rintro e x6 ⟨TA, tc, rfl, ot6, t6, o6⟩
            obtain ⟨us6, ow6, RW6⟩ := T4.out.t.pk.row (w := x6) (fun e B m d us hh => hh.onl o6 (fun e' => by have := (hh.lies _ e').1; omega)) (.cells #[.slice TA mt tc] 28)
            have OD6 := Lib.hid (OldT.of (w' := x6.alloc (.cells #[.slice TA mt tc] 28)) T4.out.t.pv (fun us hu => ((hu.onl o6 (fun e' => by have := (hu.lies _ e').1; omega)).alloc (.cells #[.slice TA mt tc] 28)).rd) (Nat.le_refl _))
            have T6 := Lib.hid (T4.out.move t6 o6); have OT6 := Lib.hid (ot6.mono T4.out.t.sz); have OL6 := Lib.hid (fun b hb => (ot6.lies b hb).1); have OW6 := Lib.hid ow6
            clear t6 o6 ot6 ow6
            go_wp2_with fail
            refine hK.out _ _ ⟨rc_cell 0 _ T6.out.t.fn rfl, trivial⟩ (fun hH6 => ?_)
            clear hK K
            try simp only [Act.put, List.setIfInBounds_toArray, List.set_cons_zero, List.set_cons_succ]
            refine wpAnyH_ready (rs := [6]) (by kernel_rfl) (by simp) ?_
            refine (AllReadyH.cons (o := { dst := some 43, op := Op.buildSlice 62 1 #[(0, Operand.tmp 42)], type := 62, pos := _, after := #[{ on := 5, ground := Ground.data }], guard := none }) rfl (fun K hK => ?_) AllReadyH.nil)
            go_simp
            have T8 := Lib.hid (T6.out.keep (below_alloc x6 (.cells #[(.slice TA mt tc)] 28))); have RD8 := Lib.hid (rd_oneV x6 (.slice TA mt tc) 28)
            refine hK.out _ _ ⟨rc_cell 0 _ T8.out.t.fn rfl, trivial⟩ (fun hH8 => ?_)
            clear hK K
            try simp only [Act.put, List.setIfInBounds_toArray, List.set_cons_zero, List.set_cons_succ]
            generalize x6.heap.size = gE at *
            generalize x6.alloc (.cells #[(.slice TA mt tc)] 28) = b8 at *
            refine wpAnyH_ready (rs := [7]) (by kernel_rfl) (by simp) ?_
            refine (AllReadyH.cons (o := { dst := some 44, op := Op.call { callee := Callee.builtin Builtin.append, args := #[Operand.tmp 38, Operand.tmp 43], argTypes := #[62, 62] }, type := 62, pos := _, after := #[{ on := 1, ground := Ground.data }, { on := 6, ground := Ground.data }, { on := 5, ground := Ground.chain }], guard := none }) rfl (fun K hK => ?_) AllReadyH.nil)
            refine step_append_rd rfl (.tmp 38) (.tmp 43) 62 rfl i0 (.slice none 0 0) 24 Try.underlying62 hi hz0 hz1 hz2 rfl (by simp [Act.eval, Act.put]) OW6.out (some ⟨gE, 0, none⟩) 1 1 [.slice TA mt tc] (by simp [Act.eval, Act.put]) RD8.out (one_slice _ _ _) (by unfold maxLen; omega) (by omega) T8.out.t.sz ?_
            intro AE cE x10 oE gE'
            have hE10 := RW6.out TA tc (txL P (kk + 1) sz) x10 AE cE (by rw [LEN1.out]; exact OT6.out) OL6.out (tx_ran HPR.out _ _) (by rw [LEN1.out]; exact oE) gE'
            have HA10 := Lib.hid (T8.out.app1 OW6.out gE' hE10 oE OL6.out OD6.out)
            have HF10 := Lib.hid ((gE'.1.block _ (lt_of_heap T8.out.t.fn) (OW6.out.ne_blk T8.out.t.fn (by decide)).symm).trans T8.out.t.fn)
            clear oE gE' hE10
            refine hK.out _ _ ⟨rc_cell 0 _ HF10.out rfl, trivial⟩ (fun hH10 => ?_)
            clear hK K
            try simp only [Act.put, List.setIfInBounds_toArray, List.set_cons_zero, List.set_cons_succ]
            refine wpAnyH_take (i := 8) (oi := { dst := some 45, op := Op.fieldAddr 70 (Operand.tmp 6) 1, type := 0, pos := _, after := #[{ on := 0, ground := Ground.phase }, { on := 1, ground := Ground.phase }, { on := 2, ground := Ground.phase }, { on := 3, ground := Ground.phase }, { on := 4, ground := Ground.phase }, { on := 5, ground := Ground.phase }, { on := 6, ground := Ground.phase }, { on := 7, ground := Ground.phase }], guard := none }) (v := ?vk911_8) rfl (by kernel_rfl) (by kernel_rfl) (by kernel_rfl) (fun _ _ _ h => h) (Or.inl ⟨by rfl, ?yk911_8⟩) hH10 ?rk911_8
            case yk911_8 => (intro w hSw; (try dsimp only at hSw); go_simp; try (with_reducible rfl))
            try simp only [Act.put, List.setIfInBounds_toArray, List.set_cons_zero, List.set_cons_succ]
            refine wpAnyH_ready (rs := [9]) (by kernel_rfl) (by simp) ?_
            refine (AllReadyH.cons (o := { dst := none, op := Op.store 62 (Operand.tmp 45) (Operand.tmp 44), type := 0, pos := _, after := #[{ on := 8, ground := Ground.data }, { on := 7, ground := Ground.data }, { on := 7, ground := Ground.chain }, { on := 0, ground := Ground.phase }, { on := 1, ground := Ground.phase }, { on := 2, ground := Ground.phase }, { on := 3, ground := Ground.phase }, { on := 4, ground := Ground.phase }, { on := 5, ground := Ground.phase }, { on := 6, ground := Ground.phase }, { on := 7, ground := Ground.phase }], guard := none }) rfl (fun K hK => ?_) AllReadyH.nil)
            have c12 := rc_cell 1 (.slice A1 j c1) HA10.out.1 rfl; have f12 := two_frozen (i := 1) HA10.out.1
            have T12 := Lib.hid HA10.out.2
            go_simp
            refine hK.out _ _ ⟨rc_cell 0 _ T12.out.t.fn rfl, trivial⟩ (fun hH12 => ?_)
            clear hK K
            try simp only [Act.put, List.setIfInBounds_toArray, List.set_cons_zero, List.set_cons_succ]
            clear HA10 c12 f12
            generalize x10.setCell ⟨gn, 1, none⟩ (.slice AE (j + 1) cE) = s12 at *
            refine wpAnyH_done (by kernel_rfl) ?_ _
            go_wp2_with fail
            go_meet
            case rel => exact ⟨AE, cE, T12⟩
          · go_simp
            refine (numc_any A c w.heap.size (w.heap.size + 1 + 1) (w.heap.size + 1 + 1 + 1) (kk) 1 1 sz _ P yd Td9.out.t.tc rfl (by omega) hm1 Td9.out.t.fn HSZ.out).mono ?_
            rintro e x14 ⟨rfl, t14, o14⟩
            have T14 := Lib.hid (Td9.out.move t14 o14)
            clear t14 o14
            go_wp2_with fail
            refine hK.out _ _ ⟨rc_cell 0 _ T14.out.t.fn rfl, trivial⟩ (fun hH14 => ?_)
            clear hK K
            try simp only [Act.put, List.setIfInBounds_toArray, List.set_cons_zero, List.set_cons_succ]
            refine wpAnyH_ready (rs := [1, 5]) (by kernel_rfl) (by simp) ?_
            refine (AllReadyH.cons (o := { dst := some 38, op := Op.load 62 (Operand.tmp 37), type := 62, pos := _, after := #[{ on := 0, ground := Ground.data }], guard := none }) rfl (fun K hK => ?_) (AllReadyH.cons (o := { dst := some 42, op := Op.call { callee := Callee.value (Operand.tmp 39), args := #[Operand.tmp 41], argTypes := #[3] }, type := 28, pos := _, after := #[{ on := 2, ground := Ground.data }, { on := 4, ground := Ground.data }, { on := 4, ground := Ground.chain }], guard := none }) rfl (fun K hK => ?_) AllReadyH.nil))
            · have lc16 := rc_cell 1 (.slice A1 j c1) T14.out.t.nd rfl
              go_simp
              refine hK.out _ _ ⟨rc_cell 0 _ T14.out.t.fn rfl, trivial⟩ (fun hH16 => ?_)
              clear hK K
              try simp only [Act.put, List.setIfInBounds_toArray, List.set_cons_zero, List.set_cons_succ]
              refine wpAnyH_ready (rs := [5]) (by kernel_rfl) (by simp) ?_
              refine (AllReadyH.cons (o := { dst := some 42, op := Op.call { callee := Callee.value (Operand.tmp 39), args := #[Operand.tmp 41], argTypes := #[3] }, type := 28, pos := _, after := #[{ on := 2, ground := Ground.data }, { on := 4, ground := Ground.data }, { on := 4, ground := Ground.chain }], guard := none }) rfl (fun K hK => ?_) AllReadyH.nil)
              go_simp
              refine (textc_any A c w.heap.size (w.heap.size + 1 + 1) (kk + 1) sz mt P x14 T14.out.t.tc bsz hmt).mono ?_
              rintro e x18 ⟨TA, tc, rfl, ot18, t18, o18⟩
              obtain ⟨us18, ow18, RW18⟩ := T14.out.t.pk.row (w := x18) (fun e B m d us hh => hh.onl o18 (fun e' => by have := (hh.lies _ e').1; omega)) (.cells #[.slice TA mt tc] 28)
              have OD18 := Lib.hid (OldT.of (w' := x18.alloc (.cells #[.slice TA mt tc] 28)) T14.out.t.pv (fun us hu => ((hu.onl o18 (fun e' => by have := (hu.lies _ e').1; omega)).alloc (.cells #[.slice TA mt tc] 28)).rd) (Nat.le_refl _))
              have T18 := Lib.hid (T14.out.move t18 o18); have OT18 := Lib.hid (ot18.mono T14.out.t.sz); have OL18 := Lib.hid (fun b hb => (ot18.lies b hb).1); have OW18 := Lib.hid ow18
              clear t18 o18 ot18 ow18
              go_wp2_with fail
              refine hK.out _ _ ⟨rc_cell 0 _ T18.out.t.fn rfl, trivial⟩ (fun hH18 => ?_)
              clear hK K
              try simp only [Act.put, List.setIfInBounds_toArray, List.set_cons_zero, List.set_cons_succ]
              refine wpAnyH_ready (rs := [6]) (by kernel_rfl) (by simp) ?_
              refine (AllReadyH.cons (o := { dst := some 43, op := Op.buildSlice 62 1 #[(0, Operand.tmp 42)], type := 62, pos := _, after := #[{ on := 5, ground := Ground.data }], guard := none }) rfl (fun K hK => ?_) AllReadyH.nil)
              go_simp
              have T20 := Lib.hid (T18.out.keep (below_alloc x18 (.cells #[(.slice TA mt tc)] 28))); have RD20 := Lib.hid (rd_oneV x18 (.slice TA mt tc) 28)
              refine hK.out _ _ ⟨rc_cell 0 _ T20.out.t.fn rfl, trivial⟩ (fun hH20 => ?_)
              clear hK K
              try simp only [Act.put, List.setIfInBounds_toArray, List.set_cons_zero, List.set_cons_succ]
              generalize x18.heap.size = gE at *
              generalize x18.alloc (.cells #[(.slice TA mt tc)] 28) = b20 at *
              refine wpAnyH_ready (rs := [7]) (by kernel_rfl) (by simp) ?_
              refine (AllReadyH.cons (o := { dst := some 44, op := Op.call { callee := Callee.builtin Builtin.append, args := #[Operand.tmp 38, Operand.tmp 43], argTypes := #[62, 62] }, type := 62, pos := _, after := #[{ on := 1, ground := Ground.data }, { on := 6, ground := Ground.data }, { on := 5, ground := Ground.chain }], guard := none }) rfl (fun K hK => ?_) AllReadyH.nil)
              refine step_append_rd rfl (.tmp 38) (.tmp 43) 62 rfl i0 (.slice none 0 0) 24 Try.underlying62 hi hz0 hz1 hz2 rfl (by simp [Act.eval, Act.put]) OW18.out (some ⟨gE, 0, none⟩) 1 1 [.slice TA mt tc] (by simp [Act.eval, Act.put]) RD20.out (one_slice _ _ _) (by unfold maxLen; omega) (by omega) T20.out.t.sz ?_
              intro AE cE x22 oE gE'
              have hE22 := RW18.out TA tc (txL P (kk + 1) sz) x22 AE cE (by rw [LEN1.out]; exact OT18.out) OL18.out (tx_ran HPR.out _ _) (by rw [LEN1.out]; exact oE) gE'
              have HA22 := Lib.hid (T20.out.app1 OW18.out gE' hE22 oE OL18.out OD18.out)
              have HF22 := Lib.hid ((gE'.1.block _ (lt_of_heap T20.out.t.fn) (OW18.out.ne_blk T20.out.t.fn (by decide)).symm).trans T20.out.t.fn)
              clear oE gE' hE22
              refine hK.out _ _ ⟨rc_cell 0 _ HF22.out rfl, trivial⟩ (fun hH22 => ?_)
              clear hK K
              try simp only [Act.put, List.setIfInBounds_toArray, List.set_cons_zero, List.set_cons_succ]
              refine wpAnyH_take (i := 8) (oi := { dst := some 45, op := Op.fieldAddr 70 (Operand.tmp 6) 1, type := 0, pos := _, after := #[{ on := 0, ground := Ground.phase }, { on := 1, ground := Ground.phase }, { on := 2, ground := Ground.phase }, { on := 3, ground := Ground.phase }, { on := 4, ground := Ground.phase }, { on := 5, ground := Ground.phase }, { on := 6, ground := Ground.phase }, { on := 7, ground := Ground.phase }], guard := none }) (v := ?vk923_8) rfl (by kernel_rfl) (by kernel_rfl) (by kernel_rfl) (fun _ _ _ h => h) (Or.inl ⟨by rfl, ?yk923_8⟩) hH22 ?rk923_8
              case yk923_8 => (intro w hSw; (try dsimp only at hSw); go_simp; try (with_reducible rfl))
              try simp only [Act.put, List.setIfInBounds_toArray, List.set_cons_zero, List.set_cons_succ]
              refine wpAnyH_ready (rs := [9]) (by kernel_rfl) (by simp) ?_
              refine (AllReadyH.cons (o := { dst := none, op := Op.store 62 (Operand.tmp 45) (Operand.tmp 44), type := 0, pos := _, after := #[{ on := 8, ground := Ground.data }, { on := 7, ground := Ground.data }, { on := 7, ground := Ground.chain }, { on := 0, ground := Ground.phase }, { on := 1, ground := Ground.phase }, { on := 2, ground := Ground.phase }, { on := 3, ground := Ground.phase }, { on := 4, ground := Ground.phase }, { on := 5, ground := Ground.phase }, { on := 6, ground := Ground.phase }, { on := 7, ground := Ground.phase }], guard := none }) rfl (fun K hK => ?_) AllReadyH.nil)
              have c24 := rc_cell 1 (.slice A1 j c1) HA22.out.1 rfl; have f24 := two_frozen (i := 1) HA22.out.1
              have T24 := Lib.hid HA22.out.2
              go_simp
              refine hK.out _ _ ⟨rc_cell 0 _ T24.out.t.fn rfl, trivial⟩ (fun hH24 => ?_)
              clear hK K
              try simp only [Act.put, List.setIfInBounds_toArray, List.set_cons_zero, List.set_cons_succ]
              clear HA22 c24 f24
              generalize x22.setCell ⟨gn, 1, none⟩ (.slice AE (j + 1) cE) = s24 at *
              refine wpAnyH_done (by kernel_rfl) ?_ _
              go_wp2_with fail
              go_meet
              case rel => exact ⟨AE, cE, T24⟩
            · go_simp
              refine (textc_any A c w.heap.size (w.heap.size + 1 + 1) (kk + 1) sz mt P x14 T14.out.t.tc bsz hmt).mono ?_
              rintro e x26 ⟨TA, tc, rfl, ot26, t26, o26⟩
              obtain ⟨us26, ow26, RW26⟩ := T14.out.t.pk.row (w := x26) (fun e B m d us hh => hh.onl o26 (fun e' => by have := (hh.lies _ e').1; omega)) (.cells #[.slice TA mt tc] 28)
              have OD26 := Lib.hid (OldT.of (w' := x26.alloc (.cells #[.slice TA mt tc] 28)) T14.out.t.pv (fun us hu => ((hu.onl o26 (fun e' => by have := (hu.lies _ e').1; omega)).alloc (.cells #[.slice TA mt tc] 28)).rd) (Nat.le_refl _))
              have T26 := Lib.hid (T14.out.move t26 o26); have OT26 := Lib.hid (ot26.mono T14.out.t.sz); have OL26 := Lib.hid (fun b hb => (ot26.lies b hb).1); have OW26 := Lib.hid ow26
              clear t26 o26 ot26 ow26
              go_wp2_with fail
              refine hK.out _ _ ⟨rc_cell 0 _ T26.out.t.fn rfl, trivial⟩ (fun hH26 => ?_)
              clear hK K
              try simp only [Act.put, List.setIfInBounds_toArray, List.set_cons_zero, List.set_cons_succ]
              refine wpAnyH_ready (rs := [1, 6]) (by kernel_rfl) (by simp) ?_
              refine (AllReadyH.cons (o := { dst := some 38, op := Op.load 62 (Operand.tmp 37), type := 62, pos := _, after := #[{ on := 0, ground := Ground.data }], guard := none }) rfl (fun K hK => ?_) (AllReadyH.cons (o := { dst := some 43, op := Op.buildSlice 62 1 #[(0, Operand.tmp 42)], type := 62, pos := _, after := #[{ on := 5, ground := Ground.data }], guard := none }) rfl (fun K hK => ?_) AllReadyH.nil))
              · have lc28 := rc_cell 1 (.slice A1 j c1) T26.out.t.nd rfl
                go_simp
                refine hK.out _ _ ⟨rc_cell 0 _ T26.out.t.fn rfl, trivial⟩ (fun hH28 => ?_)
                clear hK K
                try simp only [Act.put, List.setIfInBounds_toArray, List.set_cons_zero, List.set_cons_succ]
                refine wpAnyH_ready (rs := [6]) (by kernel_rfl) (by simp) ?_
                refine (AllReadyH.cons (o := { dst := some 43, op := Op.buildSlice 62 1 #[(0, Operand.tmp 42)], type := 62, pos := _, after := #[{ on := 5, ground := Ground.data }], guard := none }) rfl (fun K hK => ?_) AllReadyH.nil)
                go_simp
                have T30 := Lib.hid (T26.out.keep (below_alloc x26 (.cells #[(.slice TA mt tc)] 28))); have RD30 := Lib.hid (rd_oneV x26 (.slice TA mt tc) 28)
                refine hK.out _ _ ⟨rc_cell 0 _ T30.out.t.fn rfl, trivial⟩ (fun hH30 => ?_)
                clear hK K
                try simp only [Act.put, List.setIfInBounds_toArray, List.set_cons_zero, List.set_cons_succ]
                generalize x26.heap.size = gE at *
                generalize x26.alloc (.cells #[(.slice TA mt tc)] 28) = b30 at *
                refine wpAnyH_ready (rs := [7]) (by kernel_rfl) (by simp) ?_
                refine (AllReadyH.cons (o := { dst := some 44, op := Op.call { callee := Callee.builtin Builtin.append, args := #[Operand.tmp 38, Operand.tmp 43], argTypes := #[62, 62] }, type := 62, pos := _, after := #[{ on := 1, ground := Ground.data }, { on := 6, ground := Ground.data }, { on := 5, ground := Ground.chain }], guard := none }) rfl (fun K hK => ?_) AllReadyH.nil)
                refine step_append_rd rfl (.tmp 38) (.tmp 43) 62 rfl i0 (.slice none 0 0) 24 Try.underlying62 hi hz0 hz1 hz2 rfl (by simp [Act.eval, Act.put]) OW26.out (some ⟨gE, 0, none⟩) 1 1 [.slice TA mt tc] (by simp [Act.eval, Act.put]) RD30.out (one_slice _ _ _) (by unfold maxLen; omega) (by omega) T30.out.t.sz ?_
                intro AE cE x32 oE gE'
                have hE32 := RW26.out TA tc (txL P (kk + 1) sz) x32 AE cE (by rw [LEN1.out]; exact OT26.out) OL26.out (tx_ran HPR.out _ _) (by rw [LEN1.out]; exact oE) gE'
                have HA32 := Lib.hid (T30.out.app1 OW26.out gE' hE32 oE OL26.out OD26.out)
                have HF32 := Lib.hid ((gE'.1.block _ (lt_of_heap T30.out.t.fn) (OW26.out.ne_blk T30.out.t.fn (by decide)).symm).trans T30.out.t.fn)
                clear oE gE' hE32
                refine hK.out _ _ ⟨rc_cell 0 _ HF32.out rfl, trivial⟩ (fun hH32 => ?_)
                clear hK K
                try simp only [Act.put, List.setIfInBounds_toArray, List.set_cons_zero, List.set_cons_succ]
                refine wpAnyH_take (i := 8) (oi := { dst := some 45, op := Op.fieldAddr 70 (Operand.tmp 6) 1, type := 0, pos := _, after := #[{ on := 0, ground := Ground.phase }, { on := 1, ground := Ground.phase }, { on := 2, ground := Ground.phase }, { on := 3, ground := Ground.phase }, { on := 4, ground := Ground.phase }, { on := 5, ground := Ground.phase }, { on := 6, ground := Ground.phase }, { on := 7, ground := Ground.phase }], guard := none }) (v := ?vk933_8) rfl (by kernel_rfl) (by kernel_rfl) (by kernel_rfl) (fun _ _ _ h => h) (Or.inl ⟨by rfl, ?yk933_8⟩) hH32 ?rk933_8
                case yk933_8 => (intro w hSw; (try dsimp only at hSw); go_simp; try (with_reducible rfl))
                try simp only [Act.put, List.setIfInBounds_toArray, List.set_cons_zero, List.set_cons_succ]
                refine wpAnyH_ready (rs := [9]) (by kernel_rfl) (by simp) ?_
                refine (AllReadyH.cons (o := { dst := none, op := Op.store 62 (Operand.tmp 45) (Operand.tmp 44), type := 0, pos := _, after := #[{ on := 8, ground := Ground.data }, { on := 7, ground := Ground.data }, { on := 7, ground := Ground.chain }, { on := 0, ground := Ground.phase }, { on := 1, ground := Ground.phase }, { on := 2, ground := Ground.phase }, { on := 3, ground := Ground.phase }, { on := 4, ground := Ground.phase }, { on := 5, ground := Ground.phase }, { on := 6, ground := Ground.phase }, { on := 7, ground := Ground.phase }], guard := none }) rfl (fun K hK => ?_) AllReadyH.nil)
                have c34 := rc_cell 1 (.slice A1 j c1) HA32.out.1 rfl; have f34 := two_frozen (i := 1) HA32.out.1
                have T34 := Lib.hid HA32.out.2
                go_simp
                refine hK.out _ _ ⟨rc_cell 0 _ T34.out.t.fn rfl, trivial⟩ (fun hH34 => ?_)
                clear hK K
                try simp only [Act.put, List.setIfInBounds_toArray, List.set_cons_zero, List.set_cons_succ]
                clear HA32 c34 f34
                generalize x32.setCell ⟨gn, 1, none⟩ (.slice AE (j + 1) cE) = s34 at *
                refine wpAnyH_done (by kernel_rfl) ?_ _
                go_wp2_with fail
                go_meet
                case rel => exact ⟨AE, cE, T34⟩
              · go_simp
                have T36 := Lib.hid (T26.out.keep (below_alloc x26 (.cells #[(.slice TA mt tc)] 28))); have RD36 := Lib.hid (rd_oneV x26 (.slice TA mt tc) 28)
                refine hK.out _ _ ⟨rc_cell 0 _ T36.out.t.fn rfl, trivial⟩ (fun hH36 => ?_)
                clear hK K
                try simp only [Act.put, List.setIfInBounds_toArray, List.set_cons_zero, List.set_cons_succ]
                generalize x26.heap.size = gE at *
                generalize x26.alloc (.cells #[(.slice TA mt tc)] 28) = b36 at *
                refine wpAnyH_ready (rs := [1]) (by kernel_rfl) (by simp) ?_
                refine (AllReadyH.cons (o := { dst := some 38, op := Op.load 62 (Operand.tmp 37), type := 62, pos := _, after := #[{ on := 0, ground := Ground.data }], guard := none }) rfl (fun K hK => ?_) AllReadyH.nil)
                have lc38 := rc_cell 1 (.slice A1 j c1) T36.out.t.nd rfl
                go_simp
                refine hK.out _ _ ⟨rc_cell 0 _ T36.out.t.fn rfl, trivial⟩ (fun hH38 => ?_)
                clear hK K
                try simp only [Act.put, List.setIfInBounds_toArray, List.set_cons_zero, List.set_cons_succ]
                refine wpAnyH_ready (rs := [7]) (by kernel_rfl) (by simp) ?_
                refine (AllReadyH.cons (o := { dst := some 44, op := Op.call { callee := Callee.builtin Builtin.append, args := #[Operand.tmp 38, Operand.tmp 43], argTypes := #[62, 62] }, type := 62, pos := _, after := #[{ on := 1, ground := Ground.data }, { on := 6, ground := Ground.data }, { on := 5, ground := Ground.chain }], guard := none }) rfl (fun K hK => ?_) AllReadyH.nil)
                refine step_append_rd rfl (.tmp 38) (.tmp 43) 62 rfl i0 (.slice none 0 0) 24 Try.underlying62 hi hz0 hz1 hz2 rfl (by simp [Act.eval, Act.put]) OW26.out (some ⟨gE, 0, none⟩) 1 1 [.slice TA mt tc] (by simp [Act.eval, Act.put]) RD36.out (one_slice _ _ _) (by unfold maxLen; omega) (by omega) T36.out.t.sz ?_
                intro AE cE x40 oE gE'
                have hE40 := RW26.out TA tc (txL P (kk + 1) sz) x40 AE cE (by rw [LEN1.out]; exact OT26.out) OL26.out (tx_ran HPR.out _ _) (by rw [LEN1.out]; exact oE) gE'
                have HA40 := Lib.hid (T36.out.app1 OW26.out gE' hE40 oE OL26.out OD26.out)
                have HF40 := Lib.hid ((gE'.1.block _ (lt_of_heap T36.out.t.fn) (OW26.out.ne_blk T36.out.t.fn (by decide)).symm).trans T36.out.t.fn)
                clear oE gE' hE40
                refine hK.out _ _ ⟨rc_cell 0 _ HF40.out rfl, trivial⟩ (fun hH40 => ?_)
                clear hK K
                try simp only [Act.put, List.setIfInBounds_toArray, List.set_cons_zero, List.set_cons_succ]
                refine wpAnyH_take (i := 8) (oi := { dst := some 45, op := Op.fieldAddr 70 (Operand.tmp 6) 1, type := 0, pos := _, after := #[{ on := 0, ground := Ground.phase }, { on := 1, ground := Ground.phase }, { on := 2, ground := Ground.phase }, { on := 3, ground := Ground.phase }, { on := 4, ground := Ground.phase }, { on := 5, ground := Ground.phase }, { on := 6, ground := Ground.phase }, { on := 7, ground := Ground.phase }], guard := none }) (v := ?vk941_8) rfl (by kernel_rfl) (by kernel_rfl) (by kernel_rfl) (fun _ _ _ h => h) (Or.inl ⟨by rfl, ?yk941_8⟩) hH40 ?rk941_8
                case yk941_8 => (intro w hSw; (try dsimp only at hSw); go_simp; try (with_reducible rfl))
                try simp only [Act.put, List.setIfInBounds_toArray, List.set_cons_zero, List.set_cons_succ]
                refine wpAnyH_ready (rs := [9]) (by kernel_rfl) (by simp) ?_
                refine (AllReadyH.cons (o := { dst := none, op := Op.store 62 (Operand.tmp 45) (Operand.tmp 44), type := 0, pos := _, after := #[{ on := 8, ground := Ground.data }, { on := 7, ground := Ground.data }, { on := 7, ground := Ground.chain }, { on := 0, ground := Ground.phase }, { on := 1, ground := Ground.phase }, { on := 2, ground := Ground.phase }, { on := 3, ground := Ground.phase }, { on := 4, ground := Ground.phase }, { on := 5, ground := Ground.phase }, { on := 6, ground := Ground.phase }, { on := 7, ground := Ground.phase }], guard := none }) rfl (fun K hK => ?_) AllReadyH.nil)
                have c42 := rc_cell 1 (.slice A1 j c1) HA40.out.1 rfl; have f42 := two_frozen (i := 1) HA40.out.1
                have T42 := Lib.hid HA40.out.2
                go_simp
                refine hK.out _ _ ⟨rc_cell 0 _ T42.out.t.fn rfl, trivial⟩ (fun hH42 => ?_)
                clear hK K
                try simp only [Act.put, List.setIfInBounds_toArray, List.set_cons_zero, List.set_cons_succ]
                clear HA40 c42 f42
                generalize x40.setCell ⟨gn, 1, none⟩ (.slice AE (j + 1) cE) = s42 at *
                refine wpAnyH_done (by kernel_rfl) ?_ _
                go_wp2_with fail
                go_meet
                case rel => exact ⟨AE, cE, T42⟩
        obtain ⟨AX, cX, HT2⟩ := hcut
        clear HT
        have r0 := rc_cell 0 (.bool true) HT2.out.t.nd rfl
        go_upto_region 11 with fail
        clear r0
        have Td11 := Lib.hid (HT2.out.keep ((Dr.refl wc).one.below _))
        refine wp_region_held_drew (S := fun w' => w'.cell? ⟨w.heap.size + 1 + 1 + 1, 0, none⟩ = some (txF w.heap.size (w.heap.size + 1 + 1)) ∧ True) (by kernel_rfl) ⟨rc_cell 0 _ Td11.out.t.fn rfl, trivial⟩ (fun hH0 => ?_)
        generalize wc.drew = yd at *
        refine wpAnyH_take (i := 0) (oi := { dst := some 48, op := Op.fieldAddr 70 (Operand.tmp 6) 2, type := 0, pos := _, after := #[], guard := none }) (v := ?vk111_0) rfl (by kernel_rfl) (by kernel_rfl) (by kernel_rfl) (fun _ _ _ h => h) (Or.inl ⟨by rfl, ?yk111_0⟩) hH0 ?rk111_0
        case yk111_0 => (intro w hSw; (try dsimp only at hSw); go_simp; try (with_reducible rfl))
        try simp only [Act.put, List.setIfInBounds_toArray, List.set_cons_zero, List.set_cons_succ]
        refine wpAnyH_take (i := 2) (oi := { dst := some 50, op := Op.load 175 (Operand.tmp 4), type := 175, pos := _, after := #[], guard := none }) (v := ?vk111_2) rfl (by kernel_rfl) (by kernel_rfl) (by kernel_rfl) (fun _ _ _ h => h) (Or.inl ⟨by rfl, ?yk111_2⟩) hH0 ?rk111_2
        case yk111_2 => (intro w hSw; (try dsimp only at hSw); go_simp; try (with_reducible rfl))
        try simp only [Act.put, List.setIfInBounds_toArray, List.set_cons_zero, List.set_cons_succ]
        refine wpAnyH_take (i := 3) (oi := { dst := some 51, op := Op.move (Operand.tmp 5), type := 116, pos := _, after := #[], guard := none }) (v := ?vk111_3) rfl (by kernel_rfl) (by kernel_rfl) (by kernel_rfl) (fun _ _ _ h => h) (Or.inl ⟨by rfl, ?yk111_3⟩) hH0 ?rk111_3
        case yk111_3 => (intro w hSw; (try dsimp only at hSw); go_simp; try (with_reducible rfl))
        try simp only [Act.put, List.setIfInBounds_toArray, List.set_cons_zero, List.set_cons_succ]
        refine wpAnyH_ready (rs := [1, 4]) (by kernel_rfl) (by simp) ?_
        refine (AllReadyH.cons (o := { dst := some 49, op := Op.load 62 (Operand.tmp 48), type := 62, pos := _, after := #[{ on := 0, ground := Ground.data }], guard := none }) rfl (fun K hK => ?_) (AllReadyH.cons (o := { dst := some 52, op := Op.call { callee := Callee.value (Operand.tmp 51), args := #[Operand.const (Value.int IntKind.i64 2)], argTypes := #[3] }, type := 3, pos := _, after := #[{ on := 3, ground := Ground.data }], guard := none }) rfl (fun K hK => ?_) AllReadyH.nil))
        · have lc2 := rc_cell 2 (.slice A2 j c2) Td11.out.t.nd rfl
          go_simp
          refine hK.out _ _ ⟨rc_cell 0 _ Td11.out.t.fn rfl, trivial⟩ (fun hH2 => ?_)
          clear hK K
          try simp only [Act.put, List.setIfInBounds_toArray, List.set_cons_zero, List.set_cons_succ]
          refine wpAnyH_ready (rs := [4]) (by kernel_rfl) (by simp) ?_
          refine (AllReadyH.cons (o := { dst := some 52, op := Op.call { callee := Callee.value (Operand.tmp 51), args := #[Operand.const (Value.int IntKind.i64 2)], argTypes := #[3] }, type := 3, pos := _, after := #[{ on := 3, ground := Ground.data }], guard := none }) rfl (fun K hK => ?_) AllReadyH.nil)
          go_simp
          refine (numc_any A c w.heap.size (w.heap.size + 1 + 1) (w.heap.size + 1 + 1 + 1) (kk + 1 + mt) 2 m2 sv _ P yd Td11.out.t.tc rfl (by omega) hm2 Td11.out.t.fn HSV.out).mono ?_
          rintro e x4 ⟨rfl, t4, o4⟩
          have T4 := Lib.hid (Td11.out.move t4 o4)
          clear t4 o4
          go_wp2_with fail
          refine hK.out _ _ ⟨rc_cell 0 _ T4.out.t.fn rfl, trivial⟩ (fun hH4 => ?_)
          clear hK K
          try simp only [Act.put, List.setIfInBounds_toArray, List.set_cons_zero, List.set_cons_succ]
          refine wpAnyH_ready (rs := [5]) (by kernel_rfl) (by simp) ?_
          refine (AllReadyH.cons (o := { dst := some 53, op := Op.call { callee := Callee.value (Operand.tmp 50), args := #[Operand.tmp 52], argTypes := #[3] }, type := 28, pos := _, after := #[{ on := 2, ground := Ground.data }, { on := 4, ground := Ground.data }, { on := 4, ground := Ground.chain }], guard := none }) rfl (fun K hK => ?_) AllReadyH.nil)
          go_simp
          refine (textc_any A c w.heap.size (w.heap.size + 1 + 1) (kk + 1 + mt + m2) sv m3 P x4 T4.out.t.tc bsv hm3).mono ?_
          rintro e x6 ⟨TA, tc, rfl, ot6, t6, o6⟩
          obtain ⟨us6, ow6, RW6⟩ := T4.out.t.pv.row (w := x6) (fun e B m d us hh => hh.onl o6 (fun e' => by have := (hh.lies _ e').1; omega)) (.cells #[.slice TA m3 tc] 28)
          have OD6 := Lib.hid (OldT.of (w' := x6.alloc (.cells #[.slice TA m3 tc] 28)) T4.out.t.pk (fun us hu => ((hu.onl o6 (fun e' => by have := (hu.lies _ e').1; omega)).alloc (.cells #[.slice TA m3 tc] 28)).rd) (Nat.le_refl _))
          have T6 := Lib.hid (T4.out.move t6 o6); have OT6 := Lib.hid (ot6.mono T4.out.t.sz); have OL6 := Lib.hid (fun b hb => (ot6.lies b hb).1); have OW6 := Lib.hid ow6
          clear t6 o6 ot6 ow6
          go_wp2_with fail
          refine hK.out _ _ ⟨rc_cell 0 _ T6.out.t.fn rfl, trivial⟩ (fun hH6 => ?_)
          clear hK K
          try simp only [Act.put, List.setIfInBounds_toArray, List.set_cons_zero, List.set_cons_succ]
          refine wpAnyH_ready (rs := [6]) (by kernel_rfl) (by simp) ?_
          refine (AllReadyH.cons (o := { dst := some 54, op := Op.buildSlice 62 1 #[(0, Operand.tmp 53)], type := 62, pos := _, after := #[{ on := 5, ground := Ground.data }], guard := none }) rfl (fun K hK => ?_) AllReadyH.nil)
          go_simp
          have T8 := Lib.hid (T6.out.keep (below_alloc x6 (.cells #[(.slice TA m3 tc)] 28))); have RD8 := Lib.hid (rd_oneV x6 (.slice TA m3 tc) 28)
          refine hK.out _ _ ⟨rc_cell 0 _ T8.out.t.fn rfl, trivial⟩ (fun hH8 => ?_)
          clear hK K
          try simp only [Act.put, List.setIfInBounds_toArray, List.set_cons_zero, List.set_cons_succ]
          generalize x6.heap.size = gE at *
          generalize x6.alloc (.cells #[(.slice TA m3 tc)] 28) = b8 at *
          refine wpAnyH_ready (rs := [7]) (by kernel_rfl) (by simp) ?_
          refine (AllReadyH.cons (o := { dst := some 55, op := Op.call { callee := Callee.builtin Builtin.append, args := #[Operand.tmp 49, Operand.tmp 54], argTypes := #[62, 62] }, type := 62, pos := _, after := #[{ on := 1, ground := Ground.data }, { on := 6, ground := Ground.data }, { on := 5, ground := Ground.chain }], guard := none }) rfl (fun K hK => ?_) AllReadyH.nil)
          refine step_append_rd rfl (.tmp 49) (.tmp 54) 62 rfl i0 (.slice none 0 0) 24 Try.underlying62 hi hz0 hz1 hz2 rfl (by simp [Act.eval, Act.put]) OW6.out (some ⟨gE, 0, none⟩) 1 1 [.slice TA m3 tc] (by simp [Act.eval, Act.put]) RD8.out (one_slice _ _ _) (by unfold maxLen; omega) (by omega) T8.out.t.sz ?_
          intro AE cE x10 oE gE'
          have hE10 := RW6.out TA tc (txL P (kk + 1 + mt + m2) sv) x10 AE cE (by rw [LEN2.out]; exact OT6.out) OL6.out (tx_ran HPR.out _ _) (by rw [LEN2.out]; exact oE) gE'
          have HA10 := Lib.hid (T8.out.app2 OW6.out gE' hE10 oE OL6.out OD6.out)
          have HF10 := Lib.hid ((gE'.1.block _ (lt_of_heap T8.out.t.fn) (OW6.out.ne_blk T8.out.t.fn (by decide)).symm).trans T8.out.t.fn)
          clear oE gE' hE10
          refine hK.out _ _ ⟨rc_cell 0 _ HF10.out rfl, trivial⟩ (fun hH10 => ?_)
          clear hK K
          try simp only [Act.put, List.setIfInBounds_toArray, List.set_cons_zero, List.set_cons_succ]
          refine wpAnyH_take (i := 8) (oi := { dst := some 56, op := Op.fieldAddr 70 (Operand.tmp 6) 2, type := 0, pos := _, after := #[{ on := 0, ground := Ground.phase }, { on := 1, ground := Ground.phase }, { on := 2, ground := Ground.phase }, { on := 3, ground := Ground.phase }, { on := 4, ground := Ground.phase }, { on := 5, ground := Ground.phase }, { on := 6, ground := Ground.phase }, { on := 7, ground := Ground.phase }], guard := none }) (v := ?vk1111_8) rfl (by kernel_rfl) (by kernel_rfl) (by kernel_rfl) (fun _ _ _ h => h) (Or.inl ⟨by rfl, ?yk1111_8⟩) hH10 ?rk1111_8
          case yk1111_8 => (intro w hSw; (try dsimp only at hSw); go_simp; try (with_reducible rfl))
          try simp only [Act.put, List.setIfInBounds_toArray, List.set_cons_zero, List.set_cons_succ]
          refine wpAnyH_ready (rs := [9]) (by kernel_rfl) (by simp) ?_
          refine (AllReadyH.cons (o := { dst := none, op := Op.store 62 (Operand.tmp 56) (Operand.tmp 55), type := 0, pos := _, after := #[{ on := 8, ground := Ground.data }, { on := 7, ground := Ground.data }, { on := 7, ground := Ground.chain }, { on := 0, ground := Ground.phase }, { on := 1, ground := Ground.phase }, { on := 2, ground := Ground.phase }, { on := 3, ground := Ground.phase }, { on := 4, ground := Ground.phase }, { on := 5, ground := Ground.phase }, { on := 6, ground := Ground.phase }, { on := 7, ground := Ground.phase }], guard := none }) rfl (fun K hK => ?_) AllReadyH.nil)
          have c12 := rc_cell 2 (.slice A2 j c2) HA10.out.1 rfl; have f12 := two_frozen (i := 2) HA10.out.1
          have T12 := Lib.hid HA10.out.2
          go_simp
          refine hK.out _ _ ⟨rc_cell 0 _ T12.out.t.fn rfl, trivial⟩ (fun hH12 => ?_)
          clear hK K
          try simp only [Act.put, List.setIfInBounds_toArray, List.set_cons_zero, List.set_cons_succ]
          clear HA10 c12 f12
          generalize x10.setCell ⟨gn, 2, none⟩ (.slice AE (j + 1) cE) = s12 at *
          refine wpAnyH_done (by kernel_rfl) ?_ _
          go_wp2
          go_roundg (gk - 1)
          case measure => omega
          case rel => exact ⟨kk + 1 + mt + m2 + m3, j + 1, cX, cE, AX, AE, _, _, by omega, by omega, by omega, by omega, T12, HNK, HNV⟩
        · go_simp
          refine (numc_any A c w.heap.size (w.heap.size + 1 + 1) (w.heap.size + 1 + 1 + 1) (kk + 1 + mt) 2 m2 sv _ P yd Td11.out.t.tc rfl (by omega) hm2 Td11.out.t.fn HSV.out).mono ?_
          rintro e x14 ⟨rfl, t14, o14⟩
          have T14 := Lib.hid (Td11.out.move t14 o14)
          clear t14 o14
          go_wp2_with fail
          refine hK.out _ _ ⟨rc_cell 0 _ T14.out.t.fn rfl, trivial⟩ (fun hH14 => ?_)
          clear hK K
          try simp only [Act.put, List.setIfInBounds_toArray, List.set_cons_zero, List.set_cons_succ]
          refine wpAnyH_ready (rs := [1, 5]) (by kernel_rfl) (by simp) ?_
          refine (AllReadyH.cons (o := { dst := some 49, op := Op.load 62 (Operand.tmp 48), type := 62, pos := _, after := #[{ on := 0, ground := Ground.data }], guard := none }) rfl (fun K hK => ?_) (AllReadyH.cons (o := { dst := some 53, op := Op.call { callee := Callee.value (Operand.tmp 50), args := #[Operand.tmp 52], argTypes := #[3] }, type := 28, pos := _, after := #[{ on := 2, ground := Ground.data }, { on := 4, ground := Ground.data }, { on := 4, ground := Ground.chain }], guard := none }) rfl (fun K hK => ?_) AllReadyH.nil))
          · have lc16 := rc_cell 2 (.slice A2 j c2) T14.out.t.nd rfl
            go_simp
            refine hK.out _ _ ⟨rc_cell 0 _ T14.out.t.fn rfl, trivial⟩ (fun hH16 => ?_)
            clear hK K
            try simp only [Act.put, List.setIfInBounds_toArray, List.set_cons_zero, List.set_cons_succ]
            refine wpAnyH_ready (rs := [5]) (by kernel_rfl) (by simp) ?_
            refine (AllReadyH.cons (o := { dst := some 53, op := Op.call { callee := Callee.value (Operand.tmp 50), args := #[Operand.tmp 52], argTypes := #[3] }, type := 28, pos := _, after := #[{ on := 2, ground := Ground.data }, { on := 4, ground := Ground.data }, { on := 4, ground := Ground.chain }], guard := none }) rfl (fun K hK => ?_) AllReadyH.nil)
            go_simp
            refine (textc_any A c w.heap.size (w.heap.size + 1 + 1) (kk + 1 + mt + m2) sv m3 P x14 T14.out.t.tc bsv hm3).mono ?_
            rintro e x18 ⟨TA, tc, rfl, ot18, t18, o18⟩
            obtain ⟨us18, ow18, RW18⟩ := T14.out.t.pv.row (w := x18) (fun e B m d us hh => hh.onl o18 (fun e' => by have := (hh.lies _ e').1; omega)) (.cells #[.slice TA m3 tc] 28)
            have OD18 := Lib.hid (OldT.of (w' := x18.alloc (.cells #[.slice TA m3 tc] 28)) T14.out.t.pk (fun us hu => ((hu.onl o18 (fun e' => by have := (hu.lies _ e').1; omega)).alloc (.cells #[.slice TA m3 tc] 28)).rd) (Nat.le_refl _))
            have T18 := Lib.hid (T14.out.move t18 o18); have OT18 := Lib.hid (ot18.mono T14.out.t.sz); have OL18 := Lib.hid (fun b hb => (ot18.lies b hb).1); have OW18 := Lib.hid ow18
            clear t18 o18 ot18 ow18
            go_wp2_with fail
            refine hK.out _ _ ⟨rc_cell 0 _ T18.out.t.fn rfl, trivial⟩ (fun hH18 => ?_)
            clear hK K
            try simp only [Act.put, List.setIfInBounds_toArray, List.set_cons_zero, List.set_cons_succ]
            refine wpAnyH_ready (rs := [6]) (by kernel_rfl) (by simp) ?_
            refine (AllReadyH.cons (o := { dst := some 54, op := Op.buildSlice 62 1 #[(0, Operand.tmp 53)], type := 62, pos := _, after := #[{ on := 5, ground := Ground.data }], guard := none }) rfl (fun K hK => ?_) AllReadyH.nil)
            go_simp
            have T20 := Lib.hid (T18.out.keep (below_alloc x18 (.cells #[(.slice TA m3 tc)] 28))); have RD20 := Lib.hid (rd_oneV x18 (.slice TA m3 tc) 28)
            refine hK.out _ _ ⟨rc_cell 0 _ T20.out.t.fn rfl, trivial⟩ (fun hH20 => ?_)
            clear hK K
            try simp only [Act.put, List.setIfInBounds_toArray, List.set_cons_zero, List.set_cons_succ]
            generalize x18.heap.size = gE at *
            generalize x18.alloc (.cells #[(.slice TA m3 tc)] 28) = b20 at *
            refine wpAnyH_ready (rs := [7]) (by kernel_rfl) (by simp) ?_
            refine (AllReadyH.cons (o := { dst := some 55, op := Op.call { callee := Callee.builtin Builtin.append, args := #[Operand.tmp 49, Operand.tmp 54], argTypes := #[62, 62] }, type := 62, pos := _, after := #[{ on := 1, ground := Ground.data }, { on := 6, ground := Ground.data }, { on := 5, ground := Ground.chain }], guard := none }) rfl (fun K hK => ?_) AllReadyH.nil)
            refine step_append_rd rfl (.tmp 49) (.tmp 54) 62 rfl i0 (.slice none 0 0) 24 Try.underlying62 hi hz0 hz1 hz2 rfl (by simp [Act.eval, Act.put]) OW18.out (some ⟨gE, 0, none⟩) 1 1 [.slice TA m3 tc] (by simp [Act.eval, Act.put]) RD20.out (one_slice _ _ _) (by unfold maxLen; omega) (by omega) T20.out.t.sz ?_
            intro AE cE x22 oE gE'
            have hE22 := RW18.out TA tc (txL P (kk + 1 + mt + m2) sv) x22 AE cE (by rw [LEN2.out]; exact OT18.out) OL18.out (tx_ran HPR.out _ _) (by rw [LEN2.out]; exact oE) gE'
            have HA22 := Lib.hid (T20.out.app2 OW18.out gE' hE22 oE OL18.out OD18.out)
            have HF22 := Lib.hid ((gE'.1.block _ (lt_of_heap T20.out.t.fn) (OW18.out.ne_blk T20.out.t.fn (by decide)).symm).trans T20.out.t.fn)
            clear oE gE' hE22
            refine hK.out _ _ ⟨rc_cell 0 _ HF22.out rfl, trivial⟩ (fun hH22 => ?_)
            clear hK K
            try simp only [Act.put, List.setIfInBounds_toArray, List.set_cons_zero, List.set_cons_succ]
            refine wpAnyH_take (i := 8) (oi := { dst := some 56, op := Op.fieldAddr 70 (Operand.tmp 6) 2, type := 0, pos := _, after := #[{ on := 0, ground := Ground.phase }, { on := 1, ground := Ground.phase }, { on := 2, ground := Ground.phase }, { on := 3, ground := Ground.phase }, { on := 4, ground := Ground.phase }, { on := 5, ground := Ground.phase }, { on := 6, ground := Ground.phase }, { on := 7, ground := Ground.phase }], guard := none }) (v := ?vk1123_8) rfl (by kernel_rfl) (by kernel_rfl) (by kernel_rfl) (fun _ _ _ h => h) (Or.inl ⟨by rfl, ?yk1123_8⟩) hH22 ?rk1123_8
            case yk1123_8 => (intro w hSw; (try dsimp only at hSw); go_simp; try (with_reducible rfl))
            try simp only [Act.put, List.setIfInBounds_toArray, List.set_cons_zero, List.set_cons_succ]
            refine wpAnyH_ready (rs := [9]) (by kernel_rfl) (by simp) ?_
            refine (AllReadyH.cons (o := { dst := none, op := Op.store 62 (Operand.tmp 56) (Operand.tmp 55), type := 0, pos := _, after := #[{ on := 8, ground := Ground.data }, { on := 7, ground := Ground.data }, { on := 7, ground := Ground.chain }, { on := 0, ground := Ground.phase }, { on := 1, ground := Ground.phase }, { on := 2, ground := Ground.phase }, { on := 3, ground := Ground.phase }, { on := 4, ground := Ground.phase }, { on := 5, ground := Ground.phase }, { on := 6, ground := Ground.phase }, { on := 7, ground := Ground.phase }], guard := none }) rfl (fun K hK => ?_) AllReadyH.nil)
            have c24 := rc_cell 2 (.slice A2 j c2) HA22.out.1 rfl; have f24 := two_frozen (i := 2) HA22.out.1
            have T24 := Lib.hid HA22.out.2
            go_simp
            refine hK.out _ _ ⟨rc_cell 0 _ T24.out.t.fn rfl, trivial⟩ (fun hH24 => ?_)
            clear hK K
            try simp only [Act.put, List.setIfInBounds_toArray, List.set_cons_zero, List.set_cons_succ]
            clear HA22 c24 f24
            generalize x22.setCell ⟨gn, 2, none⟩ (.slice AE (j + 1) cE) = s24 at *
            refine wpAnyH_done (by kernel_rfl) ?_ _
            go_wp2
            go_roundg (gk - 1)
            case measure => omega
            case rel => exact ⟨kk + 1 + mt + m2 + m3, j + 1, cX, cE, AX, AE, _, _, by omega, by omega, by omega, by omega, T24, HNK, HNV⟩
          · go_simp
            refine (textc_any A c w.heap.size (w.heap.size + 1 + 1) (kk + 1 + mt + m2) sv m3 P x14 T14.out.t.tc bsv hm3).mono ?_
            rintro e x26 ⟨TA, tc, rfl, ot26, t26, o26⟩
            obtain ⟨us26, ow26, RW26⟩ := T14.out.t.pv.row (w := x26) (fun e B m d us hh => hh.onl o26 (fun e' => by have := (hh.lies _ e').1; omega)) (.cells #[.slice TA m3 tc] 28)
            have OD26 := Lib.hid (OldT.of (w' := x26.alloc (.cells #[.slice TA m3 tc] 28)) T14.out.t.pk (fun us hu => ((hu.onl o26 (fun e' => by have := (hu.lies _ e').1; omega)).alloc (.cells #[.slice TA m3 tc] 28)).rd) (Nat.le_refl _))
            have T26 := Lib.hid (T14.out.move t26 o26); have OT26 := Lib.hid (ot26.mono T14.out.t.sz); have OL26 := Lib.hid (fun b hb => (ot26.lies b hb).1); have OW26 := Lib.hid ow26
            clear t26 o26 ot26 ow26
            go_wp2_with fail
            refine hK.out _ _ ⟨rc_cell 0 _ T26.out.t.fn rfl, trivial⟩ (fun hH26 => ?_)
            clear hK K
            try simp only [Act.put, List.setIfInBounds_toArray, List.set_cons_zero, List.set_cons_succ]
            refine wpAnyH_ready (rs := [1, 6]) (by kernel_rfl) (by simp) ?_
            refine (AllReadyH.cons (o := { dst := some 49, op := Op.load 62 (Operand.tmp 48), type := 62, pos := _, after := #[{ on := 0, ground := Ground.data }], guard := none }) rfl (fun K hK => ?_) (AllReadyH.cons (o := { dst := some 54, op := Op.buildSlice 62 1 #[(0, Operand.tmp 53)], type := 62, pos := _, after := #[{ on := 5, ground := Ground.data }], guard := none }) rfl (fun K hK => ?_) AllReadyH.nil))
            · have lc28 := rc_cell 2 (.slice A2 j c2) T26.out.t.nd rfl
              go_simp
              refine hK.out _ _ ⟨rc_cell 0 _ T26.out.t.fn rfl, trivial⟩ (fun hH28 => ?_)
              clear hK K
              try simp only [Act.put, List.setIfInBounds_toArray, List.set_cons_zero, List.set_cons_succ]
              refine wpAnyH_ready (rs := [6]) (by kernel_rfl) (by simp) ?_
              refine (AllReadyH.cons (o := { dst := some 54, op := Op.buildSlice 62 1 #[(0, Operand.tmp 53)], type := 62, pos := _, after := #[{ on := 5, ground := Ground.data }], guard := none }) rfl (fun K hK => ?_) AllReadyH.nil)
              go_simp
              have T30 := Lib.hid (T26.out.keep (below_alloc x26 (.cells #[(.slice TA m3 tc)] 28))); have RD30 := Lib.hid (rd_oneV x26 (.slice TA m3 tc) 28)
              refine hK.out _ _ ⟨rc_cell 0 _ T30.out.t.fn rfl, trivial⟩ (fun hH30 => ?_)
              clear hK K
              try simp only [Act.put, List.setIfInBounds_toArray, List.set_cons_zero, List.set_cons_succ]
              generalize x26.heap.size = gE at *
              generalize x26.alloc (.cells #[(.slice TA m3 tc)] 28) = b30 at *
              refine wpAnyH_ready (rs := [7]) (by kernel_rfl) (by simp) ?_
              refine (AllReadyH.cons (o := { dst := some 55, op := Op.call { callee := Callee.builtin Builtin.append, args := #[Operand.tmp 49, Operand.tmp 54], argTypes := #[62, 62] }, type := 62, pos := _, after := #[{ on := 1, ground := Ground.data }, { on := 6, ground := Ground.data }, { on := 5, ground := Ground.chain }], guard := none }) rfl (fun K hK => ?_) AllReadyH.nil)
              refine step_append_rd rfl (.tmp 49) (.tmp 54) 62 rfl i0 (.slice none 0 0) 24 Try.underlying62 hi hz0 hz1 hz2 rfl (by simp [Act.eval, Act.put]) OW26.out (some ⟨gE, 0, none⟩) 1 1 [.slice TA m3 tc] (by simp [Act.eval, Act.put]) RD30.out (one_slice _ _ _) (by unfold maxLen; omega) (by omega) T30.out.t.sz ?_
              intro AE cE x32 oE gE'
              have hE32 := RW26.out TA tc (txL P (kk + 1 + mt + m2) sv) x32 AE cE (by rw [LEN2.out]; exact OT26.out) OL26.out (tx_ran HPR.out _ _) (by rw [LEN2.out]; exact oE) gE'
              have HA32 := Lib.hid (T30.out.app2 OW26.out gE' hE32 oE OL26.out OD26.out)
              have HF32 := Lib.hid ((gE'.1.block _ (lt_of_heap T30.out.t.fn) (OW26.out.ne_blk T30.out.t.fn (by decide)).symm).trans T30.out.t.fn)
              clear oE gE' hE32
              refine hK.out _ _ ⟨rc_cell 0 _ HF32.out rfl, trivial⟩ (fun hH32 => ?_)
              clear hK K
              try simp only [Act.put, List.setIfInBounds_toArray, List.set_cons_zero, List.set_cons_succ]
              refine wpAnyH_take (i := 8) (oi := { dst := some 56, op := Op.fieldAddr 70 (Operand.tmp 6) 2, type := 0, pos := _, after := #[{ on := 0, ground := Ground.phase }, { on := 1, ground := Ground.phase }, { on := 2, ground := Ground.phase }, { on := 3, ground := Ground.phase }, { on := 4, ground := Ground.phase }, { on := 5, ground := Ground.phase }, { on := 6, ground := Ground.phase }, { on := 7, ground := Ground.phase }], guard := none }) (v := ?vk1133_8) rfl (by kernel_rfl) (by kernel_rfl) (by kernel_rfl) (fun _ _ _ h => h) (Or.inl ⟨by rfl, ?yk1133_8⟩) hH32 ?rk1133_8
              case yk1133_8 => (intro w hSw; (try dsimp only at hSw); go_simp; try (with_reducible rfl))
              try simp only [Act.put, List.setIfInBounds_toArray, List.set_cons_zero, List.set_cons_succ]
              refine wpAnyH_ready (rs := [9]) (by kernel_rfl) (by simp) ?_
              refine (AllReadyH.cons (o := { dst := none, op := Op.store 62 (Operand.tmp 56) (Operand.tmp 55), type := 0, pos := _, after := #[{ on := 8, ground := Ground.data }, { on := 7, ground := Ground.data }, { on := 7, ground := Ground.chain }, { on := 0, ground := Ground.phase }, { on := 1, ground := Ground.phase }, { on := 2, ground := Ground.phase }, { on := 3, ground := Ground.phase }, { on := 4, ground := Ground.phase }, { on := 5, ground := Ground.phase }, { on := 6, ground := Ground.phase }, { on := 7, ground := Ground.phase }], guard := none }) rfl (fun K hK => ?_) AllReadyH.nil)
              have c34 := rc_cell 2 (.slice A2 j c2) HA32.out.1 rfl; have f34 := two_frozen (i := 2) HA32.out.1
              have T34 := Lib.hid HA32.out.2
              go_simp
              refine hK.out _ _ ⟨rc_cell 0 _ T34.out.t.fn rfl, trivial⟩ (fun hH34 => ?_)
              clear hK K
              try simp only [Act.put, List.setIfInBounds_toArray, List.set_cons_zero, List.set_cons_succ]
              clear HA32 c34 f34
              generalize x32.setCell ⟨gn, 2, none⟩ (.slice AE (j + 1) cE) = s34 at *
              refine wpAnyH_done (by kernel_rfl) ?_ _
              go_wp2
              go_roundg (gk - 1)
              case measure => omega
              case rel => exact ⟨kk + 1 + mt + m2 + m3, j + 1, cX, cE, AX, AE, _, _, by omega, by omega, by omega, by omega, T34, HNK, HNV⟩
            · go_simp
              have T36 := Lib.hid (T26.out.keep (below_alloc x26 (.cells #[(.slice TA m3 tc)] 28))); have RD36 := Lib.hid (rd_oneV x26 (.slice TA m3 tc) 28)
              refine hK.out _ _ ⟨rc_cell 0 _ T36.out.t.fn rfl, trivial⟩ (fun hH36 => ?_)
              clear hK K
              try simp only [Act.put, List.setIfInBounds_toArray, List.set_cons_zero, List.set_cons_succ]
              generalize x26.heap.size = gE at *
              generalize x26.alloc (.cells #[(.slice TA m3 tc)] 28) = b36 at *
              refine wpAnyH_ready (rs := [1]) (by kernel_rfl) (by simp) ?_
              refine (AllReadyH.cons (o := { dst := some 49, op := Op.load 62 (Operand.tmp 48), type := 62, pos := _, after := #[{ on := 0, ground := Ground.data }], guard := none }) rfl (fun K hK => ?_) AllReadyH.nil)
              have lc38 := rc_cell 2 (.slice A2 j c2) T36.out.t.nd rfl
              go_simp
              refine hK.out _ _ ⟨rc_cell 0 _ T36.out.t.fn rfl, trivial⟩ (fun hH38 => ?_)
              clear hK K
              try simp only [Act.put, List.setIfInBounds_toArray, List.set_cons_zero, List.set_cons_succ]
              refine wpAnyH_ready (rs := [7]) (by kernel_rfl) (by simp) ?_
              refine (AllReadyH.cons (o := { dst := some 55, op := Op.call { callee := Callee.builtin Builtin.append, args := #[Operand.tmp 49, Operand.tmp 54], argTypes := #[62, 62] }, type := 62, pos := _, after := #[{ on := 1, ground := Ground.data }, { on := 6, ground := Ground.data }, { on := 5, ground := Ground.chain }], guard := none }) rfl (fun K hK => ?_) AllReadyH.nil)
              refine step_append_rd rfl (.tmp 49) (.tmp 54) 62 rfl i0 (.slice none 0 0) 24 Try.underlying62 hi hz0 hz1 hz2 rfl (by simp [Act.eval, Act.put]) OW26.out (some ⟨gE, 0, none⟩) 1 1 [.slice TA m3 tc] (by simp [Act.eval, Act.put]) RD36.out (one_slice _ _ _) (by unfold maxLen; omega) (by omega) T36.out.t.sz ?_
              intro AE cE x40 oE gE'
              have hE40 := RW26.out TA tc (txL P (kk + 1 + mt + m2) sv) x40 AE cE (by rw [LEN2.out]; exact OT26.out) OL26.out (tx_ran HPR.out _ _) (by rw [LEN2.out]; exact oE) gE'
              have HA40 := Lib.hid (T36.out.app2 OW26.out gE' hE40 oE OL26.out OD26.out)
              have HF40 := Lib.hid ((gE'.1.block _ (lt_of_heap T36.out.t.fn) (OW26.out.ne_blk T36.out.t.fn (by decide)).symm).trans T36.out.t.fn)
              clear oE gE' hE40
              refine hK.out _ _ ⟨rc_cell 0 _ HF40.out rfl, trivial⟩ (fun hH40 => ?_)
              clear hK K
              try simp only [Act.put, List.setIfInBounds_toArray, List.set_cons_zero, List.set_cons_succ]
              refine wpAnyH_take (i := 8) (oi := { dst := some 56, op := Op.fieldAddr 70 (Operand.tmp 6) 2, type := 0, pos := _, after := #[{ on := 0, ground := Ground.phase }, { on := 1, ground := Ground.phase }, { on := 2, ground := Ground.phase }, { on := 3, ground := Ground.phase }, { on := 4, ground := Ground.phase }, { on := 5, ground := Ground.phase }, { on := 6, ground := Ground.phase }, { on := 7, ground := Ground.phase }], guard := none }) (v := ?vk1141_8) rfl (by kernel_rfl) (by kernel_rfl) (by kernel_rfl) (fun _ _ _ h => h) (Or.inl ⟨by rfl, ?yk1141_8⟩) hH40 ?rk1141_8
              case yk1141_8 => (intro w hSw; (try dsimp only at hSw); go_simp; try (with_reducible rfl))
              try simp only [Act.put, List.setIfInBounds_toArray, List.set_cons_zero, List.set_cons_succ]
              refine wpAnyH_ready (rs := [9]) (by kernel_rfl) (by simp) ?_
              refine (AllReadyH.cons (o := { dst := none, op := Op.store 62 (Operand.tmp 56) (Operand.tmp 55), type := 0, pos := _, after := #[{ on := 8, ground := Ground.data }, { on := 7, ground := Ground.data }, { on := 7, ground := Ground.chain }, { on := 0, ground := Ground.phase }, { on := 1, ground := Ground.phase }, { on := 2, ground := Ground.phase }, { on := 3, ground := Ground.phase }, { on := 4, ground := Ground.phase }, { on := 5, ground := Ground.phase }, { on := 6, ground := Ground.phase }, { on := 7, ground := Ground.phase }], guard := none }) rfl (fun K hK => ?_) AllReadyH.nil)
              have c42 := rc_cell 2 (.slice A2 j c2) HA40.out.1 rfl; have f42 := two_frozen (i := 2) HA40.out.1
              have T42 := Lib.hid HA40.out.2
              go_simp
              refine hK.out _ _ ⟨rc_cell 0 _ T42.out.t.fn rfl, trivial⟩ (fun hH42 => ?_)
              clear hK K
              try simp only [Act.put, List.setIfInBounds_toArray, List.set_cons_zero, List.set_cons_succ]
              clear HA40 c42 f42
              generalize x40.setCell ⟨gn, 2, none⟩ (.slice AE (j + 1) cE) = s42 at *
              refine wpAnyH_done (by kernel_rfl) ?_ _
              go_wp2
              go_roundg (gk - 1)
              case measure => omega
              case rel => exact ⟨kk + 1 + mt + m2 + m3, j + 1, cX, cE, AX, AE, _, _, by omega, by omega, by omega, by omega, T42, HNK, HNV⟩
      · obtain rfl : kk = 512 := by omega
        have d2 : decide ((512 : Int) < 512) = false := by decide
        have e9 : P.drop 512 = [] := List.drop_eq_nil_of_le (by rw [HP.out]; exact Nat.le_refl _)
        rw [e9, tkE_nil, List.append_nil] at HK HV
        go_upto_region 13 with fail
        clear q1 qa qb
        have q0 := rc_cell 0 (.bool true) HT.out.t.nd rfl; have q1 := rc_cell 1 (.slice A1 j c1) HT.out.t.nd rfl; have q2 := rc_cell 2 (.slice A2 j c2) HT.out.t.nd rfl; have q3 := rc_cell 3 (.slice none 0 0) HT.out.t.nd rfl
        have z0 := rc_cell 0 (.bool false) HT.out.t.rs rfl; have y0 := two_frozen (i := 0) HT.out.t.rs
        have z1 := rc_cell 1 (.slice none 0 0) HT.out.t.rs rfl; have y1 := two_frozen (i := 1) HT.out.t.rs
        have z2 := rc_cell 2 (.slice none 0 0) HT.out.t.rs rfl; have y2 := two_frozen (i := 2) HT.out.t.rs
        have z3 := rc_cell 3 (.slice none 0 0) HT.out.t.rs rfl; have y3 := two_frozen (i := 3) HT.out.t.rs
        have HZ := Lib.hid (set4 wr (w.heap.size + 1) (.bool true) (.slice A1 j c1) (.slice A2 j c2) (.slice none 0 0) HT.out.t.rs)
        have R1 := Lib.hid ((HT.out.t.pk.set HZ.out.2 HT.out.t.rs (by decide) (by decide)).mono (b := w.heap.size) (by omega)); have R2 := Lib.hid ((HT.out.t.pv.set HZ.out.2 HT.out.t.rs (by decide) (by decide)).mono (b := w.heap.size) (by omega))
        have RX : Hid (XD ((((wr.setCell ⟨w.heap.size + 1, 0, none⟩ (.bool true)).setCell ⟨w.heap.size + 1, 1, none⟩ (.slice A1 j c1)).setCell ⟨w.heap.size + 1, 2, none⟩ (.slice A2 j c2)).setCell ⟨w.heap.size + 1, 3, none⟩ (.slice none 0 0)) A1 j A2 j) := Lib.hid (by obtain ⟨us, ho, _⟩ := HT.out.t.pk.texts; obtain ⟨ts, hp, _⟩ := HT.out.t.pv.texts; exact HT.out.x.turn ho.rd hp.rd (ho.onl HZ.out.2 (ho.ne_blk HT.out.t.rs (by decide))).rd (hp.onl HZ.out.2 (hp.ne_blk HT.out.t.rs (by decide))).rd)
        have R3 := Lib.hid ((HT.out.t.od.onl HZ.out.2 (HT.out.t.od.ne_blk HT.out.t.rs (by decide))).mono (b := w.heap.size) (by omega))
        have HBE := Lib.hid (HT.out.t.hb.trans ((HZ.out.2.below (Nat.le_of_lt (lt_of_heap HT.out.t.rs))).mono (by omega)))
        rw [HK.out] at R1; rw [HV.out] at R2
        go_wp2_with fail
        clear q0 q1 q2 q3 z0 z1 z2 z3 y0 y1 y2 y3
        generalize ((((wr.setCell ⟨w.heap.size + 1, 0, none⟩ (.bool true)).setCell ⟨w.heap.size + 1, 1, none⟩ (.slice A1 j c1)).setCell ⟨w.heap.size + 1, 2, none⟩ (.slice A2 j c2)).setCell ⟨w.heap.size + 1, 3, none⟩ (.slice none 0 0)) = wz at *
        have e0 := rc_cell 0 (.bool true) HZ.out.1 rfl; have e1 := rc_cell 1 (.slice A1 j c1) HZ.out.1 rfl; have e2 := rc_cell 2 (.slice A2 j c2) HZ.out.1 rfl; have e3 := rc_cell 3 (.slice none 0 0) HZ.out.1 rfl
        refine bodyPost_ret (v := .agg #[.bool true, .slice A1 j c1, .slice A2 j c2, .slice none 0 0]) (by simp [results, Try.f86, go_sem, Try.isAgg70, Try.sizeOf70, e0, e1, e2, e3]) rfl ⟨A1, j, c1, A2, c2, rfl, R1.out, R2.out, hj512, RX.out, HBE.out⟩
    · obtain rfl : j = cnt := by omega
      have d1 : decide ((j : Int) < (j : Int)) = false := by simp
      rw [Nat.sub_self, tkE_zero, List.append_nil] at HK HV
      go_upto_region 13 with fail
      clear q1 qa qb
      have q0 := rc_cell 0 (.bool true) HT.out.t.nd rfl; have q1 := rc_cell 1 (.slice A1 j c1) HT.out.t.nd rfl; have q2 := rc_cell 2 (.slice A2 j c2) HT.out.t.nd rfl; have q3 := rc_cell 3 (.slice none 0 0) HT.out.t.nd rfl
      have z0 := rc_cell 0 (.bool false) HT.out.t.rs rfl; have y0 := two_frozen (i := 0) HT.out.t.rs
      have z1 := rc_cell 1 (.slice none 0 0) HT.out.t.rs rfl; have y1 := two_frozen (i := 1) HT.out.t.rs
      have z2 := rc_cell 2 (.slice none 0 0) HT.out.t.rs rfl; have y2 := two_frozen (i := 2) HT.out.t.rs
      have z3 := rc_cell 3 (.slice none 0 0) HT.out.t.rs rfl; have y3 := two_frozen (i := 3) HT.out.t.rs
      have HZ := Lib.hid (set4 wr (w.heap.size + 1) (.bool true) (.slice A1 j c1) (.slice A2 j c2) (.slice none 0 0) HT.out.t.rs)
      have R1 := Lib.hid ((HT.out.t.pk.set HZ.out.2 HT.out.t.rs (by decide) (by decide)).mono (b := w.heap.size) (by omega)); have R2 := Lib.hid ((HT.out.t.pv.set HZ.out.2 HT.out.t.rs (by decide) (by decide)).mono (b := w.heap.size) (by omega))
      have RX : Hid (XD ((((wr.setCell ⟨w.heap.size + 1, 0, none⟩ (.bool true)).setCell ⟨w.heap.size + 1, 1, none⟩ (.slice A1 j c1)).setCell ⟨w.heap.size + 1, 2, none⟩ (.slice A2 j c2)).setCell ⟨w.heap.size + 1, 3, none⟩ (.slice none 0 0)) A1 j A2 j) := Lib.hid (by obtain ⟨us, ho, _⟩ := HT.out.t.pk.texts; obtain ⟨ts, hp, _⟩ := HT.out.t.pv.texts; exact HT.out.x.turn ho.rd hp.rd (ho.onl HZ.out.2 (ho.ne_blk HT.out.t.rs (by decide))).rd (hp.onl HZ.out.2 (hp.ne_blk HT.out.t.rs (by decide))).rd)
      have R3 := Lib.hid ((HT.out.t.od.onl HZ.out.2 (HT.out.t.od.ne_blk HT.out.t.rs (by decide))).mono (b := w.heap.size) (by omega))
      have HBE := Lib.hid (HT.out.t.hb.trans ((HZ.out.2.below (Nat.le_of_lt (lt_of_heap HT.out.t.rs))).mono (by omega)))
      rw [HK.out] at R1; rw [HV.out] at R2
      go_wp2_with fail
      clear q0 q1 q2 q3 z0 z1 z2 z3 y0 y1 y2 y3
      generalize ((((wr.setCell ⟨w.heap.size + 1, 0, none⟩ (.bool true)).setCell ⟨w.heap.size + 1, 1, none⟩ (.slice A1 j c1)).setCell ⟨w.heap.size + 1, 2, none⟩ (.slice A2 j c2)).setCell ⟨w.heap.size + 1, 3, none⟩ (.slice none 0 0)) = wz at *
      have e0 := rc_cell 0 (.bool true) HZ.out.1 rfl; have e1 := rc_cell 1 (.slice A1 j c1) HZ.out.1 rfl; have e2 := rc_cell 2 (.slice A2 j c2) HZ.out.1 rfl; have e3 := rc_cell 3 (.slice none 0 0) HZ.out.1 rfl
      refine bodyPost_ret (v := .agg #[.bool true, .slice A1 j c1, .slice A2 j c2, .slice none 0 0]) (by simp [results, Try.f86, go_sem, Try.isAgg70, Try.sizeOf70, e0, e1, e2, e3]) rfl ⟨A1, j, c1, A2, c2, rfl, R1.out, R2.out, hj512, RX.out, HBE.out⟩
end Go.Proofs.Ytmjjbfcblmmipaa
namespace Go.Proofs.Ytmjjbfcblmmipaa
set_option linter.unusedVariables false
set_option linter.unusedSimpArgs false
open Go.RowKit
set_option maxRecDepth 100000 in
set_option maxHeartbeats 8000000 in
theorem decodeX_any (A : Option Addr) (c : Nat) (P : List Int) (ks vs : List (List Int)) (t1 : lfT P = true) (t2 : ksT P = ks) (t3 : vsT P = vs) (t4 : dsT P = []) (w : World) (hx : Bs w A 512 P) (hc : 512 ≤ c) (hC : encC true ks vs [] = 0) (hR : encR true ks vs [] = P) :
    Calls Try.prog 39 #[.slice A 512 c] w fun e w' => ∃ (AK : Option Addr) (nK cK : Nat) (AV : Option Addr) (cV : Nat), e = .returned (.tuple #[.agg (ndV true AK nK cK AV nK cV none 0 0), .int .i64 0]) ∧ Prts w' w.heap.size AK nK cK ks ∧ Prts w' w.heap.size AV nK cV vs ∧ XD w' AK nK AV nK ∧ Below w.heap.size w w' := by
  have hb := below_alloc w (.cells ndZ 70)
  have RS := Lib.hid (heap_alloc_new w (.cells ndZ 70))
  have HB := Lib.hid hb
  have HX := Lib.hid (hx.keep hb); have HP := Lib.hid hx.len
  have bK := ksT_len hx.len; have bV := vsT_len hx.len; have bD := dsT_bd hx.2
  rw [t2] at bK; rw [t3] at bV; rw [t4] at bD
  have BK := Lib.hid bK; have BV := Lib.hid bV; have BD := Lib.hid bD
  have hsz : (w.alloc (.cells ndZ 70)).heap.size = w.heap.size + 1 := by simp
  clear hb hx bK bV bD
  go_enter Try.func39, Try.ntmps39
  go_upto_region 3 with fail
  generalize w.alloc (.cells ndZ 70) = y at *
  go_wp2_with fail
  refine (takenX_any A c P y HX.out hc t1).mono ?_
  rintro e x1 ⟨AK, nK, cK, AV, cV, rfl, p1, p2, hK, xd, hb1⟩
  have hV := hK
  have hD : 0 ≤ 513 := by omega
  have p3 : Own x1 y.heap.size 3 none 0 0 (([] : List Int).map (Value.int .i64)) := Own.nil_
  rw [t2] at p1; rw [t3] at p2
  have XH := Lib.hid xd; have Q1 := Lib.hid p1; have Q2 := Lib.hid p2
  have hba := below_alloc x1 (.cells (ndV true AK nK cK AV nK cV none 0 0) 70)
  have ND := Lib.hid (heap_alloc_new x1 (.cells (ndV true AK nK cK AV nK cV none 0 0) 70))
  have CA := Lib.hid hba
  have hbb := hb1.trans (hba.mono hb1.size)
  have PK := Lib.hid ((p1.keep hba).mono (b := w.heap.size) (by omega)); have PV := Lib.hid ((p2.keep hba).mono (b := w.heap.size) (by omega)); have PD := Lib.hid ((p3.below hba (fun k hk => (p3.lies k hk).2)).mono (b := w.heap.size) (by omega))
  have RS1 := Lib.hid ((hbb.block _ (by omega)).trans RS.out); have HX1 := Lib.hid (HX.out.keep hbb); have HB1 := Lib.hid (HB.out.trans (hbb.mono HB.out.size))
  have lK := p1.bss.len; have lV := p2.bss.len; have lD : ([] : List Int).length = 0 := rfl
  have hs1 := hb1.size
  clear p1 p2 p3 hb1 hba hbb RS HX HB
  go_upto_region 4 with fail
  generalize hgn : x1.heap.size = gn at *
  generalize x1.alloc (.cells (ndV true AK nK cK AV nK cV none 0 0) 70) = y1 at *
  have q0 := rc_cell 0 (.bool true) ND.out rfl; have q1 := rc_cell 1 (.slice AK nK cK) ND.out rfl; have q2 := rc_cell 2 (.slice AV nK cV) ND.out rfl; have q3 := rc_cell 3 (.slice none 0 0) ND.out rfl
  have HIN : Hid (Ins y1 none 0 ([] : List Int)) := Lib.hid ⟨PD.out.rd, fun d hd => by have := BD.out d hd; omega⟩
  go_wp2_with fail
  clear q0 q1 q2 q3
  refine (encode_any true AK nK cK AV nK cV none 0 0 ks vs ([] : List Int) y1 PK.out.bss PV.out.bss HIN.out (by omega) (by omega) (by omega) (fun xs hx => Nat.le_trans (BK.out xs hx) (by omega)) (tz_of (m := 0) 1 BK.out (by omega) (by omega)) (tz_of (m := 0) 2 BV.out (by omega) (by omega))).mono ?_
  rintro e y2 ⟨B, cB, rfl, ho, hb2⟩
  have HRR : Hid (Ran (encR true ks vs ([] : List Int))) := Lib.hid (encR_ran (by omega) PK.out.bss.ran PV.out.bss.ran)
  clear t1 t2 t3 t4
  generalize encC true ks vs ([] : List Int) = C at *
  generalize encR true ks vs ([] : List Int) = R at *
  have HO := Lib.hid (ho.bs HRR.out)
  have ND2 := Lib.hid ((hb2.block _ (lt_of_heap ND.out)).trans ND.out); have RS2 := Lib.hid ((hb2.block _ (lt_of_heap RS1.out)).trans RS1.out); have HX2 := Lib.hid (HX1.out.keep hb2); have HB2 := Lib.hid (HB1.out.trans (hb2.mono HB1.out.size))
  have PK2 := Lib.hid (PK.out.keep hb2); have PV2 := Lib.hid (PV.out.keep hb2); have PD2 := Lib.hid (PD.out.below hb2 (fun k hk => (PD.out.lies k hk).2))
  have CB := Lib.hid hb2
  clear ho hb2 ND RS1 HX1 HB1 PK PV PD HIN BK BV BD
  subst hC
  subst hR
  go_wp2_with fail
  refine (bytesEq_any B A R.length 512 cB c R R true (by simp) y2 HO.out HX2.out).mono ?_
  rintro e y3 ⟨rfl, rfl⟩
  have PK := PK2; have PV := PV2; have PD := PD2
  go_upto_region 7 with fail
  have q0 := rc_cell 0 (.bool true) ND2.out rfl; have q1 := rc_cell 1 (.slice AK nK cK) ND2.out rfl; have q2 := rc_cell 2 (.slice AV nK cV) ND2.out rfl; have q3 := rc_cell 3 (.slice none 0 0) ND2.out rfl
  have z0 := rc_cell 0 (.bool false) RS2.out rfl; have fz0 := two_frozen (i := 0) RS2.out
  have z1 := rc_cell 1 (.slice none 0 0) RS2.out rfl; have fz1 := two_frozen (i := 1) RS2.out
  have z2 := rc_cell 2 (.slice none 0 0) RS2.out rfl; have fz2 := two_frozen (i := 2) RS2.out
  have z3 := rc_cell 3 (.slice none 0 0) RS2.out rfl; have fz3 := two_frozen (i := 3) RS2.out
  have HZ := Lib.hid (set4 y3 w.heap.size (.bool true) (.slice AK nK cK) (.slice AV nK cV) (.slice none 0 0) RS2.out)
  have chn : ∀ (X : Option Addr) (n c : Nat) (us : List Value), Own x1 y.heap.size 28 X n c us → Rd ((((y3.setCell ⟨w.heap.size, 0, none⟩ (.bool true)).setCell ⟨w.heap.size, 1, none⟩ (.slice AK nK cK)).setCell ⟨w.heap.size, 2, none⟩ (.slice AV nK cV)).setCell ⟨w.heap.size, 3, none⟩ (.slice none 0 0)) X n us := fun X n c us ho => by
    have h1 := ho.below CA.out (fun k hk => by have := (ho.lies k hk).2; omega)
    have h2 := h1.below CB.out (fun k hk => (h1.lies k hk).2)
    exact (h2.onl HZ.out.2 (h2.ne_blk RS2.out (by decide))).rd
  have XF := Lib.hid (by obtain ⟨us, ho, _⟩ := Q1.out.texts; obtain ⟨ts, hp, _⟩ := Q2.out.texts; exact XH.out.turn ho.rd hp.rd (chn _ _ _ _ ho) (chn _ _ _ _ hp) : XD ((((y3.setCell ⟨w.heap.size, 0, none⟩ (.bool true)).setCell ⟨w.heap.size, 1, none⟩ (.slice AK nK cK)).setCell ⟨w.heap.size, 2, none⟩ (.slice AV nK cV)).setCell ⟨w.heap.size, 3, none⟩ (.slice none 0 0)) AK nK AV nK)
  clear chn
  have HBE := Lib.hid (HB2.out.trans (HZ.out.2.below (Nat.le_of_lt (lt_of_heap RS2.out))))
  have P1 := Lib.hid (PK.out.set HZ.out.2 RS2.out (by decide) (by decide))
  have P2 := Lib.hid (PV.out.set HZ.out.2 RS2.out (by decide) (by decide))
  have P3 := Lib.hid (PD.out.onl HZ.out.2 (PD.out.ne_blk RS2.out (by decide)))
  go_wp2_with fail
  clear z0 z1 z2 z3 fz0 fz1 fz2 fz3
  generalize ((((y3.setCell ⟨w.heap.size, 0, none⟩ (.bool true)).setCell ⟨w.heap.size, 1, none⟩ (.slice AK nK cK)).setCell ⟨w.heap.size, 2, none⟩ (.slice AV nK cV)).setCell ⟨w.heap.size, 3, none⟩ (.slice none 0 0)) = wz at *
  have e0 := rc_cell 0 (.bool true) HZ.out.1 rfl; have e1 := rc_cell 1 (.slice AK nK cK) HZ.out.1 rfl; have e2 := rc_cell 2 (.slice AV nK cV) HZ.out.1 rfl; have e3 := rc_cell 3 (.slice none 0 0) HZ.out.1 rfl
  refine bodyPost_ret (v := .tuple #[.agg #[.bool true, .slice AK nK cK, .slice AV nK cV, .slice none 0 0], .int .i64 0]) (by simp [results, Try.f39, go_sem, Try.isAgg70, Try.sizeOf70, e0, e1, e2, e3]) rfl ⟨AK, nK, cK, AV, cV, rfl, P1.out, P2.out, XF.out, HBE.out⟩
end Go.Proofs.Ytmjjbfcblmmipaa
