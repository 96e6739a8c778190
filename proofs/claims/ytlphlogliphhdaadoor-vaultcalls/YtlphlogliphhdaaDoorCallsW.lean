/- VaultCalls, walked. -/
import Derived.Test.YtlphlogliphhdaaDoorCallsQ
namespace Go.Proofs.YtlphlogliphhdaaDoor
set_option linter.unusedVariables false
set_option linter.unusedSimpArgs false
open Go.RowKit Go.Maps
open Go.Proofs (encStr)

theorem ks_of {wb W : World} {ga : Nat} {kd : Int} {N T : ByteArray} {v : Value} (hq : Hq wb ga kd N T v) (hb : Below wb.heap.size wb W) : W.cell? ⟨ga, 2, none⟩ = some (.string T) ∧ Below wb.heap.size wb W :=
  ⟨(hq.below hb).cells.2.2.1, hb⟩
theorem tail_calls {w : World} {p k : Nat} {wb : World} {B : Option Addr} {m d ga : Nat} {L R : Things} {vs : List Value} {Pv Pr : Nat → Prop} {kd : Int} {N T : ByteArray} {v : Value} (h : Inv w p k wb B m d L R vs Pv Pr) (hq : Hq wb ga kd N T v) (hm : m ≤ 1000000)
    {A1 B2 : Option Addr} {n c1 d2 base : Nat} {ys : List Int} (h1 : Own wb base 5 A1 n c1 (By ys)) (hr : Ran ys) (h2 : Bs wb B2 n ys) (hn : n ≤ maxLen) :
    (∀ W, (W.cell? ⟨ga, 2, none⟩ = some (.string T) ∧ Below wb.heap.size wb W) → Calls Tryd.prog 16 #[.slice A1 n c1, .slice B2 n d2] W fun e w' => e = .returned (.bool true) ∧ w'.cell? ⟨ga, 2, none⟩ = some (.string T) ∧ Below wb.heap.size wb w') ∧
    (∀ W, (W.cell? ⟨ga, 2, none⟩ = some (.string T) ∧ Below wb.heap.size wb W) → Calls Tryd.prog 17 #[.pointer (some ⟨p, 0, none⟩)] W fun e w' => e = .returned (.int .i64 (m : Int)) ∧ w'.cell? ⟨ga, 2, none⟩ = some (.string T) ∧ Below wb.heap.size wb w') ∧
    (∀ W, (W.cell? ⟨ga, 2, none⟩ = some (.string T) ∧ Below wb.heap.size wb W) → Calls Tryd.prog 19 #[.pointer (some ⟨p, 0, none⟩), .string T] W fun e w' => ∃ (A3 : Option Addr) (n3 c3 : Nat), e = .returned (.slice A3 n3 c3) ∧ w'.cell? ⟨ga, 2, none⟩ = some (.string T) ∧ Below wb.heap.size wb w' ∧
      Calls Tryd.prog 20 #[.slice B m d, .string T] w' fun e w'' => ∃ (A4 : Option Addr) (n4 c4 : Nat), e = .returned (.slice A4 n4 c4) ∧ w''.cell? ⟨ga, 2, none⟩ = some (.string T) ∧ Below wb.heap.size wb w'' ∧
        Calls Tryd.prog 18 #[.slice A3 n3 c3, .slice A4 n4 c4] w'' fun e w3 => e = .returned (.bool true) ∧ w3.cell? ⟨ga, 2, none⟩ = some (.string T) ∧ Below wb.heap.size wb w3) := by
  refine ⟨fun W hW => ?_, fun W hW => ?_, fun W hW => ?_⟩
  · have ho := h1.below hW.2 (fun j hj => (h1.lies j hj).2)
    refine (equal_same (ho.bs hr) (h2.keep hW.2) hn).mono ?_
    rintro e w' ⟨rfl, hb⟩
    exact ⟨rfl, ks_of hq (hW.2.trans (hb.mono hW.2.size))⟩
  · refine (count_any p L Pv W (h.below hW.2).vt).mono ?_
    rintro e w' ⟨rfl, rfl⟩
    exact ⟨by rw [h.len], hW⟩
  · refine (list_both (h.below hW.2) T hm).mono ?_
    rintro e w' ⟨A3, n3, c3, rfl, hb, h20⟩
    have hb1 := hW.2.trans (hb.mono hW.2.size)
    refine ⟨A3, n3, c3, rfl, (ks_of hq hb1).1, hb1, h20.mono ?_⟩
    rintro e w'' ⟨A4, n4, c4, rfl, hb2, h18⟩
    have hb2' := hb1.trans (hb2.mono hb1.size)
    refine ⟨A4, n4, c4, rfl, (ks_of hq hb2').1, hb2', h18.mono ?_⟩
    rintro e w3 ⟨rfl, hb3⟩
    exact ⟨rfl, ks_of hq (hb2'.trans (hb3.mono hb2'.size))⟩
set_option maxRecDepth 100000 in
set_option maxHeartbeats 40000000 in
theorem calls_walk (A : Option Addr) (n c : Nat) (us : Acts) (w : World) (hx : Ax w A n us) (ht : Tz w) :
    Calls Tryd.prog 3 #[.slice A n c] w fun e w' => e = .returned (.bool true) ∧ Below w.heap.size w w' := by
  have HX := Lib.hid hx
  clear hx
  go_enter Tryd.func3, Tryd.ntmps3
  go_wp2_with fail
  refine (awake_any w ht).mono ?_
  rintro e w1 ⟨rfl, hb1⟩
  obtain ⟨p, hp⟩ : ∃ p, w1.heap.size = p := ⟨_, rfl⟩
  have HP : Hid (w1.heap.size = p) := hp
  have HI0 : Hid (Inv w p 0 (w1.alloc (.cells #[.map none] 26)) none 0 0 [] [] [] (fun i => i = p) (fun _ => False)) := by
    have hb2 := below_alloc w1 (.cells #[.map none] 26)
    have hs : (w1.alloc (.cells #[.map none] 26)).heap.size = w1.heap.size + 1 := by simp
    have hv := Vt.new w1 (fun i => i = p) hp
    rw [hp] at hv
    exact ⟨Nat.le_refl _, rel_nil, Nat.le_refl _, fun q hq => by simp at hq, hv, Tg.nil_, fun i _ h => h, fun i h => by omega, fun i h => by omega, fun i h => h.elim, hb1.trans (hb2.mono hb1.size)⟩
  have HWP : Hid (w.heap.size ≤ p) := by show _ ≤ _; rw [← hp]; exact hb1.size
  clear hb1 ht
  go_wp2
  try rw [hp]
  generalize w1.alloc (.cells #[.map none] 26) = w2 at *
  clear hp HP
  go_loopw [4, 5] (fun v4 v5 wr => ∃ (k m d : Nat) (B : Option Addr) (L R : Things) (vs : List Value) (Pv Pr : Nat → Prop), v4 = .slice B m d ∧ v5 = .int .i64 (k : Int) ∧ k ≤ n ∧ k ≤ 60 ∧ Hid (Inv w p k wr B m d L R vs Pv Pr)) (fun _ v _ => 60 - (intOf v).toNat)
  case atStart => exact ⟨0, 0, 0, none, [], [], [], _, _, rfl, rfl, Nat.zero_le _, by omega, HI0.out⟩
  case round =>
    obtain ⟨k, m, d, B, L, R, vs, Pv, Pr, rfl, rfl, hk, hk6, HI⟩ := hrel
    have HM : Hid (L.length = m) := HI.out.len
    by_cases hlt : k < n ∧ k < 60
    · obtain ⟨hkn, hk60⟩ := hlt
      obtain ⟨b, off, hA, hbl, hat⟩ := HX.out.2 (by omega)
      subst hA
      obtain ⟨q, hq⟩ : ∃ q, us[k]? = some q := ⟨_, List.getElem?_eq_getElem (by rw [HX.out.1]; exact hkn)⟩
      obtain ⟨kd, N, T, xs⟩ := q
      have hac := hat k _ hq
      obtain ⟨c0, c1, c2, ⟨Bx, dx, c3, hbs⟩, hN, hT, hxl⟩ := hac
      simp only at c0 c1 c2 c3 hbs hN hT hxl
      have g0 := (HI.out.bel.cell (p := ⟨b, off + k * 4, none⟩) hbl).trans c0
      have g1 := (HI.out.bel.cell (p := ⟨b, off + k * 4 + 1, none⟩) hbl).trans c1
      have g2 := (HI.out.bel.cell (p := ⟨b, off + k * 4 + 2, none⟩) hbl).trans c2
      have g3 := (HI.out.bel.cell (p := ⟨b, off + k * 4 + 3, none⟩) hbl).trans c3
      have HBS := Lib.hid hbs
      have HN := Box.mk hN
      have HT := Box.mk hT
      have HXL := Box.mk hxl
      clear hq hat c0 c1 c2 c3 hbs hN hT hxl
      by_cases k1 : kd = 1
      · subst k1
        have HQ3 : Hid (Hq (wr.alloc (.cells #[.int .i64 1, .string N, .string T, .slice Bx xs.length dx] 30)) wr.heap.size 1 N T (.slice Bx xs.length dx)) := heap_alloc_new wr _
        have HI3 : Hid (Inv w p k (wr.alloc (.cells #[.int .i64 1, .string N, .string T, .slice Bx xs.length dx] 30)) B m d L R vs Pv Pr) := HI.out.below (below_alloc wr _)
        have HGP : Hid (p < wr.heap.size) := HI.out.vcur p HI.out.vt.1
        have hcp := copy_any Bx xs.length dx xs _ (HBS.out.keep HI3.out.bel) HXL.out
        go_wp2_with fail
        obtain ⟨w3, hw3⟩ : ∃ w3, w3 = wr.alloc (.cells #[.int .i64 1, .string N, .string T, .slice Bx xs.length dx] 30) := ⟨_, rfl⟩
        rw [← hw3] at HI3 HQ3 hcp
        rw [← hw3]
        clear hw3
        generalize hga : wr.heap.size = ga at *
        clear hga
        have HM6 : Hid (m ≤ 1000000) := by show _ ≤ _; have h1 := HI3.out.num; have h2 := HI3.out.len; omega
        refine hcp.mono ?_
        rintro e w4 ⟨B1, d1, rfl, ho4, hb4⟩
        have HI4 : Hid (Inv w p k w4 B m d L R vs Pv Pr) := HI3.out.below hb4
        have HQ4 : Hid (Hq w4 ga 1 N T (.slice Bx xs.length dx)) := HQ3.out.below hb4
        obtain ⟨r0, r1, r2, r3⟩ := HQ4.out.cells
        have HG : Hid (∀ j, blk B1 = some j → w3.heap.size ≤ j ∧ j < w4.heap.size) := fun j hj => ho4.lies j hj
        have HO4 := Lib.hid ho4
        have hrp := rput_any B Bx m d xs.length dx R vs N xs (fun i => Pr i ∨ w4.heap.size ≤ i) w4 (HI4.out.tg.imp (fun i _ h => .inl h)) HI4.out.md HM6.out (HBS.out.keep HI4.out.bel) HXL.out (fun q hq => HI4.out.all q (HI4.out.rel.perm.mem_iff.2 hq)) (fun i hi => .inr hi)
        clear hcp ho4 hb4
        go_wp2_with fail
        refine hrp.mono ?_
        rintro e w5 ⟨B', m', d', f, vs', rfl, htg5, hmd5, hf5, hb5⟩
        have HF := Lib.hid hf5
        have HQ5 : Hid (Hq w5 ga 1 N T (.slice Bx xs.length dx)) := HQ4.out.below hb5
        obtain ⟨s0, s1, s2, s3⟩ := HQ5.out.cells
        have ho5 := HO4.out.below hb5 (fun j hj => (HG.out j hj).2)
        have HO5 := Lib.hid ho5
        have HT5 := Lib.hid (And.intro htg5 (And.intro hmd5 hb5))
        have hput := put_any p L (fun i => Pv i ∨ w5.heap.size ≤ i) N B1 xs.length d1 p xs w5 ((HI4.out.vt.below hb5).imp (fun i _ h => .inl h)) HN.out (ho5.bs HBS.out.2) HXL.out (by have := HI4.out.num; omega) (fun i hi => .inr hi)
          (fun i hi => hi.elim (HI4.out.old i) (fun h => by have h1 := HI4.out.vcur p HI4.out.vt.1; have h2 := hb5.size; omega))
        clear hrp htg5 hmd5 hf5 hb5 ho5 r0 r1 r2 r3
        go_wp2_with fail
        refine hput.mono ?_
        rintro e w6 ⟨ck, L', rfl, hR, hvt6, hf6, hb6⟩
        obtain ⟨hkf, hI6⟩ := HI4.out.put HWP.out HT5.out.2.2 HT5.out.1 HT5.out.2.1 hR hvt6 hf6 hb6 HXL.out
        obtain rfl : ck = f := hkf.trans HF.out.symm
        have hnf : (ck != ck) = false := by simp
        have HQ6 : Hid (Hq w6 ga 1 N T (.slice Bx xs.length dx)) := HQ5.out.vfr hf6 (by have := HGP.out; omega)
        have ho6 := HO5.out.vfr hf6 (fun e => by have h1 := (HG.out p e).1; have h2 := HGP.out; have h3 := HQ3.out.lt; omega)
        have hov := over_row B1 xs.length d1 w3.heap.size xs w6 ho6 HBS.out.2 (by have := HXL.out; omega)
        have HI6 := Lib.hid hI6
        have HB56 : Hid (w4.heap.size ≤ w5.heap.size) := HT5.out.2.2.size
        clear hput hR hvt6 hf6 hb6 hkf hI6 ho6 s0 s1 s2 s3
        go_wp2_with fail
        refine hov.mono ?_
        rintro e wz ⟨rfl, hrd⟩
        have HQz : Hid (Hq wz ga 1 N T (.slice Bx xs.length dx)) := HQ6.out.row hrd (fun e => by have h1 := (HG.out ga e).1; have h3 := HQ3.out.lt; omega)
        have HIz : Hid (Inv w p (k + 1) wz B' m' d' L' (rput R N xs).1 vs' (fun i => Pv i ∨ (w5.heap.size ≤ i ∧ i < w6.heap.size)) (fun i => Pr i ∨ (w4.heap.size ≤ i ∧ i < w5.heap.size))) := HI6.out.over hrd (fun g hg => by
          obtain ⟨h1, h2⟩ := HG.out g hg
          have h3 := HB56.out
          refine ⟨fun h => ?_, fun h => ?_, ?_⟩
          · rcases h with h | ⟨h, _⟩
            · have := HI3.out.vcur g h; omega
            · omega
          · rcases h with h | ⟨h, _⟩
            · have := HI3.out.pcur g h; omega
            · omega
          · have := HI3.out.bel.size; omega)
        clear hov hrd
        obtain ⟨q0, q1, q2, q3⟩ := HQz.out.cells
        have HMz : Hid (L'.length = m') := HIz.out.len
        have HM6 : Hid (m' ≤ 1000000) := by show _ ≤ _; have h1 := HIz.out.num; have h2 := HMz.out; omega
        have hget := get_both HIz.out N HN.out HM6.out
        have HGA : Hid (ga < wz.heap.size) := HQz.out.lt
        clear q3
        go_wp2_with fail
        refine hget.mono ?_
        rintro e wa ⟨ys, A1, c1, ev, rfl, hoa, hra, hla, hba, hrg⟩
        have HIa : Hid (Inv w p (k + 1) wa B' m' d' L' (rput R N xs).1 vs' (fun i => Pv i ∨ (w5.heap.size ≤ i ∧ i < w6.heap.size)) (fun i => Pr i ∨ (w4.heap.size ≤ i ∧ i < w5.heap.size))) := HIz.out.below hba
        have HQa : Hid (Hq wa ga 1 N T (.slice Bx xs.length dx)) := HQz.out.below hba
        obtain ⟨qa0, qa1, qa2, qa3⟩ := HQa.out.cells
        have HLA : Hid (∀ j, blk A1 = some j → wz.heap.size ≤ j ∧ j < wa.heap.size) := fun j hj => hoa.lies j hj
        have hrg1 := hrg wa HIa.out
        have HOA := Lib.hid hoa
        have HRA := Lib.hid hra
        have HLY := Box.mk hla
        clear hget hrg hba hoa hra hla q0 q1 q2 qa0 qa3
        go_wp2_with fail
        refine hrg1.mono ?_
        rintro e wb ⟨B2, d2, rfl, hbs2, hdb⟩
        have hbb := hdb.below wa.heap.size
        have HIb : Hid (Inv w p (k + 1) wb B' m' d' L' (rput R N xs).1 vs' (fun i => Pv i ∨ (w5.heap.size ≤ i ∧ i < w6.heap.size)) (fun i => Pr i ∨ (w4.heap.size ≤ i ∧ i < w5.heap.size))) := HIa.out.below hbb
        have HQb : Hid (Hq wb ga 1 N T (.slice Bx xs.length dx)) := HQa.out.below hbb
        have HOB : Hid (Own wb wz.heap.size 5 A1 ys.length c1 (By ys)) := HOA.out.below hbb (fun j hj => (HLA.out j hj).2)
        have hbsb := hbs2.bs.keep hbb
        have HTC := Lib.hid (tail_calls HIb.out HQb.out HM6.out (c1 := c1) (d2 := d2) HOB.out HRA.out hbsb (by have := HLY.out; unfold maxLen; omega))
        have hcx : wb.drew.cell? ⟨ga, 2, none⟩ = some (.string T) := (ks_of HQb.out ((Dr.refl wb).one.below _)).1
        have hbx : Below wb.heap.size wb wb.drew := (Dr.refl wb).one.below _
        have hev : (ev != ev) = false := by simp
        clear hrg1 qa1 qa2 hbb hdb hbs2 hbsb
        go_wp2_with fail
        go_region_held3 (fun w' => w'.cell? ⟨ga, 2, none⟩ = some (.string T) ∧ Below wb.heap.size wb w') (first | assumption | exact ⟨hcx, hbx⟩) (first
          | (go_at_call 16; refine (HTC.out.1 _ (by assumption)).mono ?_; rintro e w' ⟨rfl, hcx, hbx⟩)
          | (go_at_call 17; refine (HTC.out.2.1 _ (by assumption)).mono ?_; rintro e w' ⟨rfl, hcx, hbx⟩)
          | (go_at_call 19; refine (HTC.out.2.2 _ (by assumption)).mono ?_; rintro e w' ⟨A3, n3, c3, rfl, hcx, hbx, h20⟩)
          | (go_at_call 20; refine h20.mono ?_; rintro e w' ⟨A4, n4, c4, rfl, hcx, hbx, h18⟩)
          | (go_at_call 18; refine h18.mono ?_; rintro e w' ⟨rfl, hcx, hbx⟩))
        have HIc : Hid (Inv w p (k + 1) w' B' m' d' L' (rput R N xs).1 vs' (fun i => Pv i ∨ (w5.heap.size ≤ i ∧ i < w6.heap.size)) (fun i => Pr i ∨ (w4.heap.size ≤ i ∧ i < w5.heap.size))) := HIb.out.below hbx
        have hoc := HOB.out.below hbx (fun j hj => (HOB.out.lies j hj).2)
        have hov := over_row A1 ys.length c1 wz.heap.size ys w' hoc HRA.out (by have := HLY.out; omega)
        clear hcx hbx h20 h18 hoc
        go_wp2_with fail
        refine hov.mono ?_
        rintro e wd ⟨rfl, hrd⟩
        have HId : Hid (Inv w p (k + 1) wd B' m' d' L' (rput R N xs).1 vs' (fun i => Pv i ∨ (w5.heap.size ≤ i ∧ i < w6.heap.size)) (fun i => Pr i ∨ (w4.heap.size ≤ i ∧ i < w5.heap.size))) := HIc.out.over hrd (fun g hg => by
          have hg1 := (HLA.out g hg).1
          refine ⟨fun h => ?_, fun h => ?_, ?_⟩
          · have := HIz.out.vcur g h; omega
          · have := HIz.out.pcur g h; omega
          · have := HIz.out.bel.size; omega)
        clear hov hrd
        go_wp2
        go_roundw
        case rel => exact ⟨k + 1, m', d', B', L', (rput R N xs).1, vs', (fun i => Pv i ∨ (w5.heap.size ≤ i ∧ i < w6.heap.size)), (fun i => Pr i ∨ (w4.heap.size ≤ i ∧ i < w5.heap.size)), rfl, by go_num, by omega, by omega, HId.out⟩
        case measure => simp [intOf]; omega
      · by_cases k2 : kd = 2
        · subst k2
          have HQ3 : Hid (Hq (wr.alloc (.cells #[.int .i64 2, .string N, .string T, .slice Bx xs.length dx] 30)) wr.heap.size 2 N T (.slice Bx xs.length dx)) := heap_alloc_new wr _
          have HI3 : Hid (Inv w p k (wr.alloc (.cells #[.int .i64 2, .string N, .string T, .slice Bx xs.length dx] 30)) B m d L R vs Pv Pr) := HI.out.below (below_alloc wr _)
          have HGP : Hid (p < wr.heap.size) := HI.out.vcur p HI.out.vt.1
          go_wp2_with fail
          obtain ⟨w3, hw3⟩ : ∃ w3, w3 = wr.alloc (.cells #[.int .i64 2, .string N, .string T, .slice Bx xs.length dx] 30) := ⟨_, rfl⟩
          have HS3 : Hid (w3.heap.size = wr.heap.size + 1) := by show _ = _; rw [hw3]; simp
          rw [← hw3] at HI3 HQ3
          rw [← hw3]
          clear hw3
          generalize hga : wr.heap.size = ga at *
          clear hga
          have HI4 : Hid (Inv w p k (w3.alloc (.cells #[.string N, .string T] 9)) B m d L R vs Pv Pr) := HI3.out.below (below_alloc w3 _)
          have HQ4 : Hid (Hq (w3.alloc (.cells #[.string N, .string T] 9)) ga 2 N T (.slice Bx xs.length dx)) := HQ3.out.below (below_alloc w3 _)
          have HM6 : Hid (m ≤ 1000000) := by show _ ≤ _; have h1 := HI3.out.num; have h2 := HI3.out.len; omega
          have hrl := rlose_any B (some ⟨w3.heap.size, 0, none⟩) m d 2 2 R vs [N, T] (fun i => Pr i ∨ (w3.alloc (.cells #[.string N, .string T] 9)).heap.size ≤ i) _ (HI4.out.tg.imp (fun i _ h => .inl h)) (Rd.of_block (heap_alloc_new w3 (.cells #[.string N, .string T] 9)) rfl) HM6.out (by omega) (fun i hi => .inr hi)
          rw [HS3.out] at hrl
          refine hrl.mono ?_
          generalize w3.alloc (.cells #[.string N, .string T] 9) = w4 at *
          rintro e w5 ⟨B', m', d', vs', rfl, htg5, hmd5, hb5⟩
          have HQ5 : Hid (Hq w5 ga 2 N T (.slice Bx xs.length dx)) := HQ4.out.below hb5
          obtain ⟨r0, r1, r2, r3⟩ := HQ5.out.cells
          have hb6 := below_alloc w5 (.cells #[.string N, .string T] 9)
          have hb46 : Below w4.heap.size w4 (w5.alloc (.cells #[.string N, .string T] 9)) := hb5.trans (hb6.mono hb5.size)
          have HQ6 : Hid (Hq (w5.alloc (.cells #[.string N, .string T] 9)) ga 2 N T (.slice Bx xs.length dx)) := HQ5.out.below hb6
          obtain ⟨s0, s1, s2, s3⟩ := HQ6.out.cells
          have HT6 := Lib.hid (And.intro (htg5.below hb6) (And.intro hmd5 hb46))
          have hvl := vlose_any p L Pv (some ⟨w5.heap.size, 0, none⟩) 2 2 p [N, T] (w5.alloc (.cells #[.string N, .string T] 9)) (HI4.out.vt.below hb46) (Rd.of_block (heap_alloc_new w5 (.cells #[.string N, .string T] 9)) rfl)
            (fun e => by have h1 : w5.heap.size = p := by injection e
                         have h2 := HI4.out.vcur p HI4.out.vt.1
                         have h3 := hb5.size
                         omega)
            (fun s hs => by
              rcases List.mem_cons.1 hs with rfl | hs
              · exact HN.out
              · obtain rfl := List.mem_singleton.1 hs; exact HT.out)
            (by omega) (by have := HI4.out.num; omega) HI4.out.old
          have hml : ((L.length : Nat) : Int) - (((los L [N, T]).length : Nat) : Int) = (m : Int) - (m' : Int) := by
            rw [HI4.out.len, rel_len (rel_lose HI4.out.rel [N, T]), htg5.len]
          have HM7 : Hid (m' ≤ m) := by
            show _ ≤ _
            rw [← htg5.len, ← HI4.out.tg.len]; exact los_len _
          rw [hml] at hvl
          clear hrl htg5 hmd5 hb5 hb6 hb46
          go_wp2_with fail
          refine hvl.mono ?_
          generalize w5.alloc (.cells #[.string N, .string T] 9) = w6 at *
          rintro e wz ⟨rfl, hvt7, hf7, hb7⟩
          have HQz : Hid (Hq wz ga 2 N T (.slice Bx xs.length dx)) := HQ6.out.vfr hf7 (by have := HGP.out; omega)
          have HIz : Hid (Inv w p (k + 1) wz B' m' d' (los L [N, T]) (los R [N, T]) vs' Pv (fun i => Pr i ∨ (w4.heap.size ≤ i ∧ i < w6.heap.size))) := HI4.out.lose HWP.out HT6.out.2.2 HT6.out.1 HT6.out.2.1 hvt7 hf7 hb7
          have hle7 := HM7.out
          have hm7 := HM6.out
          have hsub : ((m : Int) - (m' : Int) != (m : Int) - (m' : Int)) = false := by simp
          clear hvl hml hvt7 hf7 hb7 r0 r1 r2 r3 s0 s1 s2 s3
          obtain ⟨q0, q1, q2, q3⟩ := HQz.out.cells
          have HMz : Hid ((los L [N, T]).length = m') := HIz.out.len
          have HM6 : Hid (m' ≤ 1000000) := by show _ ≤ _; have h1 := HIz.out.num; have h2 := HMz.out; omega
          have hget := get_both HIz.out N HN.out HM6.out
          have HGA : Hid (ga < wz.heap.size) := HQz.out.lt
          clear q3
          go_wp2_with fail
          refine hget.mono ?_
          rintro e wa ⟨ys, A1, c1, ev, rfl, hoa, hra, hla, hba, hrg⟩
          have HIa : Hid (Inv w p (k + 1) wa B' m' d' (los L [N, T]) (los R [N, T]) vs' Pv (fun i => Pr i ∨ (w4.heap.size ≤ i ∧ i < w6.heap.size))) := HIz.out.below hba
          have HQa : Hid (Hq wa ga 2 N T (.slice Bx xs.length dx)) := HQz.out.below hba
          obtain ⟨qa0, qa1, qa2, qa3⟩ := HQa.out.cells
          have HLA : Hid (∀ j, blk A1 = some j → wz.heap.size ≤ j ∧ j < wa.heap.size) := fun j hj => hoa.lies j hj
          have hrg1 := hrg wa HIa.out
          have HOA := Lib.hid hoa
          have HRA := Lib.hid hra
          have HLY := Box.mk hla
          clear hget hrg hba hoa hra hla q0 q1 q2 qa0 qa3
          go_wp2_with fail
          refine hrg1.mono ?_
          rintro e wb ⟨B2, d2, rfl, hbs2, hdb⟩
          have hbb := hdb.below wa.heap.size
          have HIb : Hid (Inv w p (k + 1) wb B' m' d' (los L [N, T]) (los R [N, T]) vs' Pv (fun i => Pr i ∨ (w4.heap.size ≤ i ∧ i < w6.heap.size))) := HIa.out.below hbb
          have HQb : Hid (Hq wb ga 2 N T (.slice Bx xs.length dx)) := HQa.out.below hbb
          have HOB : Hid (Own wb wz.heap.size 5 A1 ys.length c1 (By ys)) := HOA.out.below hbb (fun j hj => (HLA.out j hj).2)
          have hbsb := hbs2.bs.keep hbb
          have HTC := Lib.hid (tail_calls HIb.out HQb.out HM6.out (c1 := c1) (d2 := d2) HOB.out HRA.out hbsb (by have := HLY.out; unfold maxLen; omega))
          have hcx : wb.drew.cell? ⟨ga, 2, none⟩ = some (.string T) := (ks_of HQb.out ((Dr.refl wb).one.below _)).1
          have hbx : Below wb.heap.size wb wb.drew := (Dr.refl wb).one.below _
          have hev : (ev != ev) = false := by simp
          clear hrg1 qa1 qa2 hbb hdb hbs2 hbsb
          go_wp2_with fail
          go_region_held3 (fun w' => w'.cell? ⟨ga, 2, none⟩ = some (.string T) ∧ Below wb.heap.size wb w') (first | assumption | exact ⟨hcx, hbx⟩) (first
            | (go_at_call 16; refine (HTC.out.1 _ (by assumption)).mono ?_; rintro e w' ⟨rfl, hcx, hbx⟩)
            | (go_at_call 17; refine (HTC.out.2.1 _ (by assumption)).mono ?_; rintro e w' ⟨rfl, hcx, hbx⟩)
            | (go_at_call 19; refine (HTC.out.2.2 _ (by assumption)).mono ?_; rintro e w' ⟨A3, n3, c3, rfl, hcx, hbx, h20⟩)
            | (go_at_call 20; refine h20.mono ?_; rintro e w' ⟨A4, n4, c4, rfl, hcx, hbx, h18⟩)
            | (go_at_call 18; refine h18.mono ?_; rintro e w' ⟨rfl, hcx, hbx⟩))
          have HIc : Hid (Inv w p (k + 1) w' B' m' d' (los L [N, T]) (los R [N, T]) vs' Pv (fun i => Pr i ∨ (w4.heap.size ≤ i ∧ i < w6.heap.size))) := HIb.out.below hbx
          have hoc := HOB.out.below hbx (fun j hj => (HOB.out.lies j hj).2)
          have hov := over_row A1 ys.length c1 wz.heap.size ys w' hoc HRA.out (by have := HLY.out; omega)
          clear hcx hbx h20 h18 hoc
          go_wp2_with fail
          refine hov.mono ?_
          rintro e wd ⟨rfl, hrd⟩
          have HId : Hid (Inv w p (k + 1) wd B' m' d' (los L [N, T]) (los R [N, T]) vs' Pv (fun i => Pr i ∨ (w4.heap.size ≤ i ∧ i < w6.heap.size))) := HIc.out.over hrd (fun g hg => by
            have hg1 := (HLA.out g hg).1
            refine ⟨fun h => ?_, fun h => ?_, ?_⟩
            · have := HIz.out.vcur g h; omega
            · have := HIz.out.pcur g h; omega
            · have := HIz.out.bel.size; omega)
          clear hov hrd
          go_wp2
          go_roundw
          case rel => exact ⟨k + 1, m', d', B', (los L [N, T]), (los R [N, T]), vs', Pv, (fun i => Pr i ∨ (w4.heap.size ≤ i ∧ i < w6.heap.size)), rfl, by go_num, by omega, by omega, HId.out⟩
          case measure => simp [intOf]; omega
        · have HI3 : Hid (Inv w p (k + 1) (wr.alloc (.cells #[.int .i64 kd, .string N, .string T, .slice Bx xs.length dx] 30)) B m d L R vs Pv Pr) := (HI.out.below (below_alloc wr _)).more (by omega)
          have HQ3 : Hid (Hq (wr.alloc (.cells #[.int .i64 kd, .string N, .string T, .slice Bx xs.length dx] 30)) wr.heap.size kd N T (.slice Bx xs.length dx)) := heap_alloc_new wr _
          have hget0 := get_both HI3.out N HN.out (by have h1 := HI3.out.num; have h2 := HM.out; omega)
          have k1b : (kd == 1) = false := by simpa using k1
          have k2b : (kd == 2) = false := by simpa using k2
          go_wp2_with fail
          obtain ⟨wz, hwz⟩ : ∃ wz, wz = wr.alloc (.cells #[.int .i64 kd, .string N, .string T, .slice Bx xs.length dx] 30) := ⟨_, rfl⟩
          rw [← hwz] at HI3 HQ3 hget0
          rw [← hwz]
          clear hwz
          generalize hga : wr.heap.size = ga at *
          clear hga
          have HMz : Hid (L.length = m) := HI3.out.len
          have HM6 : Hid (m ≤ 1000000) := by show _ ≤ _; have h1 := HI3.out.num; have h2 := HMz.out; omega
          have HGA : Hid (ga < wz.heap.size) := HQ3.out.lt
          refine hget0.mono ?_
          rintro e wa ⟨ys, A1, c1, ev, rfl, hoa, hra, hla, hba, hrg⟩
          have HIa : Hid (Inv w p (k + 1) wa B m d L R vs Pv Pr) := HI3.out.below hba
          have HQa : Hid (Hq wa ga kd N T (.slice Bx xs.length dx)) := HQ3.out.below hba
          obtain ⟨qa0, qa1, qa2, qa3⟩ := HQa.out.cells
          have HLA : Hid (∀ j, blk A1 = some j → wz.heap.size ≤ j ∧ j < wa.heap.size) := fun j hj => hoa.lies j hj
          have hrg1 := hrg wa HIa.out
          have HOA := Lib.hid hoa
          have HRA := Lib.hid hra
          have HLY := Box.mk hla
          clear hget0 hrg hba hoa hra hla qa0 qa3
          go_wp2_with fail
          refine hrg1.mono ?_
          rintro e wb ⟨B2, d2, rfl, hbs2, hdb⟩
          have hbb := hdb.below wa.heap.size
          have HIb : Hid (Inv w p (k + 1) wb B m d L R vs Pv Pr) := HIa.out.below hbb
          have HQb : Hid (Hq wb ga kd N T (.slice Bx xs.length dx)) := HQa.out.below hbb
          have HOB : Hid (Own wb wz.heap.size 5 A1 ys.length c1 (By ys)) := HOA.out.below hbb (fun j hj => (HLA.out j hj).2)
          have hbsb := hbs2.bs.keep hbb
          have HTC := Lib.hid (tail_calls HIb.out HQb.out HM6.out (c1 := c1) (d2 := d2) HOB.out HRA.out hbsb (by have := HLY.out; unfold maxLen; omega))
          have hcx : wb.drew.cell? ⟨ga, 2, none⟩ = some (.string T) := (ks_of HQb.out ((Dr.refl wb).one.below _)).1
          have hbx : Below wb.heap.size wb wb.drew := (Dr.refl wb).one.below _
          have hev : (ev != ev) = false := by simp
          clear hrg1 qa1 qa2 hbb hdb hbs2 hbsb
          go_wp2_with fail
          go_region_held3 (fun w' => w'.cell? ⟨ga, 2, none⟩ = some (.string T) ∧ Below wb.heap.size wb w') (first | assumption | exact ⟨hcx, hbx⟩) (first
            | (go_at_call 16; refine (HTC.out.1 _ (by assumption)).mono ?_; rintro e w' ⟨rfl, hcx, hbx⟩)
            | (go_at_call 17; refine (HTC.out.2.1 _ (by assumption)).mono ?_; rintro e w' ⟨rfl, hcx, hbx⟩)
            | (go_at_call 19; refine (HTC.out.2.2 _ (by assumption)).mono ?_; rintro e w' ⟨A3, n3, c3, rfl, hcx, hbx, h20⟩)
            | (go_at_call 20; refine h20.mono ?_; rintro e w' ⟨A4, n4, c4, rfl, hcx, hbx, h18⟩)
            | (go_at_call 18; refine h18.mono ?_; rintro e w' ⟨rfl, hcx, hbx⟩))
          have HIc : Hid (Inv w p (k + 1) w' B m d L R vs Pv Pr) := HIb.out.below hbx
          have hoc := HOB.out.below hbx (fun j hj => (HOB.out.lies j hj).2)
          have hov := over_row A1 ys.length c1 wz.heap.size ys w' hoc HRA.out (by have := HLY.out; omega)
          clear hcx hbx h20 h18 hoc
          go_wp2_with fail
          refine hov.mono ?_
          rintro e wd ⟨rfl, hrd⟩
          have HId : Hid (Inv w p (k + 1) wd B m d L R vs Pv Pr) := HIc.out.over hrd (fun g hg => by
            have hg1 := (HLA.out g hg).1
            refine ⟨fun h => ?_, fun h => ?_, ?_⟩
            · have := HI3.out.vcur g h; omega
            · have := HI3.out.pcur g h; omega
            · have := HI3.out.bel.size; omega)
          clear hov hrd
          go_wp2
          go_roundw
          case rel => exact ⟨k + 1, m, d, B, L, R, vs, Pv, Pr, rfl, by go_num, by omega, by omega, HId.out⟩
          case measure => simp [intOf]; omega
    · have hct := count_any p L Pv wr HI.out.vt
      rw [HM.out] at hct
      have HBE : Hid (Below w.heap.size w wr) := HI.out.bel
      by_cases hkn : k < n
      · have hk60 : ¬ k < 60 := fun h => hlt ⟨hkn, h⟩
        clear hlt
        go_wp2_with fail
        refine hct.mono ?_
        rintro e w' ⟨rfl, rfl⟩
        go_wp2
        go_ret
        exact ⟨rfl, HBE.out⟩
      · clear hlt
        go_wp2_with fail
        refine hct.mono ?_
        rintro e w' ⟨rfl, rfl⟩
        go_wp2
        go_ret
        exact ⟨rfl, HBE.out⟩
end Go.Proofs.YtlphlogliphhdaaDoor

