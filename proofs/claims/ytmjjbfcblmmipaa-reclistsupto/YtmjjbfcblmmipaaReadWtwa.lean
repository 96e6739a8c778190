/- rec.Read at a record's bytes. -/
import Derived.Test.YtmjjbfcblmmipaaReadA
import Derived.Laws.ResultCell
namespace Go.Proofs.Ytmjjbfcblmmipaa
set_option linter.unusedVariables false
set_option linter.unusedSimpArgs false
open Go.RowKit

set_option maxRecDepth 100000 in
set_option maxHeartbeats 8000000 in
theorem read_twa2 (y : Rc) (A : Option Addr) (n c : Nat) (w : World) (hf : fl y.kind = [116, 119, 97]) (hk0 : 0 ≤ y.kind) (hk1 : y.kind ≤ 255) (hx : Bs w A n (recL y)) (hnc : n ≤ c) (hkb : ∀ k, blk A = some k → k < w.heap.size) (hn : n ≤ 20000000) (hB : RcB y) :
    Calls Try.prog 20 #[.slice A n c] w (ReadP2 (trimR y) w) := by
  rw [trim_twa y hf]
  have hlen : (joinL (parts y)).length = n := hx.len
  have HSP : Hid (splitL (recL y) = (parts y, 0)) := splitL_joinB (parts y) (by omega)
  have HPT : Hid (parts y = [[y.kind], txB y, trs y.ws, y.reply]) := by show parts y = _; unfold parts; rw [hf, Int.emod_eq_of_lt hk0 (by omega)]; rfl
  have HBD : Hid (∀ xs ∈ parts y, xs.length ≤ 20000000) := fun xs h => by have := (joinL_bd (parts y)).2 xs h; omega
  have HFI : Hid (∀ W, Calls Try.prog 53 #[.int .i64 y.kind] W fun e w' => e = .returned (.string (strOfNums [116, 119, 97])) ∧ W = w') := fun W => by have := fields_any y.kind W; rwa [hf] at this
  have HB := Lib.hid hB
  have hdz : w.heap.size < (w.alloc (.cells zeroV 32)).heap.size := by simp
  clear hf hB hlen
  go_enter Try.func20, Try.ntmps20
  go_wp2_with fail
  refine (split_any A n c (recL y) _ (hx.keep (below_alloc w _)) hnc (fun k h => Nat.lt_of_lt_of_le (hkb k h) (below_alloc w _).size) (by omega)).mono ?_
  rintro e w1 ⟨A1, n1, c1, rfl, hn1, hp1, hb1⟩
  rw [HSP.out] at hp1
  rw [HSP.out]
  change Prts w1 _ A1 n1 c1 (parts y) at hp1
  have hp : PrR w1 w.heap.size A1 n1 c1 (parts y) := hp1.prR.mono (Nat.le_of_lt hdz)
  have hb01 : Below w.heap.size w w1 := (below_alloc w _).trans (hb1.mono (Nat.le_of_lt hdz))
  have HR1 := Lib.hid ((hb1.block w.heap.size hdz).trans (heap_alloc_new w (.cells zeroV 32)))
  have hgl1 : w.heap.size < w1.heap.size := Nat.lt_of_lt_of_le hdz hb1.size
  rw [HPT.out] at hp HBD
  clear hn1 hp1 hx hkb hb1 hdz HSP HPT
  obtain ⟨b2, off, A0, n0, c0, rfl, hb2, hc0, ho0, hr0, HN0, hpos⟩ := hp.head
  have hn0 : n0 = 1 := HN0.out
  subst hn0
  obtain ⟨b3, off3, z, rfl, hb3, hz0, hz1, hcz, HZ⟩ := (ho0.bs hr0).at_ (k := 0) (by omega)
  have hz : z = y.kind := by have := HZ.out; simpa using this.symm
  subst hz
  have hcz' : w1.cell? ⟨b3, off3, none⟩ = some (.int .u8 y.kind) := hcz
  have d1 : ((n1 : Int) == 0) = false := by simp; omega
  have d2 : (0 : Int) < (n1 : Int) := by omega
  obtain ⟨A2, n2, c2, hsl0, hp2⟩ := hp.tail
  have hbr := below_alloc w1 (.cells (rcV y.kind 0 0 0 none 0 0 none 0 0 false none 0 0 none 0 0 0 ⟨#[]⟩) 32)
  have HG2 := Lib.hid (heap_alloc_new w1 (.cells (rcV y.kind 0 0 0 none 0 0 none 0 0 false none 0 0 none 0 0 0 ⟨#[]⟩) 32))
  have q0 := rc_cell 0 (.int .i64 y.kind) HG2.out rfl
  have HR2 := Lib.hid ((hbr.block _ (lt_of_heap HR1.out)).trans HR1.out)
  have HP2 := Lib.hid (hp2.keep hbr)
  have HB2 := Lib.hid (hb01.trans (hbr.mono (Nat.le_of_lt hgl1)))
  obtain ⟨STR, HSTR⟩ : ∃ STR, Hid (strOfNums [116, 119, 97] = STR) := ⟨_, rfl⟩
  have hNE : NE STR := by rw [← HSTR.out]; exact str_ne (by decide)
  obtain ⟨ne1, ne2, ne3, ne4⟩ := hNE
  have HIT : Hid ((strOfNums [116, 119, 97]).size = 3) := rfl
  rw [HSTR.out] at HFI
  clear ho0 hr0 HN0 hb3 hz0 hz1 hcz HZ hp hp2 hb01 hbr HR1 hpos
  go_wp2_with fail
  refine (HFI.out _).mono ?_
  rintro e wz ⟨rfl, rfl⟩
  go_wp2_with fail
  refine (HFI.out _).mono ?_
  rintro e wz ⟨rfl, rfl⟩
  have hsz : (w1.alloc (.cells (rcV y.kind 0 0 0 none 0 0 none 0 0 false none 0 0 none 0 0 0 ⟨#[]⟩) 32)).heap.size = w1.heap.size + 1 := by simp
  have HS0 : Hid (RS w w1.heap.size (w1.heap.size + 1) (rcV y.kind 0 0 0 none 0 0 none 0 0 false none 0 0 none 0 0 0 ⟨#[]⟩) STR 0 A2 n2 c2 [txB y, trs y.ws, y.reply] ((w1.alloc (.cells (rcV y.kind 0 0 0 none 0 0 none 0 0 false none 0 0 none 0 0 0 ⟨#[]⟩) 32)).iter STR 0)) := by
    have hbi : Below (w1.alloc (.cells (rcV y.kind 0 0 0 none 0 0 none 0 0 false none 0 0 none 0 0 0 ⟨#[]⟩) 32)).heap.size (w1.alloc (.cells (rcV y.kind 0 0 0 none 0 0 none 0 0 false none 0 0 none 0 0 0 ⟨#[]⟩) 32)) ((w1.alloc (.cells (rcV y.kind 0 0 0 none 0 0 none 0 0 false none 0 0 none 0 0 0 ⟨#[]⟩) 32)).iter STR 0) := below_alloc _ _
    have hit := World.iter_heap (w1.alloc (.cells (rcV y.kind 0 0 0 none 0 0 none 0 0 false none 0 0 none 0 0 0 ⟨#[]⟩) 32)) STR 0
    rw [hsz] at hit
    exact ⟨(hbi.block _ (lt_of_heap HG2.out)).trans HG2.out, hit, (hbi.block _ (lt_of_heap HR2.out)).trans HR2.out, HP2.out.keep hbi, HB2.out.trans (hbi.mono (by omega)), hgl1, by omega⟩
  clear HG2 HR2 HP2 HB2
  go_wp2_with fail
  generalize (w1.alloc (.cells (rcV y.kind 0 0 0 none 0 0 none 0 0 false none 0 0 none 0 0 0 ⟨#[]⟩) 32)).iter STR 0 = v0 at *
  generalize w1.heap.size + 1 = gi at *
  generalize w1.heap.size = g at *
  clear q0 hc0 hcz' hsz hb2 d1 d2 hsl0
  refine wp_loop_rounds 4 ?_
  rw [rounds_succ]
  have hn1 := fun ty => next_at (P := Try.prog) v0 gi [116, 119, 97] 0 116 ty (by rw [HSTR.out]; exact HS0.out.hi) rfl (by decide) (by decide)
  simp only [HSTR.out] at hn1
  have hon1 := itSet_onl v0 gi STR (0 + 1)
  have HSn1 : Hid (RS w g gi (rcV y.kind 0 0 0 none 0 0 none 0 0 false none 0 0 none 0 0 0 ⟨#[]⟩) STR 1 A2 n2 c2 [txB y, trs y.ws, y.reply] (itSet v0 gi STR (0 + 1))) := HS0.out.next hon1 (itSet_at v0 gi STR (0 + 1) (lt_of_heap HS0.out.hi))
  clear hon1 HS0
  generalize itSet v0 gi STR (0 + 1) = u1 at *
  obtain ⟨b2, off, B1, m1, e1, hA1, hb1, hc1, ho1, hr1, HL1, hp1⟩ := HSn1.out.hp.head
  obtain ⟨A3, n3, c3, hsl1, hpt1⟩ := HSn1.out.hp.tail
  have HPT1 := Lib.hid hpt1
  rw [hA1] at hsl1
  have hm1 : m1 ≤ 20000000 := by rw [HL1.out]; exact HBD.out _ (by simp)
  have d1 : (((n2 : Nat) : Int) == 0) = false := by simp; omega
  have dd1 : (0 : Int) < ((n2 : Nat) : Int) := by omega
  have HA1 := Lib.hid hA1
  rw [hA1]
  clear hA1 hpt1
  go_wp2_with fail
  refine (take_t g y.kind 0 0 0 none 0 0 none 0 0 false none 0 0 none 0 0 0 ⟨#[]⟩ B1 m1 e1 _ HSn1.out.hg y.boot y.sess y.seq (ho1.bs hr1) hm1 HB.out.boot HB.out.sess HB.out.seq).mono ?_
  rintro e v1 ⟨rfl, hg1, hq1⟩
  have HS1 : Hid (RS w g gi (rcV y.kind y.boot y.sess y.seq none 0 0 none 0 0 false none 0 0 none 0 0 0 ⟨#[]⟩) STR 1 A3 n3 c3 [trs y.ws, y.reply] v1) := by
    have h1 := HSn1.out.took hq1 hg1
    exact ⟨h1.hg, h1.hi, h1.hr, HPT1.out.ef (Ef.of_onl (ex := [32]) (base := 0) hq1 (Nat.zero_le _) HSn1.out.hg (by decide)) (by decide) (by decide), h1.hb, h1.gl, h1.il⟩
  clear  HSn1 HPT1 hq1 hg1 ho1 hr1 HL1 hc1 hn1
  go_wp2
  rw [rounds_succ]
  have hn2 := fun ty => next_at (P := Try.prog) v1 gi [116, 119, 97] 1 119 ty (by rw [HSTR.out]; exact HS1.out.hi) rfl (by decide) (by decide)
  simp only [HSTR.out] at hn2
  have hon2 := itSet_onl v1 gi STR (1 + 1)
  have HSn2 : Hid (RS w g gi (rcV y.kind y.boot y.sess y.seq none 0 0 none 0 0 false none 0 0 none 0 0 0 ⟨#[]⟩) STR 2 A3 n3 c3 [trs y.ws, y.reply] (itSet v1 gi STR (1 + 1))) := HS1.out.next hon2 (itSet_at v1 gi STR (1 + 1) (lt_of_heap HS1.out.hi))
  clear hon2 HS1
  generalize itSet v1 gi STR (1 + 1) = u2 at *
  obtain ⟨b2, off, B2, m2, e2, hA2, hb2, hc2, ho2, hr2, HL2, hp2⟩ := HSn2.out.hp.head
  obtain ⟨A4, n4, c4, hsl2, hpt2⟩ := HSn2.out.hp.tail
  have HPT2 := Lib.hid hpt2
  rw [hA2] at hsl2
  have hm2 : m2 ≤ 20000000 := by rw [HL2.out]; exact HBD.out _ (by simp)
  have d2 : (((n3 : Nat) : Int) == 0) = false := by simp; omega
  have dd2 : (0 : Int) < ((n3 : Nat) : Int) := by omega
  have HA2 := Lib.hid hA2
  rw [hA2]
  clear hA2 hpt2
  go_wp2_with fail
  refine (take_w g y.kind y.boot y.sess y.seq none 0 0 false none 0 0 none 0 0 0 ⟨#[]⟩ B2 m2 e2 _ HSn2.out.hg y.ws (ho2.bs hr2) ho2.cap (fun k hk => (ho2.lies k hk).2) hm2).mono ?_
  rintro e v2 ⟨T2, k2, l2, rfl, hkk2, hg2, ht2, hq2⟩
  have HC2 := Lib.hid ht2
  have HMID := Lib.hid HSn2.out.hb.size
  have HTY2 : Hid (∀ (i : Nat) (cs : Array Value) (fr : Nat × Nat), u2.heap[i]? = some (.cells cs 28 fr) → v2.heap[i]? = some (.cells cs 28 fr)) := fun i cs fr hh => (hq2.block i (lt_of_heap hh) (fun e => ne_of_type hh HSn2.out.hg (by decide) (by injection e))).trans hh
  have HPU := HPT2
  clear ht2 hkk2
  have HS2 : Hid (RS w g gi (rcV y.kind y.boot y.sess y.seq T2 k2 l2 none 0 0 false none 0 0 none 0 0 0 ⟨#[]⟩) STR 2 A4 n4 c4 [y.reply] v2) := by
    have h1 := HSn2.out.took hq2 hg2
    exact ⟨h1.hg, h1.hi, h1.hr, HPT2.out.ef (Ef.of_onl (ex := [32]) (base := 0) hq2 (Nat.zero_le _) HSn2.out.hg (by decide)) (by decide) (by decide), h1.hb, h1.gl, h1.il⟩
  clear  HSn2 HPT2 hq2 hg2 ho2 hr2 HL2 hc2 hn2
  go_wp2
  rw [rounds_succ]
  have hn3 := fun ty => next_at (P := Try.prog) v2 gi [116, 119, 97] 2 97 ty (by rw [HSTR.out]; exact HS2.out.hi) rfl (by decide) (by decide)
  simp only [HSTR.out] at hn3
  have hon3 := itSet_onl v2 gi STR (2 + 1)
  have HSn3 : Hid (RS w g gi (rcV y.kind y.boot y.sess y.seq T2 k2 l2 none 0 0 false none 0 0 none 0 0 0 ⟨#[]⟩) STR 3 A4 n4 c4 [y.reply] (itSet v2 gi STR (2 + 1))) := HS2.out.next hon3 (itSet_at v2 gi STR (2 + 1) (lt_of_heap HS2.out.hi))
  have HC2i3 := Lib.hid (HC2.out.setI hon3 HS2.out.hi)
  have HTY3 : Hid (∀ (i : Nat) (cs : Array Value) (fr : Nat × Nat), u2.heap[i]? = some (.cells cs 28 fr) → (itSet v2 gi STR (2 + 1)).heap[i]? = some (.cells cs 28 fr)) := fun i cs fr hh => (hon3.block i (lt_of_heap (HTY2.out i cs fr hh)) (fun e => iter_ne (HTY2.out i cs fr hh) HS2.out.hi (by injection e))).trans (HTY2.out i cs fr hh)
  clear HTY2
  clear HC2
  clear hon3 HS2
  generalize itSet v2 gi STR (2 + 1) = u3 at *
  obtain ⟨b2, off, B3, m3, e3, hA3, hb3, hc3, ho3, hr3, HL3, hp3⟩ := HSn3.out.hp.head
  obtain ⟨A5, n5, c5, hsl3, hpt3⟩ := HSn3.out.hp.tail
  have HPT3 := Lib.hid hpt3
  rw [hA3] at hsl3
  have hm3 : m3 ≤ 20000000 := by rw [HL3.out]; exact HBD.out _ (by simp)
  have d3 : (((n4 : Nat) : Int) == 0) = false := by simp; omega
  have dd3 : (0 : Int) < ((n4 : Nat) : Int) := by omega
  have HA3 := Lib.hid hA3
  have HBL : Hid (∀ k, blk B3 = some k → k < u2.heap.size) := HPU.out.headLt HTY3.out hA3 hc3
  clear HPU HTY3
  rw [hA3]
  clear hA3 hpt3
  go_wp2_with fail
  refine (take_a g y.kind y.boot y.sess y.seq T2 k2 l2 none 0 0 false none 0 0 none 0 0 0 ⟨#[]⟩ B3 m3 e3 _ HSn3.out.hg).mono ?_
  rintro e v3 ⟨rfl, hg3, hq3⟩
  have HC2i3t := Lib.hid (HC2i3.out.set hq3 HSn3.out.hg (by decide) (by decide))
  have HC3 := Lib.hid (ho3.onl hq3 (ho3.ne_blk HSn3.out.hg (by decide)))
  have HQ3 := Lib.hid hr3
  have HS3 : Hid (RS w g gi (rcV y.kind y.boot y.sess y.seq T2 k2 l2 none 0 0 false none 0 0 B3 m3 e3 0 ⟨#[]⟩) STR 3 A5 n5 c5 [] v3) := by
    have h1 := HSn3.out.took hq3 hg3
    exact ⟨h1.hg, h1.hi, h1.hr, HPT3.out.ef (Ef.of_onl (ex := [32]) (base := 0) hq3 (Nat.zero_le _) HSn3.out.hg (by decide)) (by decide) (by decide), h1.hb, h1.gl, h1.il⟩
  clear HC2i3 HSn3 HPT3 hq3 hg3 ho3 hr3 HL3 hc3 hn3
  go_wp2
  rw [rounds_succ]
  have hne1 := fun ty => next_done (P := Try.prog) v3 gi [116, 119, 97] 3 ty (by rw [HSTR.out]; exact HS3.out.hi) (by decide)
  have hz0 : n5 = 0 := by have := HS3.out.hp.1; simpa using this.symm
  have dz : (((n5 : Nat) : Int)) = 0 := by omega
  have dz2 : decide ((0 : Int) < ((n5 : Nat) : Int)) = false := by simp; omega
  have q0 := rc_cell 0 (.int .i64 y.kind) HS3.out.hg rfl
  have z0 := rc_cell 0 (.int .i64 0) HS3.out.hr rfl
  have y0 := two_frozen (i := 0) HS3.out.hr
  have q1 := rc_cell 1 (.int .u64 y.boot) HS3.out.hg rfl
  have z1 := rc_cell 1 (.int .u64 0) HS3.out.hr rfl
  have y1 := two_frozen (i := 1) HS3.out.hr
  have q2 := rc_cell 2 (.int .u64 y.sess) HS3.out.hg rfl
  have z2 := rc_cell 2 (.int .u64 0) HS3.out.hr rfl
  have y2 := two_frozen (i := 2) HS3.out.hr
  have q3 := rc_cell 3 (.int .u64 y.seq) HS3.out.hg rfl
  have z3 := rc_cell 3 (.int .u64 0) HS3.out.hr rfl
  have y3 := two_frozen (i := 3) HS3.out.hr
  have q4 := rc_cell 4 (.slice T2 k2 l2) HS3.out.hg rfl
  have z4 := rc_cell 4 (.slice none 0 0) HS3.out.hr rfl
  have y4 := two_frozen (i := 4) HS3.out.hr
  have q5 := rc_cell 5 (.slice none 0 0) HS3.out.hg rfl
  have z5 := rc_cell 5 (.slice none 0 0) HS3.out.hr rfl
  have y5 := two_frozen (i := 5) HS3.out.hr
  have q6 := rc_cell 6 (.bool false) HS3.out.hg rfl
  have z6 := rc_cell 6 (.bool false) HS3.out.hr rfl
  have y6 := two_frozen (i := 6) HS3.out.hr
  have q7 := rc_cell 7 (.slice none 0 0) HS3.out.hg rfl
  have z7 := rc_cell 7 (.slice none 0 0) HS3.out.hr rfl
  have y7 := two_frozen (i := 7) HS3.out.hr
  have q8 := rc_cell 8 (.slice B3 m3 e3) HS3.out.hg rfl
  have z8 := rc_cell 8 (.slice none 0 0) HS3.out.hr rfl
  have y8 := two_frozen (i := 8) HS3.out.hr
  have q9 := rc_cell 9 (.int .u64 0) HS3.out.hg rfl
  have z9 := rc_cell 9 (.int .u64 0) HS3.out.hr rfl
  have y9 := two_frozen (i := 9) HS3.out.hr
  have q10 := rc_cell 10 (.string ⟨#[]⟩) HS3.out.hg rfl
  have z10 := rc_cell 10 (.string ⟨#[]⟩) HS3.out.hr rfl
  have y10 := two_frozen (i := 10) HS3.out.hr
  go_wp2
  clear q0 z0 y0 q1 z1 y1 q2 z2 y2 q3 z3 y3 q4 z4 y4 q5 z5 y5 q6 z6 y6 q7 z7 y7 q8 z8 y8 q9 z9 y9 q10 z10 y10 hne1
  have HZ := Lib.hid (set11 v3 w.heap.size (.int .i64 y.kind) (.int .u64 y.boot) (.int .u64 y.sess) (.int .u64 y.seq) (.slice T2 k2 l2) (.slice none 0 0) (.bool false) (.slice none 0 0) (.slice B3 m3 e3) (.int .u64 0) (.string ⟨#[]⟩) HS3.out.hr)
  have HC2i3tz := Lib.hid (HC2i3t.out.set HZ.out.2 HS3.out.hr (by decide) (by decide))
  have HC3z := Lib.hid (HC3.out.onl HZ.out.2 (HC3.out.ne_blk HS3.out.hr (by decide)))
  have HBZ := Lib.hid (HS3.out.hb.trans (HZ.out.2.below HS3.out.hb.size))
  generalize (((((((((((v3.setCell ⟨w.heap.size, 0, none⟩ (.int .i64 y.kind)).setCell ⟨w.heap.size, 1, none⟩ (.int .u64 y.boot)).setCell ⟨w.heap.size, 2, none⟩ (.int .u64 y.sess)).setCell ⟨w.heap.size, 3, none⟩ (.int .u64 y.seq)).setCell ⟨w.heap.size, 4, none⟩ (.slice T2 k2 l2)).setCell ⟨w.heap.size, 5, none⟩ (.slice none 0 0)).setCell ⟨w.heap.size, 6, none⟩ (.bool false)).setCell ⟨w.heap.size, 7, none⟩ (.slice none 0 0)).setCell ⟨w.heap.size, 8, none⟩ (.slice B3 m3 e3)).setCell ⟨w.heap.size, 9, none⟩ (.int .u64 0)).setCell ⟨w.heap.size, 10, none⟩ (.string ⟨#[]⟩)) = VZ at *
  have r0 := rc_cell 0 (.int .i64 y.kind) HZ.out.1 rfl
  have r1 := rc_cell 1 (.int .u64 y.boot) HZ.out.1 rfl
  have r2 := rc_cell 2 (.int .u64 y.sess) HZ.out.1 rfl
  have r3 := rc_cell 3 (.int .u64 y.seq) HZ.out.1 rfl
  have r4 := rc_cell 4 (.slice T2 k2 l2) HZ.out.1 rfl
  have r5 := rc_cell 5 (.slice none 0 0) HZ.out.1 rfl
  have r6 := rc_cell 6 (.bool false) HZ.out.1 rfl
  have r7 := rc_cell 7 (.slice none 0 0) HZ.out.1 rfl
  have r8 := rc_cell 8 (.slice B3 m3 e3) HZ.out.1 rfl
  have r9 := rc_cell 9 (.int .u64 0) HZ.out.1 rfl
  have r10 := rc_cell 10 (.string ⟨#[]⟩) HZ.out.1 rfl
  refine bodyPost_ret (v := .tuple #[.agg (rcV y.kind y.boot y.sess y.seq T2 k2 l2 none 0 0 false none 0 0 B3 m3 e3 0 ⟨#[]⟩), .int .i64 0]) (by rw [results_cell_tmp rfl]; simp [go_sem, Try.isAgg32, Try.sizeOf32, r0, r1, r2, r3, r4, r5, r6, r7, r8, r9, r10]) rfl ⟨⟨T2, k2, l2, none, 0, 0, none, 0, 0, B3, m3, e3⟩, u2.heap.size, rfl, ⟨HC2i3tz.out.mono HMID.out, TrO.nil_, Own.nil_, HC3z.out, HQ3.out⟩, HC2i3tz.out, HMID.out, HBL.out, HBZ.out⟩
theorem read_twa (y : Rc) (A : Option Addr) (n c : Nat) (w : World) (hf : fl y.kind = [116, 119, 97]) (hk0 : 0 ≤ y.kind) (hk1 : y.kind ≤ 255) (hx : Bs w A n (recL y)) (hnc : n ≤ c) (hkb : ∀ k, blk A = some k → k < w.heap.size) (hn : n ≤ 20000000) (hB : RcB y) :
    Calls Try.prog 20 #[.slice A n c] w (ReadP (trimR y) w) := by
  refine (read_twa2 y A n c w hf hk0 hk1 hx hnc hkb hn hB).mono ?_
  rintro e w' ⟨s, mid, h1, h2, h3, h4, h5, h6⟩
  exact ⟨s, h1, h2, h6⟩
end Go.Proofs.Ytmjjbfcblmmipaa
