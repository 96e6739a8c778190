/- leaf.With, and Without at no place: their texts lie apart. -/
import Derived.Test.YtmjjbfcblmmipaaJoinY
import Derived.Test.YtmjjbfcblmmipaaDecK
namespace Go.Proofs.Ytmjjbfcblmmipaa
set_option linter.unusedVariables false
set_option linter.unusedSimpArgs false
open Go.RowKit
set_option maxRecDepth 100000 in
set_option maxHeartbeats 16000000 in
theorem withNoX_any (lf : Bool) (AK : Option Addr) (nK cK : Nat) (AV : Option Addr) (nV cV : Nat) (AD : Option Addr) (nD cD : Nat) (ks vs : List (List Int)) (ds : List Int) (z : Int) (AQ : Option Addr) (nq cq : Nat) (AR : Option Addr) (nr cr : Nat) (hno : lf = false ∨ z < 0 ∨ (nK : Int) < z) (w : World) (hx : Bss w AK nK ks) (hy : Bss w AV nV vs) (hz : Ins w AD nD ds) (sD : Shp AD nD)
    (bK : nK ≤ 99999) (bV : nV ≤ 99999) (bD : nD ≤ 100000) (lK : ∀ xs ∈ ks, xs.length ≤ 140737488355328) (lV : ∀ xs ∈ vs, xs.length ≤ 140737488355328) :
    Calls Try.prog 44 #[.agg (ndV lf AK nK cK AV nV cV AD nD cD), .int .i64 z, .slice AQ nq cq, .slice AR nr cr] w fun e w' => ∃ A1 c1 A2 c2 A3 c3, e = .returned (.agg (ndV lf A1 nK c1 A2 nV c2 A3 nD c3)) ∧ Prts w' w.heap.size A1 nK c1 ks ∧ Prts w' w.heap.size A2 nV c2 vs ∧ Own w' w.heap.size 3 A3 nD c3 (ds.map (Value.int .i64)) ∧ (blk A1 = none ∨ blk A1 ≠ blk A2) ∧ XD w' A1 nK A2 nV ∧ Below w.heap.size w w' := by
  have HX := Lib.hid hx; have HY := Lib.hid hy; have HZ := Lib.hid hz; have HSD := Lib.hid sD; have HLK := Lib.hid hx.len; have HLV := Lib.hid hy.len; have HMK := Lib.hid lK; have HMV := Lib.hid lV
  have hb1 := below_alloc w (.cells (ndV lf AK nK cK AV nV cV AD nD cD) 70)
  have hb2 := below_alloc (w.alloc (.cells (ndV lf AK nK cK AV nV cV AD nD cD) 70)) (.cells ndZ 70)
  have hsz : (w.alloc (.cells (ndV lf AK nK cK AV nV cV AD nD cD) 70)).heap.size = w.heap.size + 1 := by simp
  have n2 := heap_alloc_new (w.alloc (.cells (ndV lf AK nK cK AV nV cV AD nD cD) 70)) (.cells ndZ 70)
  rw [hsz] at n2
  have BX := Lib.hid ((hb2.block w.heap.size (by omega)).trans (heap_alloc_new w (.cells (ndV lf AK nK cK AV nV cV AD nD cD) 70)))
  have RS := Lib.hid n2; have HB := Lib.hid (hb1.trans (hb2.mono (by omega)))
  have hs2 : ((w.alloc (.cells (ndV lf AK nK cK AV nV cV AD nD cD) 70)).alloc (.cells ndZ 70)).heap.size = w.heap.size + 2 := by simp
  clear hx hy hz sD lK lV hb1 hb2 n2 hsz
  go_enter Try.func44, Try.ntmps44
  go_upto_region 1 with fail
  generalize (w.alloc (.cells (ndV lf AK nK cK AV nV cV AD nD cD) 70)).alloc (.cells ndZ 70) = y at *
  have q0 := rc_cell 0 (.bool lf) BX.out rfl; have q1 := rc_cell 1 (.slice AK nK cK) BX.out rfl; have q2 := rc_cell 2 (.slice AV nV cV) BX.out rfl; have q3 := rc_cell 3 (.slice AD nD cD) BX.out rfl
  go_wp2_with fail
  clear q0 q1 q2 q3
  refine (copiedX_any lf AK nK cK AV nV cV AD nD cD ks vs ds y (HX.out.keep HB.out) (HY.out.keep HB.out) (HZ.out.keep HB.out) HSD.out (by omega) (by omega) bD HMK.out HMV.out).mono ?_
  rintro e y2 ⟨A1, c1, A2, c2, A3, c3, rfl, p1, p2, p3, ap, xd, hb⟩
  rw [hs2] at p1 p2 p3
  have BX2 := Lib.hid ((hb.block _ (lt_of_heap BX.out)).trans BX.out); have RS2 := Lib.hid ((hb.block _ (lt_of_heap RS.out)).trans RS.out); have HB2 := Lib.hid (HB.out.trans (hb.mono HB.out.size))
  have HS := set4g y2 w.heap.size (.bool lf) (.slice A1 nK c1) (.slice A2 nV c2) (.slice A3 nD c3) _ _ _ _ 70 BX2.out
  have T0 : Hid (WX w lf A1 nK c1 ks A2 nV c2 vs A3 nD c3 ds ((((y2.setCell ⟨w.heap.size, 0, none⟩ (.bool lf)).setCell ⟨w.heap.size, 1, none⟩ (.slice A1 nK c1)).setCell ⟨w.heap.size, 2, none⟩ (.slice A2 nV c2)).setCell ⟨w.heap.size, 3, none⟩ (.slice A3 nD c3))) := Lib.hid ⟨⟨HS.1, (HS.2.block _ (lt_of_heap RS2.out) (by intro e; injection e with e; omega)).trans RS2.out, p1.set HS.2 BX2.out (by decide) (by decide), p2.set HS.2 BX2.out (by decide) (by decide), p3.onl HS.2 (p3.ne_blk BX2.out (by decide)), ap, HB2.out.trans (HS.2.below (Nat.le_of_lt (lt_of_heap BX2.out)))⟩, by obtain ⟨us, ho, _⟩ := p1.texts; obtain ⟨ts, hp, _⟩ := p2.texts; exact xd.turn ho.rd hp.rd (ho.onl HS.2 (ho.ne_blk BX2.out (by decide))).rd (hp.onl HS.2 (hp.ne_blk BX2.out (by decide))).rd⟩
  have q0 := rc_cell 0 (.bool lf) BX2.out rfl; have q1 := rc_cell 1 (.slice AK nK cK) BX2.out rfl; have q2 := rc_cell 2 (.slice AV nV cV) BX2.out rfl; have q3 := rc_cell 3 (.slice AD nD cD) BX2.out rfl
  have t0 := two_frozen (i := 0) BX2.out; have t1 := two_frozen (i := 1) BX2.out; have t2 := two_frozen (i := 2) BX2.out; have t3 := two_frozen (i := 3) BX2.out
  clear p1 p2 p3 ap xd hb HS BX RS HB
  go_upto_region 2 with fail
  clear q0 q1 q2 q3; clear t0 t1 t2 t3; clear BX2 RS2 HB2
  generalize ((((y2.setCell ⟨w.heap.size, 0, none⟩ (.bool lf)).setCell ⟨w.heap.size, 1, none⟩ (.slice A1 nK c1)).setCell ⟨w.heap.size, 2, none⟩ (.slice A2 nV c2)).setCell ⟨w.heap.size, 3, none⟩ (.slice A3 nD c3)) = y3 at *
  have q0 := rc_cell 0 (.bool lf) T0.out.t.nd rfl; have q1 := rc_cell 1 (.slice A1 nK c1) T0.out.t.nd rfl
  rcases hno with rfl | hno
  · skip
    have F0 := T0
    go_upto_region 3 with fail
    clear q0 q1
    have q0 := rc_cell 0 (.bool false) F0.out.t.nd rfl; have q1 := rc_cell 1 (.slice A1 nK c1) F0.out.t.nd rfl; have q2 := rc_cell 2 (.slice A2 nV c2) F0.out.t.nd rfl; have q3 := rc_cell 3 (.slice A3 nD c3) F0.out.t.nd rfl
    have z0 := rc_cell 0 (.bool false) F0.out.t.rs rfl; have fz0 := two_frozen (i := 0) F0.out.t.rs
    have z1 := rc_cell 1 (.slice none 0 0) F0.out.t.rs rfl; have fz1 := two_frozen (i := 1) F0.out.t.rs
    have z2 := rc_cell 2 (.slice none 0 0) F0.out.t.rs rfl; have fz2 := two_frozen (i := 2) F0.out.t.rs
    have z3 := rc_cell 3 (.slice none 0 0) F0.out.t.rs rfl; have fz3 := two_frozen (i := 3) F0.out.t.rs
    have HZ2 := Lib.hid (set4 y3 (w.heap.size + 1) (.bool false) (.slice A1 nK c1) (.slice A2 nV c2) (.slice A3 nD c3) F0.out.t.rs)
    have R1 := Lib.hid ((F0.out.t.pk.set HZ2.out.2 F0.out.t.rs (by decide) (by decide)).mono (b := w.heap.size) (by omega)); have R2 := Lib.hid ((F0.out.t.pv.set HZ2.out.2 F0.out.t.rs (by decide) (by decide)).mono (b := w.heap.size) (by omega)); have R3 := Lib.hid ((F0.out.t.od.onl HZ2.out.2 (F0.out.t.od.ne_blk F0.out.t.rs (by decide))).mono (b := w.heap.size) (by omega)); have RA := Lib.hid F0.out.t.ap
    have RX : Hid (XD ((((y3.setCell ⟨w.heap.size + 1, 0, none⟩ (.bool false)).setCell ⟨w.heap.size + 1, 1, none⟩ (.slice A1 nK c1)).setCell ⟨w.heap.size + 1, 2, none⟩ (.slice A2 nV c2)).setCell ⟨w.heap.size + 1, 3, none⟩ (.slice A3 nD c3)) A1 nK A2 nV) := Lib.hid (by obtain ⟨us, ho, _⟩ := F0.out.t.pk.texts; obtain ⟨ts, hp, _⟩ := F0.out.t.pv.texts; exact F0.out.x.turn ho.rd hp.rd (ho.onl HZ2.out.2 (ho.ne_blk F0.out.t.rs (by decide))).rd (hp.onl HZ2.out.2 (hp.ne_blk F0.out.t.rs (by decide))).rd)
    have HBE := Lib.hid (F0.out.t.hb.trans ((HZ2.out.2.below (Nat.le_of_lt (lt_of_heap F0.out.t.rs))).mono (by omega)))
    go_wp2_with fail
    clear q0 q1 q2 q3; clear z0 z1 z2 z3; clear fz0 fz1 fz2 fz3
    generalize ((((y3.setCell ⟨w.heap.size + 1, 0, none⟩ (.bool false)).setCell ⟨w.heap.size + 1, 1, none⟩ (.slice A1 nK c1)).setCell ⟨w.heap.size + 1, 2, none⟩ (.slice A2 nV c2)).setCell ⟨w.heap.size + 1, 3, none⟩ (.slice A3 nD c3)) = wz at *
    have e0 := rc_cell 0 (.bool false) HZ2.out.1 rfl; have e1 := rc_cell 1 (.slice A1 nK c1) HZ2.out.1 rfl; have e2 := rc_cell 2 (.slice A2 nV c2) HZ2.out.1 rfl; have e3 := rc_cell 3 (.slice A3 nD c3) HZ2.out.1 rfl
    refine bodyPost_ret (v := .agg #[.bool false, .slice A1 nK c1, .slice A2 nV c2, .slice A3 nD c3]) (by simp [results, Try.f44, go_sem, Try.isAgg70, Try.sizeOf70, e0, e1, e2, e3]) rfl ⟨A1, c1, A2, c2, A3, c3, rfl, R1.out, R2.out, R3.out, RA.out, RX.out, HBE.out⟩
  cases lf with
  | false =>
    have F0 := T0
    go_upto_region 3 with fail
    clear q0 q1
    have q0 := rc_cell 0 (.bool false) F0.out.t.nd rfl; have q1 := rc_cell 1 (.slice A1 nK c1) F0.out.t.nd rfl; have q2 := rc_cell 2 (.slice A2 nV c2) F0.out.t.nd rfl; have q3 := rc_cell 3 (.slice A3 nD c3) F0.out.t.nd rfl
    have z0 := rc_cell 0 (.bool false) F0.out.t.rs rfl; have fz0 := two_frozen (i := 0) F0.out.t.rs
    have z1 := rc_cell 1 (.slice none 0 0) F0.out.t.rs rfl; have fz1 := two_frozen (i := 1) F0.out.t.rs
    have z2 := rc_cell 2 (.slice none 0 0) F0.out.t.rs rfl; have fz2 := two_frozen (i := 2) F0.out.t.rs
    have z3 := rc_cell 3 (.slice none 0 0) F0.out.t.rs rfl; have fz3 := two_frozen (i := 3) F0.out.t.rs
    have HZ2 := Lib.hid (set4 y3 (w.heap.size + 1) (.bool false) (.slice A1 nK c1) (.slice A2 nV c2) (.slice A3 nD c3) F0.out.t.rs)
    have R1 := Lib.hid ((F0.out.t.pk.set HZ2.out.2 F0.out.t.rs (by decide) (by decide)).mono (b := w.heap.size) (by omega)); have R2 := Lib.hid ((F0.out.t.pv.set HZ2.out.2 F0.out.t.rs (by decide) (by decide)).mono (b := w.heap.size) (by omega)); have R3 := Lib.hid ((F0.out.t.od.onl HZ2.out.2 (F0.out.t.od.ne_blk F0.out.t.rs (by decide))).mono (b := w.heap.size) (by omega)); have RA := Lib.hid F0.out.t.ap
    have RX : Hid (XD ((((y3.setCell ⟨w.heap.size + 1, 0, none⟩ (.bool false)).setCell ⟨w.heap.size + 1, 1, none⟩ (.slice A1 nK c1)).setCell ⟨w.heap.size + 1, 2, none⟩ (.slice A2 nV c2)).setCell ⟨w.heap.size + 1, 3, none⟩ (.slice A3 nD c3)) A1 nK A2 nV) := Lib.hid (by obtain ⟨us, ho, _⟩ := F0.out.t.pk.texts; obtain ⟨ts, hp, _⟩ := F0.out.t.pv.texts; exact F0.out.x.turn ho.rd hp.rd (ho.onl HZ2.out.2 (ho.ne_blk F0.out.t.rs (by decide))).rd (hp.onl HZ2.out.2 (hp.ne_blk F0.out.t.rs (by decide))).rd)
    have HBE := Lib.hid (F0.out.t.hb.trans ((HZ2.out.2.below (Nat.le_of_lt (lt_of_heap F0.out.t.rs))).mono (by omega)))
    go_wp2_with fail
    clear q0 q1 q2 q3; clear z0 z1 z2 z3; clear fz0 fz1 fz2 fz3
    generalize ((((y3.setCell ⟨w.heap.size + 1, 0, none⟩ (.bool false)).setCell ⟨w.heap.size + 1, 1, none⟩ (.slice A1 nK c1)).setCell ⟨w.heap.size + 1, 2, none⟩ (.slice A2 nV c2)).setCell ⟨w.heap.size + 1, 3, none⟩ (.slice A3 nD c3)) = wz at *
    have e0 := rc_cell 0 (.bool false) HZ2.out.1 rfl; have e1 := rc_cell 1 (.slice A1 nK c1) HZ2.out.1 rfl; have e2 := rc_cell 2 (.slice A2 nV c2) HZ2.out.1 rfl; have e3 := rc_cell 3 (.slice A3 nD c3) HZ2.out.1 rfl
    refine bodyPost_ret (v := .agg #[.bool false, .slice A1 nK c1, .slice A2 nV c2, .slice A3 nD c3]) (by simp [results, Try.f44, go_sem, Try.isAgg70, Try.sizeOf70, e0, e1, e2, e3]) rfl ⟨A1, c1, A2, c2, A3, c3, rfl, R1.out, R2.out, R3.out, RA.out, RX.out, HBE.out⟩
  | true =>
    rcases hno with hno | hno
    · have d1 : decide (z < 0) = true := by simpa using hno
      have F0 := T0
      go_upto_region 3 with fail
      clear q0 q1
      have q0 := rc_cell 0 (.bool true) F0.out.t.nd rfl; have q1 := rc_cell 1 (.slice A1 nK c1) F0.out.t.nd rfl; have q2 := rc_cell 2 (.slice A2 nV c2) F0.out.t.nd rfl; have q3 := rc_cell 3 (.slice A3 nD c3) F0.out.t.nd rfl
      have z0 := rc_cell 0 (.bool false) F0.out.t.rs rfl; have fz0 := two_frozen (i := 0) F0.out.t.rs
      have z1 := rc_cell 1 (.slice none 0 0) F0.out.t.rs rfl; have fz1 := two_frozen (i := 1) F0.out.t.rs
      have z2 := rc_cell 2 (.slice none 0 0) F0.out.t.rs rfl; have fz2 := two_frozen (i := 2) F0.out.t.rs
      have z3 := rc_cell 3 (.slice none 0 0) F0.out.t.rs rfl; have fz3 := two_frozen (i := 3) F0.out.t.rs
      have HZ2 := Lib.hid (set4 y3 (w.heap.size + 1) (.bool true) (.slice A1 nK c1) (.slice A2 nV c2) (.slice A3 nD c3) F0.out.t.rs)
      have R1 := Lib.hid ((F0.out.t.pk.set HZ2.out.2 F0.out.t.rs (by decide) (by decide)).mono (b := w.heap.size) (by omega)); have R2 := Lib.hid ((F0.out.t.pv.set HZ2.out.2 F0.out.t.rs (by decide) (by decide)).mono (b := w.heap.size) (by omega)); have R3 := Lib.hid ((F0.out.t.od.onl HZ2.out.2 (F0.out.t.od.ne_blk F0.out.t.rs (by decide))).mono (b := w.heap.size) (by omega)); have RA := Lib.hid F0.out.t.ap
      have RX : Hid (XD ((((y3.setCell ⟨w.heap.size + 1, 0, none⟩ (.bool true)).setCell ⟨w.heap.size + 1, 1, none⟩ (.slice A1 nK c1)).setCell ⟨w.heap.size + 1, 2, none⟩ (.slice A2 nV c2)).setCell ⟨w.heap.size + 1, 3, none⟩ (.slice A3 nD c3)) A1 nK A2 nV) := Lib.hid (by obtain ⟨us, ho, _⟩ := F0.out.t.pk.texts; obtain ⟨ts, hp, _⟩ := F0.out.t.pv.texts; exact F0.out.x.turn ho.rd hp.rd (ho.onl HZ2.out.2 (ho.ne_blk F0.out.t.rs (by decide))).rd (hp.onl HZ2.out.2 (hp.ne_blk F0.out.t.rs (by decide))).rd)
      have HBE := Lib.hid (F0.out.t.hb.trans ((HZ2.out.2.below (Nat.le_of_lt (lt_of_heap F0.out.t.rs))).mono (by omega)))
      go_wp2_with fail
      clear q0 q1 q2 q3; clear z0 z1 z2 z3; clear fz0 fz1 fz2 fz3
      generalize ((((y3.setCell ⟨w.heap.size + 1, 0, none⟩ (.bool true)).setCell ⟨w.heap.size + 1, 1, none⟩ (.slice A1 nK c1)).setCell ⟨w.heap.size + 1, 2, none⟩ (.slice A2 nV c2)).setCell ⟨w.heap.size + 1, 3, none⟩ (.slice A3 nD c3)) = wz at *
      have e0 := rc_cell 0 (.bool true) HZ2.out.1 rfl; have e1 := rc_cell 1 (.slice A1 nK c1) HZ2.out.1 rfl; have e2 := rc_cell 2 (.slice A2 nV c2) HZ2.out.1 rfl; have e3 := rc_cell 3 (.slice A3 nD c3) HZ2.out.1 rfl
      refine bodyPost_ret (v := .agg #[.bool true, .slice A1 nK c1, .slice A2 nV c2, .slice A3 nD c3]) (by simp [results, Try.f44, go_sem, Try.isAgg70, Try.sizeOf70, e0, e1, e2, e3]) rfl ⟨A1, c1, A2, c2, A3, c3, rfl, R1.out, R2.out, R3.out, RA.out, RX.out, HBE.out⟩
    · have d0 : decide (z < 0) = false := by simp; omega
      have d1 : decide ((nK : Int) < z) = true := by simp; omega
      have F0 := T0
      go_upto_region 3 with fail
      clear q0 q1
      have q0 := rc_cell 0 (.bool true) F0.out.t.nd rfl; have q1 := rc_cell 1 (.slice A1 nK c1) F0.out.t.nd rfl; have q2 := rc_cell 2 (.slice A2 nV c2) F0.out.t.nd rfl; have q3 := rc_cell 3 (.slice A3 nD c3) F0.out.t.nd rfl
      have z0 := rc_cell 0 (.bool false) F0.out.t.rs rfl; have fz0 := two_frozen (i := 0) F0.out.t.rs
      have z1 := rc_cell 1 (.slice none 0 0) F0.out.t.rs rfl; have fz1 := two_frozen (i := 1) F0.out.t.rs
      have z2 := rc_cell 2 (.slice none 0 0) F0.out.t.rs rfl; have fz2 := two_frozen (i := 2) F0.out.t.rs
      have z3 := rc_cell 3 (.slice none 0 0) F0.out.t.rs rfl; have fz3 := two_frozen (i := 3) F0.out.t.rs
      have HZ2 := Lib.hid (set4 y3 (w.heap.size + 1) (.bool true) (.slice A1 nK c1) (.slice A2 nV c2) (.slice A3 nD c3) F0.out.t.rs)
      have R1 := Lib.hid ((F0.out.t.pk.set HZ2.out.2 F0.out.t.rs (by decide) (by decide)).mono (b := w.heap.size) (by omega)); have R2 := Lib.hid ((F0.out.t.pv.set HZ2.out.2 F0.out.t.rs (by decide) (by decide)).mono (b := w.heap.size) (by omega)); have R3 := Lib.hid ((F0.out.t.od.onl HZ2.out.2 (F0.out.t.od.ne_blk F0.out.t.rs (by decide))).mono (b := w.heap.size) (by omega)); have RA := Lib.hid F0.out.t.ap
      have RX : Hid (XD ((((y3.setCell ⟨w.heap.size + 1, 0, none⟩ (.bool true)).setCell ⟨w.heap.size + 1, 1, none⟩ (.slice A1 nK c1)).setCell ⟨w.heap.size + 1, 2, none⟩ (.slice A2 nV c2)).setCell ⟨w.heap.size + 1, 3, none⟩ (.slice A3 nD c3)) A1 nK A2 nV) := Lib.hid (by obtain ⟨us, ho, _⟩ := F0.out.t.pk.texts; obtain ⟨ts, hp, _⟩ := F0.out.t.pv.texts; exact F0.out.x.turn ho.rd hp.rd (ho.onl HZ2.out.2 (ho.ne_blk F0.out.t.rs (by decide))).rd (hp.onl HZ2.out.2 (hp.ne_blk F0.out.t.rs (by decide))).rd)
      have HBE := Lib.hid (F0.out.t.hb.trans ((HZ2.out.2.below (Nat.le_of_lt (lt_of_heap F0.out.t.rs))).mono (by omega)))
      go_wp2_with fail
      clear q0 q1 q2 q3; clear z0 z1 z2 z3; clear fz0 fz1 fz2 fz3
      generalize ((((y3.setCell ⟨w.heap.size + 1, 0, none⟩ (.bool true)).setCell ⟨w.heap.size + 1, 1, none⟩ (.slice A1 nK c1)).setCell ⟨w.heap.size + 1, 2, none⟩ (.slice A2 nV c2)).setCell ⟨w.heap.size + 1, 3, none⟩ (.slice A3 nD c3)) = wz at *
      have e0 := rc_cell 0 (.bool true) HZ2.out.1 rfl; have e1 := rc_cell 1 (.slice A1 nK c1) HZ2.out.1 rfl; have e2 := rc_cell 2 (.slice A2 nV c2) HZ2.out.1 rfl; have e3 := rc_cell 3 (.slice A3 nD c3) HZ2.out.1 rfl
      refine bodyPost_ret (v := .agg #[.bool true, .slice A1 nK c1, .slice A2 nV c2, .slice A3 nD c3]) (by simp [results, Try.f44, go_sem, Try.isAgg70, Try.sizeOf70, e0, e1, e2, e3]) rfl ⟨A1, c1, A2, c2, A3, c3, rfl, R1.out, R2.out, R3.out, RA.out, RX.out, HBE.out⟩
set_option maxRecDepth 100000 in
set_option maxHeartbeats 16000000 in
theorem withoutNoX_any (lf : Bool) (AK : Option Addr) (nK cK : Nat) (AV : Option Addr) (nV cV : Nat) (AD : Option Addr) (nD cD : Nat) (ks vs : List (List Int)) (ds : List Int) (z : Int) (hno : lf = false ∨ z < 0 ∨ (nK : Int) ≤ z) (w : World) (hx : Bss w AK nK ks) (hy : Bss w AV nV vs) (hz : Ins w AD nD ds) (sD : Shp AD nD)
    (bK : nK ≤ 99999) (bV : nV ≤ 99999) (bD : nD ≤ 100000) (lK : ∀ xs ∈ ks, xs.length ≤ 140737488355328) (lV : ∀ xs ∈ vs, xs.length ≤ 140737488355328) :
    Calls Try.prog 46 #[.agg (ndV lf AK nK cK AV nV cV AD nD cD), .int .i64 z] w fun e w' => ∃ A1 c1 A2 c2 A3 c3, e = .returned (.agg (ndV lf A1 nK c1 A2 nV c2 A3 nD c3)) ∧ Prts w' w.heap.size A1 nK c1 ks ∧ Prts w' w.heap.size A2 nV c2 vs ∧ Own w' w.heap.size 3 A3 nD c3 (ds.map (Value.int .i64)) ∧ (blk A1 = none ∨ blk A1 ≠ blk A2) ∧ XD w' A1 nK A2 nV ∧ Below w.heap.size w w' := by
  have HX := Lib.hid hx; have HY := Lib.hid hy; have HZ := Lib.hid hz; have HSD := Lib.hid sD; have HLK := Lib.hid hx.len; have HLV := Lib.hid hy.len; have HMK := Lib.hid lK; have HMV := Lib.hid lV
  have hb1 := below_alloc w (.cells (ndV lf AK nK cK AV nV cV AD nD cD) 70)
  have hb2 := below_alloc (w.alloc (.cells (ndV lf AK nK cK AV nV cV AD nD cD) 70)) (.cells ndZ 70)
  have hsz : (w.alloc (.cells (ndV lf AK nK cK AV nV cV AD nD cD) 70)).heap.size = w.heap.size + 1 := by simp
  have n2 := heap_alloc_new (w.alloc (.cells (ndV lf AK nK cK AV nV cV AD nD cD) 70)) (.cells ndZ 70)
  rw [hsz] at n2
  have BX := Lib.hid ((hb2.block w.heap.size (by omega)).trans (heap_alloc_new w (.cells (ndV lf AK nK cK AV nV cV AD nD cD) 70)))
  have RS := Lib.hid n2; have HB := Lib.hid (hb1.trans (hb2.mono (by omega)))
  have hs2 : ((w.alloc (.cells (ndV lf AK nK cK AV nV cV AD nD cD) 70)).alloc (.cells ndZ 70)).heap.size = w.heap.size + 2 := by simp
  clear hx hy hz sD lK lV hb1 hb2 n2 hsz
  go_enter Try.func46, Try.ntmps46
  go_upto_region 1 with fail
  generalize (w.alloc (.cells (ndV lf AK nK cK AV nV cV AD nD cD) 70)).alloc (.cells ndZ 70) = y at *
  have q0 := rc_cell 0 (.bool lf) BX.out rfl; have q1 := rc_cell 1 (.slice AK nK cK) BX.out rfl; have q2 := rc_cell 2 (.slice AV nV cV) BX.out rfl; have q3 := rc_cell 3 (.slice AD nD cD) BX.out rfl
  go_wp2_with fail
  clear q0 q1 q2 q3
  refine (copiedX_any lf AK nK cK AV nV cV AD nD cD ks vs ds y (HX.out.keep HB.out) (HY.out.keep HB.out) (HZ.out.keep HB.out) HSD.out (by omega) (by omega) bD HMK.out HMV.out).mono ?_
  rintro e y2 ⟨A1, c1, A2, c2, A3, c3, rfl, p1, p2, p3, ap, xd, hb⟩
  rw [hs2] at p1 p2 p3
  have BX2 := Lib.hid ((hb.block _ (lt_of_heap BX.out)).trans BX.out); have RS2 := Lib.hid ((hb.block _ (lt_of_heap RS.out)).trans RS.out); have HB2 := Lib.hid (HB.out.trans (hb.mono HB.out.size))
  have HS := set4g y2 w.heap.size (.bool lf) (.slice A1 nK c1) (.slice A2 nV c2) (.slice A3 nD c3) _ _ _ _ 70 BX2.out
  have T0 : Hid (WX w lf A1 nK c1 ks A2 nV c2 vs A3 nD c3 ds ((((y2.setCell ⟨w.heap.size, 0, none⟩ (.bool lf)).setCell ⟨w.heap.size, 1, none⟩ (.slice A1 nK c1)).setCell ⟨w.heap.size, 2, none⟩ (.slice A2 nV c2)).setCell ⟨w.heap.size, 3, none⟩ (.slice A3 nD c3))) := Lib.hid ⟨⟨HS.1, (HS.2.block _ (lt_of_heap RS2.out) (by intro e; injection e with e; omega)).trans RS2.out, p1.set HS.2 BX2.out (by decide) (by decide), p2.set HS.2 BX2.out (by decide) (by decide), p3.onl HS.2 (p3.ne_blk BX2.out (by decide)), ap, HB2.out.trans (HS.2.below (Nat.le_of_lt (lt_of_heap BX2.out)))⟩, by obtain ⟨us, ho, _⟩ := p1.texts; obtain ⟨ts, hp, _⟩ := p2.texts; exact xd.turn ho.rd hp.rd (ho.onl HS.2 (ho.ne_blk BX2.out (by decide))).rd (hp.onl HS.2 (hp.ne_blk BX2.out (by decide))).rd⟩
  have q0 := rc_cell 0 (.bool lf) BX2.out rfl; have q1 := rc_cell 1 (.slice AK nK cK) BX2.out rfl; have q2 := rc_cell 2 (.slice AV nV cV) BX2.out rfl; have q3 := rc_cell 3 (.slice AD nD cD) BX2.out rfl
  have t0 := two_frozen (i := 0) BX2.out; have t1 := two_frozen (i := 1) BX2.out; have t2 := two_frozen (i := 2) BX2.out; have t3 := two_frozen (i := 3) BX2.out
  clear p1 p2 p3 ap xd hb HS BX RS HB
  go_upto_region 2 with fail
  clear q0 q1 q2 q3; clear t0 t1 t2 t3; clear BX2 RS2 HB2
  generalize ((((y2.setCell ⟨w.heap.size, 0, none⟩ (.bool lf)).setCell ⟨w.heap.size, 1, none⟩ (.slice A1 nK c1)).setCell ⟨w.heap.size, 2, none⟩ (.slice A2 nV c2)).setCell ⟨w.heap.size, 3, none⟩ (.slice A3 nD c3)) = y3 at *
  have q0 := rc_cell 0 (.bool lf) T0.out.t.nd rfl; have q1 := rc_cell 1 (.slice A1 nK c1) T0.out.t.nd rfl
  rcases hno with rfl | hno
  · skip
    have F0 := T0
    go_upto_region 3 with fail
    clear q0 q1
    have q0 := rc_cell 0 (.bool false) F0.out.t.nd rfl; have q1 := rc_cell 1 (.slice A1 nK c1) F0.out.t.nd rfl; have q2 := rc_cell 2 (.slice A2 nV c2) F0.out.t.nd rfl; have q3 := rc_cell 3 (.slice A3 nD c3) F0.out.t.nd rfl
    have z0 := rc_cell 0 (.bool false) F0.out.t.rs rfl; have fz0 := two_frozen (i := 0) F0.out.t.rs
    have z1 := rc_cell 1 (.slice none 0 0) F0.out.t.rs rfl; have fz1 := two_frozen (i := 1) F0.out.t.rs
    have z2 := rc_cell 2 (.slice none 0 0) F0.out.t.rs rfl; have fz2 := two_frozen (i := 2) F0.out.t.rs
    have z3 := rc_cell 3 (.slice none 0 0) F0.out.t.rs rfl; have fz3 := two_frozen (i := 3) F0.out.t.rs
    have HZ2 := Lib.hid (set4 y3 (w.heap.size + 1) (.bool false) (.slice A1 nK c1) (.slice A2 nV c2) (.slice A3 nD c3) F0.out.t.rs)
    have R1 := Lib.hid ((F0.out.t.pk.set HZ2.out.2 F0.out.t.rs (by decide) (by decide)).mono (b := w.heap.size) (by omega)); have R2 := Lib.hid ((F0.out.t.pv.set HZ2.out.2 F0.out.t.rs (by decide) (by decide)).mono (b := w.heap.size) (by omega)); have R3 := Lib.hid ((F0.out.t.od.onl HZ2.out.2 (F0.out.t.od.ne_blk F0.out.t.rs (by decide))).mono (b := w.heap.size) (by omega)); have RA := Lib.hid F0.out.t.ap
    have RX : Hid (XD ((((y3.setCell ⟨w.heap.size + 1, 0, none⟩ (.bool false)).setCell ⟨w.heap.size + 1, 1, none⟩ (.slice A1 nK c1)).setCell ⟨w.heap.size + 1, 2, none⟩ (.slice A2 nV c2)).setCell ⟨w.heap.size + 1, 3, none⟩ (.slice A3 nD c3)) A1 nK A2 nV) := Lib.hid (by obtain ⟨us, ho, _⟩ := F0.out.t.pk.texts; obtain ⟨ts, hp, _⟩ := F0.out.t.pv.texts; exact F0.out.x.turn ho.rd hp.rd (ho.onl HZ2.out.2 (ho.ne_blk F0.out.t.rs (by decide))).rd (hp.onl HZ2.out.2 (hp.ne_blk F0.out.t.rs (by decide))).rd)
    have HBE := Lib.hid (F0.out.t.hb.trans ((HZ2.out.2.below (Nat.le_of_lt (lt_of_heap F0.out.t.rs))).mono (by omega)))
    go_wp2_with fail
    clear q0 q1 q2 q3; clear z0 z1 z2 z3; clear fz0 fz1 fz2 fz3
    generalize ((((y3.setCell ⟨w.heap.size + 1, 0, none⟩ (.bool false)).setCell ⟨w.heap.size + 1, 1, none⟩ (.slice A1 nK c1)).setCell ⟨w.heap.size + 1, 2, none⟩ (.slice A2 nV c2)).setCell ⟨w.heap.size + 1, 3, none⟩ (.slice A3 nD c3)) = wz at *
    have e0 := rc_cell 0 (.bool false) HZ2.out.1 rfl; have e1 := rc_cell 1 (.slice A1 nK c1) HZ2.out.1 rfl; have e2 := rc_cell 2 (.slice A2 nV c2) HZ2.out.1 rfl; have e3 := rc_cell 3 (.slice A3 nD c3) HZ2.out.1 rfl
    refine bodyPost_ret (v := .agg #[.bool false, .slice A1 nK c1, .slice A2 nV c2, .slice A3 nD c3]) (by simp [results, Try.f46, go_sem, Try.isAgg70, Try.sizeOf70, e0, e1, e2, e3]) rfl ⟨A1, c1, A2, c2, A3, c3, rfl, R1.out, R2.out, R3.out, RA.out, RX.out, HBE.out⟩
  cases lf with
  | false =>
    have F0 := T0
    go_upto_region 3 with fail
    clear q0 q1
    have q0 := rc_cell 0 (.bool false) F0.out.t.nd rfl; have q1 := rc_cell 1 (.slice A1 nK c1) F0.out.t.nd rfl; have q2 := rc_cell 2 (.slice A2 nV c2) F0.out.t.nd rfl; have q3 := rc_cell 3 (.slice A3 nD c3) F0.out.t.nd rfl
    have z0 := rc_cell 0 (.bool false) F0.out.t.rs rfl; have fz0 := two_frozen (i := 0) F0.out.t.rs
    have z1 := rc_cell 1 (.slice none 0 0) F0.out.t.rs rfl; have fz1 := two_frozen (i := 1) F0.out.t.rs
    have z2 := rc_cell 2 (.slice none 0 0) F0.out.t.rs rfl; have fz2 := two_frozen (i := 2) F0.out.t.rs
    have z3 := rc_cell 3 (.slice none 0 0) F0.out.t.rs rfl; have fz3 := two_frozen (i := 3) F0.out.t.rs
    have HZ2 := Lib.hid (set4 y3 (w.heap.size + 1) (.bool false) (.slice A1 nK c1) (.slice A2 nV c2) (.slice A3 nD c3) F0.out.t.rs)
    have R1 := Lib.hid ((F0.out.t.pk.set HZ2.out.2 F0.out.t.rs (by decide) (by decide)).mono (b := w.heap.size) (by omega)); have R2 := Lib.hid ((F0.out.t.pv.set HZ2.out.2 F0.out.t.rs (by decide) (by decide)).mono (b := w.heap.size) (by omega)); have R3 := Lib.hid ((F0.out.t.od.onl HZ2.out.2 (F0.out.t.od.ne_blk F0.out.t.rs (by decide))).mono (b := w.heap.size) (by omega)); have RA := Lib.hid F0.out.t.ap
    have RX : Hid (XD ((((y3.setCell ⟨w.heap.size + 1, 0, none⟩ (.bool false)).setCell ⟨w.heap.size + 1, 1, none⟩ (.slice A1 nK c1)).setCell ⟨w.heap.size + 1, 2, none⟩ (.slice A2 nV c2)).setCell ⟨w.heap.size + 1, 3, none⟩ (.slice A3 nD c3)) A1 nK A2 nV) := Lib.hid (by obtain ⟨us, ho, _⟩ := F0.out.t.pk.texts; obtain ⟨ts, hp, _⟩ := F0.out.t.pv.texts; exact F0.out.x.turn ho.rd hp.rd (ho.onl HZ2.out.2 (ho.ne_blk F0.out.t.rs (by decide))).rd (hp.onl HZ2.out.2 (hp.ne_blk F0.out.t.rs (by decide))).rd)
    have HBE := Lib.hid (F0.out.t.hb.trans ((HZ2.out.2.below (Nat.le_of_lt (lt_of_heap F0.out.t.rs))).mono (by omega)))
    go_wp2_with fail
    clear q0 q1 q2 q3; clear z0 z1 z2 z3; clear fz0 fz1 fz2 fz3
    generalize ((((y3.setCell ⟨w.heap.size + 1, 0, none⟩ (.bool false)).setCell ⟨w.heap.size + 1, 1, none⟩ (.slice A1 nK c1)).setCell ⟨w.heap.size + 1, 2, none⟩ (.slice A2 nV c2)).setCell ⟨w.heap.size + 1, 3, none⟩ (.slice A3 nD c3)) = wz at *
    have e0 := rc_cell 0 (.bool false) HZ2.out.1 rfl; have e1 := rc_cell 1 (.slice A1 nK c1) HZ2.out.1 rfl; have e2 := rc_cell 2 (.slice A2 nV c2) HZ2.out.1 rfl; have e3 := rc_cell 3 (.slice A3 nD c3) HZ2.out.1 rfl
    refine bodyPost_ret (v := .agg #[.bool false, .slice A1 nK c1, .slice A2 nV c2, .slice A3 nD c3]) (by simp [results, Try.f46, go_sem, Try.isAgg70, Try.sizeOf70, e0, e1, e2, e3]) rfl ⟨A1, c1, A2, c2, A3, c3, rfl, R1.out, R2.out, R3.out, RA.out, RX.out, HBE.out⟩
  | true =>
    rcases hno with hno | hno
    · have d1 : decide (z < 0) = true := by simpa using hno
      have F0 := T0
      go_upto_region 3 with fail
      clear q0 q1
      have q0 := rc_cell 0 (.bool true) F0.out.t.nd rfl; have q1 := rc_cell 1 (.slice A1 nK c1) F0.out.t.nd rfl; have q2 := rc_cell 2 (.slice A2 nV c2) F0.out.t.nd rfl; have q3 := rc_cell 3 (.slice A3 nD c3) F0.out.t.nd rfl
      have z0 := rc_cell 0 (.bool false) F0.out.t.rs rfl; have fz0 := two_frozen (i := 0) F0.out.t.rs
      have z1 := rc_cell 1 (.slice none 0 0) F0.out.t.rs rfl; have fz1 := two_frozen (i := 1) F0.out.t.rs
      have z2 := rc_cell 2 (.slice none 0 0) F0.out.t.rs rfl; have fz2 := two_frozen (i := 2) F0.out.t.rs
      have z3 := rc_cell 3 (.slice none 0 0) F0.out.t.rs rfl; have fz3 := two_frozen (i := 3) F0.out.t.rs
      have HZ2 := Lib.hid (set4 y3 (w.heap.size + 1) (.bool true) (.slice A1 nK c1) (.slice A2 nV c2) (.slice A3 nD c3) F0.out.t.rs)
      have R1 := Lib.hid ((F0.out.t.pk.set HZ2.out.2 F0.out.t.rs (by decide) (by decide)).mono (b := w.heap.size) (by omega)); have R2 := Lib.hid ((F0.out.t.pv.set HZ2.out.2 F0.out.t.rs (by decide) (by decide)).mono (b := w.heap.size) (by omega)); have R3 := Lib.hid ((F0.out.t.od.onl HZ2.out.2 (F0.out.t.od.ne_blk F0.out.t.rs (by decide))).mono (b := w.heap.size) (by omega)); have RA := Lib.hid F0.out.t.ap
      have RX : Hid (XD ((((y3.setCell ⟨w.heap.size + 1, 0, none⟩ (.bool true)).setCell ⟨w.heap.size + 1, 1, none⟩ (.slice A1 nK c1)).setCell ⟨w.heap.size + 1, 2, none⟩ (.slice A2 nV c2)).setCell ⟨w.heap.size + 1, 3, none⟩ (.slice A3 nD c3)) A1 nK A2 nV) := Lib.hid (by obtain ⟨us, ho, _⟩ := F0.out.t.pk.texts; obtain ⟨ts, hp, _⟩ := F0.out.t.pv.texts; exact F0.out.x.turn ho.rd hp.rd (ho.onl HZ2.out.2 (ho.ne_blk F0.out.t.rs (by decide))).rd (hp.onl HZ2.out.2 (hp.ne_blk F0.out.t.rs (by decide))).rd)
      have HBE := Lib.hid (F0.out.t.hb.trans ((HZ2.out.2.below (Nat.le_of_lt (lt_of_heap F0.out.t.rs))).mono (by omega)))
      go_wp2_with fail
      clear q0 q1 q2 q3; clear z0 z1 z2 z3; clear fz0 fz1 fz2 fz3
      generalize ((((y3.setCell ⟨w.heap.size + 1, 0, none⟩ (.bool true)).setCell ⟨w.heap.size + 1, 1, none⟩ (.slice A1 nK c1)).setCell ⟨w.heap.size + 1, 2, none⟩ (.slice A2 nV c2)).setCell ⟨w.heap.size + 1, 3, none⟩ (.slice A3 nD c3)) = wz at *
      have e0 := rc_cell 0 (.bool true) HZ2.out.1 rfl; have e1 := rc_cell 1 (.slice A1 nK c1) HZ2.out.1 rfl; have e2 := rc_cell 2 (.slice A2 nV c2) HZ2.out.1 rfl; have e3 := rc_cell 3 (.slice A3 nD c3) HZ2.out.1 rfl
      refine bodyPost_ret (v := .agg #[.bool true, .slice A1 nK c1, .slice A2 nV c2, .slice A3 nD c3]) (by simp [results, Try.f46, go_sem, Try.isAgg70, Try.sizeOf70, e0, e1, e2, e3]) rfl ⟨A1, c1, A2, c2, A3, c3, rfl, R1.out, R2.out, R3.out, RA.out, RX.out, HBE.out⟩
    · have d0 : decide (z < 0) = false := by simp; omega
      have d1 : decide ((nK : Int) ≤ z) = true := by simp; omega
      have F0 := T0
      go_upto_region 3 with fail
      clear q0 q1
      have q0 := rc_cell 0 (.bool true) F0.out.t.nd rfl; have q1 := rc_cell 1 (.slice A1 nK c1) F0.out.t.nd rfl; have q2 := rc_cell 2 (.slice A2 nV c2) F0.out.t.nd rfl; have q3 := rc_cell 3 (.slice A3 nD c3) F0.out.t.nd rfl
      have z0 := rc_cell 0 (.bool false) F0.out.t.rs rfl; have fz0 := two_frozen (i := 0) F0.out.t.rs
      have z1 := rc_cell 1 (.slice none 0 0) F0.out.t.rs rfl; have fz1 := two_frozen (i := 1) F0.out.t.rs
      have z2 := rc_cell 2 (.slice none 0 0) F0.out.t.rs rfl; have fz2 := two_frozen (i := 2) F0.out.t.rs
      have z3 := rc_cell 3 (.slice none 0 0) F0.out.t.rs rfl; have fz3 := two_frozen (i := 3) F0.out.t.rs
      have HZ2 := Lib.hid (set4 y3 (w.heap.size + 1) (.bool true) (.slice A1 nK c1) (.slice A2 nV c2) (.slice A3 nD c3) F0.out.t.rs)
      have R1 := Lib.hid ((F0.out.t.pk.set HZ2.out.2 F0.out.t.rs (by decide) (by decide)).mono (b := w.heap.size) (by omega)); have R2 := Lib.hid ((F0.out.t.pv.set HZ2.out.2 F0.out.t.rs (by decide) (by decide)).mono (b := w.heap.size) (by omega)); have R3 := Lib.hid ((F0.out.t.od.onl HZ2.out.2 (F0.out.t.od.ne_blk F0.out.t.rs (by decide))).mono (b := w.heap.size) (by omega)); have RA := Lib.hid F0.out.t.ap
      have RX : Hid (XD ((((y3.setCell ⟨w.heap.size + 1, 0, none⟩ (.bool true)).setCell ⟨w.heap.size + 1, 1, none⟩ (.slice A1 nK c1)).setCell ⟨w.heap.size + 1, 2, none⟩ (.slice A2 nV c2)).setCell ⟨w.heap.size + 1, 3, none⟩ (.slice A3 nD c3)) A1 nK A2 nV) := Lib.hid (by obtain ⟨us, ho, _⟩ := F0.out.t.pk.texts; obtain ⟨ts, hp, _⟩ := F0.out.t.pv.texts; exact F0.out.x.turn ho.rd hp.rd (ho.onl HZ2.out.2 (ho.ne_blk F0.out.t.rs (by decide))).rd (hp.onl HZ2.out.2 (hp.ne_blk F0.out.t.rs (by decide))).rd)
      have HBE := Lib.hid (F0.out.t.hb.trans ((HZ2.out.2.below (Nat.le_of_lt (lt_of_heap F0.out.t.rs))).mono (by omega)))
      go_wp2_with fail
      clear q0 q1 q2 q3; clear z0 z1 z2 z3; clear fz0 fz1 fz2 fz3
      generalize ((((y3.setCell ⟨w.heap.size + 1, 0, none⟩ (.bool true)).setCell ⟨w.heap.size + 1, 1, none⟩ (.slice A1 nK c1)).setCell ⟨w.heap.size + 1, 2, none⟩ (.slice A2 nV c2)).setCell ⟨w.heap.size + 1, 3, none⟩ (.slice A3 nD c3)) = wz at *
      have e0 := rc_cell 0 (.bool true) HZ2.out.1 rfl; have e1 := rc_cell 1 (.slice A1 nK c1) HZ2.out.1 rfl; have e2 := rc_cell 2 (.slice A2 nV c2) HZ2.out.1 rfl; have e3 := rc_cell 3 (.slice A3 nD c3) HZ2.out.1 rfl
      refine bodyPost_ret (v := .agg #[.bool true, .slice A1 nK c1, .slice A2 nV c2, .slice A3 nD c3]) (by simp [results, Try.f46, go_sem, Try.isAgg70, Try.sizeOf70, e0, e1, e2, e3]) rfl ⟨A1, c1, A2, c2, A3, c3, rfl, R1.out, R2.out, R3.out, RA.out, RX.out, HBE.out⟩
set_option maxRecDepth 100000 in
set_option maxHeartbeats 32000000 in
theorem withOkX_any (AK : Option Addr) (nK cK : Nat) (AV : Option Addr) (nV cV : Nat) (AD : Option Addr) (nD cD : Nat) (ks vs : List (List Int)) (ds : List Int) (i : Nat) (z : Int) (hzi : z = (i : Int)) (AQ : Option Addr) (cq : Nat) (key : List Int) (AR : Option Addr) (cr : Nat) (val : List Int) (w : World) (hx : Bss w AK nK ks) (hy : Bss w AV nV vs) (hz : Ins w AD nD ds) (sD : Shp AD nD)
    (hq : Bs w AQ key.length key) (hr : Bs w AR val.length val) (hi : i ≤ nK) (hV : nV = nK) (bK : nK ≤ 99999) (bV : nV ≤ 99999) (bD : nD ≤ 100000) (lK : ∀ xs ∈ ks, xs.length ≤ 140737488355328) (lV : ∀ xs ∈ vs, xs.length ≤ 140737488355328) (bq : key.length ≤ 140737488355328) (br : val.length ≤ 140737488355328) :
    Calls Try.prog 44 #[.agg (ndV true AK nK cK AV nV cV AD nD cD), .int .i64 z, .slice AQ key.length cq, .slice AR val.length cr] w fun e w' => ∃ A1 c1 A2 c2 A3 c3, e = .returned (.agg (ndV true A1 (nK + 1) c1 A2 (nV + 1) c2 A3 nD c3)) ∧ Prts w' w.heap.size A1 (nK + 1) c1 (insL ks i key) ∧ Prts w' w.heap.size A2 (nV + 1) c2 (insL vs i val) ∧ Own w' w.heap.size 3 A3 nD c3 (ds.map (Value.int .i64)) ∧ (blk A1 = none ∨ blk A1 ≠ blk A2) ∧ XD w' A1 (nK + 1) A2 (nV + 1) ∧ Below w.heap.size w w' := by
  subst hzi
  have hiV : i ≤ nV := by omega
  clear hV
  have HQ := Lib.hid hq; have HR := Lib.hid hr
  clear hq hr
  obtain ⟨nq, HNQ⟩ : ∃ nq, Hid (key.length = nq) := ⟨_, rfl⟩
  obtain ⟨nr, HNR⟩ : ∃ nr, Hid (val.length = nr) := ⟨_, rfl⟩
  rw [HNQ.out] at HQ bq ⊢; rw [HNR.out] at HR br ⊢
  have HX := Lib.hid hx; have HY := Lib.hid hy; have HZ := Lib.hid hz; have HSD := Lib.hid sD; have HLK := Lib.hid hx.len; have HLV := Lib.hid hy.len; have HMK := Lib.hid lK; have HMV := Lib.hid lV
  have hb1 := below_alloc w (.cells (ndV true AK nK cK AV nV cV AD nD cD) 70)
  have hb2 := below_alloc (w.alloc (.cells (ndV true AK nK cK AV nV cV AD nD cD) 70)) (.cells ndZ 70)
  have hsz : (w.alloc (.cells (ndV true AK nK cK AV nV cV AD nD cD) 70)).heap.size = w.heap.size + 1 := by simp
  have n2 := heap_alloc_new (w.alloc (.cells (ndV true AK nK cK AV nV cV AD nD cD) 70)) (.cells ndZ 70)
  rw [hsz] at n2
  have BX := Lib.hid ((hb2.block w.heap.size (by omega)).trans (heap_alloc_new w (.cells (ndV true AK nK cK AV nV cV AD nD cD) 70)))
  have RS := Lib.hid n2; have HB := Lib.hid (hb1.trans (hb2.mono (by omega)))
  have hs2 : ((w.alloc (.cells (ndV true AK nK cK AV nV cV AD nD cD) 70)).alloc (.cells ndZ 70)).heap.size = w.heap.size + 2 := by simp
  clear hx hy hz sD lK lV hb1 hb2 n2 hsz
  go_enter Try.func44, Try.ntmps44
  go_upto_region 1 with fail
  generalize (w.alloc (.cells (ndV true AK nK cK AV nV cV AD nD cD) 70)).alloc (.cells ndZ 70) = y at *
  have q0 := rc_cell 0 (.bool true) BX.out rfl; have q1 := rc_cell 1 (.slice AK nK cK) BX.out rfl; have q2 := rc_cell 2 (.slice AV nV cV) BX.out rfl; have q3 := rc_cell 3 (.slice AD nD cD) BX.out rfl
  go_wp2_with fail
  clear q0 q1 q2 q3
  refine (copiedX_any true AK nK cK AV nV cV AD nD cD ks vs ds y (HX.out.keep HB.out) (HY.out.keep HB.out) (HZ.out.keep HB.out) HSD.out (by omega) (by omega) bD HMK.out HMV.out).mono ?_
  rintro e y2 ⟨A1, c1, A2, c2, A3, c3, rfl, p1, p2, p3, ap, xd, hb⟩
  rw [hs2] at p1 p2 p3
  have BX2 := Lib.hid ((hb.block _ (lt_of_heap BX.out)).trans BX.out); have RS2 := Lib.hid ((hb.block _ (lt_of_heap RS.out)).trans RS.out); have HB2 := Lib.hid (HB.out.trans (hb.mono HB.out.size))
  have HS := set4g y2 w.heap.size (.bool true) (.slice A1 nK c1) (.slice A2 nV c2) (.slice A3 nD c3) _ _ _ _ 70 BX2.out
  have T0 : Hid (WX w true A1 nK c1 ks A2 nV c2 vs A3 nD c3 ds ((((y2.setCell ⟨w.heap.size, 0, none⟩ (.bool true)).setCell ⟨w.heap.size, 1, none⟩ (.slice A1 nK c1)).setCell ⟨w.heap.size, 2, none⟩ (.slice A2 nV c2)).setCell ⟨w.heap.size, 3, none⟩ (.slice A3 nD c3))) := Lib.hid ⟨⟨HS.1, (HS.2.block _ (lt_of_heap RS2.out) (by intro e; injection e with e; omega)).trans RS2.out, p1.set HS.2 BX2.out (by decide) (by decide), p2.set HS.2 BX2.out (by decide) (by decide), p3.onl HS.2 (p3.ne_blk BX2.out (by decide)), ap, HB2.out.trans (HS.2.below (Nat.le_of_lt (lt_of_heap BX2.out)))⟩, by obtain ⟨us, ho, _⟩ := p1.texts; obtain ⟨ts, hp, _⟩ := p2.texts; exact xd.turn ho.rd hp.rd (ho.onl HS.2 (ho.ne_blk BX2.out (by decide))).rd (hp.onl HS.2 (hp.ne_blk BX2.out (by decide))).rd⟩
  have q0 := rc_cell 0 (.bool true) BX2.out rfl; have q1 := rc_cell 1 (.slice AK nK cK) BX2.out rfl; have q2 := rc_cell 2 (.slice AV nV cV) BX2.out rfl; have q3 := rc_cell 3 (.slice AD nD cD) BX2.out rfl
  have t0 := two_frozen (i := 0) BX2.out; have t1 := two_frozen (i := 1) BX2.out; have t2 := two_frozen (i := 2) BX2.out; have t3 := two_frozen (i := 3) BX2.out
  clear p1 p2 p3 ap xd hb HS BX RS HB
  go_upto_region 2 with fail
  clear q0 q1 q2 q3; clear t0 t1 t2 t3; clear BX2 RS2 HB2
  generalize ((((y2.setCell ⟨w.heap.size, 0, none⟩ (.bool true)).setCell ⟨w.heap.size, 1, none⟩ (.slice A1 nK c1)).setCell ⟨w.heap.size, 2, none⟩ (.slice A2 nV c2)).setCell ⟨w.heap.size, 3, none⟩ (.slice A3 nD c3)) = y3 at *
  have d0 : decide ((i : Int) < 0) = false := by simp
  have d1 : decide ((nK : Int) < (i : Int)) = false := by simp; omega
  have d1n : decide (nK < i) = false := by simp; omega
  have hmin : min (i : Int) (nV : Int) = (i : Int) := by omega
  have q0 := rc_cell 0 (.bool true) T0.out.t.nd rfl; have q1 := rc_cell 1 (.slice A1 nK c1) T0.out.t.nd rfl
  go_upto_region 4 with fail
  clear q0 q1
  go_cut [] from 26 to 46 (fun wx => ∃ (AE : Option Addr) (cE : Nat), Hid (WX w true AE (nK + 1) cE (insL ks i key) A2 nV c2 vs A3 nD c3 ds wx))
  case first =>
    have Td4 := Lib.hid (T0.out.keep ((Dr.refl y3).one.below _))
    refine wp_region_held_drew (S := fun w' => w'.cell? ⟨w.heap.size, 0, none⟩ = some (.bool true) ∧ True) (by kernel_rfl) ⟨rc_cell 0 _ Td4.out.t.nd rfl, trivial⟩ (fun hH0 => ?_)
    generalize y3.drew = yd at *
    refine wpAnyH_take (i := 0) (oi := { dst := some 26, op := Op.fieldAddr 70 (Operand.tmp 4) 1, type := 0, pos := _, after := #[], guard := none }) (v := ?vw41_0) rfl (by kernel_rfl) (by kernel_rfl) (by kernel_rfl) (fun _ _ _ h => h) (Or.inl ⟨by rfl, ?yw41_0⟩) hH0 ?rw41_0
    case yw41_0 => (intro w hSw; (try dsimp only at hSw); go_simp; try (with_reducible rfl))
    try simp only [Act.put, List.setIfInBounds_toArray, List.set_cons_zero, List.set_cons_succ]
    refine wpAnyH_take (i := 2) (oi := { dst := some 28, op := Op.move (Operand.tmp 1), type := 3, pos := _, after := #[], guard := none }) (v := ?vw41_2) rfl (by kernel_rfl) (by kernel_rfl) (by kernel_rfl) (fun _ _ _ h => h) (Or.inl ⟨by rfl, ?yw41_2⟩) hH0 ?rw41_2
    case yw41_2 => (intro w hSw; (try dsimp only at hSw); go_simp; try (with_reducible rfl))
    try simp only [Act.put, List.setIfInBounds_toArray, List.set_cons_zero, List.set_cons_succ]
    refine wpAnyH_take (i := 3) (oi := { dst := some 29, op := Op.move (Operand.tmp 2), type := 28, pos := _, after := #[], guard := none }) (v := ?vw41_3) rfl (by kernel_rfl) (by kernel_rfl) (by kernel_rfl) (fun _ _ _ h => h) (Or.inl ⟨by rfl, ?yw41_3⟩) hH0 ?rw41_3
    case yw41_3 => (intro w hSw; (try dsimp only at hSw); go_simp; try (with_reducible rfl))
    try simp only [Act.put, List.setIfInBounds_toArray, List.set_cons_zero, List.set_cons_succ]
    refine wpAnyH_ready (rs := [1, 4]) (by kernel_rfl) (by simp) ?_
    refine (AllReadyH.cons (o := { dst := some 27, op := Op.load 62 (Operand.tmp 26), type := 62, pos := _, after := #[{ on := 0, ground := Ground.data }], guard := none }) rfl (fun K hK => ?_) (AllReadyH.cons (o := { dst := some 30, op := Op.call { callee := Callee.value (Operand.func 94), args := #[Operand.tmp 29], argTypes := #[28] }, type := 28, pos := _, after := #[{ on := 3, ground := Ground.data }], guard := none }) rfl (fun K hK => ?_) AllReadyH.nil))
    · have lc2 := rc_cell 1 (.slice A1 nK c1) Td4.out.t.nd rfl
      go_simp
      refine hK.out _ _ ⟨rc_cell 0 _ Td4.out.t.nd rfl, trivial⟩ (fun hH2 => ?_)
      clear hK K
      try simp only [Act.put, List.setIfInBounds_toArray, List.set_cons_zero, List.set_cons_succ]
      refine wpAnyH_ready (rs := [4]) (by kernel_rfl) (by simp) ?_
      refine (AllReadyH.cons (o := { dst := some 30, op := Op.call { callee := Callee.value (Operand.func 94), args := #[Operand.tmp 29], argTypes := #[28] }, type := 28, pos := _, after := #[{ on := 3, ground := Ground.data }], guard := none }) rfl (fun K hK => ?_) AllReadyH.nil)
      go_simp
      refine (clone_any AQ nq cq key yd (HQ.out.keep Td4.out.t.hb) bq).mono ?_
      rintro e x4 ⟨TA, tc, rfl, ot4, hb4⟩
      obtain ⟨us4, ow4, one4, RW4⟩ := Td4.out.t.pk.ins (w := x4) (fun e B m d us hh => hh.below hb4 (fun k hk => (hh.lies k hk).2))
      have OD4 := Lib.hid (OldT.of (w' := x4.alloc (.cells #[.slice TA nq tc] 28)) Td4.out.t.pv (fun us hu => ((hu.below hb4 (fun k hk => (hu.lies k hk).2)).alloc (.cells #[.slice TA nq tc] 28)).rd) (Nat.le_refl _))
      have OT4 := Lib.hid (ot4.mono Td4.out.t.sz); have OL4 := Lib.hid (fun b hb => (ot4.lies b hb).1); have OW4 := Lib.hid ow4; have ON4 := Lib.hid one4; have T4 := Lib.hid (Td4.out.keep hb4)
      clear hb4 ot4 ow4 one4
      go_wp2_with fail
      refine hK.out _ _ ⟨rc_cell 0 _ T4.out.t.nd rfl, trivial⟩ (fun hH4 => ?_)
      clear hK K
      try simp only [Act.put, List.setIfInBounds_toArray, List.set_cons_zero, List.set_cons_succ]
      refine wpAnyH_ready (rs := [5]) (by kernel_rfl) (by simp) ?_
      refine (AllReadyH.cons (o := { dst := some 31, op := Op.buildSlice 62 1 #[(0, Operand.tmp 30)], type := 62, pos := _, after := #[{ on := 4, ground := Ground.data }], guard := none }) rfl (fun K hK => ?_) AllReadyH.nil)
      go_simp
      have BA6 := Lib.hid (fun (W2 : World) (AZ : Option Addr) (h : Grows (x4.alloc (.cells #[.slice TA nq tc] 28)) W2 A1 AZ) => Grows.pre (below_alloc x4 (.cells #[.slice TA nq tc] 28)) h)
      have hba6 := below_alloc x4 (.cells #[.slice TA nq tc] 28); have T6 := Lib.hid (T4.out.keep hba6); have RD6 := Lib.hid (heap_alloc_new x4 (.cells #[.slice TA nq tc] 28)); have OW6 := Lib.hid (OW4.out.below hba6 (fun k hk => (OW4.out.lies k hk).2)); have OT6 := Lib.hid (OT4.out.below hba6 (fun k hk => (OT4.out.lies k hk).2)); have NV6 : Hid (blk A1 ≠ some x4.heap.size) := Lib.hid (fun e => by have := (OW4.out.lies _ e).2; omega); have HK6 := hba6.size
      clear hba6
      refine hK.out _ _ ⟨rc_cell 0 _ T6.out.t.nd rfl, trivial⟩ (fun hH6 => ?_)
      clear hK K
      try simp only [Act.put, List.setIfInBounds_toArray, List.set_cons_zero, List.set_cons_succ]
      generalize x4.heap.size = gE at *
      generalize x4.alloc (.cells #[.slice TA nq tc] 28) = b6 at *
      refine wpAnyH_ready (rs := [6]) (by kernel_rfl) (by simp) ?_
      refine (AllReadyH.cons (o := { dst := some 32, op := Op.call { callee := Callee.value (Operand.func 93), args := #[Operand.tmp 27, Operand.tmp 28, Operand.tmp 31], argTypes := #[62, 3, 62] }, type := 62, pos := _, after := #[{ on := 1, ground := Ground.data }, { on := 2, ground := Ground.data }, { on := 5, ground := Ground.data }, { on := 4, ground := Ground.chain }], guard := none }) rfl (fun K hK => ?_) AllReadyH.nil)
      go_simp
      refine (insert_any (w.heap.size + 2) A1 nK c1 i gE us4 (.slice TA nq tc) b6 OW6.out T6.out.t.sz (by omega) (by omega) RD6.out NV6.out ON4.out rfl).mono ?_
      rintro e x8 ⟨AE, cE, rfl, oE, gE'⟩
      have hE8 := RW4.out i TA tc key x8 AE cE (by omega) (by rw [HNQ.out]; exact OT4.out) OL4.out HQ.out.2 (by rw [HNQ.out]; exact oE) (BA6.out _ _ gE')
      have HA8 := Lib.hid (T6.out.put1 OW6.out gE' hE8 oE (by omega) OL4.out OD4.out)
      have HF8 := Lib.hid ((gE'.1.block _ (lt_of_heap T6.out.t.nd) (OW6.out.ne_blk T6.out.t.nd (by decide)).symm).trans T6.out.t.nd)
      clear oE gE' hE8
      go_wp2_with fail
      refine hK.out _ _ ⟨rc_cell 0 _ HF8.out rfl, trivial⟩ (fun hH8 => ?_)
      clear hK K
      try simp only [Act.put, List.setIfInBounds_toArray, List.set_cons_zero, List.set_cons_succ]
      refine wpAnyH_take (i := 7) (oi := { dst := some 33, op := Op.fieldAddr 70 (Operand.tmp 4) 1, type := 0, pos := _, after := #[{ on := 0, ground := Ground.phase }, { on := 1, ground := Ground.phase }, { on := 2, ground := Ground.phase }, { on := 3, ground := Ground.phase }, { on := 4, ground := Ground.phase }, { on := 5, ground := Ground.phase }, { on := 6, ground := Ground.phase }], guard := none }) (v := ?vw49_7) rfl (by kernel_rfl) (by kernel_rfl) (by kernel_rfl) (fun _ _ _ h => h) (Or.inl ⟨by rfl, ?yw49_7⟩) hH8 ?rw49_7
      case yw49_7 => (intro w hSw; (try dsimp only at hSw); go_simp; try (with_reducible rfl))
      try simp only [Act.put, List.setIfInBounds_toArray, List.set_cons_zero, List.set_cons_succ]
      refine wpAnyH_ready (rs := [8]) (by kernel_rfl) (by simp) ?_
      refine (AllReadyH.cons (o := { dst := none, op := Op.store 62 (Operand.tmp 33) (Operand.tmp 32), type := 0, pos := _, after := #[{ on := 7, ground := Ground.data }, { on := 6, ground := Ground.data }, { on := 6, ground := Ground.chain }, { on := 0, ground := Ground.phase }, { on := 1, ground := Ground.phase }, { on := 2, ground := Ground.phase }, { on := 3, ground := Ground.phase }, { on := 4, ground := Ground.phase }, { on := 5, ground := Ground.phase }, { on := 6, ground := Ground.phase }], guard := none }) rfl (fun K hK => ?_) AllReadyH.nil)
      have c10 := rc_cell 1 (.slice A1 nK c1) HA8.out.1 rfl; have f10 := two_frozen (i := 1) HA8.out.1
      have T10 := Lib.hid HA8.out.2
      go_simp
      refine hK.out _ _ ⟨rc_cell 0 _ T10.out.t.nd rfl, trivial⟩ (fun hH10 => ?_)
      clear hK K
      try simp only [Act.put, List.setIfInBounds_toArray, List.set_cons_zero, List.set_cons_succ]
      clear HA8 c10 f10
      generalize x8.setCell ⟨w.heap.size, 1, none⟩ (.slice AE (nK + 1) cE) = s10 at *
      refine wpAnyH_done (by kernel_rfl) ?_ _
      go_wp2_with fail
      go_meet
      case rel => exact ⟨AE, cE, T10⟩
    · go_simp
      refine (clone_any AQ nq cq key yd (HQ.out.keep Td4.out.t.hb) bq).mono ?_
      rintro e x12 ⟨TA, tc, rfl, ot12, hb12⟩
      obtain ⟨us12, ow12, one12, RW12⟩ := Td4.out.t.pk.ins (w := x12) (fun e B m d us hh => hh.below hb12 (fun k hk => (hh.lies k hk).2))
      have OD12 := Lib.hid (OldT.of (w' := x12.alloc (.cells #[.slice TA nq tc] 28)) Td4.out.t.pv (fun us hu => ((hu.below hb12 (fun k hk => (hu.lies k hk).2)).alloc (.cells #[.slice TA nq tc] 28)).rd) (Nat.le_refl _))
      have OT12 := Lib.hid (ot12.mono Td4.out.t.sz); have OL12 := Lib.hid (fun b hb => (ot12.lies b hb).1); have OW12 := Lib.hid ow12; have ON12 := Lib.hid one12; have T12 := Lib.hid (Td4.out.keep hb12)
      clear hb12 ot12 ow12 one12
      go_wp2_with fail
      refine hK.out _ _ ⟨rc_cell 0 _ T12.out.t.nd rfl, trivial⟩ (fun hH12 => ?_)
      clear hK K
      try simp only [Act.put, List.setIfInBounds_toArray, List.set_cons_zero, List.set_cons_succ]
      refine wpAnyH_ready (rs := [1, 5]) (by kernel_rfl) (by simp) ?_
      refine (AllReadyH.cons (o := { dst := some 27, op := Op.load 62 (Operand.tmp 26), type := 62, pos := _, after := #[{ on := 0, ground := Ground.data }], guard := none }) rfl (fun K hK => ?_) (AllReadyH.cons (o := { dst := some 31, op := Op.buildSlice 62 1 #[(0, Operand.tmp 30)], type := 62, pos := _, after := #[{ on := 4, ground := Ground.data }], guard := none }) rfl (fun K hK => ?_) AllReadyH.nil))
      · have lc14 := rc_cell 1 (.slice A1 nK c1) T12.out.t.nd rfl
        go_simp
        refine hK.out _ _ ⟨rc_cell 0 _ T12.out.t.nd rfl, trivial⟩ (fun hH14 => ?_)
        clear hK K
        try simp only [Act.put, List.setIfInBounds_toArray, List.set_cons_zero, List.set_cons_succ]
        refine wpAnyH_ready (rs := [5]) (by kernel_rfl) (by simp) ?_
        refine (AllReadyH.cons (o := { dst := some 31, op := Op.buildSlice 62 1 #[(0, Operand.tmp 30)], type := 62, pos := _, after := #[{ on := 4, ground := Ground.data }], guard := none }) rfl (fun K hK => ?_) AllReadyH.nil)
        go_simp
        have BA16 := Lib.hid (fun (W2 : World) (AZ : Option Addr) (h : Grows (x12.alloc (.cells #[.slice TA nq tc] 28)) W2 A1 AZ) => Grows.pre (below_alloc x12 (.cells #[.slice TA nq tc] 28)) h)
        have hba16 := below_alloc x12 (.cells #[.slice TA nq tc] 28); have T16 := Lib.hid (T12.out.keep hba16); have RD16 := Lib.hid (heap_alloc_new x12 (.cells #[.slice TA nq tc] 28)); have OW16 := Lib.hid (OW12.out.below hba16 (fun k hk => (OW12.out.lies k hk).2)); have OT16 := Lib.hid (OT12.out.below hba16 (fun k hk => (OT12.out.lies k hk).2)); have NV16 : Hid (blk A1 ≠ some x12.heap.size) := Lib.hid (fun e => by have := (OW12.out.lies _ e).2; omega); have HK16 := hba16.size
        clear hba16
        refine hK.out _ _ ⟨rc_cell 0 _ T16.out.t.nd rfl, trivial⟩ (fun hH16 => ?_)
        clear hK K
        try simp only [Act.put, List.setIfInBounds_toArray, List.set_cons_zero, List.set_cons_succ]
        generalize x12.heap.size = gE at *
        generalize x12.alloc (.cells #[.slice TA nq tc] 28) = b16 at *
        refine wpAnyH_ready (rs := [6]) (by kernel_rfl) (by simp) ?_
        refine (AllReadyH.cons (o := { dst := some 32, op := Op.call { callee := Callee.value (Operand.func 93), args := #[Operand.tmp 27, Operand.tmp 28, Operand.tmp 31], argTypes := #[62, 3, 62] }, type := 62, pos := _, after := #[{ on := 1, ground := Ground.data }, { on := 2, ground := Ground.data }, { on := 5, ground := Ground.data }, { on := 4, ground := Ground.chain }], guard := none }) rfl (fun K hK => ?_) AllReadyH.nil)
        go_simp
        refine (insert_any (w.heap.size + 2) A1 nK c1 i gE us12 (.slice TA nq tc) b16 OW16.out T16.out.t.sz (by omega) (by omega) RD16.out NV16.out ON12.out rfl).mono ?_
        rintro e x18 ⟨AE, cE, rfl, oE, gE'⟩
        have hE18 := RW12.out i TA tc key x18 AE cE (by omega) (by rw [HNQ.out]; exact OT12.out) OL12.out HQ.out.2 (by rw [HNQ.out]; exact oE) (BA16.out _ _ gE')
        have HA18 := Lib.hid (T16.out.put1 OW16.out gE' hE18 oE (by omega) OL12.out OD12.out)
        have HF18 := Lib.hid ((gE'.1.block _ (lt_of_heap T16.out.t.nd) (OW16.out.ne_blk T16.out.t.nd (by decide)).symm).trans T16.out.t.nd)
        clear oE gE' hE18
        go_wp2_with fail
        refine hK.out _ _ ⟨rc_cell 0 _ HF18.out rfl, trivial⟩ (fun hH18 => ?_)
        clear hK K
        try simp only [Act.put, List.setIfInBounds_toArray, List.set_cons_zero, List.set_cons_succ]
        refine wpAnyH_take (i := 7) (oi := { dst := some 33, op := Op.fieldAddr 70 (Operand.tmp 4) 1, type := 0, pos := _, after := #[{ on := 0, ground := Ground.phase }, { on := 1, ground := Ground.phase }, { on := 2, ground := Ground.phase }, { on := 3, ground := Ground.phase }, { on := 4, ground := Ground.phase }, { on := 5, ground := Ground.phase }, { on := 6, ground := Ground.phase }], guard := none }) (v := ?vw419_7) rfl (by kernel_rfl) (by kernel_rfl) (by kernel_rfl) (fun _ _ _ h => h) (Or.inl ⟨by rfl, ?yw419_7⟩) hH18 ?rw419_7
        case yw419_7 => (intro w hSw; (try dsimp only at hSw); go_simp; try (with_reducible rfl))
        try simp only [Act.put, List.setIfInBounds_toArray, List.set_cons_zero, List.set_cons_succ]
        refine wpAnyH_ready (rs := [8]) (by kernel_rfl) (by simp) ?_
        refine (AllReadyH.cons (o := { dst := none, op := Op.store 62 (Operand.tmp 33) (Operand.tmp 32), type := 0, pos := _, after := #[{ on := 7, ground := Ground.data }, { on := 6, ground := Ground.data }, { on := 6, ground := Ground.chain }, { on := 0, ground := Ground.phase }, { on := 1, ground := Ground.phase }, { on := 2, ground := Ground.phase }, { on := 3, ground := Ground.phase }, { on := 4, ground := Ground.phase }, { on := 5, ground := Ground.phase }, { on := 6, ground := Ground.phase }], guard := none }) rfl (fun K hK => ?_) AllReadyH.nil)
        have c20 := rc_cell 1 (.slice A1 nK c1) HA18.out.1 rfl; have f20 := two_frozen (i := 1) HA18.out.1
        have T20 := Lib.hid HA18.out.2
        go_simp
        refine hK.out _ _ ⟨rc_cell 0 _ T20.out.t.nd rfl, trivial⟩ (fun hH20 => ?_)
        clear hK K
        try simp only [Act.put, List.setIfInBounds_toArray, List.set_cons_zero, List.set_cons_succ]
        clear HA18 c20 f20
        generalize x18.setCell ⟨w.heap.size, 1, none⟩ (.slice AE (nK + 1) cE) = s20 at *
        refine wpAnyH_done (by kernel_rfl) ?_ _
        go_wp2_with fail
        go_meet
        case rel => exact ⟨AE, cE, T20⟩
      · go_simp
        have BA22 := Lib.hid (fun (W2 : World) (AZ : Option Addr) (h : Grows (x12.alloc (.cells #[.slice TA nq tc] 28)) W2 A1 AZ) => Grows.pre (below_alloc x12 (.cells #[.slice TA nq tc] 28)) h)
        have hba22 := below_alloc x12 (.cells #[.slice TA nq tc] 28); have T22 := Lib.hid (T12.out.keep hba22); have RD22 := Lib.hid (heap_alloc_new x12 (.cells #[.slice TA nq tc] 28)); have OW22 := Lib.hid (OW12.out.below hba22 (fun k hk => (OW12.out.lies k hk).2)); have OT22 := Lib.hid (OT12.out.below hba22 (fun k hk => (OT12.out.lies k hk).2)); have NV22 : Hid (blk A1 ≠ some x12.heap.size) := Lib.hid (fun e => by have := (OW12.out.lies _ e).2; omega); have HK22 := hba22.size
        clear hba22
        refine hK.out _ _ ⟨rc_cell 0 _ T22.out.t.nd rfl, trivial⟩ (fun hH22 => ?_)
        clear hK K
        try simp only [Act.put, List.setIfInBounds_toArray, List.set_cons_zero, List.set_cons_succ]
        generalize x12.heap.size = gE at *
        generalize x12.alloc (.cells #[.slice TA nq tc] 28) = b22 at *
        refine wpAnyH_ready (rs := [1]) (by kernel_rfl) (by simp) ?_
        refine (AllReadyH.cons (o := { dst := some 27, op := Op.load 62 (Operand.tmp 26), type := 62, pos := _, after := #[{ on := 0, ground := Ground.data }], guard := none }) rfl (fun K hK => ?_) AllReadyH.nil)
        have lc24 := rc_cell 1 (.slice A1 nK c1) T22.out.t.nd rfl
        go_simp
        refine hK.out _ _ ⟨rc_cell 0 _ T22.out.t.nd rfl, trivial⟩ (fun hH24 => ?_)
        clear hK K
        try simp only [Act.put, List.setIfInBounds_toArray, List.set_cons_zero, List.set_cons_succ]
        refine wpAnyH_ready (rs := [6]) (by kernel_rfl) (by simp) ?_
        refine (AllReadyH.cons (o := { dst := some 32, op := Op.call { callee := Callee.value (Operand.func 93), args := #[Operand.tmp 27, Operand.tmp 28, Operand.tmp 31], argTypes := #[62, 3, 62] }, type := 62, pos := _, after := #[{ on := 1, ground := Ground.data }, { on := 2, ground := Ground.data }, { on := 5, ground := Ground.data }, { on := 4, ground := Ground.chain }], guard := none }) rfl (fun K hK => ?_) AllReadyH.nil)
        go_simp
        refine (insert_any (w.heap.size + 2) A1 nK c1 i gE us12 (.slice TA nq tc) b22 OW22.out T22.out.t.sz (by omega) (by omega) RD22.out NV22.out ON12.out rfl).mono ?_
        rintro e x26 ⟨AE, cE, rfl, oE, gE'⟩
        have hE26 := RW12.out i TA tc key x26 AE cE (by omega) (by rw [HNQ.out]; exact OT12.out) OL12.out HQ.out.2 (by rw [HNQ.out]; exact oE) (BA22.out _ _ gE')
        have HA26 := Lib.hid (T22.out.put1 OW22.out gE' hE26 oE (by omega) OL12.out OD12.out)
        have HF26 := Lib.hid ((gE'.1.block _ (lt_of_heap T22.out.t.nd) (OW22.out.ne_blk T22.out.t.nd (by decide)).symm).trans T22.out.t.nd)
        clear oE gE' hE26
        go_wp2_with fail
        refine hK.out _ _ ⟨rc_cell 0 _ HF26.out rfl, trivial⟩ (fun hH26 => ?_)
        clear hK K
        try simp only [Act.put, List.setIfInBounds_toArray, List.set_cons_zero, List.set_cons_succ]
        refine wpAnyH_take (i := 7) (oi := { dst := some 33, op := Op.fieldAddr 70 (Operand.tmp 4) 1, type := 0, pos := _, after := #[{ on := 0, ground := Ground.phase }, { on := 1, ground := Ground.phase }, { on := 2, ground := Ground.phase }, { on := 3, ground := Ground.phase }, { on := 4, ground := Ground.phase }, { on := 5, ground := Ground.phase }, { on := 6, ground := Ground.phase }], guard := none }) (v := ?vw427_7) rfl (by kernel_rfl) (by kernel_rfl) (by kernel_rfl) (fun _ _ _ h => h) (Or.inl ⟨by rfl, ?yw427_7⟩) hH26 ?rw427_7
        case yw427_7 => (intro w hSw; (try dsimp only at hSw); go_simp; try (with_reducible rfl))
        try simp only [Act.put, List.setIfInBounds_toArray, List.set_cons_zero, List.set_cons_succ]
        refine wpAnyH_ready (rs := [8]) (by kernel_rfl) (by simp) ?_
        refine (AllReadyH.cons (o := { dst := none, op := Op.store 62 (Operand.tmp 33) (Operand.tmp 32), type := 0, pos := _, after := #[{ on := 7, ground := Ground.data }, { on := 6, ground := Ground.data }, { on := 6, ground := Ground.chain }, { on := 0, ground := Ground.phase }, { on := 1, ground := Ground.phase }, { on := 2, ground := Ground.phase }, { on := 3, ground := Ground.phase }, { on := 4, ground := Ground.phase }, { on := 5, ground := Ground.phase }, { on := 6, ground := Ground.phase }], guard := none }) rfl (fun K hK => ?_) AllReadyH.nil)
        have c28 := rc_cell 1 (.slice A1 nK c1) HA26.out.1 rfl; have f28 := two_frozen (i := 1) HA26.out.1
        have T28 := Lib.hid HA26.out.2
        go_simp
        refine hK.out _ _ ⟨rc_cell 0 _ T28.out.t.nd rfl, trivial⟩ (fun hH28 => ?_)
        clear hK K
        try simp only [Act.put, List.setIfInBounds_toArray, List.set_cons_zero, List.set_cons_succ]
        clear HA26 c28 f28
        generalize x26.setCell ⟨w.heap.size, 1, none⟩ (.slice AE (nK + 1) cE) = s28 at *
        refine wpAnyH_done (by kernel_rfl) ?_ _
        go_wp2_with fail
        go_meet
        case rel => exact ⟨AE, cE, T28⟩
  obtain ⟨B1, d1', T1⟩ := hcut
  clear T0
  go_upto_region 5 with fail
  go_cut [] from 34 to 46 (fun wx => ∃ (AE : Option Addr) (cE : Nat), Hid (WX w true B1 (nK + 1) d1' (insL ks i key) AE (nV + 1) cE (insL vs i val) A3 nD c3 ds wx))
  case first =>
    have Td5 := Lib.hid (T1.out.keep ((Dr.refl wc).one.below _))
    refine wp_region_held_drew (S := fun w' => w'.cell? ⟨w.heap.size, 0, none⟩ = some (.bool true) ∧ True) (by kernel_rfl) ⟨rc_cell 0 _ Td5.out.t.nd rfl, trivial⟩ (fun hH0 => ?_)
    generalize wc.drew = yd at *
    refine wpAnyH_take (i := 0) (oi := { dst := some 34, op := Op.fieldAddr 70 (Operand.tmp 4) 2, type := 0, pos := _, after := #[], guard := none }) (v := ?vw51_0) rfl (by kernel_rfl) (by kernel_rfl) (by kernel_rfl) (fun _ _ _ h => h) (Or.inl ⟨by rfl, ?yw51_0⟩) hH0 ?rw51_0
    case yw51_0 => (intro w hSw; (try dsimp only at hSw); go_simp; try (with_reducible rfl))
    try simp only [Act.put, List.setIfInBounds_toArray, List.set_cons_zero, List.set_cons_succ]
    refine wpAnyH_take (i := 2) (oi := { dst := some 36, op := Op.move (Operand.tmp 1), type := 3, pos := _, after := #[], guard := none }) (v := ?vw51_2) rfl (by kernel_rfl) (by kernel_rfl) (by kernel_rfl) (fun _ _ _ h => h) (Or.inl ⟨by rfl, ?yw51_2⟩) hH0 ?rw51_2
    case yw51_2 => (intro w hSw; (try dsimp only at hSw); go_simp; try (with_reducible rfl))
    try simp only [Act.put, List.setIfInBounds_toArray, List.set_cons_zero, List.set_cons_succ]
    refine wpAnyH_take (i := 3) (oi := { dst := some 37, op := Op.fieldAddr 70 (Operand.tmp 4) 2, type := 0, pos := _, after := #[], guard := none }) (v := ?vw51_3) rfl (by kernel_rfl) (by kernel_rfl) (by kernel_rfl) (fun _ _ _ h => h) (Or.inl ⟨by rfl, ?yw51_3⟩) hH0 ?rw51_3
    case yw51_3 => (intro w hSw; (try dsimp only at hSw); go_simp; try (with_reducible rfl))
    try simp only [Act.put, List.setIfInBounds_toArray, List.set_cons_zero, List.set_cons_succ]
    refine wpAnyH_take (i := 7) (oi := { dst := some 41, op := Op.move (Operand.tmp 3), type := 28, pos := _, after := #[], guard := none }) (v := ?vw51_7) rfl (by kernel_rfl) (by kernel_rfl) (by kernel_rfl) (fun _ _ _ h => h) (Or.inl ⟨by rfl, ?yw51_7⟩) hH0 ?rw51_7
    case yw51_7 => (intro w hSw; (try dsimp only at hSw); go_simp; try (with_reducible rfl))
    try simp only [Act.put, List.setIfInBounds_toArray, List.set_cons_zero, List.set_cons_succ]
    refine wpAnyH_ready (rs := [1, 4, 8]) (by kernel_rfl) (by simp) ?_
    refine (AllReadyH.cons (o := { dst := some 35, op := Op.load 62 (Operand.tmp 34), type := 62, pos := _, after := #[{ on := 0, ground := Ground.data }], guard := none }) rfl (fun K hK => ?_) (AllReadyH.cons (o := { dst := some 38, op := Op.load 62 (Operand.tmp 37), type := 62, pos := _, after := #[{ on := 3, ground := Ground.data }], guard := none }) rfl (fun K hK => ?_) (AllReadyH.cons (o := { dst := some 42, op := Op.call { callee := Callee.value (Operand.func 94), args := #[Operand.tmp 41], argTypes := #[28] }, type := 28, pos := _, after := #[{ on := 7, ground := Ground.data }], guard := none }) rfl (fun K hK => ?_) AllReadyH.nil)))
    · have lc2 := rc_cell 2 (.slice A2 nV c2) Td5.out.t.nd rfl
      go_simp
      refine hK.out _ _ ⟨rc_cell 0 _ Td5.out.t.nd rfl, trivial⟩ (fun hH2 => ?_)
      clear hK K
      try simp only [Act.put, List.setIfInBounds_toArray, List.set_cons_zero, List.set_cons_succ]
      refine wpAnyH_ready (rs := [4, 8]) (by kernel_rfl) (by simp) ?_
      refine (AllReadyH.cons (o := { dst := some 38, op := Op.load 62 (Operand.tmp 37), type := 62, pos := _, after := #[{ on := 3, ground := Ground.data }], guard := none }) rfl (fun K hK => ?_) (AllReadyH.cons (o := { dst := some 42, op := Op.call { callee := Callee.value (Operand.func 94), args := #[Operand.tmp 41], argTypes := #[28] }, type := 28, pos := _, after := #[{ on := 7, ground := Ground.data }], guard := none }) rfl (fun K hK => ?_) AllReadyH.nil))
      · have lc4 := rc_cell 2 (.slice A2 nV c2) Td5.out.t.nd rfl
        go_simp
        refine hK.out _ _ ⟨rc_cell 0 _ Td5.out.t.nd rfl, trivial⟩ (fun hH4 => ?_)
        clear hK K
        try simp only [Act.put, List.setIfInBounds_toArray, List.set_cons_zero, List.set_cons_succ]
        refine wpAnyH_take (i := 5) (oi := { dst := some 39, op := Op.call { callee := Callee.builtin Builtin.len, args := #[Operand.tmp 38], argTypes := #[62] }, type := 3, pos := _, after := #[{ on := 4, ground := Ground.data }], guard := none }) (v := ?vw55_5) rfl (by kernel_rfl) (by kernel_rfl) (by kernel_rfl) (fun _ _ _ h => h) (Or.inl ⟨by rfl, ?yw55_5⟩) hH4 ?rw55_5
        case yw55_5 => (intro w hSw; (try dsimp only at hSw); go_simp; try (with_reducible rfl))
        try simp only [Act.put, List.setIfInBounds_toArray, List.set_cons_zero, List.set_cons_succ]
        refine wpAnyH_take (i := 6) (oi := { dst := some 40, op := Op.call { callee := Callee.builtin Builtin.min, args := #[Operand.tmp 36, Operand.tmp 39], argTypes := #[3, 3] }, type := 3, pos := _, after := #[{ on := 2, ground := Ground.data }, { on := 5, ground := Ground.data }], guard := none }) (v := ?vw55_6) rfl (by kernel_rfl) (by kernel_rfl) (by kernel_rfl) (fun _ _ _ h => h) (Or.inl ⟨by rfl, ?yw55_6⟩) hH4 ?rw55_6
        case yw55_6 => (intro w hSw; (try dsimp only at hSw); go_simp; try (with_reducible rfl))
        try simp only [Act.put, List.setIfInBounds_toArray, List.set_cons_zero, List.set_cons_succ]
        refine wpAnyH_ready (rs := [8]) (by kernel_rfl) (by simp) ?_
        refine (AllReadyH.cons (o := { dst := some 42, op := Op.call { callee := Callee.value (Operand.func 94), args := #[Operand.tmp 41], argTypes := #[28] }, type := 28, pos := _, after := #[{ on := 7, ground := Ground.data }], guard := none }) rfl (fun K hK => ?_) AllReadyH.nil)
        go_simp
        refine (clone_any AR nr cr val yd (HR.out.keep Td5.out.t.hb) br).mono ?_
        rintro e x6 ⟨TA, tc, rfl, ot6, hb6⟩
        obtain ⟨us6, ow6, one6, RW6⟩ := Td5.out.t.pv.ins (w := x6) (fun e B m d us hh => hh.below hb6 (fun k hk => (hh.lies k hk).2))
        have OD6 := Lib.hid (OldT.of (w' := x6.alloc (.cells #[.slice TA nr tc] 28)) Td5.out.t.pk (fun us hu => ((hu.below hb6 (fun k hk => (hu.lies k hk).2)).alloc (.cells #[.slice TA nr tc] 28)).rd) (Nat.le_refl _))
        have OT6 := Lib.hid (ot6.mono Td5.out.t.sz); have OL6 := Lib.hid (fun b hb => (ot6.lies b hb).1); have OW6 := Lib.hid ow6; have ON6 := Lib.hid one6; have T6 := Lib.hid (Td5.out.keep hb6)
        clear hb6 ot6 ow6 one6
        go_wp2_with fail
        refine hK.out _ _ ⟨rc_cell 0 _ T6.out.t.nd rfl, trivial⟩ (fun hH6 => ?_)
        clear hK K
        try simp only [Act.put, List.setIfInBounds_toArray, List.set_cons_zero, List.set_cons_succ]
        refine wpAnyH_ready (rs := [9]) (by kernel_rfl) (by simp) ?_
        refine (AllReadyH.cons (o := { dst := some 43, op := Op.buildSlice 62 1 #[(0, Operand.tmp 42)], type := 62, pos := _, after := #[{ on := 8, ground := Ground.data }], guard := none }) rfl (fun K hK => ?_) AllReadyH.nil)
        go_simp
        have BA8 := Lib.hid (fun (W2 : World) (AZ : Option Addr) (h : Grows (x6.alloc (.cells #[.slice TA nr tc] 28)) W2 A2 AZ) => Grows.pre (below_alloc x6 (.cells #[.slice TA nr tc] 28)) h)
        have hba8 := below_alloc x6 (.cells #[.slice TA nr tc] 28); have T8 := Lib.hid (T6.out.keep hba8); have RD8 := Lib.hid (heap_alloc_new x6 (.cells #[.slice TA nr tc] 28)); have OW8 := Lib.hid (OW6.out.below hba8 (fun k hk => (OW6.out.lies k hk).2)); have OT8 := Lib.hid (OT6.out.below hba8 (fun k hk => (OT6.out.lies k hk).2)); have NV8 : Hid (blk A2 ≠ some x6.heap.size) := Lib.hid (fun e => by have := (OW6.out.lies _ e).2; omega); have HK8 := hba8.size
        clear hba8
        refine hK.out _ _ ⟨rc_cell 0 _ T8.out.t.nd rfl, trivial⟩ (fun hH8 => ?_)
        clear hK K
        try simp only [Act.put, List.setIfInBounds_toArray, List.set_cons_zero, List.set_cons_succ]
        generalize x6.heap.size = gE at *
        generalize x6.alloc (.cells #[.slice TA nr tc] 28) = b8 at *
        refine wpAnyH_ready (rs := [10]) (by kernel_rfl) (by simp) ?_
        refine (AllReadyH.cons (o := { dst := some 44, op := Op.call { callee := Callee.value (Operand.func 93), args := #[Operand.tmp 35, Operand.tmp 40, Operand.tmp 43], argTypes := #[62, 3, 62] }, type := 62, pos := _, after := #[{ on := 1, ground := Ground.data }, { on := 6, ground := Ground.data }, { on := 9, ground := Ground.data }, { on := 8, ground := Ground.chain }], guard := none }) rfl (fun K hK => ?_) AllReadyH.nil)
        go_simp
        refine (insert_any (w.heap.size + 2) A2 nV c2 i gE us6 (.slice TA nr tc) b8 OW8.out T8.out.t.sz (by omega) (by omega) RD8.out NV8.out ON6.out rfl).mono ?_
        rintro e x10 ⟨AE, cE, rfl, oE, gE'⟩
        have hE10 := RW6.out i TA tc val x10 AE cE (by omega) (by rw [HNR.out]; exact OT6.out) OL6.out HR.out.2 (by rw [HNR.out]; exact oE) (BA8.out _ _ gE')
        have HA10 := Lib.hid (T8.out.put2 OW8.out gE' hE10 oE (by omega) OL6.out OD6.out)
        have HF10 := Lib.hid ((gE'.1.block _ (lt_of_heap T8.out.t.nd) (OW8.out.ne_blk T8.out.t.nd (by decide)).symm).trans T8.out.t.nd)
        clear oE gE' hE10
        go_wp2_with fail
        refine hK.out _ _ ⟨rc_cell 0 _ HF10.out rfl, trivial⟩ (fun hH10 => ?_)
        clear hK K
        try simp only [Act.put, List.setIfInBounds_toArray, List.set_cons_zero, List.set_cons_succ]
        refine wpAnyH_take (i := 11) (oi := { dst := some 45, op := Op.fieldAddr 70 (Operand.tmp 4) 2, type := 0, pos := _, after := #[{ on := 0, ground := Ground.phase }, { on := 1, ground := Ground.phase }, { on := 2, ground := Ground.phase }, { on := 3, ground := Ground.phase }, { on := 4, ground := Ground.phase }, { on := 5, ground := Ground.phase }, { on := 6, ground := Ground.phase }, { on := 7, ground := Ground.phase }, { on := 8, ground := Ground.phase }, { on := 9, ground := Ground.phase }, { on := 10, ground := Ground.phase }], guard := none }) (v := ?vw511_11) rfl (by kernel_rfl) (by kernel_rfl) (by kernel_rfl) (fun _ _ _ h => h) (Or.inl ⟨by rfl, ?yw511_11⟩) hH10 ?rw511_11
        case yw511_11 => (intro w hSw; (try dsimp only at hSw); go_simp; try (with_reducible rfl))
        try simp only [Act.put, List.setIfInBounds_toArray, List.set_cons_zero, List.set_cons_succ]
        refine wpAnyH_ready (rs := [12]) (by kernel_rfl) (by simp) ?_
        refine (AllReadyH.cons (o := { dst := none, op := Op.store 62 (Operand.tmp 45) (Operand.tmp 44), type := 0, pos := _, after := #[{ on := 11, ground := Ground.data }, { on := 10, ground := Ground.data }, { on := 10, ground := Ground.chain }, { on := 0, ground := Ground.phase }, { on := 1, ground := Ground.phase }, { on := 2, ground := Ground.phase }, { on := 3, ground := Ground.phase }, { on := 4, ground := Ground.phase }, { on := 5, ground := Ground.phase }, { on := 6, ground := Ground.phase }, { on := 7, ground := Ground.phase }, { on := 8, ground := Ground.phase }, { on := 9, ground := Ground.phase }, { on := 10, ground := Ground.phase }], guard := none }) rfl (fun K hK => ?_) AllReadyH.nil)
        have c12 := rc_cell 2 (.slice A2 nV c2) HA10.out.1 rfl; have f12 := two_frozen (i := 2) HA10.out.1
        have T12 := Lib.hid HA10.out.2
        go_simp
        refine hK.out _ _ ⟨rc_cell 0 _ T12.out.t.nd rfl, trivial⟩ (fun hH12 => ?_)
        clear hK K
        try simp only [Act.put, List.setIfInBounds_toArray, List.set_cons_zero, List.set_cons_succ]
        clear HA10 c12 f12
        generalize x10.setCell ⟨w.heap.size, 2, none⟩ (.slice AE (nV + 1) cE) = s12 at *
        refine wpAnyH_done (by kernel_rfl) ?_ _
        go_wp2_with fail
        go_meet
        case rel => exact ⟨AE, cE, T12⟩
      · go_simp
        refine (clone_any AR nr cr val yd (HR.out.keep Td5.out.t.hb) br).mono ?_
        rintro e x14 ⟨TA, tc, rfl, ot14, hb14⟩
        obtain ⟨us14, ow14, one14, RW14⟩ := Td5.out.t.pv.ins (w := x14) (fun e B m d us hh => hh.below hb14 (fun k hk => (hh.lies k hk).2))
        have OD14 := Lib.hid (OldT.of (w' := x14.alloc (.cells #[.slice TA nr tc] 28)) Td5.out.t.pk (fun us hu => ((hu.below hb14 (fun k hk => (hu.lies k hk).2)).alloc (.cells #[.slice TA nr tc] 28)).rd) (Nat.le_refl _))
        have OT14 := Lib.hid (ot14.mono Td5.out.t.sz); have OL14 := Lib.hid (fun b hb => (ot14.lies b hb).1); have OW14 := Lib.hid ow14; have ON14 := Lib.hid one14; have T14 := Lib.hid (Td5.out.keep hb14)
        clear hb14 ot14 ow14 one14
        go_wp2_with fail
        refine hK.out _ _ ⟨rc_cell 0 _ T14.out.t.nd rfl, trivial⟩ (fun hH14 => ?_)
        clear hK K
        try simp only [Act.put, List.setIfInBounds_toArray, List.set_cons_zero, List.set_cons_succ]
        refine wpAnyH_ready (rs := [4, 9]) (by kernel_rfl) (by simp) ?_
        refine (AllReadyH.cons (o := { dst := some 38, op := Op.load 62 (Operand.tmp 37), type := 62, pos := _, after := #[{ on := 3, ground := Ground.data }], guard := none }) rfl (fun K hK => ?_) (AllReadyH.cons (o := { dst := some 43, op := Op.buildSlice 62 1 #[(0, Operand.tmp 42)], type := 62, pos := _, after := #[{ on := 8, ground := Ground.data }], guard := none }) rfl (fun K hK => ?_) AllReadyH.nil))
        · have lc16 := rc_cell 2 (.slice A2 nV c2) T14.out.t.nd rfl
          go_simp
          refine hK.out _ _ ⟨rc_cell 0 _ T14.out.t.nd rfl, trivial⟩ (fun hH16 => ?_)
          clear hK K
          try simp only [Act.put, List.setIfInBounds_toArray, List.set_cons_zero, List.set_cons_succ]
          refine wpAnyH_take (i := 5) (oi := { dst := some 39, op := Op.call { callee := Callee.builtin Builtin.len, args := #[Operand.tmp 38], argTypes := #[62] }, type := 3, pos := _, after := #[{ on := 4, ground := Ground.data }], guard := none }) (v := ?vw517_5) rfl (by kernel_rfl) (by kernel_rfl) (by kernel_rfl) (fun _ _ _ h => h) (Or.inl ⟨by rfl, ?yw517_5⟩) hH16 ?rw517_5
          case yw517_5 => (intro w hSw; (try dsimp only at hSw); go_simp; try (with_reducible rfl))
          try simp only [Act.put, List.setIfInBounds_toArray, List.set_cons_zero, List.set_cons_succ]
          refine wpAnyH_take (i := 6) (oi := { dst := some 40, op := Op.call { callee := Callee.builtin Builtin.min, args := #[Operand.tmp 36, Operand.tmp 39], argTypes := #[3, 3] }, type := 3, pos := _, after := #[{ on := 2, ground := Ground.data }, { on := 5, ground := Ground.data }], guard := none }) (v := ?vw517_6) rfl (by kernel_rfl) (by kernel_rfl) (by kernel_rfl) (fun _ _ _ h => h) (Or.inl ⟨by rfl, ?yw517_6⟩) hH16 ?rw517_6
          case yw517_6 => (intro w hSw; (try dsimp only at hSw); go_simp; try (with_reducible rfl))
          try simp only [Act.put, List.setIfInBounds_toArray, List.set_cons_zero, List.set_cons_succ]
          refine wpAnyH_ready (rs := [9]) (by kernel_rfl) (by simp) ?_
          refine (AllReadyH.cons (o := { dst := some 43, op := Op.buildSlice 62 1 #[(0, Operand.tmp 42)], type := 62, pos := _, after := #[{ on := 8, ground := Ground.data }], guard := none }) rfl (fun K hK => ?_) AllReadyH.nil)
          go_simp
          have BA18 := Lib.hid (fun (W2 : World) (AZ : Option Addr) (h : Grows (x14.alloc (.cells #[.slice TA nr tc] 28)) W2 A2 AZ) => Grows.pre (below_alloc x14 (.cells #[.slice TA nr tc] 28)) h)
          have hba18 := below_alloc x14 (.cells #[.slice TA nr tc] 28); have T18 := Lib.hid (T14.out.keep hba18); have RD18 := Lib.hid (heap_alloc_new x14 (.cells #[.slice TA nr tc] 28)); have OW18 := Lib.hid (OW14.out.below hba18 (fun k hk => (OW14.out.lies k hk).2)); have OT18 := Lib.hid (OT14.out.below hba18 (fun k hk => (OT14.out.lies k hk).2)); have NV18 : Hid (blk A2 ≠ some x14.heap.size) := Lib.hid (fun e => by have := (OW14.out.lies _ e).2; omega); have HK18 := hba18.size
          clear hba18
          refine hK.out _ _ ⟨rc_cell 0 _ T18.out.t.nd rfl, trivial⟩ (fun hH18 => ?_)
          clear hK K
          try simp only [Act.put, List.setIfInBounds_toArray, List.set_cons_zero, List.set_cons_succ]
          generalize x14.heap.size = gE at *
          generalize x14.alloc (.cells #[.slice TA nr tc] 28) = b18 at *
          refine wpAnyH_ready (rs := [10]) (by kernel_rfl) (by simp) ?_
          refine (AllReadyH.cons (o := { dst := some 44, op := Op.call { callee := Callee.value (Operand.func 93), args := #[Operand.tmp 35, Operand.tmp 40, Operand.tmp 43], argTypes := #[62, 3, 62] }, type := 62, pos := _, after := #[{ on := 1, ground := Ground.data }, { on := 6, ground := Ground.data }, { on := 9, ground := Ground.data }, { on := 8, ground := Ground.chain }], guard := none }) rfl (fun K hK => ?_) AllReadyH.nil)
          go_simp
          refine (insert_any (w.heap.size + 2) A2 nV c2 i gE us14 (.slice TA nr tc) b18 OW18.out T18.out.t.sz (by omega) (by omega) RD18.out NV18.out ON14.out rfl).mono ?_
          rintro e x20 ⟨AE, cE, rfl, oE, gE'⟩
          have hE20 := RW14.out i TA tc val x20 AE cE (by omega) (by rw [HNR.out]; exact OT14.out) OL14.out HR.out.2 (by rw [HNR.out]; exact oE) (BA18.out _ _ gE')
          have HA20 := Lib.hid (T18.out.put2 OW18.out gE' hE20 oE (by omega) OL14.out OD14.out)
          have HF20 := Lib.hid ((gE'.1.block _ (lt_of_heap T18.out.t.nd) (OW18.out.ne_blk T18.out.t.nd (by decide)).symm).trans T18.out.t.nd)
          clear oE gE' hE20
          go_wp2_with fail
          refine hK.out _ _ ⟨rc_cell 0 _ HF20.out rfl, trivial⟩ (fun hH20 => ?_)
          clear hK K
          try simp only [Act.put, List.setIfInBounds_toArray, List.set_cons_zero, List.set_cons_succ]
          refine wpAnyH_take (i := 11) (oi := { dst := some 45, op := Op.fieldAddr 70 (Operand.tmp 4) 2, type := 0, pos := _, after := #[{ on := 0, ground := Ground.phase }, { on := 1, ground := Ground.phase }, { on := 2, ground := Ground.phase }, { on := 3, ground := Ground.phase }, { on := 4, ground := Ground.phase }, { on := 5, ground := Ground.phase }, { on := 6, ground := Ground.phase }, { on := 7, ground := Ground.phase }, { on := 8, ground := Ground.phase }, { on := 9, ground := Ground.phase }, { on := 10, ground := Ground.phase }], guard := none }) (v := ?vw521_11) rfl (by kernel_rfl) (by kernel_rfl) (by kernel_rfl) (fun _ _ _ h => h) (Or.inl ⟨by rfl, ?yw521_11⟩) hH20 ?rw521_11
          case yw521_11 => (intro w hSw; (try dsimp only at hSw); go_simp; try (with_reducible rfl))
          try simp only [Act.put, List.setIfInBounds_toArray, List.set_cons_zero, List.set_cons_succ]
          refine wpAnyH_ready (rs := [12]) (by kernel_rfl) (by simp) ?_
          refine (AllReadyH.cons (o := { dst := none, op := Op.store 62 (Operand.tmp 45) (Operand.tmp 44), type := 0, pos := _, after := #[{ on := 11, ground := Ground.data }, { on := 10, ground := Ground.data }, { on := 10, ground := Ground.chain }, { on := 0, ground := Ground.phase }, { on := 1, ground := Ground.phase }, { on := 2, ground := Ground.phase }, { on := 3, ground := Ground.phase }, { on := 4, ground := Ground.phase }, { on := 5, ground := Ground.phase }, { on := 6, ground := Ground.phase }, { on := 7, ground := Ground.phase }, { on := 8, ground := Ground.phase }, { on := 9, ground := Ground.phase }, { on := 10, ground := Ground.phase }], guard := none }) rfl (fun K hK => ?_) AllReadyH.nil)
          have c22 := rc_cell 2 (.slice A2 nV c2) HA20.out.1 rfl; have f22 := two_frozen (i := 2) HA20.out.1
          have T22 := Lib.hid HA20.out.2
          go_simp
          refine hK.out _ _ ⟨rc_cell 0 _ T22.out.t.nd rfl, trivial⟩ (fun hH22 => ?_)
          clear hK K
          try simp only [Act.put, List.setIfInBounds_toArray, List.set_cons_zero, List.set_cons_succ]
          clear HA20 c22 f22
          generalize x20.setCell ⟨w.heap.size, 2, none⟩ (.slice AE (nV + 1) cE) = s22 at *
          refine wpAnyH_done (by kernel_rfl) ?_ _
          go_wp2_with fail
          go_meet
          case rel => exact ⟨AE, cE, T22⟩
        · go_simp
          have BA24 := Lib.hid (fun (W2 : World) (AZ : Option Addr) (h : Grows (x14.alloc (.cells #[.slice TA nr tc] 28)) W2 A2 AZ) => Grows.pre (below_alloc x14 (.cells #[.slice TA nr tc] 28)) h)
          have hba24 := below_alloc x14 (.cells #[.slice TA nr tc] 28); have T24 := Lib.hid (T14.out.keep hba24); have RD24 := Lib.hid (heap_alloc_new x14 (.cells #[.slice TA nr tc] 28)); have OW24 := Lib.hid (OW14.out.below hba24 (fun k hk => (OW14.out.lies k hk).2)); have OT24 := Lib.hid (OT14.out.below hba24 (fun k hk => (OT14.out.lies k hk).2)); have NV24 : Hid (blk A2 ≠ some x14.heap.size) := Lib.hid (fun e => by have := (OW14.out.lies _ e).2; omega); have HK24 := hba24.size
          clear hba24
          refine hK.out _ _ ⟨rc_cell 0 _ T24.out.t.nd rfl, trivial⟩ (fun hH24 => ?_)
          clear hK K
          try simp only [Act.put, List.setIfInBounds_toArray, List.set_cons_zero, List.set_cons_succ]
          generalize x14.heap.size = gE at *
          generalize x14.alloc (.cells #[.slice TA nr tc] 28) = b24 at *
          refine wpAnyH_ready (rs := [4]) (by kernel_rfl) (by simp) ?_
          refine (AllReadyH.cons (o := { dst := some 38, op := Op.load 62 (Operand.tmp 37), type := 62, pos := _, after := #[{ on := 3, ground := Ground.data }], guard := none }) rfl (fun K hK => ?_) AllReadyH.nil)
          have lc26 := rc_cell 2 (.slice A2 nV c2) T24.out.t.nd rfl
          go_simp
          refine hK.out _ _ ⟨rc_cell 0 _ T24.out.t.nd rfl, trivial⟩ (fun hH26 => ?_)
          clear hK K
          try simp only [Act.put, List.setIfInBounds_toArray, List.set_cons_zero, List.set_cons_succ]
          refine wpAnyH_take (i := 5) (oi := { dst := some 39, op := Op.call { callee := Callee.builtin Builtin.len, args := #[Operand.tmp 38], argTypes := #[62] }, type := 3, pos := _, after := #[{ on := 4, ground := Ground.data }], guard := none }) (v := ?vw527_5) rfl (by kernel_rfl) (by kernel_rfl) (by kernel_rfl) (fun _ _ _ h => h) (Or.inl ⟨by rfl, ?yw527_5⟩) hH26 ?rw527_5
          case yw527_5 => (intro w hSw; (try dsimp only at hSw); go_simp; try (with_reducible rfl))
          try simp only [Act.put, List.setIfInBounds_toArray, List.set_cons_zero, List.set_cons_succ]
          refine wpAnyH_take (i := 6) (oi := { dst := some 40, op := Op.call { callee := Callee.builtin Builtin.min, args := #[Operand.tmp 36, Operand.tmp 39], argTypes := #[3, 3] }, type := 3, pos := _, after := #[{ on := 2, ground := Ground.data }, { on := 5, ground := Ground.data }], guard := none }) (v := ?vw527_6) rfl (by kernel_rfl) (by kernel_rfl) (by kernel_rfl) (fun _ _ _ h => h) (Or.inl ⟨by rfl, ?yw527_6⟩) hH26 ?rw527_6
          case yw527_6 => (intro w hSw; (try dsimp only at hSw); go_simp; try (with_reducible rfl))
          try simp only [Act.put, List.setIfInBounds_toArray, List.set_cons_zero, List.set_cons_succ]
          refine wpAnyH_ready (rs := [10]) (by kernel_rfl) (by simp) ?_
          refine (AllReadyH.cons (o := { dst := some 44, op := Op.call { callee := Callee.value (Operand.func 93), args := #[Operand.tmp 35, Operand.tmp 40, Operand.tmp 43], argTypes := #[62, 3, 62] }, type := 62, pos := _, after := #[{ on := 1, ground := Ground.data }, { on := 6, ground := Ground.data }, { on := 9, ground := Ground.data }, { on := 8, ground := Ground.chain }], guard := none }) rfl (fun K hK => ?_) AllReadyH.nil)
          go_simp
          refine (insert_any (w.heap.size + 2) A2 nV c2 i gE us14 (.slice TA nr tc) b24 OW24.out T24.out.t.sz (by omega) (by omega) RD24.out NV24.out ON14.out rfl).mono ?_
          rintro e x28 ⟨AE, cE, rfl, oE, gE'⟩
          have hE28 := RW14.out i TA tc val x28 AE cE (by omega) (by rw [HNR.out]; exact OT14.out) OL14.out HR.out.2 (by rw [HNR.out]; exact oE) (BA24.out _ _ gE')
          have HA28 := Lib.hid (T24.out.put2 OW24.out gE' hE28 oE (by omega) OL14.out OD14.out)
          have HF28 := Lib.hid ((gE'.1.block _ (lt_of_heap T24.out.t.nd) (OW24.out.ne_blk T24.out.t.nd (by decide)).symm).trans T24.out.t.nd)
          clear oE gE' hE28
          go_wp2_with fail
          refine hK.out _ _ ⟨rc_cell 0 _ HF28.out rfl, trivial⟩ (fun hH28 => ?_)
          clear hK K
          try simp only [Act.put, List.setIfInBounds_toArray, List.set_cons_zero, List.set_cons_succ]
          refine wpAnyH_take (i := 11) (oi := { dst := some 45, op := Op.fieldAddr 70 (Operand.tmp 4) 2, type := 0, pos := _, after := #[{ on := 0, ground := Ground.phase }, { on := 1, ground := Ground.phase }, { on := 2, ground := Ground.phase }, { on := 3, ground := Ground.phase }, { on := 4, ground := Ground.phase }, { on := 5, ground := Ground.phase }, { on := 6, ground := Ground.phase }, { on := 7, ground := Ground.phase }, { on := 8, ground := Ground.phase }, { on := 9, ground := Ground.phase }, { on := 10, ground := Ground.phase }], guard := none }) (v := ?vw529_11) rfl (by kernel_rfl) (by kernel_rfl) (by kernel_rfl) (fun _ _ _ h => h) (Or.inl ⟨by rfl, ?yw529_11⟩) hH28 ?rw529_11
          case yw529_11 => (intro w hSw; (try dsimp only at hSw); go_simp; try (with_reducible rfl))
          try simp only [Act.put, List.setIfInBounds_toArray, List.set_cons_zero, List.set_cons_succ]
          refine wpAnyH_ready (rs := [12]) (by kernel_rfl) (by simp) ?_
          refine (AllReadyH.cons (o := { dst := none, op := Op.store 62 (Operand.tmp 45) (Operand.tmp 44), type := 0, pos := _, after := #[{ on := 11, ground := Ground.data }, { on := 10, ground := Ground.data }, { on := 10, ground := Ground.chain }, { on := 0, ground := Ground.phase }, { on := 1, ground := Ground.phase }, { on := 2, ground := Ground.phase }, { on := 3, ground := Ground.phase }, { on := 4, ground := Ground.phase }, { on := 5, ground := Ground.phase }, { on := 6, ground := Ground.phase }, { on := 7, ground := Ground.phase }, { on := 8, ground := Ground.phase }, { on := 9, ground := Ground.phase }, { on := 10, ground := Ground.phase }], guard := none }) rfl (fun K hK => ?_) AllReadyH.nil)
          have c30 := rc_cell 2 (.slice A2 nV c2) HA28.out.1 rfl; have f30 := two_frozen (i := 2) HA28.out.1
          have T30 := Lib.hid HA28.out.2
          go_simp
          refine hK.out _ _ ⟨rc_cell 0 _ T30.out.t.nd rfl, trivial⟩ (fun hH30 => ?_)
          clear hK K
          try simp only [Act.put, List.setIfInBounds_toArray, List.set_cons_zero, List.set_cons_succ]
          clear HA28 c30 f30
          generalize x28.setCell ⟨w.heap.size, 2, none⟩ (.slice AE (nV + 1) cE) = s30 at *
          refine wpAnyH_done (by kernel_rfl) ?_ _
          go_wp2_with fail
          go_meet
          case rel => exact ⟨AE, cE, T30⟩
    · have lc32 := rc_cell 2 (.slice A2 nV c2) Td5.out.t.nd rfl
      go_simp
      refine hK.out _ _ ⟨rc_cell 0 _ Td5.out.t.nd rfl, trivial⟩ (fun hH32 => ?_)
      clear hK K
      try simp only [Act.put, List.setIfInBounds_toArray, List.set_cons_zero, List.set_cons_succ]
      refine wpAnyH_take (i := 5) (oi := { dst := some 39, op := Op.call { callee := Callee.builtin Builtin.len, args := #[Operand.tmp 38], argTypes := #[62] }, type := 3, pos := _, after := #[{ on := 4, ground := Ground.data }], guard := none }) (v := ?vw533_5) rfl (by kernel_rfl) (by kernel_rfl) (by kernel_rfl) (fun _ _ _ h => h) (Or.inl ⟨by rfl, ?yw533_5⟩) hH32 ?rw533_5
      case yw533_5 => (intro w hSw; (try dsimp only at hSw); go_simp; try (with_reducible rfl))
      try simp only [Act.put, List.setIfInBounds_toArray, List.set_cons_zero, List.set_cons_succ]
      refine wpAnyH_take (i := 6) (oi := { dst := some 40, op := Op.call { callee := Callee.builtin Builtin.min, args := #[Operand.tmp 36, Operand.tmp 39], argTypes := #[3, 3] }, type := 3, pos := _, after := #[{ on := 2, ground := Ground.data }, { on := 5, ground := Ground.data }], guard := none }) (v := ?vw533_6) rfl (by kernel_rfl) (by kernel_rfl) (by kernel_rfl) (fun _ _ _ h => h) (Or.inl ⟨by rfl, ?yw533_6⟩) hH32 ?rw533_6
      case yw533_6 => (intro w hSw; (try dsimp only at hSw); go_simp; try (with_reducible rfl))
      try simp only [Act.put, List.setIfInBounds_toArray, List.set_cons_zero, List.set_cons_succ]
      refine wpAnyH_ready (rs := [1, 8]) (by kernel_rfl) (by simp) ?_
      refine (AllReadyH.cons (o := { dst := some 35, op := Op.load 62 (Operand.tmp 34), type := 62, pos := _, after := #[{ on := 0, ground := Ground.data }], guard := none }) rfl (fun K hK => ?_) (AllReadyH.cons (o := { dst := some 42, op := Op.call { callee := Callee.value (Operand.func 94), args := #[Operand.tmp 41], argTypes := #[28] }, type := 28, pos := _, after := #[{ on := 7, ground := Ground.data }], guard := none }) rfl (fun K hK => ?_) AllReadyH.nil))
      · have lc34 := rc_cell 2 (.slice A2 nV c2) Td5.out.t.nd rfl
        go_simp
        refine hK.out _ _ ⟨rc_cell 0 _ Td5.out.t.nd rfl, trivial⟩ (fun hH34 => ?_)
        clear hK K
        try simp only [Act.put, List.setIfInBounds_toArray, List.set_cons_zero, List.set_cons_succ]
        refine wpAnyH_ready (rs := [8]) (by kernel_rfl) (by simp) ?_
        refine (AllReadyH.cons (o := { dst := some 42, op := Op.call { callee := Callee.value (Operand.func 94), args := #[Operand.tmp 41], argTypes := #[28] }, type := 28, pos := _, after := #[{ on := 7, ground := Ground.data }], guard := none }) rfl (fun K hK => ?_) AllReadyH.nil)
        go_simp
        refine (clone_any AR nr cr val yd (HR.out.keep Td5.out.t.hb) br).mono ?_
        rintro e x36 ⟨TA, tc, rfl, ot36, hb36⟩
        obtain ⟨us36, ow36, one36, RW36⟩ := Td5.out.t.pv.ins (w := x36) (fun e B m d us hh => hh.below hb36 (fun k hk => (hh.lies k hk).2))
        have OD36 := Lib.hid (OldT.of (w' := x36.alloc (.cells #[.slice TA nr tc] 28)) Td5.out.t.pk (fun us hu => ((hu.below hb36 (fun k hk => (hu.lies k hk).2)).alloc (.cells #[.slice TA nr tc] 28)).rd) (Nat.le_refl _))
        have OT36 := Lib.hid (ot36.mono Td5.out.t.sz); have OL36 := Lib.hid (fun b hb => (ot36.lies b hb).1); have OW36 := Lib.hid ow36; have ON36 := Lib.hid one36; have T36 := Lib.hid (Td5.out.keep hb36)
        clear hb36 ot36 ow36 one36
        go_wp2_with fail
        refine hK.out _ _ ⟨rc_cell 0 _ T36.out.t.nd rfl, trivial⟩ (fun hH36 => ?_)
        clear hK K
        try simp only [Act.put, List.setIfInBounds_toArray, List.set_cons_zero, List.set_cons_succ]
        refine wpAnyH_ready (rs := [9]) (by kernel_rfl) (by simp) ?_
        refine (AllReadyH.cons (o := { dst := some 43, op := Op.buildSlice 62 1 #[(0, Operand.tmp 42)], type := 62, pos := _, after := #[{ on := 8, ground := Ground.data }], guard := none }) rfl (fun K hK => ?_) AllReadyH.nil)
        go_simp
        have BA38 := Lib.hid (fun (W2 : World) (AZ : Option Addr) (h : Grows (x36.alloc (.cells #[.slice TA nr tc] 28)) W2 A2 AZ) => Grows.pre (below_alloc x36 (.cells #[.slice TA nr tc] 28)) h)
        have hba38 := below_alloc x36 (.cells #[.slice TA nr tc] 28); have T38 := Lib.hid (T36.out.keep hba38); have RD38 := Lib.hid (heap_alloc_new x36 (.cells #[.slice TA nr tc] 28)); have OW38 := Lib.hid (OW36.out.below hba38 (fun k hk => (OW36.out.lies k hk).2)); have OT38 := Lib.hid (OT36.out.below hba38 (fun k hk => (OT36.out.lies k hk).2)); have NV38 : Hid (blk A2 ≠ some x36.heap.size) := Lib.hid (fun e => by have := (OW36.out.lies _ e).2; omega); have HK38 := hba38.size
        clear hba38
        refine hK.out _ _ ⟨rc_cell 0 _ T38.out.t.nd rfl, trivial⟩ (fun hH38 => ?_)
        clear hK K
        try simp only [Act.put, List.setIfInBounds_toArray, List.set_cons_zero, List.set_cons_succ]
        generalize x36.heap.size = gE at *
        generalize x36.alloc (.cells #[.slice TA nr tc] 28) = b38 at *
        refine wpAnyH_ready (rs := [10]) (by kernel_rfl) (by simp) ?_
        refine (AllReadyH.cons (o := { dst := some 44, op := Op.call { callee := Callee.value (Operand.func 93), args := #[Operand.tmp 35, Operand.tmp 40, Operand.tmp 43], argTypes := #[62, 3, 62] }, type := 62, pos := _, after := #[{ on := 1, ground := Ground.data }, { on := 6, ground := Ground.data }, { on := 9, ground := Ground.data }, { on := 8, ground := Ground.chain }], guard := none }) rfl (fun K hK => ?_) AllReadyH.nil)
        go_simp
        refine (insert_any (w.heap.size + 2) A2 nV c2 i gE us36 (.slice TA nr tc) b38 OW38.out T38.out.t.sz (by omega) (by omega) RD38.out NV38.out ON36.out rfl).mono ?_
        rintro e x40 ⟨AE, cE, rfl, oE, gE'⟩
        have hE40 := RW36.out i TA tc val x40 AE cE (by omega) (by rw [HNR.out]; exact OT36.out) OL36.out HR.out.2 (by rw [HNR.out]; exact oE) (BA38.out _ _ gE')
        have HA40 := Lib.hid (T38.out.put2 OW38.out gE' hE40 oE (by omega) OL36.out OD36.out)
        have HF40 := Lib.hid ((gE'.1.block _ (lt_of_heap T38.out.t.nd) (OW38.out.ne_blk T38.out.t.nd (by decide)).symm).trans T38.out.t.nd)
        clear oE gE' hE40
        go_wp2_with fail
        refine hK.out _ _ ⟨rc_cell 0 _ HF40.out rfl, trivial⟩ (fun hH40 => ?_)
        clear hK K
        try simp only [Act.put, List.setIfInBounds_toArray, List.set_cons_zero, List.set_cons_succ]
        refine wpAnyH_take (i := 11) (oi := { dst := some 45, op := Op.fieldAddr 70 (Operand.tmp 4) 2, type := 0, pos := _, after := #[{ on := 0, ground := Ground.phase }, { on := 1, ground := Ground.phase }, { on := 2, ground := Ground.phase }, { on := 3, ground := Ground.phase }, { on := 4, ground := Ground.phase }, { on := 5, ground := Ground.phase }, { on := 6, ground := Ground.phase }, { on := 7, ground := Ground.phase }, { on := 8, ground := Ground.phase }, { on := 9, ground := Ground.phase }, { on := 10, ground := Ground.phase }], guard := none }) (v := ?vw541_11) rfl (by kernel_rfl) (by kernel_rfl) (by kernel_rfl) (fun _ _ _ h => h) (Or.inl ⟨by rfl, ?yw541_11⟩) hH40 ?rw541_11
        case yw541_11 => (intro w hSw; (try dsimp only at hSw); go_simp; try (with_reducible rfl))
        try simp only [Act.put, List.setIfInBounds_toArray, List.set_cons_zero, List.set_cons_succ]
        refine wpAnyH_ready (rs := [12]) (by kernel_rfl) (by simp) ?_
        refine (AllReadyH.cons (o := { dst := none, op := Op.store 62 (Operand.tmp 45) (Operand.tmp 44), type := 0, pos := _, after := #[{ on := 11, ground := Ground.data }, { on := 10, ground := Ground.data }, { on := 10, ground := Ground.chain }, { on := 0, ground := Ground.phase }, { on := 1, ground := Ground.phase }, { on := 2, ground := Ground.phase }, { on := 3, ground := Ground.phase }, { on := 4, ground := Ground.phase }, { on := 5, ground := Ground.phase }, { on := 6, ground := Ground.phase }, { on := 7, ground := Ground.phase }, { on := 8, ground := Ground.phase }, { on := 9, ground := Ground.phase }, { on := 10, ground := Ground.phase }], guard := none }) rfl (fun K hK => ?_) AllReadyH.nil)
        have c42 := rc_cell 2 (.slice A2 nV c2) HA40.out.1 rfl; have f42 := two_frozen (i := 2) HA40.out.1
        have T42 := Lib.hid HA40.out.2
        go_simp
        refine hK.out _ _ ⟨rc_cell 0 _ T42.out.t.nd rfl, trivial⟩ (fun hH42 => ?_)
        clear hK K
        try simp only [Act.put, List.setIfInBounds_toArray, List.set_cons_zero, List.set_cons_succ]
        clear HA40 c42 f42
        generalize x40.setCell ⟨w.heap.size, 2, none⟩ (.slice AE (nV + 1) cE) = s42 at *
        refine wpAnyH_done (by kernel_rfl) ?_ _
        go_wp2_with fail
        go_meet
        case rel => exact ⟨AE, cE, T42⟩
      · go_simp
        refine (clone_any AR nr cr val yd (HR.out.keep Td5.out.t.hb) br).mono ?_
        rintro e x44 ⟨TA, tc, rfl, ot44, hb44⟩
        obtain ⟨us44, ow44, one44, RW44⟩ := Td5.out.t.pv.ins (w := x44) (fun e B m d us hh => hh.below hb44 (fun k hk => (hh.lies k hk).2))
        have OD44 := Lib.hid (OldT.of (w' := x44.alloc (.cells #[.slice TA nr tc] 28)) Td5.out.t.pk (fun us hu => ((hu.below hb44 (fun k hk => (hu.lies k hk).2)).alloc (.cells #[.slice TA nr tc] 28)).rd) (Nat.le_refl _))
        have OT44 := Lib.hid (ot44.mono Td5.out.t.sz); have OL44 := Lib.hid (fun b hb => (ot44.lies b hb).1); have OW44 := Lib.hid ow44; have ON44 := Lib.hid one44; have T44 := Lib.hid (Td5.out.keep hb44)
        clear hb44 ot44 ow44 one44
        go_wp2_with fail
        refine hK.out _ _ ⟨rc_cell 0 _ T44.out.t.nd rfl, trivial⟩ (fun hH44 => ?_)
        clear hK K
        try simp only [Act.put, List.setIfInBounds_toArray, List.set_cons_zero, List.set_cons_succ]
        refine wpAnyH_ready (rs := [1, 9]) (by kernel_rfl) (by simp) ?_
        refine (AllReadyH.cons (o := { dst := some 35, op := Op.load 62 (Operand.tmp 34), type := 62, pos := _, after := #[{ on := 0, ground := Ground.data }], guard := none }) rfl (fun K hK => ?_) (AllReadyH.cons (o := { dst := some 43, op := Op.buildSlice 62 1 #[(0, Operand.tmp 42)], type := 62, pos := _, after := #[{ on := 8, ground := Ground.data }], guard := none }) rfl (fun K hK => ?_) AllReadyH.nil))
        · have lc46 := rc_cell 2 (.slice A2 nV c2) T44.out.t.nd rfl
          go_simp
          refine hK.out _ _ ⟨rc_cell 0 _ T44.out.t.nd rfl, trivial⟩ (fun hH46 => ?_)
          clear hK K
          try simp only [Act.put, List.setIfInBounds_toArray, List.set_cons_zero, List.set_cons_succ]
          refine wpAnyH_ready (rs := [9]) (by kernel_rfl) (by simp) ?_
          refine (AllReadyH.cons (o := { dst := some 43, op := Op.buildSlice 62 1 #[(0, Operand.tmp 42)], type := 62, pos := _, after := #[{ on := 8, ground := Ground.data }], guard := none }) rfl (fun K hK => ?_) AllReadyH.nil)
          go_simp
          have BA48 := Lib.hid (fun (W2 : World) (AZ : Option Addr) (h : Grows (x44.alloc (.cells #[.slice TA nr tc] 28)) W2 A2 AZ) => Grows.pre (below_alloc x44 (.cells #[.slice TA nr tc] 28)) h)
          have hba48 := below_alloc x44 (.cells #[.slice TA nr tc] 28); have T48 := Lib.hid (T44.out.keep hba48); have RD48 := Lib.hid (heap_alloc_new x44 (.cells #[.slice TA nr tc] 28)); have OW48 := Lib.hid (OW44.out.below hba48 (fun k hk => (OW44.out.lies k hk).2)); have OT48 := Lib.hid (OT44.out.below hba48 (fun k hk => (OT44.out.lies k hk).2)); have NV48 : Hid (blk A2 ≠ some x44.heap.size) := Lib.hid (fun e => by have := (OW44.out.lies _ e).2; omega); have HK48 := hba48.size
          clear hba48
          refine hK.out _ _ ⟨rc_cell 0 _ T48.out.t.nd rfl, trivial⟩ (fun hH48 => ?_)
          clear hK K
          try simp only [Act.put, List.setIfInBounds_toArray, List.set_cons_zero, List.set_cons_succ]
          generalize x44.heap.size = gE at *
          generalize x44.alloc (.cells #[.slice TA nr tc] 28) = b48 at *
          refine wpAnyH_ready (rs := [10]) (by kernel_rfl) (by simp) ?_
          refine (AllReadyH.cons (o := { dst := some 44, op := Op.call { callee := Callee.value (Operand.func 93), args := #[Operand.tmp 35, Operand.tmp 40, Operand.tmp 43], argTypes := #[62, 3, 62] }, type := 62, pos := _, after := #[{ on := 1, ground := Ground.data }, { on := 6, ground := Ground.data }, { on := 9, ground := Ground.data }, { on := 8, ground := Ground.chain }], guard := none }) rfl (fun K hK => ?_) AllReadyH.nil)
          go_simp
          refine (insert_any (w.heap.size + 2) A2 nV c2 i gE us44 (.slice TA nr tc) b48 OW48.out T48.out.t.sz (by omega) (by omega) RD48.out NV48.out ON44.out rfl).mono ?_
          rintro e x50 ⟨AE, cE, rfl, oE, gE'⟩
          have hE50 := RW44.out i TA tc val x50 AE cE (by omega) (by rw [HNR.out]; exact OT44.out) OL44.out HR.out.2 (by rw [HNR.out]; exact oE) (BA48.out _ _ gE')
          have HA50 := Lib.hid (T48.out.put2 OW48.out gE' hE50 oE (by omega) OL44.out OD44.out)
          have HF50 := Lib.hid ((gE'.1.block _ (lt_of_heap T48.out.t.nd) (OW48.out.ne_blk T48.out.t.nd (by decide)).symm).trans T48.out.t.nd)
          clear oE gE' hE50
          go_wp2_with fail
          refine hK.out _ _ ⟨rc_cell 0 _ HF50.out rfl, trivial⟩ (fun hH50 => ?_)
          clear hK K
          try simp only [Act.put, List.setIfInBounds_toArray, List.set_cons_zero, List.set_cons_succ]
          refine wpAnyH_take (i := 11) (oi := { dst := some 45, op := Op.fieldAddr 70 (Operand.tmp 4) 2, type := 0, pos := _, after := #[{ on := 0, ground := Ground.phase }, { on := 1, ground := Ground.phase }, { on := 2, ground := Ground.phase }, { on := 3, ground := Ground.phase }, { on := 4, ground := Ground.phase }, { on := 5, ground := Ground.phase }, { on := 6, ground := Ground.phase }, { on := 7, ground := Ground.phase }, { on := 8, ground := Ground.phase }, { on := 9, ground := Ground.phase }, { on := 10, ground := Ground.phase }], guard := none }) (v := ?vw551_11) rfl (by kernel_rfl) (by kernel_rfl) (by kernel_rfl) (fun _ _ _ h => h) (Or.inl ⟨by rfl, ?yw551_11⟩) hH50 ?rw551_11
          case yw551_11 => (intro w hSw; (try dsimp only at hSw); go_simp; try (with_reducible rfl))
          try simp only [Act.put, List.setIfInBounds_toArray, List.set_cons_zero, List.set_cons_succ]
          refine wpAnyH_ready (rs := [12]) (by kernel_rfl) (by simp) ?_
          refine (AllReadyH.cons (o := { dst := none, op := Op.store 62 (Operand.tmp 45) (Operand.tmp 44), type := 0, pos := _, after := #[{ on := 11, ground := Ground.data }, { on := 10, ground := Ground.data }, { on := 10, ground := Ground.chain }, { on := 0, ground := Ground.phase }, { on := 1, ground := Ground.phase }, { on := 2, ground := Ground.phase }, { on := 3, ground := Ground.phase }, { on := 4, ground := Ground.phase }, { on := 5, ground := Ground.phase }, { on := 6, ground := Ground.phase }, { on := 7, ground := Ground.phase }, { on := 8, ground := Ground.phase }, { on := 9, ground := Ground.phase }, { on := 10, ground := Ground.phase }], guard := none }) rfl (fun K hK => ?_) AllReadyH.nil)
          have c52 := rc_cell 2 (.slice A2 nV c2) HA50.out.1 rfl; have f52 := two_frozen (i := 2) HA50.out.1
          have T52 := Lib.hid HA50.out.2
          go_simp
          refine hK.out _ _ ⟨rc_cell 0 _ T52.out.t.nd rfl, trivial⟩ (fun hH52 => ?_)
          clear hK K
          try simp only [Act.put, List.setIfInBounds_toArray, List.set_cons_zero, List.set_cons_succ]
          clear HA50 c52 f52
          generalize x50.setCell ⟨w.heap.size, 2, none⟩ (.slice AE (nV + 1) cE) = s52 at *
          refine wpAnyH_done (by kernel_rfl) ?_ _
          go_wp2_with fail
          go_meet
          case rel => exact ⟨AE, cE, T52⟩
        · go_simp
          have BA54 := Lib.hid (fun (W2 : World) (AZ : Option Addr) (h : Grows (x44.alloc (.cells #[.slice TA nr tc] 28)) W2 A2 AZ) => Grows.pre (below_alloc x44 (.cells #[.slice TA nr tc] 28)) h)
          have hba54 := below_alloc x44 (.cells #[.slice TA nr tc] 28); have T54 := Lib.hid (T44.out.keep hba54); have RD54 := Lib.hid (heap_alloc_new x44 (.cells #[.slice TA nr tc] 28)); have OW54 := Lib.hid (OW44.out.below hba54 (fun k hk => (OW44.out.lies k hk).2)); have OT54 := Lib.hid (OT44.out.below hba54 (fun k hk => (OT44.out.lies k hk).2)); have NV54 : Hid (blk A2 ≠ some x44.heap.size) := Lib.hid (fun e => by have := (OW44.out.lies _ e).2; omega); have HK54 := hba54.size
          clear hba54
          refine hK.out _ _ ⟨rc_cell 0 _ T54.out.t.nd rfl, trivial⟩ (fun hH54 => ?_)
          clear hK K
          try simp only [Act.put, List.setIfInBounds_toArray, List.set_cons_zero, List.set_cons_succ]
          generalize x44.heap.size = gE at *
          generalize x44.alloc (.cells #[.slice TA nr tc] 28) = b54 at *
          refine wpAnyH_ready (rs := [1]) (by kernel_rfl) (by simp) ?_
          refine (AllReadyH.cons (o := { dst := some 35, op := Op.load 62 (Operand.tmp 34), type := 62, pos := _, after := #[{ on := 0, ground := Ground.data }], guard := none }) rfl (fun K hK => ?_) AllReadyH.nil)
          have lc56 := rc_cell 2 (.slice A2 nV c2) T54.out.t.nd rfl
          go_simp
          refine hK.out _ _ ⟨rc_cell 0 _ T54.out.t.nd rfl, trivial⟩ (fun hH56 => ?_)
          clear hK K
          try simp only [Act.put, List.setIfInBounds_toArray, List.set_cons_zero, List.set_cons_succ]
          refine wpAnyH_ready (rs := [10]) (by kernel_rfl) (by simp) ?_
          refine (AllReadyH.cons (o := { dst := some 44, op := Op.call { callee := Callee.value (Operand.func 93), args := #[Operand.tmp 35, Operand.tmp 40, Operand.tmp 43], argTypes := #[62, 3, 62] }, type := 62, pos := _, after := #[{ on := 1, ground := Ground.data }, { on := 6, ground := Ground.data }, { on := 9, ground := Ground.data }, { on := 8, ground := Ground.chain }], guard := none }) rfl (fun K hK => ?_) AllReadyH.nil)
          go_simp
          refine (insert_any (w.heap.size + 2) A2 nV c2 i gE us44 (.slice TA nr tc) b54 OW54.out T54.out.t.sz (by omega) (by omega) RD54.out NV54.out ON44.out rfl).mono ?_
          rintro e x58 ⟨AE, cE, rfl, oE, gE'⟩
          have hE58 := RW44.out i TA tc val x58 AE cE (by omega) (by rw [HNR.out]; exact OT44.out) OL44.out HR.out.2 (by rw [HNR.out]; exact oE) (BA54.out _ _ gE')
          have HA58 := Lib.hid (T54.out.put2 OW54.out gE' hE58 oE (by omega) OL44.out OD44.out)
          have HF58 := Lib.hid ((gE'.1.block _ (lt_of_heap T54.out.t.nd) (OW54.out.ne_blk T54.out.t.nd (by decide)).symm).trans T54.out.t.nd)
          clear oE gE' hE58
          go_wp2_with fail
          refine hK.out _ _ ⟨rc_cell 0 _ HF58.out rfl, trivial⟩ (fun hH58 => ?_)
          clear hK K
          try simp only [Act.put, List.setIfInBounds_toArray, List.set_cons_zero, List.set_cons_succ]
          refine wpAnyH_take (i := 11) (oi := { dst := some 45, op := Op.fieldAddr 70 (Operand.tmp 4) 2, type := 0, pos := _, after := #[{ on := 0, ground := Ground.phase }, { on := 1, ground := Ground.phase }, { on := 2, ground := Ground.phase }, { on := 3, ground := Ground.phase }, { on := 4, ground := Ground.phase }, { on := 5, ground := Ground.phase }, { on := 6, ground := Ground.phase }, { on := 7, ground := Ground.phase }, { on := 8, ground := Ground.phase }, { on := 9, ground := Ground.phase }, { on := 10, ground := Ground.phase }], guard := none }) (v := ?vw559_11) rfl (by kernel_rfl) (by kernel_rfl) (by kernel_rfl) (fun _ _ _ h => h) (Or.inl ⟨by rfl, ?yw559_11⟩) hH58 ?rw559_11
          case yw559_11 => (intro w hSw; (try dsimp only at hSw); go_simp; try (with_reducible rfl))
          try simp only [Act.put, List.setIfInBounds_toArray, List.set_cons_zero, List.set_cons_succ]
          refine wpAnyH_ready (rs := [12]) (by kernel_rfl) (by simp) ?_
          refine (AllReadyH.cons (o := { dst := none, op := Op.store 62 (Operand.tmp 45) (Operand.tmp 44), type := 0, pos := _, after := #[{ on := 11, ground := Ground.data }, { on := 10, ground := Ground.data }, { on := 10, ground := Ground.chain }, { on := 0, ground := Ground.phase }, { on := 1, ground := Ground.phase }, { on := 2, ground := Ground.phase }, { on := 3, ground := Ground.phase }, { on := 4, ground := Ground.phase }, { on := 5, ground := Ground.phase }, { on := 6, ground := Ground.phase }, { on := 7, ground := Ground.phase }, { on := 8, ground := Ground.phase }, { on := 9, ground := Ground.phase }, { on := 10, ground := Ground.phase }], guard := none }) rfl (fun K hK => ?_) AllReadyH.nil)
          have c60 := rc_cell 2 (.slice A2 nV c2) HA58.out.1 rfl; have f60 := two_frozen (i := 2) HA58.out.1
          have T60 := Lib.hid HA58.out.2
          go_simp
          refine hK.out _ _ ⟨rc_cell 0 _ T60.out.t.nd rfl, trivial⟩ (fun hH60 => ?_)
          clear hK K
          try simp only [Act.put, List.setIfInBounds_toArray, List.set_cons_zero, List.set_cons_succ]
          clear HA58 c60 f60
          generalize x58.setCell ⟨w.heap.size, 2, none⟩ (.slice AE (nV + 1) cE) = s60 at *
          refine wpAnyH_done (by kernel_rfl) ?_ _
          go_wp2_with fail
          go_meet
          case rel => exact ⟨AE, cE, T60⟩
    · go_simp
      refine (clone_any AR nr cr val yd (HR.out.keep Td5.out.t.hb) br).mono ?_
      rintro e x62 ⟨TA, tc, rfl, ot62, hb62⟩
      obtain ⟨us62, ow62, one62, RW62⟩ := Td5.out.t.pv.ins (w := x62) (fun e B m d us hh => hh.below hb62 (fun k hk => (hh.lies k hk).2))
      have OD62 := Lib.hid (OldT.of (w' := x62.alloc (.cells #[.slice TA nr tc] 28)) Td5.out.t.pk (fun us hu => ((hu.below hb62 (fun k hk => (hu.lies k hk).2)).alloc (.cells #[.slice TA nr tc] 28)).rd) (Nat.le_refl _))
      have OT62 := Lib.hid (ot62.mono Td5.out.t.sz); have OL62 := Lib.hid (fun b hb => (ot62.lies b hb).1); have OW62 := Lib.hid ow62; have ON62 := Lib.hid one62; have T62 := Lib.hid (Td5.out.keep hb62)
      clear hb62 ot62 ow62 one62
      go_wp2_with fail
      refine hK.out _ _ ⟨rc_cell 0 _ T62.out.t.nd rfl, trivial⟩ (fun hH62 => ?_)
      clear hK K
      try simp only [Act.put, List.setIfInBounds_toArray, List.set_cons_zero, List.set_cons_succ]
      refine wpAnyH_ready (rs := [1, 4, 9]) (by kernel_rfl) (by simp) ?_
      refine (AllReadyH.cons (o := { dst := some 35, op := Op.load 62 (Operand.tmp 34), type := 62, pos := _, after := #[{ on := 0, ground := Ground.data }], guard := none }) rfl (fun K hK => ?_) (AllReadyH.cons (o := { dst := some 38, op := Op.load 62 (Operand.tmp 37), type := 62, pos := _, after := #[{ on := 3, ground := Ground.data }], guard := none }) rfl (fun K hK => ?_) (AllReadyH.cons (o := { dst := some 43, op := Op.buildSlice 62 1 #[(0, Operand.tmp 42)], type := 62, pos := _, after := #[{ on := 8, ground := Ground.data }], guard := none }) rfl (fun K hK => ?_) AllReadyH.nil)))
      · have lc64 := rc_cell 2 (.slice A2 nV c2) T62.out.t.nd rfl
        go_simp
        refine hK.out _ _ ⟨rc_cell 0 _ T62.out.t.nd rfl, trivial⟩ (fun hH64 => ?_)
        clear hK K
        try simp only [Act.put, List.setIfInBounds_toArray, List.set_cons_zero, List.set_cons_succ]
        refine wpAnyH_ready (rs := [4, 9]) (by kernel_rfl) (by simp) ?_
        refine (AllReadyH.cons (o := { dst := some 38, op := Op.load 62 (Operand.tmp 37), type := 62, pos := _, after := #[{ on := 3, ground := Ground.data }], guard := none }) rfl (fun K hK => ?_) (AllReadyH.cons (o := { dst := some 43, op := Op.buildSlice 62 1 #[(0, Operand.tmp 42)], type := 62, pos := _, after := #[{ on := 8, ground := Ground.data }], guard := none }) rfl (fun K hK => ?_) AllReadyH.nil))
        · have lc66 := rc_cell 2 (.slice A2 nV c2) T62.out.t.nd rfl
          go_simp
          refine hK.out _ _ ⟨rc_cell 0 _ T62.out.t.nd rfl, trivial⟩ (fun hH66 => ?_)
          clear hK K
          try simp only [Act.put, List.setIfInBounds_toArray, List.set_cons_zero, List.set_cons_succ]
          refine wpAnyH_take (i := 5) (oi := { dst := some 39, op := Op.call { callee := Callee.builtin Builtin.len, args := #[Operand.tmp 38], argTypes := #[62] }, type := 3, pos := _, after := #[{ on := 4, ground := Ground.data }], guard := none }) (v := ?vw567_5) rfl (by kernel_rfl) (by kernel_rfl) (by kernel_rfl) (fun _ _ _ h => h) (Or.inl ⟨by rfl, ?yw567_5⟩) hH66 ?rw567_5
          case yw567_5 => (intro w hSw; (try dsimp only at hSw); go_simp; try (with_reducible rfl))
          try simp only [Act.put, List.setIfInBounds_toArray, List.set_cons_zero, List.set_cons_succ]
          refine wpAnyH_take (i := 6) (oi := { dst := some 40, op := Op.call { callee := Callee.builtin Builtin.min, args := #[Operand.tmp 36, Operand.tmp 39], argTypes := #[3, 3] }, type := 3, pos := _, after := #[{ on := 2, ground := Ground.data }, { on := 5, ground := Ground.data }], guard := none }) (v := ?vw567_6) rfl (by kernel_rfl) (by kernel_rfl) (by kernel_rfl) (fun _ _ _ h => h) (Or.inl ⟨by rfl, ?yw567_6⟩) hH66 ?rw567_6
          case yw567_6 => (intro w hSw; (try dsimp only at hSw); go_simp; try (with_reducible rfl))
          try simp only [Act.put, List.setIfInBounds_toArray, List.set_cons_zero, List.set_cons_succ]
          refine wpAnyH_ready (rs := [9]) (by kernel_rfl) (by simp) ?_
          refine (AllReadyH.cons (o := { dst := some 43, op := Op.buildSlice 62 1 #[(0, Operand.tmp 42)], type := 62, pos := _, after := #[{ on := 8, ground := Ground.data }], guard := none }) rfl (fun K hK => ?_) AllReadyH.nil)
          go_simp
          have BA68 := Lib.hid (fun (W2 : World) (AZ : Option Addr) (h : Grows (x62.alloc (.cells #[.slice TA nr tc] 28)) W2 A2 AZ) => Grows.pre (below_alloc x62 (.cells #[.slice TA nr tc] 28)) h)
          have hba68 := below_alloc x62 (.cells #[.slice TA nr tc] 28); have T68 := Lib.hid (T62.out.keep hba68); have RD68 := Lib.hid (heap_alloc_new x62 (.cells #[.slice TA nr tc] 28)); have OW68 := Lib.hid (OW62.out.below hba68 (fun k hk => (OW62.out.lies k hk).2)); have OT68 := Lib.hid (OT62.out.below hba68 (fun k hk => (OT62.out.lies k hk).2)); have NV68 : Hid (blk A2 ≠ some x62.heap.size) := Lib.hid (fun e => by have := (OW62.out.lies _ e).2; omega); have HK68 := hba68.size
          clear hba68
          refine hK.out _ _ ⟨rc_cell 0 _ T68.out.t.nd rfl, trivial⟩ (fun hH68 => ?_)
          clear hK K
          try simp only [Act.put, List.setIfInBounds_toArray, List.set_cons_zero, List.set_cons_succ]
          generalize x62.heap.size = gE at *
          generalize x62.alloc (.cells #[.slice TA nr tc] 28) = b68 at *
          refine wpAnyH_ready (rs := [10]) (by kernel_rfl) (by simp) ?_
          refine (AllReadyH.cons (o := { dst := some 44, op := Op.call { callee := Callee.value (Operand.func 93), args := #[Operand.tmp 35, Operand.tmp 40, Operand.tmp 43], argTypes := #[62, 3, 62] }, type := 62, pos := _, after := #[{ on := 1, ground := Ground.data }, { on := 6, ground := Ground.data }, { on := 9, ground := Ground.data }, { on := 8, ground := Ground.chain }], guard := none }) rfl (fun K hK => ?_) AllReadyH.nil)
          go_simp
          refine (insert_any (w.heap.size + 2) A2 nV c2 i gE us62 (.slice TA nr tc) b68 OW68.out T68.out.t.sz (by omega) (by omega) RD68.out NV68.out ON62.out rfl).mono ?_
          rintro e x70 ⟨AE, cE, rfl, oE, gE'⟩
          have hE70 := RW62.out i TA tc val x70 AE cE (by omega) (by rw [HNR.out]; exact OT62.out) OL62.out HR.out.2 (by rw [HNR.out]; exact oE) (BA68.out _ _ gE')
          have HA70 := Lib.hid (T68.out.put2 OW68.out gE' hE70 oE (by omega) OL62.out OD62.out)
          have HF70 := Lib.hid ((gE'.1.block _ (lt_of_heap T68.out.t.nd) (OW68.out.ne_blk T68.out.t.nd (by decide)).symm).trans T68.out.t.nd)
          clear oE gE' hE70
          go_wp2_with fail
          refine hK.out _ _ ⟨rc_cell 0 _ HF70.out rfl, trivial⟩ (fun hH70 => ?_)
          clear hK K
          try simp only [Act.put, List.setIfInBounds_toArray, List.set_cons_zero, List.set_cons_succ]
          refine wpAnyH_take (i := 11) (oi := { dst := some 45, op := Op.fieldAddr 70 (Operand.tmp 4) 2, type := 0, pos := _, after := #[{ on := 0, ground := Ground.phase }, { on := 1, ground := Ground.phase }, { on := 2, ground := Ground.phase }, { on := 3, ground := Ground.phase }, { on := 4, ground := Ground.phase }, { on := 5, ground := Ground.phase }, { on := 6, ground := Ground.phase }, { on := 7, ground := Ground.phase }, { on := 8, ground := Ground.phase }, { on := 9, ground := Ground.phase }, { on := 10, ground := Ground.phase }], guard := none }) (v := ?vw571_11) rfl (by kernel_rfl) (by kernel_rfl) (by kernel_rfl) (fun _ _ _ h => h) (Or.inl ⟨by rfl, ?yw571_11⟩) hH70 ?rw571_11
          case yw571_11 => (intro w hSw; (try dsimp only at hSw); go_simp; try (with_reducible rfl))
          try simp only [Act.put, List.setIfInBounds_toArray, List.set_cons_zero, List.set_cons_succ]
          refine wpAnyH_ready (rs := [12]) (by kernel_rfl) (by simp) ?_
          refine (AllReadyH.cons (o := { dst := none, op := Op.store 62 (Operand.tmp 45) (Operand.tmp 44), type := 0, pos := _, after := #[{ on := 11, ground := Ground.data }, { on := 10, ground := Ground.data }, { on := 10, ground := Ground.chain }, { on := 0, ground := Ground.phase }, { on := 1, ground := Ground.phase }, { on := 2, ground := Ground.phase }, { on := 3, ground := Ground.phase }, { on := 4, ground := Ground.phase }, { on := 5, ground := Ground.phase }, { on := 6, ground := Ground.phase }, { on := 7, ground := Ground.phase }, { on := 8, ground := Ground.phase }, { on := 9, ground := Ground.phase }, { on := 10, ground := Ground.phase }], guard := none }) rfl (fun K hK => ?_) AllReadyH.nil)
          have c72 := rc_cell 2 (.slice A2 nV c2) HA70.out.1 rfl; have f72 := two_frozen (i := 2) HA70.out.1
          have T72 := Lib.hid HA70.out.2
          go_simp
          refine hK.out _ _ ⟨rc_cell 0 _ T72.out.t.nd rfl, trivial⟩ (fun hH72 => ?_)
          clear hK K
          try simp only [Act.put, List.setIfInBounds_toArray, List.set_cons_zero, List.set_cons_succ]
          clear HA70 c72 f72
          generalize x70.setCell ⟨w.heap.size, 2, none⟩ (.slice AE (nV + 1) cE) = s72 at *
          refine wpAnyH_done (by kernel_rfl) ?_ _
          go_wp2_with fail
          go_meet
          case rel => exact ⟨AE, cE, T72⟩
        · go_simp
          have BA74 := Lib.hid (fun (W2 : World) (AZ : Option Addr) (h : Grows (x62.alloc (.cells #[.slice TA nr tc] 28)) W2 A2 AZ) => Grows.pre (below_alloc x62 (.cells #[.slice TA nr tc] 28)) h)
          have hba74 := below_alloc x62 (.cells #[.slice TA nr tc] 28); have T74 := Lib.hid (T62.out.keep hba74); have RD74 := Lib.hid (heap_alloc_new x62 (.cells #[.slice TA nr tc] 28)); have OW74 := Lib.hid (OW62.out.below hba74 (fun k hk => (OW62.out.lies k hk).2)); have OT74 := Lib.hid (OT62.out.below hba74 (fun k hk => (OT62.out.lies k hk).2)); have NV74 : Hid (blk A2 ≠ some x62.heap.size) := Lib.hid (fun e => by have := (OW62.out.lies _ e).2; omega); have HK74 := hba74.size
          clear hba74
          refine hK.out _ _ ⟨rc_cell 0 _ T74.out.t.nd rfl, trivial⟩ (fun hH74 => ?_)
          clear hK K
          try simp only [Act.put, List.setIfInBounds_toArray, List.set_cons_zero, List.set_cons_succ]
          generalize x62.heap.size = gE at *
          generalize x62.alloc (.cells #[.slice TA nr tc] 28) = b74 at *
          refine wpAnyH_ready (rs := [4]) (by kernel_rfl) (by simp) ?_
          refine (AllReadyH.cons (o := { dst := some 38, op := Op.load 62 (Operand.tmp 37), type := 62, pos := _, after := #[{ on := 3, ground := Ground.data }], guard := none }) rfl (fun K hK => ?_) AllReadyH.nil)
          have lc76 := rc_cell 2 (.slice A2 nV c2) T74.out.t.nd rfl
          go_simp
          refine hK.out _ _ ⟨rc_cell 0 _ T74.out.t.nd rfl, trivial⟩ (fun hH76 => ?_)
          clear hK K
          try simp only [Act.put, List.setIfInBounds_toArray, List.set_cons_zero, List.set_cons_succ]
          refine wpAnyH_take (i := 5) (oi := { dst := some 39, op := Op.call { callee := Callee.builtin Builtin.len, args := #[Operand.tmp 38], argTypes := #[62] }, type := 3, pos := _, after := #[{ on := 4, ground := Ground.data }], guard := none }) (v := ?vw577_5) rfl (by kernel_rfl) (by kernel_rfl) (by kernel_rfl) (fun _ _ _ h => h) (Or.inl ⟨by rfl, ?yw577_5⟩) hH76 ?rw577_5
          case yw577_5 => (intro w hSw; (try dsimp only at hSw); go_simp; try (with_reducible rfl))
          try simp only [Act.put, List.setIfInBounds_toArray, List.set_cons_zero, List.set_cons_succ]
          refine wpAnyH_take (i := 6) (oi := { dst := some 40, op := Op.call { callee := Callee.builtin Builtin.min, args := #[Operand.tmp 36, Operand.tmp 39], argTypes := #[3, 3] }, type := 3, pos := _, after := #[{ on := 2, ground := Ground.data }, { on := 5, ground := Ground.data }], guard := none }) (v := ?vw577_6) rfl (by kernel_rfl) (by kernel_rfl) (by kernel_rfl) (fun _ _ _ h => h) (Or.inl ⟨by rfl, ?yw577_6⟩) hH76 ?rw577_6
          case yw577_6 => (intro w hSw; (try dsimp only at hSw); go_simp; try (with_reducible rfl))
          try simp only [Act.put, List.setIfInBounds_toArray, List.set_cons_zero, List.set_cons_succ]
          refine wpAnyH_ready (rs := [10]) (by kernel_rfl) (by simp) ?_
          refine (AllReadyH.cons (o := { dst := some 44, op := Op.call { callee := Callee.value (Operand.func 93), args := #[Operand.tmp 35, Operand.tmp 40, Operand.tmp 43], argTypes := #[62, 3, 62] }, type := 62, pos := _, after := #[{ on := 1, ground := Ground.data }, { on := 6, ground := Ground.data }, { on := 9, ground := Ground.data }, { on := 8, ground := Ground.chain }], guard := none }) rfl (fun K hK => ?_) AllReadyH.nil)
          go_simp
          refine (insert_any (w.heap.size + 2) A2 nV c2 i gE us62 (.slice TA nr tc) b74 OW74.out T74.out.t.sz (by omega) (by omega) RD74.out NV74.out ON62.out rfl).mono ?_
          rintro e x78 ⟨AE, cE, rfl, oE, gE'⟩
          have hE78 := RW62.out i TA tc val x78 AE cE (by omega) (by rw [HNR.out]; exact OT62.out) OL62.out HR.out.2 (by rw [HNR.out]; exact oE) (BA74.out _ _ gE')
          have HA78 := Lib.hid (T74.out.put2 OW74.out gE' hE78 oE (by omega) OL62.out OD62.out)
          have HF78 := Lib.hid ((gE'.1.block _ (lt_of_heap T74.out.t.nd) (OW74.out.ne_blk T74.out.t.nd (by decide)).symm).trans T74.out.t.nd)
          clear oE gE' hE78
          go_wp2_with fail
          refine hK.out _ _ ⟨rc_cell 0 _ HF78.out rfl, trivial⟩ (fun hH78 => ?_)
          clear hK K
          try simp only [Act.put, List.setIfInBounds_toArray, List.set_cons_zero, List.set_cons_succ]
          refine wpAnyH_take (i := 11) (oi := { dst := some 45, op := Op.fieldAddr 70 (Operand.tmp 4) 2, type := 0, pos := _, after := #[{ on := 0, ground := Ground.phase }, { on := 1, ground := Ground.phase }, { on := 2, ground := Ground.phase }, { on := 3, ground := Ground.phase }, { on := 4, ground := Ground.phase }, { on := 5, ground := Ground.phase }, { on := 6, ground := Ground.phase }, { on := 7, ground := Ground.phase }, { on := 8, ground := Ground.phase }, { on := 9, ground := Ground.phase }, { on := 10, ground := Ground.phase }], guard := none }) (v := ?vw579_11) rfl (by kernel_rfl) (by kernel_rfl) (by kernel_rfl) (fun _ _ _ h => h) (Or.inl ⟨by rfl, ?yw579_11⟩) hH78 ?rw579_11
          case yw579_11 => (intro w hSw; (try dsimp only at hSw); go_simp; try (with_reducible rfl))
          try simp only [Act.put, List.setIfInBounds_toArray, List.set_cons_zero, List.set_cons_succ]
          refine wpAnyH_ready (rs := [12]) (by kernel_rfl) (by simp) ?_
          refine (AllReadyH.cons (o := { dst := none, op := Op.store 62 (Operand.tmp 45) (Operand.tmp 44), type := 0, pos := _, after := #[{ on := 11, ground := Ground.data }, { on := 10, ground := Ground.data }, { on := 10, ground := Ground.chain }, { on := 0, ground := Ground.phase }, { on := 1, ground := Ground.phase }, { on := 2, ground := Ground.phase }, { on := 3, ground := Ground.phase }, { on := 4, ground := Ground.phase }, { on := 5, ground := Ground.phase }, { on := 6, ground := Ground.phase }, { on := 7, ground := Ground.phase }, { on := 8, ground := Ground.phase }, { on := 9, ground := Ground.phase }, { on := 10, ground := Ground.phase }], guard := none }) rfl (fun K hK => ?_) AllReadyH.nil)
          have c80 := rc_cell 2 (.slice A2 nV c2) HA78.out.1 rfl; have f80 := two_frozen (i := 2) HA78.out.1
          have T80 := Lib.hid HA78.out.2
          go_simp
          refine hK.out _ _ ⟨rc_cell 0 _ T80.out.t.nd rfl, trivial⟩ (fun hH80 => ?_)
          clear hK K
          try simp only [Act.put, List.setIfInBounds_toArray, List.set_cons_zero, List.set_cons_succ]
          clear HA78 c80 f80
          generalize x78.setCell ⟨w.heap.size, 2, none⟩ (.slice AE (nV + 1) cE) = s80 at *
          refine wpAnyH_done (by kernel_rfl) ?_ _
          go_wp2_with fail
          go_meet
          case rel => exact ⟨AE, cE, T80⟩
      · have lc82 := rc_cell 2 (.slice A2 nV c2) T62.out.t.nd rfl
        go_simp
        refine hK.out _ _ ⟨rc_cell 0 _ T62.out.t.nd rfl, trivial⟩ (fun hH82 => ?_)
        clear hK K
        try simp only [Act.put, List.setIfInBounds_toArray, List.set_cons_zero, List.set_cons_succ]
        refine wpAnyH_take (i := 5) (oi := { dst := some 39, op := Op.call { callee := Callee.builtin Builtin.len, args := #[Operand.tmp 38], argTypes := #[62] }, type := 3, pos := _, after := #[{ on := 4, ground := Ground.data }], guard := none }) (v := ?vw583_5) rfl (by kernel_rfl) (by kernel_rfl) (by kernel_rfl) (fun _ _ _ h => h) (Or.inl ⟨by rfl, ?yw583_5⟩) hH82 ?rw583_5
        case yw583_5 => (intro w hSw; (try dsimp only at hSw); go_simp; try (with_reducible rfl))
        try simp only [Act.put, List.setIfInBounds_toArray, List.set_cons_zero, List.set_cons_succ]
        refine wpAnyH_take (i := 6) (oi := { dst := some 40, op := Op.call { callee := Callee.builtin Builtin.min, args := #[Operand.tmp 36, Operand.tmp 39], argTypes := #[3, 3] }, type := 3, pos := _, after := #[{ on := 2, ground := Ground.data }, { on := 5, ground := Ground.data }], guard := none }) (v := ?vw583_6) rfl (by kernel_rfl) (by kernel_rfl) (by kernel_rfl) (fun _ _ _ h => h) (Or.inl ⟨by rfl, ?yw583_6⟩) hH82 ?rw583_6
        case yw583_6 => (intro w hSw; (try dsimp only at hSw); go_simp; try (with_reducible rfl))
        try simp only [Act.put, List.setIfInBounds_toArray, List.set_cons_zero, List.set_cons_succ]
        refine wpAnyH_ready (rs := [1, 9]) (by kernel_rfl) (by simp) ?_
        refine (AllReadyH.cons (o := { dst := some 35, op := Op.load 62 (Operand.tmp 34), type := 62, pos := _, after := #[{ on := 0, ground := Ground.data }], guard := none }) rfl (fun K hK => ?_) (AllReadyH.cons (o := { dst := some 43, op := Op.buildSlice 62 1 #[(0, Operand.tmp 42)], type := 62, pos := _, after := #[{ on := 8, ground := Ground.data }], guard := none }) rfl (fun K hK => ?_) AllReadyH.nil))
        · have lc84 := rc_cell 2 (.slice A2 nV c2) T62.out.t.nd rfl
          go_simp
          refine hK.out _ _ ⟨rc_cell 0 _ T62.out.t.nd rfl, trivial⟩ (fun hH84 => ?_)
          clear hK K
          try simp only [Act.put, List.setIfInBounds_toArray, List.set_cons_zero, List.set_cons_succ]
          refine wpAnyH_ready (rs := [9]) (by kernel_rfl) (by simp) ?_
          refine (AllReadyH.cons (o := { dst := some 43, op := Op.buildSlice 62 1 #[(0, Operand.tmp 42)], type := 62, pos := _, after := #[{ on := 8, ground := Ground.data }], guard := none }) rfl (fun K hK => ?_) AllReadyH.nil)
          go_simp
          have BA86 := Lib.hid (fun (W2 : World) (AZ : Option Addr) (h : Grows (x62.alloc (.cells #[.slice TA nr tc] 28)) W2 A2 AZ) => Grows.pre (below_alloc x62 (.cells #[.slice TA nr tc] 28)) h)
          have hba86 := below_alloc x62 (.cells #[.slice TA nr tc] 28); have T86 := Lib.hid (T62.out.keep hba86); have RD86 := Lib.hid (heap_alloc_new x62 (.cells #[.slice TA nr tc] 28)); have OW86 := Lib.hid (OW62.out.below hba86 (fun k hk => (OW62.out.lies k hk).2)); have OT86 := Lib.hid (OT62.out.below hba86 (fun k hk => (OT62.out.lies k hk).2)); have NV86 : Hid (blk A2 ≠ some x62.heap.size) := Lib.hid (fun e => by have := (OW62.out.lies _ e).2; omega); have HK86 := hba86.size
          clear hba86
          refine hK.out _ _ ⟨rc_cell 0 _ T86.out.t.nd rfl, trivial⟩ (fun hH86 => ?_)
          clear hK K
          try simp only [Act.put, List.setIfInBounds_toArray, List.set_cons_zero, List.set_cons_succ]
          generalize x62.heap.size = gE at *
          generalize x62.alloc (.cells #[.slice TA nr tc] 28) = b86 at *
          refine wpAnyH_ready (rs := [10]) (by kernel_rfl) (by simp) ?_
          refine (AllReadyH.cons (o := { dst := some 44, op := Op.call { callee := Callee.value (Operand.func 93), args := #[Operand.tmp 35, Operand.tmp 40, Operand.tmp 43], argTypes := #[62, 3, 62] }, type := 62, pos := _, after := #[{ on := 1, ground := Ground.data }, { on := 6, ground := Ground.data }, { on := 9, ground := Ground.data }, { on := 8, ground := Ground.chain }], guard := none }) rfl (fun K hK => ?_) AllReadyH.nil)
          go_simp
          refine (insert_any (w.heap.size + 2) A2 nV c2 i gE us62 (.slice TA nr tc) b86 OW86.out T86.out.t.sz (by omega) (by omega) RD86.out NV86.out ON62.out rfl).mono ?_
          rintro e x88 ⟨AE, cE, rfl, oE, gE'⟩
          have hE88 := RW62.out i TA tc val x88 AE cE (by omega) (by rw [HNR.out]; exact OT62.out) OL62.out HR.out.2 (by rw [HNR.out]; exact oE) (BA86.out _ _ gE')
          have HA88 := Lib.hid (T86.out.put2 OW86.out gE' hE88 oE (by omega) OL62.out OD62.out)
          have HF88 := Lib.hid ((gE'.1.block _ (lt_of_heap T86.out.t.nd) (OW86.out.ne_blk T86.out.t.nd (by decide)).symm).trans T86.out.t.nd)
          clear oE gE' hE88
          go_wp2_with fail
          refine hK.out _ _ ⟨rc_cell 0 _ HF88.out rfl, trivial⟩ (fun hH88 => ?_)
          clear hK K
          try simp only [Act.put, List.setIfInBounds_toArray, List.set_cons_zero, List.set_cons_succ]
          refine wpAnyH_take (i := 11) (oi := { dst := some 45, op := Op.fieldAddr 70 (Operand.tmp 4) 2, type := 0, pos := _, after := #[{ on := 0, ground := Ground.phase }, { on := 1, ground := Ground.phase }, { on := 2, ground := Ground.phase }, { on := 3, ground := Ground.phase }, { on := 4, ground := Ground.phase }, { on := 5, ground := Ground.phase }, { on := 6, ground := Ground.phase }, { on := 7, ground := Ground.phase }, { on := 8, ground := Ground.phase }, { on := 9, ground := Ground.phase }, { on := 10, ground := Ground.phase }], guard := none }) (v := ?vw589_11) rfl (by kernel_rfl) (by kernel_rfl) (by kernel_rfl) (fun _ _ _ h => h) (Or.inl ⟨by rfl, ?yw589_11⟩) hH88 ?rw589_11
          case yw589_11 => (intro w hSw; (try dsimp only at hSw); go_simp; try (with_reducible rfl))
          try simp only [Act.put, List.setIfInBounds_toArray, List.set_cons_zero, List.set_cons_succ]
          refine wpAnyH_ready (rs := [12]) (by kernel_rfl) (by simp) ?_
          refine (AllReadyH.cons (o := { dst := none, op := Op.store 62 (Operand.tmp 45) (Operand.tmp 44), type := 0, pos := _, after := #[{ on := 11, ground := Ground.data }, { on := 10, ground := Ground.data }, { on := 10, ground := Ground.chain }, { on := 0, ground := Ground.phase }, { on := 1, ground := Ground.phase }, { on := 2, ground := Ground.phase }, { on := 3, ground := Ground.phase }, { on := 4, ground := Ground.phase }, { on := 5, ground := Ground.phase }, { on := 6, ground := Ground.phase }, { on := 7, ground := Ground.phase }, { on := 8, ground := Ground.phase }, { on := 9, ground := Ground.phase }, { on := 10, ground := Ground.phase }], guard := none }) rfl (fun K hK => ?_) AllReadyH.nil)
          have c90 := rc_cell 2 (.slice A2 nV c2) HA88.out.1 rfl; have f90 := two_frozen (i := 2) HA88.out.1
          have T90 := Lib.hid HA88.out.2
          go_simp
          refine hK.out _ _ ⟨rc_cell 0 _ T90.out.t.nd rfl, trivial⟩ (fun hH90 => ?_)
          clear hK K
          try simp only [Act.put, List.setIfInBounds_toArray, List.set_cons_zero, List.set_cons_succ]
          clear HA88 c90 f90
          generalize x88.setCell ⟨w.heap.size, 2, none⟩ (.slice AE (nV + 1) cE) = s90 at *
          refine wpAnyH_done (by kernel_rfl) ?_ _
          go_wp2_with fail
          go_meet
          case rel => exact ⟨AE, cE, T90⟩
        · go_simp
          have BA92 := Lib.hid (fun (W2 : World) (AZ : Option Addr) (h : Grows (x62.alloc (.cells #[.slice TA nr tc] 28)) W2 A2 AZ) => Grows.pre (below_alloc x62 (.cells #[.slice TA nr tc] 28)) h)
          have hba92 := below_alloc x62 (.cells #[.slice TA nr tc] 28); have T92 := Lib.hid (T62.out.keep hba92); have RD92 := Lib.hid (heap_alloc_new x62 (.cells #[.slice TA nr tc] 28)); have OW92 := Lib.hid (OW62.out.below hba92 (fun k hk => (OW62.out.lies k hk).2)); have OT92 := Lib.hid (OT62.out.below hba92 (fun k hk => (OT62.out.lies k hk).2)); have NV92 : Hid (blk A2 ≠ some x62.heap.size) := Lib.hid (fun e => by have := (OW62.out.lies _ e).2; omega); have HK92 := hba92.size
          clear hba92
          refine hK.out _ _ ⟨rc_cell 0 _ T92.out.t.nd rfl, trivial⟩ (fun hH92 => ?_)
          clear hK K
          try simp only [Act.put, List.setIfInBounds_toArray, List.set_cons_zero, List.set_cons_succ]
          generalize x62.heap.size = gE at *
          generalize x62.alloc (.cells #[.slice TA nr tc] 28) = b92 at *
          refine wpAnyH_ready (rs := [1]) (by kernel_rfl) (by simp) ?_
          refine (AllReadyH.cons (o := { dst := some 35, op := Op.load 62 (Operand.tmp 34), type := 62, pos := _, after := #[{ on := 0, ground := Ground.data }], guard := none }) rfl (fun K hK => ?_) AllReadyH.nil)
          have lc94 := rc_cell 2 (.slice A2 nV c2) T92.out.t.nd rfl
          go_simp
          refine hK.out _ _ ⟨rc_cell 0 _ T92.out.t.nd rfl, trivial⟩ (fun hH94 => ?_)
          clear hK K
          try simp only [Act.put, List.setIfInBounds_toArray, List.set_cons_zero, List.set_cons_succ]
          refine wpAnyH_ready (rs := [10]) (by kernel_rfl) (by simp) ?_
          refine (AllReadyH.cons (o := { dst := some 44, op := Op.call { callee := Callee.value (Operand.func 93), args := #[Operand.tmp 35, Operand.tmp 40, Operand.tmp 43], argTypes := #[62, 3, 62] }, type := 62, pos := _, after := #[{ on := 1, ground := Ground.data }, { on := 6, ground := Ground.data }, { on := 9, ground := Ground.data }, { on := 8, ground := Ground.chain }], guard := none }) rfl (fun K hK => ?_) AllReadyH.nil)
          go_simp
          refine (insert_any (w.heap.size + 2) A2 nV c2 i gE us62 (.slice TA nr tc) b92 OW92.out T92.out.t.sz (by omega) (by omega) RD92.out NV92.out ON62.out rfl).mono ?_
          rintro e x96 ⟨AE, cE, rfl, oE, gE'⟩
          have hE96 := RW62.out i TA tc val x96 AE cE (by omega) (by rw [HNR.out]; exact OT62.out) OL62.out HR.out.2 (by rw [HNR.out]; exact oE) (BA92.out _ _ gE')
          have HA96 := Lib.hid (T92.out.put2 OW92.out gE' hE96 oE (by omega) OL62.out OD62.out)
          have HF96 := Lib.hid ((gE'.1.block _ (lt_of_heap T92.out.t.nd) (OW92.out.ne_blk T92.out.t.nd (by decide)).symm).trans T92.out.t.nd)
          clear oE gE' hE96
          go_wp2_with fail
          refine hK.out _ _ ⟨rc_cell 0 _ HF96.out rfl, trivial⟩ (fun hH96 => ?_)
          clear hK K
          try simp only [Act.put, List.setIfInBounds_toArray, List.set_cons_zero, List.set_cons_succ]
          refine wpAnyH_take (i := 11) (oi := { dst := some 45, op := Op.fieldAddr 70 (Operand.tmp 4) 2, type := 0, pos := _, after := #[{ on := 0, ground := Ground.phase }, { on := 1, ground := Ground.phase }, { on := 2, ground := Ground.phase }, { on := 3, ground := Ground.phase }, { on := 4, ground := Ground.phase }, { on := 5, ground := Ground.phase }, { on := 6, ground := Ground.phase }, { on := 7, ground := Ground.phase }, { on := 8, ground := Ground.phase }, { on := 9, ground := Ground.phase }, { on := 10, ground := Ground.phase }], guard := none }) (v := ?vw597_11) rfl (by kernel_rfl) (by kernel_rfl) (by kernel_rfl) (fun _ _ _ h => h) (Or.inl ⟨by rfl, ?yw597_11⟩) hH96 ?rw597_11
          case yw597_11 => (intro w hSw; (try dsimp only at hSw); go_simp; try (with_reducible rfl))
          try simp only [Act.put, List.setIfInBounds_toArray, List.set_cons_zero, List.set_cons_succ]
          refine wpAnyH_ready (rs := [12]) (by kernel_rfl) (by simp) ?_
          refine (AllReadyH.cons (o := { dst := none, op := Op.store 62 (Operand.tmp 45) (Operand.tmp 44), type := 0, pos := _, after := #[{ on := 11, ground := Ground.data }, { on := 10, ground := Ground.data }, { on := 10, ground := Ground.chain }, { on := 0, ground := Ground.phase }, { on := 1, ground := Ground.phase }, { on := 2, ground := Ground.phase }, { on := 3, ground := Ground.phase }, { on := 4, ground := Ground.phase }, { on := 5, ground := Ground.phase }, { on := 6, ground := Ground.phase }, { on := 7, ground := Ground.phase }, { on := 8, ground := Ground.phase }, { on := 9, ground := Ground.phase }, { on := 10, ground := Ground.phase }], guard := none }) rfl (fun K hK => ?_) AllReadyH.nil)
          have c98 := rc_cell 2 (.slice A2 nV c2) HA96.out.1 rfl; have f98 := two_frozen (i := 2) HA96.out.1
          have T98 := Lib.hid HA96.out.2
          go_simp
          refine hK.out _ _ ⟨rc_cell 0 _ T98.out.t.nd rfl, trivial⟩ (fun hH98 => ?_)
          clear hK K
          try simp only [Act.put, List.setIfInBounds_toArray, List.set_cons_zero, List.set_cons_succ]
          clear HA96 c98 f98
          generalize x96.setCell ⟨w.heap.size, 2, none⟩ (.slice AE (nV + 1) cE) = s98 at *
          refine wpAnyH_done (by kernel_rfl) ?_ _
          go_wp2_with fail
          go_meet
          case rel => exact ⟨AE, cE, T98⟩
      · go_simp
        have BA100 := Lib.hid (fun (W2 : World) (AZ : Option Addr) (h : Grows (x62.alloc (.cells #[.slice TA nr tc] 28)) W2 A2 AZ) => Grows.pre (below_alloc x62 (.cells #[.slice TA nr tc] 28)) h)
        have hba100 := below_alloc x62 (.cells #[.slice TA nr tc] 28); have T100 := Lib.hid (T62.out.keep hba100); have RD100 := Lib.hid (heap_alloc_new x62 (.cells #[.slice TA nr tc] 28)); have OW100 := Lib.hid (OW62.out.below hba100 (fun k hk => (OW62.out.lies k hk).2)); have OT100 := Lib.hid (OT62.out.below hba100 (fun k hk => (OT62.out.lies k hk).2)); have NV100 : Hid (blk A2 ≠ some x62.heap.size) := Lib.hid (fun e => by have := (OW62.out.lies _ e).2; omega); have HK100 := hba100.size
        clear hba100
        refine hK.out _ _ ⟨rc_cell 0 _ T100.out.t.nd rfl, trivial⟩ (fun hH100 => ?_)
        clear hK K
        try simp only [Act.put, List.setIfInBounds_toArray, List.set_cons_zero, List.set_cons_succ]
        generalize x62.heap.size = gE at *
        generalize x62.alloc (.cells #[.slice TA nr tc] 28) = b100 at *
        refine wpAnyH_ready (rs := [1, 4]) (by kernel_rfl) (by simp) ?_
        refine (AllReadyH.cons (o := { dst := some 35, op := Op.load 62 (Operand.tmp 34), type := 62, pos := _, after := #[{ on := 0, ground := Ground.data }], guard := none }) rfl (fun K hK => ?_) (AllReadyH.cons (o := { dst := some 38, op := Op.load 62 (Operand.tmp 37), type := 62, pos := _, after := #[{ on := 3, ground := Ground.data }], guard := none }) rfl (fun K hK => ?_) AllReadyH.nil))
        · have lc102 := rc_cell 2 (.slice A2 nV c2) T100.out.t.nd rfl
          go_simp
          refine hK.out _ _ ⟨rc_cell 0 _ T100.out.t.nd rfl, trivial⟩ (fun hH102 => ?_)
          clear hK K
          try simp only [Act.put, List.setIfInBounds_toArray, List.set_cons_zero, List.set_cons_succ]
          refine wpAnyH_ready (rs := [4]) (by kernel_rfl) (by simp) ?_
          refine (AllReadyH.cons (o := { dst := some 38, op := Op.load 62 (Operand.tmp 37), type := 62, pos := _, after := #[{ on := 3, ground := Ground.data }], guard := none }) rfl (fun K hK => ?_) AllReadyH.nil)
          have lc104 := rc_cell 2 (.slice A2 nV c2) T100.out.t.nd rfl
          go_simp
          refine hK.out _ _ ⟨rc_cell 0 _ T100.out.t.nd rfl, trivial⟩ (fun hH104 => ?_)
          clear hK K
          try simp only [Act.put, List.setIfInBounds_toArray, List.set_cons_zero, List.set_cons_succ]
          refine wpAnyH_take (i := 5) (oi := { dst := some 39, op := Op.call { callee := Callee.builtin Builtin.len, args := #[Operand.tmp 38], argTypes := #[62] }, type := 3, pos := _, after := #[{ on := 4, ground := Ground.data }], guard := none }) (v := ?vw5105_5) rfl (by kernel_rfl) (by kernel_rfl) (by kernel_rfl) (fun _ _ _ h => h) (Or.inl ⟨by rfl, ?yw5105_5⟩) hH104 ?rw5105_5
          case yw5105_5 => (intro w hSw; (try dsimp only at hSw); go_simp; try (with_reducible rfl))
          try simp only [Act.put, List.setIfInBounds_toArray, List.set_cons_zero, List.set_cons_succ]
          refine wpAnyH_take (i := 6) (oi := { dst := some 40, op := Op.call { callee := Callee.builtin Builtin.min, args := #[Operand.tmp 36, Operand.tmp 39], argTypes := #[3, 3] }, type := 3, pos := _, after := #[{ on := 2, ground := Ground.data }, { on := 5, ground := Ground.data }], guard := none }) (v := ?vw5105_6) rfl (by kernel_rfl) (by kernel_rfl) (by kernel_rfl) (fun _ _ _ h => h) (Or.inl ⟨by rfl, ?yw5105_6⟩) hH104 ?rw5105_6
          case yw5105_6 => (intro w hSw; (try dsimp only at hSw); go_simp; try (with_reducible rfl))
          try simp only [Act.put, List.setIfInBounds_toArray, List.set_cons_zero, List.set_cons_succ]
          refine wpAnyH_ready (rs := [10]) (by kernel_rfl) (by simp) ?_
          refine (AllReadyH.cons (o := { dst := some 44, op := Op.call { callee := Callee.value (Operand.func 93), args := #[Operand.tmp 35, Operand.tmp 40, Operand.tmp 43], argTypes := #[62, 3, 62] }, type := 62, pos := _, after := #[{ on := 1, ground := Ground.data }, { on := 6, ground := Ground.data }, { on := 9, ground := Ground.data }, { on := 8, ground := Ground.chain }], guard := none }) rfl (fun K hK => ?_) AllReadyH.nil)
          go_simp
          refine (insert_any (w.heap.size + 2) A2 nV c2 i gE us62 (.slice TA nr tc) b100 OW100.out T100.out.t.sz (by omega) (by omega) RD100.out NV100.out ON62.out rfl).mono ?_
          rintro e x106 ⟨AE, cE, rfl, oE, gE'⟩
          have hE106 := RW62.out i TA tc val x106 AE cE (by omega) (by rw [HNR.out]; exact OT62.out) OL62.out HR.out.2 (by rw [HNR.out]; exact oE) (BA100.out _ _ gE')
          have HA106 := Lib.hid (T100.out.put2 OW100.out gE' hE106 oE (by omega) OL62.out OD62.out)
          have HF106 := Lib.hid ((gE'.1.block _ (lt_of_heap T100.out.t.nd) (OW100.out.ne_blk T100.out.t.nd (by decide)).symm).trans T100.out.t.nd)
          clear oE gE' hE106
          go_wp2_with fail
          refine hK.out _ _ ⟨rc_cell 0 _ HF106.out rfl, trivial⟩ (fun hH106 => ?_)
          clear hK K
          try simp only [Act.put, List.setIfInBounds_toArray, List.set_cons_zero, List.set_cons_succ]
          refine wpAnyH_take (i := 11) (oi := { dst := some 45, op := Op.fieldAddr 70 (Operand.tmp 4) 2, type := 0, pos := _, after := #[{ on := 0, ground := Ground.phase }, { on := 1, ground := Ground.phase }, { on := 2, ground := Ground.phase }, { on := 3, ground := Ground.phase }, { on := 4, ground := Ground.phase }, { on := 5, ground := Ground.phase }, { on := 6, ground := Ground.phase }, { on := 7, ground := Ground.phase }, { on := 8, ground := Ground.phase }, { on := 9, ground := Ground.phase }, { on := 10, ground := Ground.phase }], guard := none }) (v := ?vw5107_11) rfl (by kernel_rfl) (by kernel_rfl) (by kernel_rfl) (fun _ _ _ h => h) (Or.inl ⟨by rfl, ?yw5107_11⟩) hH106 ?rw5107_11
          case yw5107_11 => (intro w hSw; (try dsimp only at hSw); go_simp; try (with_reducible rfl))
          try simp only [Act.put, List.setIfInBounds_toArray, List.set_cons_zero, List.set_cons_succ]
          refine wpAnyH_ready (rs := [12]) (by kernel_rfl) (by simp) ?_
          refine (AllReadyH.cons (o := { dst := none, op := Op.store 62 (Operand.tmp 45) (Operand.tmp 44), type := 0, pos := _, after := #[{ on := 11, ground := Ground.data }, { on := 10, ground := Ground.data }, { on := 10, ground := Ground.chain }, { on := 0, ground := Ground.phase }, { on := 1, ground := Ground.phase }, { on := 2, ground := Ground.phase }, { on := 3, ground := Ground.phase }, { on := 4, ground := Ground.phase }, { on := 5, ground := Ground.phase }, { on := 6, ground := Ground.phase }, { on := 7, ground := Ground.phase }, { on := 8, ground := Ground.phase }, { on := 9, ground := Ground.phase }, { on := 10, ground := Ground.phase }], guard := none }) rfl (fun K hK => ?_) AllReadyH.nil)
          have c108 := rc_cell 2 (.slice A2 nV c2) HA106.out.1 rfl; have f108 := two_frozen (i := 2) HA106.out.1
          have T108 := Lib.hid HA106.out.2
          go_simp
          refine hK.out _ _ ⟨rc_cell 0 _ T108.out.t.nd rfl, trivial⟩ (fun hH108 => ?_)
          clear hK K
          try simp only [Act.put, List.setIfInBounds_toArray, List.set_cons_zero, List.set_cons_succ]
          clear HA106 c108 f108
          generalize x106.setCell ⟨w.heap.size, 2, none⟩ (.slice AE (nV + 1) cE) = s108 at *
          refine wpAnyH_done (by kernel_rfl) ?_ _
          go_wp2_with fail
          go_meet
          case rel => exact ⟨AE, cE, T108⟩
        · have lc110 := rc_cell 2 (.slice A2 nV c2) T100.out.t.nd rfl
          go_simp
          refine hK.out _ _ ⟨rc_cell 0 _ T100.out.t.nd rfl, trivial⟩ (fun hH110 => ?_)
          clear hK K
          try simp only [Act.put, List.setIfInBounds_toArray, List.set_cons_zero, List.set_cons_succ]
          refine wpAnyH_take (i := 5) (oi := { dst := some 39, op := Op.call { callee := Callee.builtin Builtin.len, args := #[Operand.tmp 38], argTypes := #[62] }, type := 3, pos := _, after := #[{ on := 4, ground := Ground.data }], guard := none }) (v := ?vw5111_5) rfl (by kernel_rfl) (by kernel_rfl) (by kernel_rfl) (fun _ _ _ h => h) (Or.inl ⟨by rfl, ?yw5111_5⟩) hH110 ?rw5111_5
          case yw5111_5 => (intro w hSw; (try dsimp only at hSw); go_simp; try (with_reducible rfl))
          try simp only [Act.put, List.setIfInBounds_toArray, List.set_cons_zero, List.set_cons_succ]
          refine wpAnyH_take (i := 6) (oi := { dst := some 40, op := Op.call { callee := Callee.builtin Builtin.min, args := #[Operand.tmp 36, Operand.tmp 39], argTypes := #[3, 3] }, type := 3, pos := _, after := #[{ on := 2, ground := Ground.data }, { on := 5, ground := Ground.data }], guard := none }) (v := ?vw5111_6) rfl (by kernel_rfl) (by kernel_rfl) (by kernel_rfl) (fun _ _ _ h => h) (Or.inl ⟨by rfl, ?yw5111_6⟩) hH110 ?rw5111_6
          case yw5111_6 => (intro w hSw; (try dsimp only at hSw); go_simp; try (with_reducible rfl))
          try simp only [Act.put, List.setIfInBounds_toArray, List.set_cons_zero, List.set_cons_succ]
          refine wpAnyH_ready (rs := [1]) (by kernel_rfl) (by simp) ?_
          refine (AllReadyH.cons (o := { dst := some 35, op := Op.load 62 (Operand.tmp 34), type := 62, pos := _, after := #[{ on := 0, ground := Ground.data }], guard := none }) rfl (fun K hK => ?_) AllReadyH.nil)
          have lc112 := rc_cell 2 (.slice A2 nV c2) T100.out.t.nd rfl
          go_simp
          refine hK.out _ _ ⟨rc_cell 0 _ T100.out.t.nd rfl, trivial⟩ (fun hH112 => ?_)
          clear hK K
          try simp only [Act.put, List.setIfInBounds_toArray, List.set_cons_zero, List.set_cons_succ]
          refine wpAnyH_ready (rs := [10]) (by kernel_rfl) (by simp) ?_
          refine (AllReadyH.cons (o := { dst := some 44, op := Op.call { callee := Callee.value (Operand.func 93), args := #[Operand.tmp 35, Operand.tmp 40, Operand.tmp 43], argTypes := #[62, 3, 62] }, type := 62, pos := _, after := #[{ on := 1, ground := Ground.data }, { on := 6, ground := Ground.data }, { on := 9, ground := Ground.data }, { on := 8, ground := Ground.chain }], guard := none }) rfl (fun K hK => ?_) AllReadyH.nil)
          go_simp
          refine (insert_any (w.heap.size + 2) A2 nV c2 i gE us62 (.slice TA nr tc) b100 OW100.out T100.out.t.sz (by omega) (by omega) RD100.out NV100.out ON62.out rfl).mono ?_
          rintro e x114 ⟨AE, cE, rfl, oE, gE'⟩
          have hE114 := RW62.out i TA tc val x114 AE cE (by omega) (by rw [HNR.out]; exact OT62.out) OL62.out HR.out.2 (by rw [HNR.out]; exact oE) (BA100.out _ _ gE')
          have HA114 := Lib.hid (T100.out.put2 OW100.out gE' hE114 oE (by omega) OL62.out OD62.out)
          have HF114 := Lib.hid ((gE'.1.block _ (lt_of_heap T100.out.t.nd) (OW100.out.ne_blk T100.out.t.nd (by decide)).symm).trans T100.out.t.nd)
          clear oE gE' hE114
          go_wp2_with fail
          refine hK.out _ _ ⟨rc_cell 0 _ HF114.out rfl, trivial⟩ (fun hH114 => ?_)
          clear hK K
          try simp only [Act.put, List.setIfInBounds_toArray, List.set_cons_zero, List.set_cons_succ]
          refine wpAnyH_take (i := 11) (oi := { dst := some 45, op := Op.fieldAddr 70 (Operand.tmp 4) 2, type := 0, pos := _, after := #[{ on := 0, ground := Ground.phase }, { on := 1, ground := Ground.phase }, { on := 2, ground := Ground.phase }, { on := 3, ground := Ground.phase }, { on := 4, ground := Ground.phase }, { on := 5, ground := Ground.phase }, { on := 6, ground := Ground.phase }, { on := 7, ground := Ground.phase }, { on := 8, ground := Ground.phase }, { on := 9, ground := Ground.phase }, { on := 10, ground := Ground.phase }], guard := none }) (v := ?vw5115_11) rfl (by kernel_rfl) (by kernel_rfl) (by kernel_rfl) (fun _ _ _ h => h) (Or.inl ⟨by rfl, ?yw5115_11⟩) hH114 ?rw5115_11
          case yw5115_11 => (intro w hSw; (try dsimp only at hSw); go_simp; try (with_reducible rfl))
          try simp only [Act.put, List.setIfInBounds_toArray, List.set_cons_zero, List.set_cons_succ]
          refine wpAnyH_ready (rs := [12]) (by kernel_rfl) (by simp) ?_
          refine (AllReadyH.cons (o := { dst := none, op := Op.store 62 (Operand.tmp 45) (Operand.tmp 44), type := 0, pos := _, after := #[{ on := 11, ground := Ground.data }, { on := 10, ground := Ground.data }, { on := 10, ground := Ground.chain }, { on := 0, ground := Ground.phase }, { on := 1, ground := Ground.phase }, { on := 2, ground := Ground.phase }, { on := 3, ground := Ground.phase }, { on := 4, ground := Ground.phase }, { on := 5, ground := Ground.phase }, { on := 6, ground := Ground.phase }, { on := 7, ground := Ground.phase }, { on := 8, ground := Ground.phase }, { on := 9, ground := Ground.phase }, { on := 10, ground := Ground.phase }], guard := none }) rfl (fun K hK => ?_) AllReadyH.nil)
          have c116 := rc_cell 2 (.slice A2 nV c2) HA114.out.1 rfl; have f116 := two_frozen (i := 2) HA114.out.1
          have T116 := Lib.hid HA114.out.2
          go_simp
          refine hK.out _ _ ⟨rc_cell 0 _ T116.out.t.nd rfl, trivial⟩ (fun hH116 => ?_)
          clear hK K
          try simp only [Act.put, List.setIfInBounds_toArray, List.set_cons_zero, List.set_cons_succ]
          clear HA114 c116 f116
          generalize x114.setCell ⟨w.heap.size, 2, none⟩ (.slice AE (nV + 1) cE) = s116 at *
          refine wpAnyH_done (by kernel_rfl) ?_ _
          go_wp2_with fail
          go_meet
          case rel => exact ⟨AE, cE, T116⟩
  obtain ⟨B2, d2', T2⟩ := hcut
  clear T1
  have F0 := T2
  go_upto_region 6 with fail
  have q0 := rc_cell 0 (.bool true) F0.out.t.nd rfl; have q1 := rc_cell 1 (.slice B1 (nK + 1) d1') F0.out.t.nd rfl; have q2 := rc_cell 2 (.slice B2 (nV + 1) d2') F0.out.t.nd rfl; have q3 := rc_cell 3 (.slice A3 nD c3) F0.out.t.nd rfl
  have z0 := rc_cell 0 (.bool false) F0.out.t.rs rfl; have fz0 := two_frozen (i := 0) F0.out.t.rs
  have z1 := rc_cell 1 (.slice none 0 0) F0.out.t.rs rfl; have fz1 := two_frozen (i := 1) F0.out.t.rs
  have z2 := rc_cell 2 (.slice none 0 0) F0.out.t.rs rfl; have fz2 := two_frozen (i := 2) F0.out.t.rs
  have z3 := rc_cell 3 (.slice none 0 0) F0.out.t.rs rfl; have fz3 := two_frozen (i := 3) F0.out.t.rs
  have HZ2 := Lib.hid (set4 wc (w.heap.size + 1) (.bool true) (.slice B1 (nK + 1) d1') (.slice B2 (nV + 1) d2') (.slice A3 nD c3) F0.out.t.rs)
  have R1 := Lib.hid ((F0.out.t.pk.set HZ2.out.2 F0.out.t.rs (by decide) (by decide)).mono (b := w.heap.size) (by omega)); have R2 := Lib.hid ((F0.out.t.pv.set HZ2.out.2 F0.out.t.rs (by decide) (by decide)).mono (b := w.heap.size) (by omega)); have R3 := Lib.hid ((F0.out.t.od.onl HZ2.out.2 (F0.out.t.od.ne_blk F0.out.t.rs (by decide))).mono (b := w.heap.size) (by omega)); have RA := Lib.hid F0.out.t.ap
  have RX : Hid (XD ((((wc.setCell ⟨w.heap.size + 1, 0, none⟩ (.bool true)).setCell ⟨w.heap.size + 1, 1, none⟩ (.slice B1 (nK + 1) d1')).setCell ⟨w.heap.size + 1, 2, none⟩ (.slice B2 (nV + 1) d2')).setCell ⟨w.heap.size + 1, 3, none⟩ (.slice A3 nD c3)) B1 (nK + 1) B2 (nV + 1)) := Lib.hid (by obtain ⟨us, ho, _⟩ := F0.out.t.pk.texts; obtain ⟨ts, hp, _⟩ := F0.out.t.pv.texts; exact F0.out.x.turn ho.rd hp.rd (ho.onl HZ2.out.2 (ho.ne_blk F0.out.t.rs (by decide))).rd (hp.onl HZ2.out.2 (hp.ne_blk F0.out.t.rs (by decide))).rd)
  have HBE := Lib.hid (F0.out.t.hb.trans ((HZ2.out.2.below (Nat.le_of_lt (lt_of_heap F0.out.t.rs))).mono (by omega)))
  go_wp2_with fail
  clear q0 q1 q2 q3; clear z0 z1 z2 z3; clear fz0 fz1 fz2 fz3
  generalize ((((wc.setCell ⟨w.heap.size + 1, 0, none⟩ (.bool true)).setCell ⟨w.heap.size + 1, 1, none⟩ (.slice B1 (nK + 1) d1')).setCell ⟨w.heap.size + 1, 2, none⟩ (.slice B2 (nV + 1) d2')).setCell ⟨w.heap.size + 1, 3, none⟩ (.slice A3 nD c3)) = wz at *
  have e0 := rc_cell 0 (.bool true) HZ2.out.1 rfl; have e1 := rc_cell 1 (.slice B1 (nK + 1) d1') HZ2.out.1 rfl; have e2 := rc_cell 2 (.slice B2 (nV + 1) d2') HZ2.out.1 rfl; have e3 := rc_cell 3 (.slice A3 nD c3) HZ2.out.1 rfl
  refine bodyPost_ret (v := .agg #[.bool true, .slice B1 (nK + 1) d1', .slice B2 (nV + 1) d2', .slice A3 nD c3]) (by simp [results, Try.f44, go_sem, Try.isAgg70, Try.sizeOf70, e0, e1, e2, e3]) rfl ⟨B1, d1', B2, d2', A3, c3, rfl, R1.out, R2.out, R3.out, RA.out, RX.out, HBE.out⟩
end Go.Proofs.Ytmjjbfcblmmipaa
