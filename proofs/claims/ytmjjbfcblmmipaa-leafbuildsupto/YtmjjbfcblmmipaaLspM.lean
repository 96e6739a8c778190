/- Words for the law of Split. -/
import Derived.Test.YtmjjbfcblmmipaaAwkL
import Derived.Test.YtmjjbfcblmmipaaSameN
namespace Go.Proofs.Ytmjjbfcblmmipaa
set_option linter.unusedVariables false
set_option linter.unusedSimpArgs false
open Go.RowKit
theorem few_is (lf : Bool) (AK : Option Addr) (nK cK : Nat) (AV : Option Addr) (nV cV : Nat) (AD : Option Addr) (nD cD : Nat) (m : Nat) (z : Int) (hz : z = ((m : Nat) : Int)) (mK mV mD : Nat) (e1 : min nK m = mK) (e2 : min nV m = mV) (e3 : min nD (m + 1) = mD) (w : World) (hm : m ≤ 100000) (hK : nK ≤ cK) (hV : nV ≤ cV) (hD : nD ≤ cD) (bK : nK ≤ 1048576) (bV : nV ≤ 1048576) (bD : nD ≤ 1048576) :
    Calls Try.prog 31 #[.agg (ndV lf AK nK cK AV nV cV AD nD cD), .int .i64 z] w fun e w' => e = .returned (.agg (ndV lf AK mK cK AV mV cV AD mD cD)) ∧ Below w.heap.size w w' := by
  subst hz e1 e2 e3; exact few_any lf AK nK cK AV nV cV AD nD cD m w hm hK hV hD bK bV bD
theorem set4g (W : World) (a : Nat) (v0 v1 v2 v3 z0 z1 z2 z3 : Value) (T : TypeId) (h : W.heap[a]? = some (.cells #[z0, z1, z2, z3] T (0, 0))) :
    ((((W.setCell ⟨a, 0, none⟩ v0).setCell ⟨a, 1, none⟩ v1).setCell ⟨a, 2, none⟩ v2).setCell ⟨a, 3, none⟩ v3).heap[a]? = some (.cells #[v0, v1, v2, v3] T (0, 0)) ∧ Onl a W ((((W.setCell ⟨a, 0, none⟩ v0).setCell ⟨a, 1, none⟩ v1).setCell ⟨a, 2, none⟩ v2).setCell ⟨a, 3, none⟩ v3) := by
  have e0 := rc_set (cs' := #[v0, z1, z2, z3]) 0 v0 h rfl
  have e1 := rc_set (cs' := #[v0, v1, z2, z3]) 1 v1 e0 rfl
  have e2 := rc_set (cs' := #[v0, v1, v2, z3]) 2 v2 e1 rfl
  have e3 := rc_set (cs' := #[v0, v1, v2, v3]) 3 v3 e2 rfl
  exact ⟨e3, (((onl_set _ a 0 _).trans (onl_set _ a 1 _)).trans (onl_set _ a 2 _)).trans (onl_set _ a 3 _)⟩
theorem Prts.cap {w : World} {base n c : Nat} {A : Option Addr} {xss : List (List Int)} (h : Prts w base A n c xss) : n ≤ c := by
  obtain ⟨_, vs, ho, _, _⟩ := h
  exact ho.cap
theorem Own.shp {w : World} {base n c : Nat} {e : TypeId} {A : Option Addr} {vs : List Value} (h : Own w base e A n c vs) : Shp A n := OwnK.shp (s := 1) h
theorem rsame_is (v : Bool) (la lb : Bool) (AK : Option Addr) (nK cK : Nat) (AV : Option Addr) (nV cV : Nat) (AD : Option Addr) (nD cD : Nat) (BK : Option Addr) (mK dK : Nat) (BV : Option Addr) (mV dV : Nat) (BD : Option Addr) (mD dD : Nat) (ks vs ls us : List (List Int)) (ds es : List Int) (w : World)
    (hv : decide (la = lb ∧ ks = ls ∧ vs = us ∧ ds = es) = v) (hx : Bss w AK nK ks) (hy : Bss w AV nV vs) (hz : Ins w AD nD ds) (hx' : Bss w BK mK ls) (hy' : Bss w BV mV us) (hz' : Ins w BD mD es)
    (bK : nK ≤ 1048576) (bV : nV ≤ 1048576) (bD : nD ≤ 1048576) (cK' : mK ≤ 1048576) (cV' : mV ≤ 1048576) (cD' : mD ≤ 1048576)
    (sK : ∀ xs ∈ ks, xs.length ≤ maxLen) (sV : ∀ xs ∈ vs, xs.length ≤ maxLen) (tK : ∀ xs ∈ ls, xs.length ≤ maxLen) (tV : ∀ xs ∈ us, xs.length ≤ maxLen) :
    Calls Try.prog 40 #[.agg (ndV la AK nK cK AV nV cV AD nD cD), .agg (ndV lb BK mK dK BV mV dV BD mD dD)] w fun e w' => e = .returned (.bool v) ∧ Below w.heap.size w w' := by
  rw [← hv]; exact rsame_any la lb AK nK cK AV nV cV AD nD cD BK mK dK BV mV dV BD mD dD ks vs ls us ds es w hx hy hz hx' hy' hz' bK bV bD cK' cV' cD' sK sV tK tV
theorem alloc2 (x : World) (c1 c2 : Array Value) (t : TypeId) :
    ((x.alloc (.cells c1 t)).alloc (.cells c2 t)).heap[x.heap.size]? = some (.cells c1 t (0, 0)) ∧ ((x.alloc (.cells c1 t)).alloc (.cells c2 t)).heap[x.heap.size + 1]? = some (.cells c2 t (0, 0)) ∧ Below x.heap.size x ((x.alloc (.cells c1 t)).alloc (.cells c2 t)) := by
  have b1 := below_alloc x (.cells c1 t)
  have b2 := below_alloc (x.alloc (.cells c1 t)) (.cells c2 t)
  have s1 : (x.alloc (.cells c1 t)).heap.size = x.heap.size + 1 := by simp
  have n1 := heap_alloc_new x (.cells c1 t)
  have n2 := heap_alloc_new (x.alloc (.cells c1 t)) (.cells c2 t)
  rw [s1] at n2
  exact ⟨(b2.block _ (by omega)).trans n1, n2, b1.trans (b2.mono (by omega))⟩
theorem take_take_le {α : Type} (l : List α) (i : Nat) : ∀ x ∈ l.take i, x ∈ l := fun x hx => List.mem_of_mem_take hx
/-- Walk's end for two equal keys. -/
theorem cmpL_refl0 (x : List Int) : ¬ 0 < cmpL x x := by rw [cmpL_self]; omega
/-- A node of few keys comes back as it is, copied. -/
def dF (lf : Bool) : Nat := if lf then 2 else 3
set_option maxRecDepth 100000 in
set_option maxHeartbeats 8000000 in
theorem psplitN_any (lf : Bool) (AK : Option Addr) (nK cK : Nat) (AV : Option Addr) (nV cV : Nat) (AD : Option Addr) (nD cD : Nat) (ks vs : List (List Int)) (ds : List Int) (w : World) (hx : Bss w AK nK ks) (hy : Bss w AV nV vs) (hz : Ins w AD nD ds) (sD : Shp AD nD)
    (hn : nK < dF lf) (bV : nV ≤ 100000) (bD : nD ≤ 100000) (lK : ∀ xs ∈ ks, xs.length ≤ 140737488355328) (lV : ∀ xs ∈ vs, xs.length ≤ 140737488355328) :
    Calls Try.prog 48 #[.agg (ndV lf AK nK cK AV nV cV AD nD cD)] w fun e w' => ∃ A1 c1 A2 c2 A3 c3, e = .returned (.tuple #[.agg (ndV lf A1 nK c1 A2 nV c2 A3 nD c3), .slice none 0 0, .agg ndZ]) ∧ Bss w' A1 nK ks ∧ Bss w' A2 nV vs ∧ Ins w' A3 nD ds ∧ Below w.heap.size w w' := by
  have HX := Lib.hid hx; have HY := Lib.hid hy; have HZ := Lib.hid hz; have HSD := Lib.hid sD; have HMK := Lib.hid lK; have HMV := Lib.hid lV
  have A3 := Lib.hid (alloc3 w (ndV lf AK nK cK AV nV cV AD nD cD) ndZ ndZ 70)
  have BX := Lib.hid A3.out.1; have RA := Lib.hid A3.out.2.1; have RB := Lib.hid A3.out.2.2.1; have HB := Lib.hid A3.out.2.2.2
  have bK : nK ≤ 100000 := by unfold dF at hn; split at hn <;> omega
  have q0 := rc_cell 0 (.bool lf) BX.out rfl; have q1 := rc_cell 1 (.slice AK nK cK) BX.out rfl; have q2 := rc_cell 2 (.slice AV nV cV) BX.out rfl; have q3 := rc_cell 3 (.slice AD nD cD) BX.out rfl
  have key : (decide ((nK : Int) < 2) = true) ∨ (decide ((nK : Int) < 2) = false ∧ lf = false ∧ decide ((nK : Int) < 3) = true) := by
    cases lf <;> simp [dF] at hn ⊢ <;> omega
  clear hx hy hz sD A3 lK lV hn
  rcases key with d1 | ⟨d1, hlf, d2⟩
  · go_enter Try.func48, Try.ntmps48
    go_wp2_with fail
    clear q0 q1 q2 q3
    generalize ((w.alloc (.cells (ndV lf AK nK cK AV nV cV AD nD cD) 70)).alloc (.cells ndZ 70)).alloc (.cells ndZ 70) = y at *
    refine (copied_any lf AK nK cK AV nV cV AD nD cD ks vs ds y (HX.out.keep HB.out) (HY.out.keep HB.out) (HZ.out.keep HB.out) HSD.out bK bV bD HMK.out HMV.out).mono ?_
    rintro e x1 ⟨D1, f1, D2, f2, D3, f3, rfl, p1, p2, p3, hb1⟩
    have P1 := Lib.hid p1; have P2 := Lib.hid p2; have P3 := Lib.hid p3
    have RA1 := Lib.hid ((hb1.block _ (lt_of_heap RA.out)).trans RA.out); have RB1 := Lib.hid ((hb1.block _ (lt_of_heap RB.out)).trans RB.out); have HB1 := Lib.hid (HB.out.trans (hb1.mono HB.out.size))
    have z0 := rc_cell 0 (.bool false) RA1.out rfl; have y0 := two_frozen (i := 0) RA1.out
    have z1 := rc_cell 1 (.slice none 0 0) RA1.out rfl; have y1 := two_frozen (i := 1) RA1.out
    have z2 := rc_cell 2 (.slice none 0 0) RA1.out rfl; have y2 := two_frozen (i := 2) RA1.out
    have z3 := rc_cell 3 (.slice none 0 0) RA1.out rfl; have y3 := two_frozen (i := 3) RA1.out
    have HZ1 := Lib.hid (set4 x1 (w.heap.size + 1) (.bool lf) (.slice D1 nK f1) (.slice D2 nV f2) (.slice D3 nD f3) RA1.out)
    have RB2 := Lib.hid ((HZ1.out.2.block (w.heap.size + 1 + 1) (lt_of_heap RB1.out) (by intro e; injection e with e; omega)).trans RB1.out)
    have u0 := rc_cell 0 (.bool false) RB2.out rfl; have t0 := two_frozen (i := 0) RB2.out
    have u1 := rc_cell 1 (.slice none 0 0) RB2.out rfl; have t1 := two_frozen (i := 1) RB2.out
    have u2 := rc_cell 2 (.slice none 0 0) RB2.out rfl; have t2 := two_frozen (i := 2) RB2.out
    have u3 := rc_cell 3 (.slice none 0 0) RB2.out rfl; have t3 := two_frozen (i := 3) RB2.out
    have HZ2 := Lib.hid (set4 ((((x1.setCell ⟨w.heap.size + 1, 0, none⟩ (.bool lf)).setCell ⟨w.heap.size + 1, 1, none⟩ (.slice D1 nK f1)).setCell ⟨w.heap.size + 1, 2, none⟩ (.slice D2 nV f2)).setCell ⟨w.heap.size + 1, 3, none⟩ (.slice D3 nD f3)) (w.heap.size + 1 + 1) (.bool false) (.slice none 0 0) (.slice none 0 0) (.slice none 0 0) RB2.out)
    have RA3 := Lib.hid ((HZ2.out.2.block (w.heap.size + 1) (lt_of_heap HZ1.out.1) (by intro e; injection e with e; omega)).trans HZ1.out.1)
    have Q1 := Lib.hid ((P1.out.set HZ1.out.2 RA1.out (by decide) (by decide)).set HZ2.out.2 RB2.out (by decide) (by decide)); have Q2 := Lib.hid ((P2.out.set HZ1.out.2 RA1.out (by decide) (by decide)).set HZ2.out.2 RB2.out (by decide) (by decide))
    have S3 := P3.out.onl HZ1.out.2 (P3.out.ne_blk RA1.out (by decide)); have Q3 := Lib.hid (S3.onl HZ2.out.2 (S3.ne_blk RB2.out (by decide)))
    have HB3 := Lib.hid (HB1.out.trans (((HZ1.out.2.below (Nat.le_of_lt (lt_of_heap RA1.out))).mono (by omega)).trans ((HZ2.out.2.below (Nat.le_of_lt (lt_of_heap RB2.out))).mono (by omega))))
    have N2 := Lib.hid HZ2.out.1
    clear p1 p2 p3 hb1 S3
    go_wp2_with fail
    clear HZ1 HZ2 z0 y0 u0 t0 z1 y1 u1 t1 z2 y2 u2 t2 z3 y3 u3 t3
    generalize ((((((((x1.setCell ⟨w.heap.size + 1, 0, none⟩ (.bool lf)).setCell ⟨w.heap.size + 1, 1, none⟩ (.slice D1 nK f1)).setCell ⟨w.heap.size + 1, 2, none⟩ (.slice D2 nV f2)).setCell ⟨w.heap.size + 1, 3, none⟩ (.slice D3 nD f3)).setCell ⟨w.heap.size + 1 + 1, 0, none⟩ (.bool false)).setCell ⟨w.heap.size + 1 + 1, 1, none⟩ (.slice none 0 0)).setCell ⟨w.heap.size + 1 + 1, 2, none⟩ (.slice none 0 0)).setCell ⟨w.heap.size + 1 + 1, 3, none⟩ (.slice none 0 0)) = sz at *
    have e0 := rc_cell 0 (.bool lf) RA3.out rfl
    have e1 := rc_cell 1 (.slice D1 nK f1) RA3.out rfl
    have e2 := rc_cell 2 (.slice D2 nV f2) RA3.out rfl
    have e3 := rc_cell 3 (.slice D3 nD f3) RA3.out rfl
    have h0 := rc_cell 0 (.bool false) N2.out rfl
    have h1 := rc_cell 1 (.slice none 0 0) N2.out rfl
    have h2 := rc_cell 2 (.slice none 0 0) N2.out rfl
    have h3 := rc_cell 3 (.slice none 0 0) N2.out rfl
    refine bodyPost_ret (v := .tuple #[.agg #[.bool lf, .slice D1 nK f1, .slice D2 nV f2, .slice D3 nD f3], .slice none 0 0, .agg #[.bool false, .slice none 0 0, .slice none 0 0, .slice none 0 0]]) (by simp [results, Try.f48, go_sem, Try.isAgg70, Try.sizeOf70, e0, e1, e2, e3, h0, h1, h2, h3]) rfl ⟨D1, f1, D2, f2, D3, f3, rfl, Q1.out.bss, Q2.out.bss, Ins.own Q3.out HZ.out.2, HB3.out⟩
  · subst hlf
    go_enter Try.func48, Try.ntmps48
    go_wp2_with fail
    clear q0 q1 q2 q3
    generalize ((w.alloc (.cells (ndV false AK nK cK AV nV cV AD nD cD) 70)).alloc (.cells ndZ 70)).alloc (.cells ndZ 70) = y at *
    refine (copied_any false AK nK cK AV nV cV AD nD cD ks vs ds y (HX.out.keep HB.out) (HY.out.keep HB.out) (HZ.out.keep HB.out) HSD.out bK bV bD HMK.out HMV.out).mono ?_
    rintro e x1 ⟨D1, f1, D2, f2, D3, f3, rfl, p1, p2, p3, hb1⟩
    have P1 := Lib.hid p1; have P2 := Lib.hid p2; have P3 := Lib.hid p3
    have RA1 := Lib.hid ((hb1.block _ (lt_of_heap RA.out)).trans RA.out); have RB1 := Lib.hid ((hb1.block _ (lt_of_heap RB.out)).trans RB.out); have HB1 := Lib.hid (HB.out.trans (hb1.mono HB.out.size))
    have z0 := rc_cell 0 (.bool false) RA1.out rfl; have y0 := two_frozen (i := 0) RA1.out
    have z1 := rc_cell 1 (.slice none 0 0) RA1.out rfl; have y1 := two_frozen (i := 1) RA1.out
    have z2 := rc_cell 2 (.slice none 0 0) RA1.out rfl; have y2 := two_frozen (i := 2) RA1.out
    have z3 := rc_cell 3 (.slice none 0 0) RA1.out rfl; have y3 := two_frozen (i := 3) RA1.out
    have HZ1 := Lib.hid (set4 x1 (w.heap.size + 1) (.bool false) (.slice D1 nK f1) (.slice D2 nV f2) (.slice D3 nD f3) RA1.out)
    have RB2 := Lib.hid ((HZ1.out.2.block (w.heap.size + 1 + 1) (lt_of_heap RB1.out) (by intro e; injection e with e; omega)).trans RB1.out)
    have u0 := rc_cell 0 (.bool false) RB2.out rfl; have t0 := two_frozen (i := 0) RB2.out
    have u1 := rc_cell 1 (.slice none 0 0) RB2.out rfl; have t1 := two_frozen (i := 1) RB2.out
    have u2 := rc_cell 2 (.slice none 0 0) RB2.out rfl; have t2 := two_frozen (i := 2) RB2.out
    have u3 := rc_cell 3 (.slice none 0 0) RB2.out rfl; have t3 := two_frozen (i := 3) RB2.out
    have HZ2 := Lib.hid (set4 ((((x1.setCell ⟨w.heap.size + 1, 0, none⟩ (.bool false)).setCell ⟨w.heap.size + 1, 1, none⟩ (.slice D1 nK f1)).setCell ⟨w.heap.size + 1, 2, none⟩ (.slice D2 nV f2)).setCell ⟨w.heap.size + 1, 3, none⟩ (.slice D3 nD f3)) (w.heap.size + 1 + 1) (.bool false) (.slice none 0 0) (.slice none 0 0) (.slice none 0 0) RB2.out)
    have RA3 := Lib.hid ((HZ2.out.2.block (w.heap.size + 1) (lt_of_heap HZ1.out.1) (by intro e; injection e with e; omega)).trans HZ1.out.1)
    have Q1 := Lib.hid ((P1.out.set HZ1.out.2 RA1.out (by decide) (by decide)).set HZ2.out.2 RB2.out (by decide) (by decide)); have Q2 := Lib.hid ((P2.out.set HZ1.out.2 RA1.out (by decide) (by decide)).set HZ2.out.2 RB2.out (by decide) (by decide))
    have S3 := P3.out.onl HZ1.out.2 (P3.out.ne_blk RA1.out (by decide)); have Q3 := Lib.hid (S3.onl HZ2.out.2 (S3.ne_blk RB2.out (by decide)))
    have HB3 := Lib.hid (HB1.out.trans (((HZ1.out.2.below (Nat.le_of_lt (lt_of_heap RA1.out))).mono (by omega)).trans ((HZ2.out.2.below (Nat.le_of_lt (lt_of_heap RB2.out))).mono (by omega))))
    have N2 := Lib.hid HZ2.out.1
    clear p1 p2 p3 hb1 S3
    go_wp2_with fail
    clear HZ1 HZ2 z0 y0 u0 t0 z1 y1 u1 t1 z2 y2 u2 t2 z3 y3 u3 t3
    generalize ((((((((x1.setCell ⟨w.heap.size + 1, 0, none⟩ (.bool false)).setCell ⟨w.heap.size + 1, 1, none⟩ (.slice D1 nK f1)).setCell ⟨w.heap.size + 1, 2, none⟩ (.slice D2 nV f2)).setCell ⟨w.heap.size + 1, 3, none⟩ (.slice D3 nD f3)).setCell ⟨w.heap.size + 1 + 1, 0, none⟩ (.bool false)).setCell ⟨w.heap.size + 1 + 1, 1, none⟩ (.slice none 0 0)).setCell ⟨w.heap.size + 1 + 1, 2, none⟩ (.slice none 0 0)).setCell ⟨w.heap.size + 1 + 1, 3, none⟩ (.slice none 0 0)) = sz at *
    have e0 := rc_cell 0 (.bool false) RA3.out rfl
    have e1 := rc_cell 1 (.slice D1 nK f1) RA3.out rfl
    have e2 := rc_cell 2 (.slice D2 nV f2) RA3.out rfl
    have e3 := rc_cell 3 (.slice D3 nD f3) RA3.out rfl
    have h0 := rc_cell 0 (.bool false) N2.out rfl
    have h1 := rc_cell 1 (.slice none 0 0) N2.out rfl
    have h2 := rc_cell 2 (.slice none 0 0) N2.out rfl
    have h3 := rc_cell 3 (.slice none 0 0) N2.out rfl
    refine bodyPost_ret (v := .tuple #[.agg #[.bool false, .slice D1 nK f1, .slice D2 nV f2, .slice D3 nD f3], .slice none 0 0, .agg #[.bool false, .slice none 0 0, .slice none 0 0, .slice none 0 0]]) (by simp [results, Try.f48, go_sem, Try.isAgg70, Try.sizeOf70, e0, e1, e2, e3, h0, h1, h2, h3]) rfl ⟨D1, f1, D2, f2, D3, f3, rfl, Q1.out.bss, Q2.out.bss, Ins.own Q3.out HZ.out.2, HB3.out⟩
set_option maxRecDepth 100000 in
set_option maxHeartbeats 8000000 in
theorem rsplitN_any (lf : Bool) (AK : Option Addr) (nK cK : Nat) (AV : Option Addr) (nV cV : Nat) (AD : Option Addr) (nD cD : Nat) (w : World) (hn : nK < dF lf) :
    Calls Try.prog 49 #[.agg (ndV lf AK nK cK AV nV cV AD nD cD)] w fun e w' => e = .returned (.tuple #[.agg (ndV lf AK nK cK AV nV cV AD nD cD), .slice none 0 0, .agg ndZ]) ∧ Below w.heap.size w w' := by
  have A3 := Lib.hid (alloc3 w (ndV lf AK nK cK AV nV cV AD nD cD) ndZ ndZ 66)
  have BX := Lib.hid A3.out.1; have RA := Lib.hid A3.out.2.1; have RB := Lib.hid A3.out.2.2.1; have HB := Lib.hid A3.out.2.2.2
  have q0 := rc_cell 0 (.bool lf) BX.out rfl; have q1 := rc_cell 1 (.slice AK nK cK) BX.out rfl; have q2 := rc_cell 2 (.slice AV nV cV) BX.out rfl; have q3 := rc_cell 3 (.slice AD nD cD) BX.out rfl
  cases lf with
  | true =>
    have d1 : decide ((nK : Int) < 2) = true := by simp [dF] at hn ⊢; omega
    go_enter Try.func49, Try.ntmps49
    have z0 := rc_cell 0 (.bool false) RA.out rfl; have y0 := two_frozen (i := 0) RA.out
    have z1 := rc_cell 1 (.slice none 0 0) RA.out rfl; have y1 := two_frozen (i := 1) RA.out
    have z2 := rc_cell 2 (.slice none 0 0) RA.out rfl; have y2 := two_frozen (i := 2) RA.out
    have z3 := rc_cell 3 (.slice none 0 0) RA.out rfl; have y3 := two_frozen (i := 3) RA.out
    have HZ1 := Lib.hid (set4g (((w.alloc (.cells (ndV true AK nK cK AV nV cV AD nD cD) 66)).alloc (.cells ndZ 66)).alloc (.cells ndZ 66)) (w.heap.size + 1) (.bool true) (.slice AK nK cK) (.slice AV nV cV) (.slice AD nD cD) _ _ _ _ 66 RA.out)
    have RB2 := Lib.hid ((HZ1.out.2.block (w.heap.size + 1 + 1) (lt_of_heap RB.out) (by intro e; injection e with e; omega)).trans RB.out)
    have u0 := rc_cell 0 (.bool false) RB2.out rfl; have t0 := two_frozen (i := 0) RB2.out
    have u1 := rc_cell 1 (.slice none 0 0) RB2.out rfl; have t1 := two_frozen (i := 1) RB2.out
    have u2 := rc_cell 2 (.slice none 0 0) RB2.out rfl; have t2 := two_frozen (i := 2) RB2.out
    have u3 := rc_cell 3 (.slice none 0 0) RB2.out rfl; have t3 := two_frozen (i := 3) RB2.out
    go_wp2_with fail
    have NN := Lib.hid (alloc3 w (ndV true AK nK cK AV nV cV AD nD cD) (ndV true AK nK cK AV nV cV AD nD cD) ndZ 66)
    have NA := NN.out.2.1; have NB := NN.out.2.2.1
    have e0 := rc_cell 0 (.bool true) NA rfl
    have e1 := rc_cell 1 (.slice AK nK cK) NA rfl
    have e2 := rc_cell 2 (.slice AV nV cV) NA rfl
    have e3 := rc_cell 3 (.slice AD nD cD) NA rfl
    have h0 := rc_cell 0 (.bool false) NB rfl
    have h1 := rc_cell 1 (.slice none 0 0) NB rfl
    have h2 := rc_cell 2 (.slice none 0 0) NB rfl
    have h3 := rc_cell 3 (.slice none 0 0) NB rfl
    refine bodyPost_ret (v := .tuple #[.agg #[.bool true, .slice AK nK cK, .slice AV nV cV, .slice AD nD cD], .slice none 0 0, .agg #[.bool false, .slice none 0 0, .slice none 0 0, .slice none 0 0]]) (by simp [results, Try.f49, go_sem, Try.isAgg66, Try.sizeOf66, e0, e1, e2, e3, h0, h1, h2, h3]) rfl ⟨rfl, NN.out.2.2.2⟩
  | false =>
    have d1 : decide ((nK : Int) < 3) = true := by simp [dF] at hn ⊢; omega
    go_enter Try.func49, Try.ntmps49
    have z0 := rc_cell 0 (.bool false) RA.out rfl; have y0 := two_frozen (i := 0) RA.out
    have z1 := rc_cell 1 (.slice none 0 0) RA.out rfl; have y1 := two_frozen (i := 1) RA.out
    have z2 := rc_cell 2 (.slice none 0 0) RA.out rfl; have y2 := two_frozen (i := 2) RA.out
    have z3 := rc_cell 3 (.slice none 0 0) RA.out rfl; have y3 := two_frozen (i := 3) RA.out
    have HZ1 := Lib.hid (set4g (((w.alloc (.cells (ndV false AK nK cK AV nV cV AD nD cD) 66)).alloc (.cells ndZ 66)).alloc (.cells ndZ 66)) (w.heap.size + 1) (.bool false) (.slice AK nK cK) (.slice AV nV cV) (.slice AD nD cD) _ _ _ _ 66 RA.out)
    have RB2 := Lib.hid ((HZ1.out.2.block (w.heap.size + 1 + 1) (lt_of_heap RB.out) (by intro e; injection e with e; omega)).trans RB.out)
    have u0 := rc_cell 0 (.bool false) RB2.out rfl; have t0 := two_frozen (i := 0) RB2.out
    have u1 := rc_cell 1 (.slice none 0 0) RB2.out rfl; have t1 := two_frozen (i := 1) RB2.out
    have u2 := rc_cell 2 (.slice none 0 0) RB2.out rfl; have t2 := two_frozen (i := 2) RB2.out
    have u3 := rc_cell 3 (.slice none 0 0) RB2.out rfl; have t3 := two_frozen (i := 3) RB2.out
    go_wp2_with fail
    have NN := Lib.hid (alloc3 w (ndV false AK nK cK AV nV cV AD nD cD) (ndV false AK nK cK AV nV cV AD nD cD) ndZ 66)
    have NA := NN.out.2.1; have NB := NN.out.2.2.1
    have e0 := rc_cell 0 (.bool false) NA rfl
    have e1 := rc_cell 1 (.slice AK nK cK) NA rfl
    have e2 := rc_cell 2 (.slice AV nV cV) NA rfl
    have e3 := rc_cell 3 (.slice AD nD cD) NA rfl
    have h0 := rc_cell 0 (.bool false) NB rfl
    have h1 := rc_cell 1 (.slice none 0 0) NB rfl
    have h2 := rc_cell 2 (.slice none 0 0) NB rfl
    have h3 := rc_cell 3 (.slice none 0 0) NB rfl
    refine bodyPost_ret (v := .tuple #[.agg #[.bool false, .slice AK nK cK, .slice AV nV cV, .slice AD nD cD], .slice none 0 0, .agg #[.bool false, .slice none 0 0, .slice none 0 0, .slice none 0 0]]) (by simp [results, Try.f49, go_sem, Try.isAgg66, Try.sizeOf66, e0, e1, e2, e3, h0, h1, h2, h3]) rfl ⟨rfl, NN.out.2.2.2⟩
end Go.Proofs.Ytmjjbfcblmmipaa
