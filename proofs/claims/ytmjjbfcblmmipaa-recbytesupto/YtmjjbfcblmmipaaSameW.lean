/- The reference's Same of two records that read the same; Told. -/
import Derived.Test.YtmjjbfcblmmipaaSameA
import Derived.BigRegion
import Derived.Laws.Rows
namespace Go.Proofs.Ytmjjbfcblmmipaa
set_option linter.unusedVariables false
set_option linter.unusedSimpArgs false
open Go.RowKit

theorem Ins.at2 {w : World} {A : Option Addr} {n k : Nat} {ls : List Int} (h : Ins w A n ls) (hk : k < n) : ∃ b off x, A = some ⟨b, off, none⟩ ∧ b < w.heap.size ∧ Hid (ls[k]? = some x) ∧ w.cell? ⟨b, off + k, none⟩ = some (.int .i64 x) := by
  obtain ⟨b, off, u, rfl, hb, hc, HU⟩ := h.1.at_ hk
  have hk' : k < ls.length := by have := h.len; omega
  have hu := HU.out
  rw [List.getElem?_map, List.getElem?_eq_getElem hk'] at hu
  simp only [Option.map_some, Option.some.injEq] at hu
  subst hu
  exact ⟨b, off, ls[k], rfl, hb, List.getElem?_eq_getElem hk', hc⟩
set_option maxRecDepth 100000 in
set_option maxHeartbeats 8000000 in
theorem same_core (k b s q : Int) (f : Bool) (i : Int) (S : ByteArray) (AW BW : Option Addr) (nW cW dW : Nat) (AR BR : Option Addr) (nR cR dR : Nat) (AS BS : Option Addr) (nS cS dS : Nat) (AP BP : Option Addr) (nP cP dP : Nat) (ws rs : List Tr) (sh rp : List Int) (w : World)
    (w1 : Trs w AW nW ws) (w2 : Trs w BW nW ws) (r1 : Trs w AR nR rs) (r2 : Trs w BR nR rs) (s1 : Ins w AS nS sh) (s2 : Ins w BS nS sh) (p1 : Bs w AP nP rp) (p2 : Bs w BP nP rp)
    (bW : nW ≤ 20000000) (bR : nR ≤ 20000000) (bS : nS ≤ 20000000) (bP : nP ≤ maxLen) (hw : ∀ t ∈ ws, t.a.length ≤ maxLen ∧ t.b.length ≤ maxLen) (hr : ∀ t ∈ rs, t.a.length ≤ maxLen ∧ t.b.length ≤ maxLen) :
    Calls Try.prog 18 #[.agg (rcV k b s q AW nW cW AR nR cR f AS nS cS AP nP cP i S), .agg (rcV k b s q BW nW dW BR nR dR f BS nS dS BP nP dP i S)] w fun e w' => e = .returned (.bool true) ∧ Below w.heap.size w w' := by
  have hb1 := below_alloc w (.cells (rcV k b s q AW nW cW AR nR cR f AS nS cS AP nP cP i S) 30)
  have hsz : (w.alloc (.cells (rcV k b s q AW nW cW AR nR cR f AS nS cS AP nP cP i S) 30)).heap.size = w.heap.size + 1 := by simp
  have hb2 := below_alloc (w.alloc (.cells (rcV k b s q AW nW cW AR nR cR f AS nS cS AP nP cP i S) 30)) (.cells (rcV k b s q BW nW dW BR nR dR f BS nS dS BP nP dP i S) 30)
  have HB := Lib.hid (hb1.trans (hb2.mono (by omega)))
  have HX1 := Lib.hid ((hb2.block w.heap.size (by omega)).trans (heap_alloc_new w (.cells (rcV k b s q AW nW cW AR nR cR f AS nS cS AP nP cP i S) 30)))
  have hx2 := heap_alloc_new (w.alloc (.cells (rcV k b s q AW nW cW AR nR cR f AS nS cS AP nP cP i S) 30)) (.cells (rcV k b s q BW nW dW BR nR dR f BS nS dS BP nP dP i S) 30)
  rw [hsz] at hx2
  have HX2 := Lib.hid hx2
  have HW1 := Lib.hid (w1.keep HB.out); have HW2 := Lib.hid (w2.keep HB.out); have HR1 := Lib.hid (r1.keep HB.out); have HR2 := Lib.hid (r2.keep HB.out); have hs1 := s1.keep HB.out; have hs2 := s2.keep HB.out; have HP1 := Lib.hid (p1.keep HB.out); have HP2 := Lib.hid (p2.keep HB.out)
  have HV := Lib.hid (cmpL_same rp)
  have HHW := Lib.hid hw; have HHR := Lib.hid hr
  clear w1 w2 r1 r2 s1 s2 p1 p2 hb1 hb2 hsz hx2 hw hr
  have ua0 := rc_cell (w := ((w.alloc (.cells (rcV k b s q AW nW cW AR nR cR f AS nS cS AP nP cP i S) 30)).alloc (.cells (rcV k b s q BW nW dW BR nR dR f BS nS dS BP nP dP i S) 30))) 0 (.int .i64 k) HX1.out rfl
  have ub0 := rc_cell (w := ((w.alloc (.cells (rcV k b s q AW nW cW AR nR cR f AS nS cS AP nP cP i S) 30)).alloc (.cells (rcV k b s q BW nW dW BR nR dR f BS nS dS BP nP dP i S) 30))) 0 (.int .i64 k) HX2.out rfl
  have ua1 := rc_cell (w := ((w.alloc (.cells (rcV k b s q AW nW cW AR nR cR f AS nS cS AP nP cP i S) 30)).alloc (.cells (rcV k b s q BW nW dW BR nR dR f BS nS dS BP nP dP i S) 30))) 1 (.int .u64 b) HX1.out rfl
  have ub1 := rc_cell (w := ((w.alloc (.cells (rcV k b s q AW nW cW AR nR cR f AS nS cS AP nP cP i S) 30)).alloc (.cells (rcV k b s q BW nW dW BR nR dR f BS nS dS BP nP dP i S) 30))) 1 (.int .u64 b) HX2.out rfl
  have ua2 := rc_cell (w := ((w.alloc (.cells (rcV k b s q AW nW cW AR nR cR f AS nS cS AP nP cP i S) 30)).alloc (.cells (rcV k b s q BW nW dW BR nR dR f BS nS dS BP nP dP i S) 30))) 2 (.int .u64 s) HX1.out rfl
  have ub2 := rc_cell (w := ((w.alloc (.cells (rcV k b s q AW nW cW AR nR cR f AS nS cS AP nP cP i S) 30)).alloc (.cells (rcV k b s q BW nW dW BR nR dR f BS nS dS BP nP dP i S) 30))) 2 (.int .u64 s) HX2.out rfl
  have ua3 := rc_cell (w := ((w.alloc (.cells (rcV k b s q AW nW cW AR nR cR f AS nS cS AP nP cP i S) 30)).alloc (.cells (rcV k b s q BW nW dW BR nR dR f BS nS dS BP nP dP i S) 30))) 3 (.int .u64 q) HX1.out rfl
  have ub3 := rc_cell (w := ((w.alloc (.cells (rcV k b s q AW nW cW AR nR cR f AS nS cS AP nP cP i S) 30)).alloc (.cells (rcV k b s q BW nW dW BR nR dR f BS nS dS BP nP dP i S) 30))) 3 (.int .u64 q) HX2.out rfl
  have ua4 := rc_cell (w := ((w.alloc (.cells (rcV k b s q AW nW cW AR nR cR f AS nS cS AP nP cP i S) 30)).alloc (.cells (rcV k b s q BW nW dW BR nR dR f BS nS dS BP nP dP i S) 30))) 4 (.slice AW nW cW) HX1.out rfl
  have ub4 := rc_cell (w := ((w.alloc (.cells (rcV k b s q AW nW cW AR nR cR f AS nS cS AP nP cP i S) 30)).alloc (.cells (rcV k b s q BW nW dW BR nR dR f BS nS dS BP nP dP i S) 30))) 4 (.slice BW nW dW) HX2.out rfl
  have ua5 := rc_cell (w := ((w.alloc (.cells (rcV k b s q AW nW cW AR nR cR f AS nS cS AP nP cP i S) 30)).alloc (.cells (rcV k b s q BW nW dW BR nR dR f BS nS dS BP nP dP i S) 30))) 5 (.slice AR nR cR) HX1.out rfl
  have ub5 := rc_cell (w := ((w.alloc (.cells (rcV k b s q AW nW cW AR nR cR f AS nS cS AP nP cP i S) 30)).alloc (.cells (rcV k b s q BW nW dW BR nR dR f BS nS dS BP nP dP i S) 30))) 5 (.slice BR nR dR) HX2.out rfl
  have ua6 := rc_cell (w := ((w.alloc (.cells (rcV k b s q AW nW cW AR nR cR f AS nS cS AP nP cP i S) 30)).alloc (.cells (rcV k b s q BW nW dW BR nR dR f BS nS dS BP nP dP i S) 30))) 6 (.bool f) HX1.out rfl
  have ub6 := rc_cell (w := ((w.alloc (.cells (rcV k b s q AW nW cW AR nR cR f AS nS cS AP nP cP i S) 30)).alloc (.cells (rcV k b s q BW nW dW BR nR dR f BS nS dS BP nP dP i S) 30))) 6 (.bool f) HX2.out rfl
  have ua7 := rc_cell (w := ((w.alloc (.cells (rcV k b s q AW nW cW AR nR cR f AS nS cS AP nP cP i S) 30)).alloc (.cells (rcV k b s q BW nW dW BR nR dR f BS nS dS BP nP dP i S) 30))) 7 (.slice AS nS cS) HX1.out rfl
  have ub7 := rc_cell (w := ((w.alloc (.cells (rcV k b s q AW nW cW AR nR cR f AS nS cS AP nP cP i S) 30)).alloc (.cells (rcV k b s q BW nW dW BR nR dR f BS nS dS BP nP dP i S) 30))) 7 (.slice BS nS dS) HX2.out rfl
  have ua8 := rc_cell (w := ((w.alloc (.cells (rcV k b s q AW nW cW AR nR cR f AS nS cS AP nP cP i S) 30)).alloc (.cells (rcV k b s q BW nW dW BR nR dR f BS nS dS BP nP dP i S) 30))) 8 (.slice AP nP cP) HX1.out rfl
  have ub8 := rc_cell (w := ((w.alloc (.cells (rcV k b s q AW nW cW AR nR cR f AS nS cS AP nP cP i S) 30)).alloc (.cells (rcV k b s q BW nW dW BR nR dR f BS nS dS BP nP dP i S) 30))) 8 (.slice BP nP dP) HX2.out rfl
  have ua9 := rc_cell (w := ((w.alloc (.cells (rcV k b s q AW nW cW AR nR cR f AS nS cS AP nP cP i S) 30)).alloc (.cells (rcV k b s q BW nW dW BR nR dR f BS nS dS BP nP dP i S) 30))) 9 (.int .u64 i) HX1.out rfl
  have ub9 := rc_cell (w := ((w.alloc (.cells (rcV k b s q AW nW cW AR nR cR f AS nS cS AP nP cP i S) 30)).alloc (.cells (rcV k b s q BW nW dW BR nR dR f BS nS dS BP nP dP i S) 30))) 9 (.int .u64 i) HX2.out rfl
  have ua10 := rc_cell (w := ((w.alloc (.cells (rcV k b s q AW nW cW AR nR cR f AS nS cS AP nP cP i S) 30)).alloc (.cells (rcV k b s q BW nW dW BR nR dR f BS nS dS BP nP dP i S) 30))) 10 (.string S) HX1.out rfl
  have ub10 := rc_cell (w := ((w.alloc (.cells (rcV k b s q AW nW cW AR nR cR f AS nS cS AP nP cP i S) 30)).alloc (.cells (rcV k b s q BW nW dW BR nR dR f BS nS dS BP nP dP i S) 30))) 10 (.string S) HX2.out rfl
  go_enter Try.func18, Try.ntmps18
  go_wp2_with fail
  refine (equal_is AP BP nP nP cP dP rp rp true HV.out _ HP1.out HP2.out bP bP).mono ?_
  rintro e w' ⟨rfl, q0, rfl⟩
  generalize ((w.alloc (.cells (rcV k b s q AW nW cW AR nR cR f AS nS cS AP nP cP i S) 30)).alloc (.cells (rcV k b s q BW nW dW BR nR dR f BS nS dS BP nP dP i S) 30)) = W at *
  have va0 := rc_cell (w := (W.drewN q0)) 0 (.int .i64 k) HX1.out rfl
  have vb0 := rc_cell (w := (W.drewN q0)) 0 (.int .i64 k) HX2.out rfl
  have va1 := rc_cell (w := (W.drewN q0)) 1 (.int .u64 b) HX1.out rfl
  have vb1 := rc_cell (w := (W.drewN q0)) 1 (.int .u64 b) HX2.out rfl
  have va2 := rc_cell (w := (W.drewN q0)) 2 (.int .u64 s) HX1.out rfl
  have vb2 := rc_cell (w := (W.drewN q0)) 2 (.int .u64 s) HX2.out rfl
  have va3 := rc_cell (w := (W.drewN q0)) 3 (.int .u64 q) HX1.out rfl
  have vb3 := rc_cell (w := (W.drewN q0)) 3 (.int .u64 q) HX2.out rfl
  have va4 := rc_cell (w := (W.drewN q0)) 4 (.slice AW nW cW) HX1.out rfl
  have vb4 := rc_cell (w := (W.drewN q0)) 4 (.slice BW nW dW) HX2.out rfl
  have va5 := rc_cell (w := (W.drewN q0)) 5 (.slice AR nR cR) HX1.out rfl
  have vb5 := rc_cell (w := (W.drewN q0)) 5 (.slice BR nR dR) HX2.out rfl
  have va6 := rc_cell (w := (W.drewN q0)) 6 (.bool f) HX1.out rfl
  have vb6 := rc_cell (w := (W.drewN q0)) 6 (.bool f) HX2.out rfl
  have va7 := rc_cell (w := (W.drewN q0)) 7 (.slice AS nS cS) HX1.out rfl
  have vb7 := rc_cell (w := (W.drewN q0)) 7 (.slice BS nS dS) HX2.out rfl
  have va8 := rc_cell (w := (W.drewN q0)) 8 (.slice AP nP cP) HX1.out rfl
  have vb8 := rc_cell (w := (W.drewN q0)) 8 (.slice BP nP dP) HX2.out rfl
  have va9 := rc_cell (w := (W.drewN q0)) 9 (.int .u64 i) HX1.out rfl
  have vb9 := rc_cell (w := (W.drewN q0)) 9 (.int .u64 i) HX2.out rfl
  have va10 := rc_cell (w := (W.drewN q0)) 10 (.string S) HX1.out rfl
  have vb10 := rc_cell (w := (W.drewN q0)) 10 (.string S) HX2.out rfl
  go_wp2
  clear ua0 ub0 ua1 ub1 ua2 ub2 ua3 ub3 ua4 ub4 ua5 ub5 ua6 ub6 ua7 ub7 ua8 ub8 ua9 ub9 ua10 ub10
  clear va0 vb0 va1 vb1 va2 vb2 va3 vb3 va4 vb4 va5 vb5 va6 vb6 va7 vb7 va8 vb8 va9 vb9 va10 vb10
  go_loopw [5] (fun iv wr => ∃ kk qq : Nat, kk ≤ nS ∧ iv = .int .i64 kk ∧ wr = W.drewN qq) (fun iv _ => nS - (intOf iv).toNat)
  case atStart => exact ⟨0, q0, Nat.zero_le _, rfl, rfl⟩
  case round =>
    obtain ⟨kk, qq, hk, rfl, rfl⟩ := hrel
    have ua0 := rc_cell (w := W) 0 (.int .i64 k) HX1.out rfl
    have ub0 := rc_cell (w := W) 0 (.int .i64 k) HX2.out rfl
    have ua1 := rc_cell (w := W) 1 (.int .u64 b) HX1.out rfl
    have ub1 := rc_cell (w := W) 1 (.int .u64 b) HX2.out rfl
    have ua2 := rc_cell (w := W) 2 (.int .u64 s) HX1.out rfl
    have ub2 := rc_cell (w := W) 2 (.int .u64 s) HX2.out rfl
    have ua3 := rc_cell (w := W) 3 (.int .u64 q) HX1.out rfl
    have ub3 := rc_cell (w := W) 3 (.int .u64 q) HX2.out rfl
    have ua4 := rc_cell (w := W) 4 (.slice AW nW cW) HX1.out rfl
    have ub4 := rc_cell (w := W) 4 (.slice BW nW dW) HX2.out rfl
    have ua5 := rc_cell (w := W) 5 (.slice AR nR cR) HX1.out rfl
    have ub5 := rc_cell (w := W) 5 (.slice BR nR dR) HX2.out rfl
    have ua6 := rc_cell (w := W) 6 (.bool f) HX1.out rfl
    have ub6 := rc_cell (w := W) 6 (.bool f) HX2.out rfl
    have ua7 := rc_cell (w := W) 7 (.slice AS nS cS) HX1.out rfl
    have ub7 := rc_cell (w := W) 7 (.slice BS nS dS) HX2.out rfl
    have ua8 := rc_cell (w := W) 8 (.slice AP nP cP) HX1.out rfl
    have ub8 := rc_cell (w := W) 8 (.slice BP nP dP) HX2.out rfl
    have ua9 := rc_cell (w := W) 9 (.int .u64 i) HX1.out rfl
    have ub9 := rc_cell (w := W) 9 (.int .u64 i) HX2.out rfl
    have ua10 := rc_cell (w := W) 10 (.string S) HX1.out rfl
    have ub10 := rc_cell (w := W) 10 (.string S) HX2.out rfl
    have va0 := rc_cell (w := (W.drewN qq)) 0 (.int .i64 k) HX1.out rfl
    have vb0 := rc_cell (w := (W.drewN qq)) 0 (.int .i64 k) HX2.out rfl
    have va1 := rc_cell (w := (W.drewN qq)) 1 (.int .u64 b) HX1.out rfl
    have vb1 := rc_cell (w := (W.drewN qq)) 1 (.int .u64 b) HX2.out rfl
    have va2 := rc_cell (w := (W.drewN qq)) 2 (.int .u64 s) HX1.out rfl
    have vb2 := rc_cell (w := (W.drewN qq)) 2 (.int .u64 s) HX2.out rfl
    have va3 := rc_cell (w := (W.drewN qq)) 3 (.int .u64 q) HX1.out rfl
    have vb3 := rc_cell (w := (W.drewN qq)) 3 (.int .u64 q) HX2.out rfl
    have va4 := rc_cell (w := (W.drewN qq)) 4 (.slice AW nW cW) HX1.out rfl
    have vb4 := rc_cell (w := (W.drewN qq)) 4 (.slice BW nW dW) HX2.out rfl
    have va5 := rc_cell (w := (W.drewN qq)) 5 (.slice AR nR cR) HX1.out rfl
    have vb5 := rc_cell (w := (W.drewN qq)) 5 (.slice BR nR dR) HX2.out rfl
    have va6 := rc_cell (w := (W.drewN qq)) 6 (.bool f) HX1.out rfl
    have vb6 := rc_cell (w := (W.drewN qq)) 6 (.bool f) HX2.out rfl
    have va7 := rc_cell (w := (W.drewN qq)) 7 (.slice AS nS cS) HX1.out rfl
    have vb7 := rc_cell (w := (W.drewN qq)) 7 (.slice BS nS dS) HX2.out rfl
    have va8 := rc_cell (w := (W.drewN qq)) 8 (.slice AP nP cP) HX1.out rfl
    have vb8 := rc_cell (w := (W.drewN qq)) 8 (.slice BP nP dP) HX2.out rfl
    have va9 := rc_cell (w := (W.drewN qq)) 9 (.int .u64 i) HX1.out rfl
    have vb9 := rc_cell (w := (W.drewN qq)) 9 (.int .u64 i) HX2.out rfl
    have va10 := rc_cell (w := (W.drewN qq)) 10 (.string S) HX1.out rfl
    have vb10 := rc_cell (w := (W.drewN qq)) 10 (.string S) HX2.out rfl
    by_cases hlt : kk < nS
    · obtain ⟨b1, o1, x, rfl, hbl1, HL1, hc1⟩ := hs1.at2 hlt
      obtain ⟨b2, o2, x', rfl, hbl2, HL2, hc2⟩ := hs2.at2 hlt
      have hxx : x' = x := by have h1 := HL1.out; have h2 := HL2.out; rw [h1] at h2; injection h2 with h2; exact h2.symm
      subst hxx
      have hc1' : (W.drewN qq).cell? ⟨b1, o1 + kk, none⟩ = some (.int .i64 x') := hc1
      have hc2' : (W.drewN qq).cell? ⟨b2, o2 + kk, none⟩ = some (.int .i64 x') := hc2
      have z0 : (0 : Int) ≤ (kk : Int) := by omega
      have z1 : (kk : Int) < (nS : Int) := by omega
      have hxn : (x' != x') = false := by simp
      go_wp2
      go_quiet (fail)
      go_wp2
      go_roundw
      case rel => exact ⟨kk + 1, _, by omega, by go_num, rfl⟩
      case measure => simp [intOf]; omega
    · have hkn : nS = kk := by omega
      subst hkn
      go_wp2_with fail
      refine (samew_any AW BW nW cW dW ws (W.drewN qq) HW1.out HW2.out bW HHW.out).mono ?_
      rintro e w' ⟨rfl, q1, rfl⟩
      have ta0 := rc_cell (w := (W.drewN (qq + q1))) 0 (.int .i64 k) HX1.out rfl
      have tb0 := rc_cell (w := (W.drewN (qq + q1))) 0 (.int .i64 k) HX2.out rfl
      have ta1 := rc_cell (w := (W.drewN (qq + q1))) 1 (.int .u64 b) HX1.out rfl
      have tb1 := rc_cell (w := (W.drewN (qq + q1))) 1 (.int .u64 b) HX2.out rfl
      have ta2 := rc_cell (w := (W.drewN (qq + q1))) 2 (.int .u64 s) HX1.out rfl
      have tb2 := rc_cell (w := (W.drewN (qq + q1))) 2 (.int .u64 s) HX2.out rfl
      have ta3 := rc_cell (w := (W.drewN (qq + q1))) 3 (.int .u64 q) HX1.out rfl
      have tb3 := rc_cell (w := (W.drewN (qq + q1))) 3 (.int .u64 q) HX2.out rfl
      have ta4 := rc_cell (w := (W.drewN (qq + q1))) 4 (.slice AW nW cW) HX1.out rfl
      have tb4 := rc_cell (w := (W.drewN (qq + q1))) 4 (.slice BW nW dW) HX2.out rfl
      have ta5 := rc_cell (w := (W.drewN (qq + q1))) 5 (.slice AR nR cR) HX1.out rfl
      have tb5 := rc_cell (w := (W.drewN (qq + q1))) 5 (.slice BR nR dR) HX2.out rfl
      have ta6 := rc_cell (w := (W.drewN (qq + q1))) 6 (.bool f) HX1.out rfl
      have tb6 := rc_cell (w := (W.drewN (qq + q1))) 6 (.bool f) HX2.out rfl
      have ta7 := rc_cell (w := (W.drewN (qq + q1))) 7 (.slice AS nS cS) HX1.out rfl
      have tb7 := rc_cell (w := (W.drewN (qq + q1))) 7 (.slice BS nS dS) HX2.out rfl
      have ta8 := rc_cell (w := (W.drewN (qq + q1))) 8 (.slice AP nP cP) HX1.out rfl
      have tb8 := rc_cell (w := (W.drewN (qq + q1))) 8 (.slice BP nP dP) HX2.out rfl
      have ta9 := rc_cell (w := (W.drewN (qq + q1))) 9 (.int .u64 i) HX1.out rfl
      have tb9 := rc_cell (w := (W.drewN (qq + q1))) 9 (.int .u64 i) HX2.out rfl
      have ta10 := rc_cell (w := (W.drewN (qq + q1))) 10 (.string S) HX1.out rfl
      have tb10 := rc_cell (w := (W.drewN (qq + q1))) 10 (.string S) HX2.out rfl
      go_wp2_with fail
      refine (samer_any AR BR nR cR dR rs (W.drewN (qq + q1)) HR1.out HR2.out bR HHR.out).mono ?_
      rintro e w' ⟨rfl, q2, rfl⟩
      go_wp2
      go_ret
      exact ⟨rfl, below_n HB.out _⟩
set_option maxRecDepth 100000 in
set_option maxHeartbeats 4000000 in
theorem told_any (k b s q : Int) (AW : Option Addr) (nW cW : Nat) (AR : Option Addr) (nR cR : Nat) (f : Bool) (AS : Option Addr) (nS cS : Nat) (AP : Option Addr) (nP cP : Nat) (i : Int) (S : ByteArray) (w : World) :
    Calls Try.prog 19 #[.agg (rcV k b s q AW nW cW AR nR cR f AS nS cS AP nP cP i S)] w fun e w' => e = .returned (.agg (rcV k b s q AW nW cW AR nR cR f AS nS cS AP nP cP i S)) ∧ Below w.heap.size w w' := by
  have hb1 := below_alloc w (.cells (rcV k b s q AW nW cW AR nR cR f AS nS cS AP nP cP i S) 32)
  have hsz : (w.alloc (.cells (rcV k b s q AW nW cW AR nR cR f AS nS cS AP nP cP i S) 32)).heap.size = w.heap.size + 1 := by simp
  have hb2 := below_alloc (w.alloc (.cells (rcV k b s q AW nW cW AR nR cR f AS nS cS AP nP cP i S) 32)) (.cells (rcV k b s q AW nW cW AR nR cR f AS nS cS AP nP cP i S) 30)
  have HB := Lib.hid (hb1.trans (hb2.mono (by omega)))
  have hx2 := heap_alloc_new (w.alloc (.cells (rcV k b s q AW nW cW AR nR cR f AS nS cS AP nP cP i S) 32)) (.cells (rcV k b s q AW nW cW AR nR cR f AS nS cS AP nP cP i S) 30)
  rw [hsz] at hx2
  have HX := Lib.hid hx2
  clear hb1 hb2 hsz hx2
  go_enter Try.func19, Try.ntmps19
  go_wp2
  generalize (w.alloc (.cells (rcV k b s q AW nW cW AR nR cR f AS nS cS AP nP cP i S) 32)).alloc (.cells (rcV k b s q AW nW cW AR nR cR f AS nS cS AP nP cP i S) 30) = W at *
  have r0 := rc_cell (w := W) 0 (.int .i64 k) HX.out rfl
  have r1 := rc_cell (w := W) 1 (.int .u64 b) HX.out rfl
  have r2 := rc_cell (w := W) 2 (.int .u64 s) HX.out rfl
  have r3 := rc_cell (w := W) 3 (.int .u64 q) HX.out rfl
  have r4 := rc_cell (w := W) 4 (.slice AW nW cW) HX.out rfl
  have r5 := rc_cell (w := W) 5 (.slice AR nR cR) HX.out rfl
  have r6 := rc_cell (w := W) 6 (.bool f) HX.out rfl
  have r7 := rc_cell (w := W) 7 (.slice AS nS cS) HX.out rfl
  have r8 := rc_cell (w := W) 8 (.slice AP nP cP) HX.out rfl
  have r9 := rc_cell (w := W) 9 (.int .u64 i) HX.out rfl
  have r10 := rc_cell (w := W) 10 (.string S) HX.out rfl
  refine bodyPost_ret (v := .agg (rcV k b s q AW nW cW AR nR cR f AS nS cS AP nP cP i S)) (by simp [results, Try.f19, go_sem, Try.isAgg30, Try.sizeOf30, r0, r1, r2, r3, r4, r5, r6, r7, r8, r9, r10]) rfl ⟨rfl, HB.out⟩
end Go.Proofs.Ytmjjbfcblmmipaa
