/- RecTwice: the walk. -/
import Derived.Test.YtmjjbfcblmmipaaReadEW
import Derived.Test.YtmjjbfcblmmipaaSameA
import Derived.BigRegion
import Derived.Laws.Rows
import Derived.Test.YtmjjbfcblmmipaaOwnW
import Derived.Test.YtmjjbfcblmmipaaTwinW
import Derived.Test.YtmjjbfcblmmipaaTrimW
namespace Go.Proofs.Ytmjjbfcblmmipaa
set_option linter.unusedVariables false
set_option linter.unusedSimpArgs false
open Go.RowKit

abbrev y0 : Rc := ⟨2, 1, 2, 300, [], [], false, [], [], 0, []⟩
theorem y0_bytes : recL y0 = [2, 1, 2, 5, 1, 2, 249, 1, 44] := by decide
theorem y0_trim : trimR y0 = y0 := by rfl
theorem y0_ran : Ran (recL y0) := by rw [y0_bytes]; intro x hx; simp only [List.mem_cons, List.not_mem_nil, or_false] at hx; omega
theorem y0_R (w : World) : RcR w y0 ⟨none, 0, 0, none, 0, 0, none, 0, 0, none, 0, 0⟩ :=
  ⟨Trs.nil_, Trs.nil_, ⟨Rd.nil_, fun _ h => by cases h⟩, Bs.nil_, by simp, by decide, by decide, by decide, by decide, Ran.nil, by decide, by decide, by decide, by decide, by decide⟩
theorem y0_B : RcB y0 := ⟨by decide, by decide, by decide, by decide, fun _ h => by cases h⟩
set_option maxRecDepth 100000 in
set_option maxHeartbeats 4000000 in
theorem awake_any (w : World) : Calls Try.prog 13 #[] w fun e w' => e = .returned (.bool true) ∧ Below w.heap.size w w' := by
  have HBY := Lib.hid (fun W : World => bytes_any y0 ⟨none, 0, 0, none, 0, 0, none, 0, 0, none, 0, 0⟩ W (y0_R W) (by rw [y0_bytes]; decide))
  have HL : Hid ((recL y0).length = 9) := Lib.hid (by rw [y0_bytes]; rfl)
  have HCMP : Hid ((cmpL (recL y0) [2, 1, 2, 5, 1, 2, 249, 1, 44] == 0) = true) := Lib.hid (by rw [y0_bytes]; decide)
  have HRN := Lib.hid y0_ran
  go_enter Try.func13, Try.ntmps13
  go_wp2_with fail
  refine (HBY.out _).mono ?_
  rintro e w1 ⟨A1, n1, c1, rfl, hn1, ho1, _, hb1⟩
  have hn9 : n1 = 9 := hn1.trans HL.out
  subst hn9
  have HO1 := Lib.hid ho1
  clear hn1 ho1
  go_wp2_with fail
  refine (read_ok y0 A1 9 c1 w1 (by decide) (by decide) (HO1.out.bs HRN.out) HO1.out.cap (fun k hk => (HO1.out.lies k hk).2) (by decide) y0_B).mono ?_
  rintro e w2 ⟨s, rfl, hO, hb2⟩
  rw [y0_trim]
  have hs1 := hb1.size
  have hb02 := hb1.trans (hb2.mono hs1)
  have HO2 := Lib.hid (HO1.out.below hb2 (fun k hk => (HO1.out.lies k hk).2))
  clear hO hb1 hb2 HO1
  obtain ⟨AW, nW, cW, AR, nR, cR, AS, nS, cS, AP, nP, cP⟩ := s
  have hsz : (w2.alloc (.cells (rcV 2 1 2 300 AW nW cW AR nR cR false AS nS cS AP nP cP 0 (strOfNums [])) 32)).heap.size = w2.heap.size + 1 := by simp
  have bb1 := below_alloc w2 (.cells (rcV 2 1 2 300 AW nW cW AR nR cR false AS nS cS AP nP cP 0 (strOfNums [])) 32)
  have bb2 := below_alloc (w2.alloc (.cells (rcV 2 1 2 300 AW nW cW AR nR cR false AS nS cS AP nP cP 0 (strOfNums [])) 32)) (.cells #[.int .u8 2, .int .u8 1, .int .u8 2, .int .u8 5, .int .u8 1, .int .u8 2, .int .u8 249, .int .u8 1, .int .u8 44] 5)
  have hg1 := (bb2.block w2.heap.size (by omega)).trans (heap_alloc_new w2 (.cells (rcV 2 1 2 300 AW nW cW AR nR cR false AS nS cS AP nP cP 0 (strOfNums [])) 32))
  have hg2 := heap_alloc_new (w2.alloc (.cells (rcV 2 1 2 300 AW nW cW AR nR cR false AS nS cS AP nP cP 0 (strOfNums [])) 32)) (.cells #[.int .u8 2, .int .u8 1, .int .u8 2, .int .u8 5, .int .u8 1, .int .u8 2, .int .u8 249, .int .u8 1, .int .u8 44] 5)
  rw [hsz] at hg2
  have HBW := Lib.hid (bb1.trans (bb2.mono (by omega)))
  have HG1 := Lib.hid hg1
  have HB9 : Hid (Bs ((w2.alloc (.cells (rcV 2 1 2 300 AW nW cW AR nR cR false AS nS cS AP nP cP 0 (strOfNums [])) 32)).alloc (.cells #[.int .u8 2, .int .u8 1, .int .u8 2, .int .u8 5, .int .u8 1, .int .u8 2, .int .u8 249, .int .u8 1, .int .u8 44] 5)) (some ⟨w2.heap.size + 1, 0, none⟩) 9 [2, 1, 2, 5, 1, 2, 249, 1, 44]) := Lib.hid ((Own.of_block (n := 9) (base := 0) (vs := By [2, 1, 2, 5, 1, 2, 249, 1, 44]) hg2 (Nat.zero_le _) rfl (by unfold maxLen; omega)).bs (by rw [← y0_bytes]; exact HRN.out))
  clear bb1 bb2 hg1 hg2 hsz
  go_wp2_with fail
  generalize ((w2.alloc (.cells (rcV 2 1 2 300 AW nW cW AR nR cR false AS nS cS AP nP cP 0 (strOfNums [])) 32)).alloc (.cells #[.int .u8 2, .int .u8 1, .int .u8 2, .int .u8 5, .int .u8 1, .int .u8 2, .int .u8 249, .int .u8 1, .int .u8 44] 5)) = W at *
  refine (equal_is A1 _ 9 9 c1 9 (recL y0) [2, 1, 2, 5, 1, 2, 249, 1, 44] true HCMP.out W ((HO2.out.bs HRN.out).keep HBW.out) HB9.out (by unfold maxLen; omega) (by unfold maxLen; omega)).mono ?_
  rintro e w3 ⟨rfl, q, rfl⟩
  have hc3 : (W.drewN q).cell? ⟨w2.heap.size, 3, none⟩ = some (.int .u64 300) := rc_cell 3 _ HG1.out rfl
  have HBF := Lib.hid (hb02.trans (HBW.out.mono hb02.size))
  go_wp2
  go_ret
  exact ⟨rfl, below_n HBF.out q⟩
end Go.Proofs.Ytmjjbfcblmmipaa
namespace Go.Proofs.Ytmjjbfcblmmipaa
set_option linter.unusedVariables false
set_option linter.unusedSimpArgs false
open Go.RowKit

theorem Ins.at2 {w : World} {A : Option Addr} {n k : Nat} {ls : List Int} (h : Ins w A n ls) (hk : k < n) : ∃ b off x, A = some ⟨b, off, none⟩ ∧ b < w.heap.size ∧ Hid (ls[k]? = some x) ∧ w.cell? ⟨b, off + k, none⟩ = some (.int .i64 x) := by
  obtain ⟨b, off, u, rfl, hb, hc, HU⟩ := h.1.at_ hk
  have hk' : k < ls.length := by have := h.len; omega
  have hu := HU.out
  rw [List.getElem?_map, List.getElem?_eq_getElem hk'] at hu
  simp only [Option.map_some, Option.some.injEq] at hu
  subst hu
  exact ⟨b, off, ls[k], rfl, hb, List.getElem?_eq_getElem hk', hc⟩
set_option maxRecDepth 100000 in
set_option maxHeartbeats 8000000 in
theorem same_core (k b s q : Int) (f : Bool) (i : Int) (S : ByteArray) (AW BW : Option Addr) (nW cW dW : Nat) (AR BR : Option Addr) (nR cR dR : Nat) (AS BS : Option Addr) (nS cS dS : Nat) (AP BP : Option Addr) (nP cP dP : Nat) (ws rs : List Tr) (sh rp : List Int) (w : World)
    (w1 : Trs w AW nW ws) (w2 : Trs w BW nW ws) (r1 : Trs w AR nR rs) (r2 : Trs w BR nR rs) (s1 : Ins w AS nS sh) (s2 : Ins w BS nS sh) (p1 : Bs w AP nP rp) (p2 : Bs w BP nP rp)
    (bW : nW ≤ 20000000) (bR : nR ≤ 20000000) (bS : nS ≤ 20000000) (bP : nP ≤ maxLen) (hw : ∀ t ∈ ws, t.a.length ≤ maxLen ∧ t.b.length ≤ maxLen) (hr : ∀ t ∈ rs, t.a.length ≤ maxLen ∧ t.b.length ≤ maxLen) :
    Calls Try.prog 18 #[.agg (rcV k b s q AW nW cW AR nR cR f AS nS cS AP nP cP i S), .agg (rcV k b s q BW nW dW BR nR dR f BS nS dS BP nP dP i S)] w fun e w' => e = .returned (.bool true) ∧ Below w.heap.size w w' := by
  have hb1 := below_alloc w (.cells (rcV k b s q AW nW cW AR nR cR f AS nS cS AP nP cP i S) 30)
  have hsz : (w.alloc (.cells (rcV k b s q AW nW cW AR nR cR f AS nS cS AP nP cP i S) 30)).heap.size = w.heap.size + 1 := by simp
  have hb2 := below_alloc (w.alloc (.cells (rcV k b s q AW nW cW AR nR cR f AS nS cS AP nP cP i S) 30)) (.cells (rcV k b s q BW nW dW BR nR dR f BS nS dS BP nP dP i S) 30)
  have HB := Lib.hid (hb1.trans (hb2.mono (by omega)))
  have HX1 := Lib.hid ((hb2.block w.heap.size (by omega)).trans (heap_alloc_new w (.cells (rcV k b s q AW nW cW AR nR cR f AS nS cS AP nP cP i S) 30)))
  have hx2 := heap_alloc_new (w.alloc (.cells (rcV k b s q AW nW cW AR nR cR f AS nS cS AP nP cP i S) 30)) (.cells (rcV k b s q BW nW dW BR nR dR f BS nS dS BP nP dP i S) 30)
  rw [hsz] at hx2
  have HX2 := Lib.hid hx2
  have HW1 := Lib.hid (w1.keep HB.out); have HW2 := Lib.hid (w2.keep HB.out); have HR1 := Lib.hid (r1.keep HB.out); have HR2 := Lib.hid (r2.keep HB.out); have hs1 := s1.keep HB.out; have hs2 := s2.keep HB.out; have HP1 := Lib.hid (p1.keep HB.out); have HP2 := Lib.hid (p2.keep HB.out)
  have HV := Lib.hid (cmpL_same rp)
  have HHW := Lib.hid hw; have HHR := Lib.hid hr
  clear w1 w2 r1 r2 s1 s2 p1 p2 hb1 hb2 hsz hx2 hw hr
  have ua0 := rc_cell (w := ((w.alloc (.cells (rcV k b s q AW nW cW AR nR cR f AS nS cS AP nP cP i S) 30)).alloc (.cells (rcV k b s q BW nW dW BR nR dR f BS nS dS BP nP dP i S) 30))) 0 (.int .i64 k) HX1.out rfl
  have ub0 := rc_cell (w := ((w.alloc (.cells (rcV k b s q AW nW cW AR nR cR f AS nS cS AP nP cP i S) 30)).alloc (.cells (rcV k b s q BW nW dW BR nR dR f BS nS dS BP nP dP i S) 30))) 0 (.int .i64 k) HX2.out rfl
  have ua1 := rc_cell (w := ((w.alloc (.cells (rcV k b s q AW nW cW AR nR cR f AS nS cS AP nP cP i S) 30)).alloc (.cells (rcV k b s q BW nW dW BR nR dR f BS nS dS BP nP dP i S) 30))) 1 (.int .u64 b) HX1.out rfl
  have ub1 := rc_cell (w := ((w.alloc (.cells (rcV k b s q AW nW cW AR nR cR f AS nS cS AP nP cP i S) 30)).alloc (.cells (rcV k b s q BW nW dW BR nR dR f BS nS dS BP nP dP i S) 30))) 1 (.int .u64 b) HX2.out rfl
  have ua2 := rc_cell (w := ((w.alloc (.cells (rcV k b s q AW nW cW AR nR cR f AS nS cS AP nP cP i S) 30)).alloc (.cells (rcV k b s q BW nW dW BR nR dR f BS nS dS BP nP dP i S) 30))) 2 (.int .u64 s) HX1.out rfl
  have ub2 := rc_cell (w := ((w.alloc (.cells (rcV k b s q AW nW cW AR nR cR f AS nS cS AP nP cP i S) 30)).alloc (.cells (rcV k b s q BW nW dW BR nR dR f BS nS dS BP nP dP i S) 30))) 2 (.int .u64 s) HX2.out rfl
  have ua3 := rc_cell (w := ((w.alloc (.cells (rcV k b s q AW nW cW AR nR cR f AS nS cS AP nP cP i S) 30)).alloc (.cells (rcV k b s q BW nW dW BR nR dR f BS nS dS BP nP dP i S) 30))) 3 (.int .u64 q) HX1.out rfl
  have ub3 := rc_cell (w := ((w.alloc (.cells (rcV k b s q AW nW cW AR nR cR f AS nS cS AP nP cP i S) 30)).alloc (.cells (rcV k b s q BW nW dW BR nR dR f BS nS dS BP nP dP i S) 30))) 3 (.int .u64 q) HX2.out rfl
  have ua4 := rc_cell (w := ((w.alloc (.cells (rcV k b s q AW nW cW AR nR cR f AS nS cS AP nP cP i S) 30)).alloc (.cells (rcV k b s q BW nW dW BR nR dR f BS nS dS BP nP dP i S) 30))) 4 (.slice AW nW cW) HX1.out rfl
  have ub4 := rc_cell (w := ((w.alloc (.cells (rcV k b s q AW nW cW AR nR cR f AS nS cS AP nP cP i S) 30)).alloc (.cells (rcV k b s q BW nW dW BR nR dR f BS nS dS BP nP dP i S) 30))) 4 (.slice BW nW dW) HX2.out rfl
  have ua5 := rc_cell (w := ((w.alloc (.cells (rcV k b s q AW nW cW AR nR cR f AS nS cS AP nP cP i S) 30)).alloc (.cells (rcV k b s q BW nW dW BR nR dR f BS nS dS BP nP dP i S) 30))) 5 (.slice AR nR cR) HX1.out rfl
  have ub5 := rc_cell (w := ((w.alloc (.cells (rcV k b s q AW nW cW AR nR cR f AS nS cS AP nP cP i S) 30)).alloc (.cells (rcV k b s q BW nW dW BR nR dR f BS nS dS BP nP dP i S) 30))) 5 (.slice BR nR dR) HX2.out rfl
  have ua6 := rc_cell (w := ((w.alloc (.cells (rcV k b s q AW nW cW AR nR cR f AS nS cS AP nP cP i S) 30)).alloc (.cells (rcV k b s q BW nW dW BR nR dR f BS nS dS BP nP dP i S) 30))) 6 (.bool f) HX1.out rfl
  have ub6 := rc_cell (w := ((w.alloc (.cells (rcV k b s q AW nW cW AR nR cR f AS nS cS AP nP cP i S) 30)).alloc (.cells (rcV k b s q BW nW dW BR nR dR f BS nS dS BP nP dP i S) 30))) 6 (.bool f) HX2.out rfl
  have ua7 := rc_cell (w := ((w.alloc (.cells (rcV k b s q AW nW cW AR nR cR f AS nS cS AP nP cP i S) 30)).alloc (.cells (rcV k b s q BW nW dW BR nR dR f BS nS dS BP nP dP i S) 30))) 7 (.slice AS nS cS) HX1.out rfl
  have ub7 := rc_cell (w := ((w.alloc (.cells (rcV k b s q AW nW cW AR nR cR f AS nS cS AP nP cP i S) 30)).alloc (.cells (rcV k b s q BW nW dW BR nR dR f BS nS dS BP nP dP i S) 30))) 7 (.slice BS nS dS) HX2.out rfl
  have ua8 := rc_cell (w := ((w.alloc (.cells (rcV k b s q AW nW cW AR nR cR f AS nS cS AP nP cP i S) 30)).alloc (.cells (rcV k b s q BW nW dW BR nR dR f BS nS dS BP nP dP i S) 30))) 8 (.slice AP nP cP) HX1.out rfl
  have ub8 := rc_cell (w := ((w.alloc (.cells (rcV k b s q AW nW cW AR nR cR f AS nS cS AP nP cP i S) 30)).alloc (.cells (rcV k b s q BW nW dW BR nR dR f BS nS dS BP nP dP i S) 30))) 8 (.slice BP nP dP) HX2.out rfl
  have ua9 := rc_cell (w := ((w.alloc (.cells (rcV k b s q AW nW cW AR nR cR f AS nS cS AP nP cP i S) 30)).alloc (.cells (rcV k b s q BW nW dW BR nR dR f BS nS dS BP nP dP i S) 30))) 9 (.int .u64 i) HX1.out rfl
  have ub9 := rc_cell (w := ((w.alloc (.cells (rcV k b s q AW nW cW AR nR cR f AS nS cS AP nP cP i S) 30)).alloc (.cells (rcV k b s q BW nW dW BR nR dR f BS nS dS BP nP dP i S) 30))) 9 (.int .u64 i) HX2.out rfl
  have ua10 := rc_cell (w := ((w.alloc (.cells (rcV k b s q AW nW cW AR nR cR f AS nS cS AP nP cP i S) 30)).alloc (.cells (rcV k b s q BW nW dW BR nR dR f BS nS dS BP nP dP i S) 30))) 10 (.string S) HX1.out rfl
  have ub10 := rc_cell (w := ((w.alloc (.cells (rcV k b s q AW nW cW AR nR cR f AS nS cS AP nP cP i S) 30)).alloc (.cells (rcV k b s q BW nW dW BR nR dR f BS nS dS BP nP dP i S) 30))) 10 (.string S) HX2.out rfl
  go_enter Try.func18, Try.ntmps18
  go_wp2_with fail
  refine (equal_is AP BP nP nP cP dP rp rp true HV.out _ HP1.out HP2.out bP bP).mono ?_
  rintro e w' ⟨rfl, q0, rfl⟩
  generalize ((w.alloc (.cells (rcV k b s q AW nW cW AR nR cR f AS nS cS AP nP cP i S) 30)).alloc (.cells (rcV k b s q BW nW dW BR nR dR f BS nS dS BP nP dP i S) 30)) = W at *
  have va0 := rc_cell (w := (W.drewN q0)) 0 (.int .i64 k) HX1.out rfl
  have vb0 := rc_cell (w := (W.drewN q0)) 0 (.int .i64 k) HX2.out rfl
  have va1 := rc_cell (w := (W.drewN q0)) 1 (.int .u64 b) HX1.out rfl
  have vb1 := rc_cell (w := (W.drewN q0)) 1 (.int .u64 b) HX2.out rfl
  have va2 := rc_cell (w := (W.drewN q0)) 2 (.int .u64 s) HX1.out rfl
  have vb2 := rc_cell (w := (W.drewN q0)) 2 (.int .u64 s) HX2.out rfl
  have va3 := rc_cell (w := (W.drewN q0)) 3 (.int .u64 q) HX1.out rfl
  have vb3 := rc_cell (w := (W.drewN q0)) 3 (.int .u64 q) HX2.out rfl
  have va4 := rc_cell (w := (W.drewN q0)) 4 (.slice AW nW cW) HX1.out rfl
  have vb4 := rc_cell (w := (W.drewN q0)) 4 (.slice BW nW dW) HX2.out rfl
  have va5 := rc_cell (w := (W.drewN q0)) 5 (.slice AR nR cR) HX1.out rfl
  have vb5 := rc_cell (w := (W.drewN q0)) 5 (.slice BR nR dR) HX2.out rfl
  have va6 := rc_cell (w := (W.drewN q0)) 6 (.bool f) HX1.out rfl
  have vb6 := rc_cell (w := (W.drewN q0)) 6 (.bool f) HX2.out rfl
  have va7 := rc_cell (w := (W.drewN q0)) 7 (.slice AS nS cS) HX1.out rfl
  have vb7 := rc_cell (w := (W.drewN q0)) 7 (.slice BS nS dS) HX2.out rfl
  have va8 := rc_cell (w := (W.drewN q0)) 8 (.slice AP nP cP) HX1.out rfl
  have vb8 := rc_cell (w := (W.drewN q0)) 8 (.slice BP nP dP) HX2.out rfl
  have va9 := rc_cell (w := (W.drewN q0)) 9 (.int .u64 i) HX1.out rfl
  have vb9 := rc_cell (w := (W.drewN q0)) 9 (.int .u64 i) HX2.out rfl
  have va10 := rc_cell (w := (W.drewN q0)) 10 (.string S) HX1.out rfl
  have vb10 := rc_cell (w := (W.drewN q0)) 10 (.string S) HX2.out rfl
  go_wp2
  clear ua0 ub0 ua1 ub1 ua2 ub2 ua3 ub3 ua4 ub4 ua5 ub5 ua6 ub6 ua7 ub7 ua8 ub8 ua9 ub9 ua10 ub10
  clear va0 vb0 va1 vb1 va2 vb2 va3 vb3 va4 vb4 va5 vb5 va6 vb6 va7 vb7 va8 vb8 va9 vb9 va10 vb10
  go_loopw [5] (fun iv wr => ∃ kk qq : Nat, kk ≤ nS ∧ iv = .int .i64 kk ∧ wr = W.drewN qq) (fun iv _ => nS - (intOf iv).toNat)
  case atStart => exact ⟨0, q0, Nat.zero_le _, rfl, rfl⟩
  case round =>
    obtain ⟨kk, qq, hk, rfl, rfl⟩ := hrel
    have ua0 := rc_cell (w := W) 0 (.int .i64 k) HX1.out rfl
    have ub0 := rc_cell (w := W) 0 (.int .i64 k) HX2.out rfl
    have ua1 := rc_cell (w := W) 1 (.int .u64 b) HX1.out rfl
    have ub1 := rc_cell (w := W) 1 (.int .u64 b) HX2.out rfl
    have ua2 := rc_cell (w := W) 2 (.int .u64 s) HX1.out rfl
    have ub2 := rc_cell (w := W) 2 (.int .u64 s) HX2.out rfl
    have ua3 := rc_cell (w := W) 3 (.int .u64 q) HX1.out rfl
    have ub3 := rc_cell (w := W) 3 (.int .u64 q) HX2.out rfl
    have ua4 := rc_cell (w := W) 4 (.slice AW nW cW) HX1.out rfl
    have ub4 := rc_cell (w := W) 4 (.slice BW nW dW) HX2.out rfl
    have ua5 := rc_cell (w := W) 5 (.slice AR nR cR) HX1.out rfl
    have ub5 := rc_cell (w := W) 5 (.slice BR nR dR) HX2.out rfl
    have ua6 := rc_cell (w := W) 6 (.bool f) HX1.out rfl
    have ub6 := rc_cell (w := W) 6 (.bool f) HX2.out rfl
    have ua7 := rc_cell (w := W) 7 (.slice AS nS cS) HX1.out rfl
    have ub7 := rc_cell (w := W) 7 (.slice BS nS dS) HX2.out rfl
    have ua8 := rc_cell (w := W) 8 (.slice AP nP cP) HX1.out rfl
    have ub8 := rc_cell (w := W) 8 (.slice BP nP dP) HX2.out rfl
    have ua9 := rc_cell (w := W) 9 (.int .u64 i) HX1.out rfl
    have ub9 := rc_cell (w := W) 9 (.int .u64 i) HX2.out rfl
    have ua10 := rc_cell (w := W) 10 (.string S) HX1.out rfl
    have ub10 := rc_cell (w := W) 10 (.string S) HX2.out rfl
    have va0 := rc_cell (w := (W.drewN qq)) 0 (.int .i64 k) HX1.out rfl
    have vb0 := rc_cell (w := (W.drewN qq)) 0 (.int .i64 k) HX2.out rfl
    have va1 := rc_cell (w := (W.drewN qq)) 1 (.int .u64 b) HX1.out rfl
    have vb1 := rc_cell (w := (W.drewN qq)) 1 (.int .u64 b) HX2.out rfl
    have va2 := rc_cell (w := (W.drewN qq)) 2 (.int .u64 s) HX1.out rfl
    have vb2 := rc_cell (w := (W.drewN qq)) 2 (.int .u64 s) HX2.out rfl
    have va3 := rc_cell (w := (W.drewN qq)) 3 (.int .u64 q) HX1.out rfl
    have vb3 := rc_cell (w := (W.drewN qq)) 3 (.int .u64 q) HX2.out rfl
    have va4 := rc_cell (w := (W.drewN qq)) 4 (.slice AW nW cW) HX1.out rfl
    have vb4 := rc_cell (w := (W.drewN qq)) 4 (.slice BW nW dW) HX2.out rfl
    have va5 := rc_cell (w := (W.drewN qq)) 5 (.slice AR nR cR) HX1.out rfl
    have vb5 := rc_cell (w := (W.drewN qq)) 5 (.slice BR nR dR) HX2.out rfl
    have va6 := rc_cell (w := (W.drewN qq)) 6 (.bool f) HX1.out rfl
    have vb6 := rc_cell (w := (W.drewN qq)) 6 (.bool f) HX2.out rfl
    have va7 := rc_cell (w := (W.drewN qq)) 7 (.slice AS nS cS) HX1.out rfl
    have vb7 := rc_cell (w := (W.drewN qq)) 7 (.slice BS nS dS) HX2.out rfl
    have va8 := rc_cell (w := (W.drewN qq)) 8 (.slice AP nP cP) HX1.out rfl
    have vb8 := rc_cell (w := (W.drewN qq)) 8 (.slice BP nP dP) HX2.out rfl
    have va9 := rc_cell (w := (W.drewN qq)) 9 (.int .u64 i) HX1.out rfl
    have vb9 := rc_cell (w := (W.drewN qq)) 9 (.int .u64 i) HX2.out rfl
    have va10 := rc_cell (w := (W.drewN qq)) 10 (.string S) HX1.out rfl
    have vb10 := rc_cell (w := (W.drewN qq)) 10 (.string S) HX2.out rfl
    by_cases hlt : kk < nS
    · obtain ⟨b1, o1, x, rfl, hbl1, HL1, hc1⟩ := hs1.at2 hlt
      obtain ⟨b2, o2, x', rfl, hbl2, HL2, hc2⟩ := hs2.at2 hlt
      have hxx : x' = x := by have h1 := HL1.out; have h2 := HL2.out; rw [h1] at h2; injection h2 with h2; exact h2.symm
      subst hxx
      have hc1' : (W.drewN qq).cell? ⟨b1, o1 + kk, none⟩ = some (.int .i64 x') := hc1
      have hc2' : (W.drewN qq).cell? ⟨b2, o2 + kk, none⟩ = some (.int .i64 x') := hc2
      have z0 : (0 : Int) ≤ (kk : Int) := by omega
      have z1 : (kk : Int) < (nS : Int) := by omega
      have hxn : (x' != x') = false := by simp
      go_wp2
      go_quiet (fail)
      go_wp2
      go_roundw
      case rel => exact ⟨kk + 1, _, by omega, by go_num, rfl⟩
      case measure => simp [intOf]; omega
    · have hkn : nS = kk := by omega
      subst hkn
      go_wp2_with fail
      refine (samew_any AW BW nW cW dW ws (W.drewN qq) HW1.out HW2.out bW HHW.out).mono ?_
      rintro e w' ⟨rfl, q1, rfl⟩
      have ta0 := rc_cell (w := (W.drewN (qq + q1))) 0 (.int .i64 k) HX1.out rfl
      have tb0 := rc_cell (w := (W.drewN (qq + q1))) 0 (.int .i64 k) HX2.out rfl
      have ta1 := rc_cell (w := (W.drewN (qq + q1))) 1 (.int .u64 b) HX1.out rfl
      have tb1 := rc_cell (w := (W.drewN (qq + q1))) 1 (.int .u64 b) HX2.out rfl
      have ta2 := rc_cell (w := (W.drewN (qq + q1))) 2 (.int .u64 s) HX1.out rfl
      have tb2 := rc_cell (w := (W.drewN (qq + q1))) 2 (.int .u64 s) HX2.out rfl
      have ta3 := rc_cell (w := (W.drewN (qq + q1))) 3 (.int .u64 q) HX1.out rfl
      have tb3 := rc_cell (w := (W.drewN (qq + q1))) 3 (.int .u64 q) HX2.out rfl
      have ta4 := rc_cell (w := (W.drewN (qq + q1))) 4 (.slice AW nW cW) HX1.out rfl
      have tb4 := rc_cell (w := (W.drewN (qq + q1))) 4 (.slice BW nW dW) HX2.out rfl
      have ta5 := rc_cell (w := (W.drewN (qq + q1))) 5 (.slice AR nR cR) HX1.out rfl
      have tb5 := rc_cell (w := (W.drewN (qq + q1))) 5 (.slice BR nR dR) HX2.out rfl
      have ta6 := rc_cell (w := (W.drewN (qq + q1))) 6 (.bool f) HX1.out rfl
      have tb6 := rc_cell (w := (W.drewN (qq + q1))) 6 (.bool f) HX2.out rfl
      have ta7 := rc_cell (w := (W.drewN (qq + q1))) 7 (.slice AS nS cS) HX1.out rfl
      have tb7 := rc_cell (w := (W.drewN (qq + q1))) 7 (.slice BS nS dS) HX2.out rfl
      have ta8 := rc_cell (w := (W.drewN (qq + q1))) 8 (.slice AP nP cP) HX1.out rfl
      have tb8 := rc_cell (w := (W.drewN (qq + q1))) 8 (.slice BP nP dP) HX2.out rfl
      have ta9 := rc_cell (w := (W.drewN (qq + q1))) 9 (.int .u64 i) HX1.out rfl
      have tb9 := rc_cell (w := (W.drewN (qq + q1))) 9 (.int .u64 i) HX2.out rfl
      have ta10 := rc_cell (w := (W.drewN (qq + q1))) 10 (.string S) HX1.out rfl
      have tb10 := rc_cell (w := (W.drewN (qq + q1))) 10 (.string S) HX2.out rfl
      go_wp2_with fail
      refine (samer_any AR BR nR cR dR rs (W.drewN (qq + q1)) HR1.out HR2.out bR HHR.out).mono ?_
      rintro e w' ⟨rfl, q2, rfl⟩
      go_wp2
      go_ret
      exact ⟨rfl, below_n HB.out _⟩
set_option maxRecDepth 100000 in
set_option maxHeartbeats 4000000 in
theorem told_any (k b s q : Int) (AW : Option Addr) (nW cW : Nat) (AR : Option Addr) (nR cR : Nat) (f : Bool) (AS : Option Addr) (nS cS : Nat) (AP : Option Addr) (nP cP : Nat) (i : Int) (S : ByteArray) (w : World) :
    Calls Try.prog 19 #[.agg (rcV k b s q AW nW cW AR nR cR f AS nS cS AP nP cP i S)] w fun e w' => e = .returned (.agg (rcV k b s q AW nW cW AR nR cR f AS nS cS AP nP cP i S)) ∧ Below w.heap.size w w' := by
  have hb1 := below_alloc w (.cells (rcV k b s q AW nW cW AR nR cR f AS nS cS AP nP cP i S) 32)
  have hsz : (w.alloc (.cells (rcV k b s q AW nW cW AR nR cR f AS nS cS AP nP cP i S) 32)).heap.size = w.heap.size + 1 := by simp
  have hb2 := below_alloc (w.alloc (.cells (rcV k b s q AW nW cW AR nR cR f AS nS cS AP nP cP i S) 32)) (.cells (rcV k b s q AW nW cW AR nR cR f AS nS cS AP nP cP i S) 30)
  have HB := Lib.hid (hb1.trans (hb2.mono (by omega)))
  have hx2 := heap_alloc_new (w.alloc (.cells (rcV k b s q AW nW cW AR nR cR f AS nS cS AP nP cP i S) 32)) (.cells (rcV k b s q AW nW cW AR nR cR f AS nS cS AP nP cP i S) 30)
  rw [hsz] at hx2
  have HX := Lib.hid hx2
  clear hb1 hb2 hsz hx2
  go_enter Try.func19, Try.ntmps19
  go_wp2
  generalize (w.alloc (.cells (rcV k b s q AW nW cW AR nR cR f AS nS cS AP nP cP i S) 32)).alloc (.cells (rcV k b s q AW nW cW AR nR cR f AS nS cS AP nP cP i S) 30) = W at *
  have r0 := rc_cell (w := W) 0 (.int .i64 k) HX.out rfl
  have r1 := rc_cell (w := W) 1 (.int .u64 b) HX.out rfl
  have r2 := rc_cell (w := W) 2 (.int .u64 s) HX.out rfl
  have r3 := rc_cell (w := W) 3 (.int .u64 q) HX.out rfl
  have r4 := rc_cell (w := W) 4 (.slice AW nW cW) HX.out rfl
  have r5 := rc_cell (w := W) 5 (.slice AR nR cR) HX.out rfl
  have r6 := rc_cell (w := W) 6 (.bool f) HX.out rfl
  have r7 := rc_cell (w := W) 7 (.slice AS nS cS) HX.out rfl
  have r8 := rc_cell (w := W) 8 (.slice AP nP cP) HX.out rfl
  have r9 := rc_cell (w := W) 9 (.int .u64 i) HX.out rfl
  have r10 := rc_cell (w := W) 10 (.string S) HX.out rfl
  refine bodyPost_ret (v := .agg (rcV k b s q AW nW cW AR nR cR f AS nS cS AP nP cP i S)) (by simp [results, Try.f19, go_sem, Try.isAgg30, Try.sizeOf30, r0, r1, r2, r3, r4, r5, r6, r7, r8, r9, r10]) rfl ⟨rfl, HB.out⟩
end Go.Proofs.Ytmjjbfcblmmipaa
namespace Go.Proofs.Ytmjjbfcblmmipaa
set_option linter.unusedVariables false
set_option linter.unusedSimpArgs false
open Go.RowKit

theorem RcO.rcT {w : World} {base : Nat} {x : Rc} {s : Sl} (h : RcO w base x s) (hs : ∀ z ∈ x.shards, -9223372036854775808 ≤ z ∧ z ≤ 9223372036854775807) : RcT w x s := ⟨h.ws.trs, h.rs.trs, ⟨h.sh.rd, hs⟩, h.rp.bs h.rr, h.rp.cap⟩
theorem trim_sh (x : Rc) (h : ∀ z ∈ x.shards, -9223372036854775808 ≤ z ∧ z ≤ 9223372036854775807) : ∀ z ∈ (trimR x).shards, -9223372036854775808 ≤ z ∧ z ≤ 9223372036854775807 := by
  intro z hz
  unfold trimR at hz
  simp only at hz
  split at hz
  · exact h z hz
  · cases hz
/-- What is known of a trimmed record. -/
structure TB (x tr : Rc) : Prop where
  boot : 0 ≤ tr.boot ∧ tr.boot ≤ 18446744073709551615
  sess : 0 ≤ tr.sess ∧ tr.sess ≤ 18446744073709551615
  seq : 0 ≤ tr.seq ∧ tr.seq ≤ 18446744073709551615
  id : 0 ≤ tr.id ∧ tr.id ≤ 18446744073709551615
  name : Ran tr.name
  tW : (trs tr.ws).length ≤ 12000001
  tR : (trs tr.rs).length ≤ 12000001
  bS : tr.shards.length ≤ 10000000
  bP : tr.reply.length ≤ 10000000
  by_ : recL tr = recL x
theorem trs_len (l : List Tr) : 3 * l.length ≤ (trs l).length := by
  have h := (joinL_bd (trP l)).1
  rw [trP_length] at h
  exact h
theorem rcT_R {x tr : Rc} {w : World} {s : Sl} (h : RcT w tr s) (k : TB x tr) : RcR w tr s := by
  have h1 := h.ws.1; have h2 := h.rs.1; have h3 := h.sh.len
  have l1 := trs_len tr.ws; have l2 := trs_len tr.rs
  have t1 := k.tW; have t2 := k.tR; have t3 := k.bS
  exact ⟨h.ws, h.rs, h.sh, h.rp, h.rc, k.boot, k.sess, k.seq, k.id, k.name, by omega, by omega, by omega, by omega, by omega⟩
theorem partL_trim (x : Rc) (c : Int) (hc : c ∈ fl x.kind) : partL (trimR x) c = partL x c := by
  have hcon : (fl x.kind).contains c = true := by simpa using hc
  rcases (fl_mem hc).1 with rfl | rfl | rfl | rfl | rfl | rfl | rfl | rfl
  · show txB (trimR x) = txB x
    unfold txB trimR; simp only [hcon, if_true]
  · show trs (trimR x).ws = trs x.ws
    unfold trimR; simp only [hcon, if_true]
  · show trs (trimR x).rs = trs x.rs
    unfold trimR; simp only [hcon, if_true]
  · show [flagB (trimR x).commit] = [flagB x.commit]
    unfold trimR; simp only [hcon, Bool.true_and]
  · show shB (trimR x) = shB x
    unfold shB trimR; simp only [hcon, if_true]
  · show (trimR x).reply = x.reply
    unfold trimR; simp only [hcon, if_true]
  · show num (trimR x).id = num x.id
    unfold trimR; simp only [hcon, if_true]
  · show (trimR x).name = x.name
    unfold trimR; simp only [hcon, if_true]
theorem recL_trim (x : Rc) : recL (trimR x) = recL x := by
  have h : (fl x.kind).map (partL (trimR x)) = (fl x.kind).map (partL x) := List.map_congr_left fun c hc => partL_trim x c hc
  show joinL ([x.kind % 256] :: (fl x.kind).map (partL (trimR x))) = joinL ([x.kind % 256] :: (fl x.kind).map (partL x))
  rw [h]
theorem trim_R (x tr : Rc) (ht : trimR x = tr) (hk : 1 ≤ x.kind ∧ x.kind ≤ 9) (hL : (recL x).length ≤ 12000000) {w : World} {s : Sl} (hx : RcR w x s) (hB : RcB x) (tW : (trs x.ws).length ≤ 12000000) (tR : (trs x.rs).length ≤ 12000000) (bS : s.nS ≤ 10000000) (bP : s.nP ≤ 10000000) : TB x tr := by
  subst ht
  have h3 := hx.sh.len; have h4 := hx.rp.len
  have e0 : (trs []).length = 1 := by decide
  refine ⟨?_, ?_, ?_, ?_, ?_, ?_, ?_, ?_, ?_, recL_trim x⟩
  all_goals unfold trimR; simp only
  all_goals split
  all_goals first | exact hB.boot | exact hB.sess | exact hB.seq | exact hB.id | exact hx.name | exact Ran.nil | omega | (simp; done)
theorem same_any {x : Rc} (tr : Rc) (s1 s2 : Sl) (w : World) (h1 : RcT w tr s1) (h2 : RcT w tr s2) (k : TB x tr) :
    Calls Try.prog 18 #[.agg (rcV tr.kind tr.boot tr.sess tr.seq s1.AW s1.nW s1.cW s1.AR s1.nR s1.cR tr.commit s1.AS s1.nS s1.cS s1.AP s1.nP s1.cP tr.id (strOfNums tr.name)), .agg (rcV tr.kind tr.boot tr.sess tr.seq s2.AW s2.nW s2.cW s2.AR s2.nR s2.cR tr.commit s2.AS s2.nS s2.cS s2.AP s2.nP s2.cP tr.id (strOfNums tr.name))] w fun e w' => e = .returned (.bool true) ∧ Below w.heap.size w w' := by
  obtain ⟨AW, nW, cW, AR, nR, cR, AS, nS, cS, AP, nP, cP⟩ := s1
  obtain ⟨BW, mW, dW, BR, mR, dR, BS, mS, dS, BP, mP, dP⟩ := s2
  have e1 : mW = nW := h2.ws.1.symm.trans h1.ws.1
  have e2 : mR = nR := h2.rs.1.symm.trans h1.rs.1
  have e3 : mS = nS := h2.sh.len.symm.trans h1.sh.len
  have e4 : mP = nP := h2.rp.len.symm.trans h1.rp.len
  subst e1 e2 e3 e4
  have l1 := trs_len tr.ws; have l2 := trs_len tr.rs
  have t1 := k.tW; have t2 := k.tR; have t3 := k.bS; have t4 := k.bP
  have a1 : tr.ws.length = mW := h1.ws.1
  have a2 : tr.rs.length = mR := h1.rs.1
  have a3 : tr.shards.length = mS := h1.sh.len
  have a4 : tr.reply.length = mP := h1.rp.len
  refine same_core _ _ _ _ _ _ _ AW BW mW cW dW AR BR mR cR dR AS BS mS cS dS AP BP mP cP dP tr.ws tr.rs tr.shards tr.reply w h1.ws h2.ws h1.rs h2.rs h1.sh h2.sh h1.rp h2.rp (by omega) (by omega) (by omega) (by unfold maxLen; omega) (fun t ht => ?_) (fun t ht => ?_)
  · have := trs_bd tr.ws _ t1 t ht; unfold maxLen; omega
  · have := trs_bd tr.rs _ t2 t ht; unfold maxLen; omega
theorem trim_any (x tr : Rc) (ht : trimR x = tr) (hk : 1 ≤ x.kind ∧ x.kind ≤ 9) (AW : Option Addr) (nW cW : Nat) (AR : Option Addr) (nR cR : Nat) (AS : Option Addr) (nS cS : Nat) (AP : Option Addr) (nP cP : Nat) (w : World) (h : RcR w x ⟨AW, nW, cW, AR, nR, cR, AS, nS, cS, AP, nP, cP⟩) :
    Calls Try.prog 21 #[.agg (rcV x.kind x.boot x.sess x.seq AW nW cW AR nR cR x.commit AS nS cS AP nP cP x.id (strOfNums x.name))] w fun e w' => ∃ EW eW fW ER eR fR ES eS fS EP eP fP, e = .returned (.agg (rcV tr.kind tr.boot tr.sess tr.seq EW eW fW ER eR fR tr.commit ES eS fS EP eP fP tr.id (strOfNums tr.name))) ∧ RcT w' tr ⟨EW, eW, fW, ER, eR, fR, ES, eS, fS, EP, eP, fP⟩ ∧ Below w.heap.size w w' := by
  subst ht
  obtain ⟨xk, xb, xs, xq, xws, xrs, xc, xsh, xrp, xi, xn⟩ := x
  simp only at hk
  have hc : xk = 1 ∨ xk = 2 ∨ xk = 3 ∨ xk = 4 ∨ xk = 5 ∨ xk = 6 ∨ xk = 7 ∨ xk = 8 ∨ xk = 9 := by omega
  have N : Ins w none 0 [] := ⟨Rd.nil_, fun _ h => by cases h⟩
  rcases hc with rfl | rfl | rfl | rfl | rfl | rfl | rfl | rfl | rfl
  · refine (trim_1 xb xs xq AW nW cW AR nR cR xc AS nS cS AP nP cP xi (strOfNums xn) w).mono ?_
    rintro e w' ⟨rfl, hb⟩
    exact ⟨AW, nW, cW, AR, nR, cR, none, 0, 0, none, 0, 0, rfl, ⟨h.ws.keep hb, h.rs.keep hb, N.keep hb, Bs.nil_, Nat.le_refl _⟩, hb⟩
  · refine (trim_2 xb xs xq AW nW cW AR nR cR xc AS nS cS AP nP cP xi (strOfNums xn) w).mono ?_
    rintro e w' ⟨rfl, hb⟩
    exact ⟨none, 0, 0, none, 0, 0, none, 0, 0, none, 0, 0, rfl, ⟨Trs.nil_, Trs.nil_, N.keep hb, Bs.nil_, Nat.le_refl _⟩, hb⟩
  · refine (trim_3 xb xs xq AW nW cW AR nR cR xc AS nS cS AP nP cP xi (strOfNums xn) w).mono ?_
    rintro e w' ⟨rfl, hb⟩
    exact ⟨none, 0, 0, none, 0, 0, none, 0, 0, none, 0, 0, rfl, ⟨Trs.nil_, Trs.nil_, N.keep hb, Bs.nil_, Nat.le_refl _⟩, hb⟩
  · refine (trim_4 xb xs xq AW nW cW AR nR cR xc AS nS cS AP nP cP xi (strOfNums xn) w).mono ?_
    rintro e w' ⟨rfl, hb⟩
    exact ⟨AW, nW, cW, none, 0, 0, none, 0, 0, AP, nP, cP, rfl, ⟨h.ws.keep hb, Trs.nil_, N.keep hb, h.rp.keep hb, h.rc⟩, hb⟩
  · refine (trim_5 xb xs xq AW nW cW AR nR cR xc AS nS cS AP nP cP xi (strOfNums xn) w).mono ?_
    rintro e w' ⟨rfl, hb⟩
    exact ⟨none, 0, 0, none, 0, 0, none, 0, 0, none, 0, 0, rfl, ⟨Trs.nil_, Trs.nil_, N.keep hb, Bs.nil_, Nat.le_refl _⟩, hb⟩
  · refine (trim_6 xb xs xq AW nW cW AR nR cR xc AS nS cS AP nP cP xi (strOfNums xn) w).mono ?_
    rintro e w' ⟨rfl, hb⟩
    exact ⟨none, 0, 0, none, 0, 0, AS, nS, cS, AP, nP, cP, rfl, ⟨Trs.nil_, Trs.nil_, h.sh.keep hb, h.rp.keep hb, h.rc⟩, hb⟩
  · refine (trim_7 xb xs xq AW nW cW AR nR cR xc AS nS cS AP nP cP xi (strOfNums xn) w).mono ?_
    rintro e w' ⟨rfl, hb⟩
    exact ⟨none, 0, 0, none, 0, 0, none, 0, 0, none, 0, 0, rfl, ⟨Trs.nil_, Trs.nil_, N.keep hb, Bs.nil_, Nat.le_refl _⟩, hb⟩
  · refine (trim_8 xb xs xq AW nW cW AR nR cR xc AS nS cS AP nP cP xi (strOfNums xn) w).mono ?_
    rintro e w' ⟨rfl, hb⟩
    exact ⟨none, 0, 0, none, 0, 0, none, 0, 0, none, 0, 0, rfl, ⟨Trs.nil_, Trs.nil_, N.keep hb, Bs.nil_, Nat.le_refl _⟩, hb⟩
  · refine (trim_9 xb xs xq AW nW cW AR nR cR xc AS nS cS AP nP cP xi (strOfNums xn) w).mono ?_
    rintro e w' ⟨rfl, hb⟩
    exact ⟨none, 0, 0, none, 0, 0, none, 0, 0, none, 0, 0, rfl, ⟨Trs.nil_, Trs.nil_, N.keep hb, Bs.nil_, Nat.le_refl _⟩, hb⟩
end Go.Proofs.Ytmjjbfcblmmipaa
