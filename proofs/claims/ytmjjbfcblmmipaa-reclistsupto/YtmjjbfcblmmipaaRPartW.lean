/- The reference: writes, ranges, a Txn as bytes; which kinds have one. -/
import Derived.Test.YtmjjbfcblmmipaaBytesW
namespace Go.Proofs.Ytmjjbfcblmmipaa
set_option linter.unusedVariables false
set_option linter.unusedSimpArgs false
open Go.RowKit

set_option maxRecDepth 100000 in
set_option maxHeartbeats 2000000 in
theorem rwrites_any {B : Nat} (A : Option Addr) (n c : Nat) (l : List Tr) (w : World) (h : Trs w A n l) (hn : n ≤ 20000000) (hbig : (trs l).length + 20 ≤ 140737488355328) :
    Calls Try.prog 57 #[.slice A n c] w (PartP B w (trs l)) := by
  obtain ⟨j0, hj, hy0, hy1, hy2⟩ := info_parts info23
  have HLN := Lib.hid h.1
  go_enter Try.func57, Try.ntmps57
  go_wp2_with fail
  go_loopw [3, 4] (fun pv iv wr => ∃ (k m c' : Nat) (A' : Option Addr), pv = .slice A' m c' ∧ iv = .int .i64 k ∧ k ≤ n ∧ m ≤ 3 * k ∧ Pts wr w.heap.size A' m c' (trP (l.take k)) ∧ Below w.heap.size w wr) (fun _ iv _ => n - (intOf iv).toNat)
  case atStart => exact ⟨0, 0, 0, none, rfl, rfl, by omega, by omega, Pts.nil_, Below.refl _ _⟩
  case round =>
    obtain ⟨k, m, c', A', rfl, rfl, hk, hm, hp, hb⟩ := hrel
    have hs := hb.size
    by_cases hlt : k < n
    · obtain ⟨b, off, A1, n1, c1, A2, n2, c2, t, rfl, hbl, HX, HA, HB, hc0, hc1, hc2, hb1, hn1, hb2, hn2⟩ := h.at_ hlt
      have P1 := Lib.hid (Pt.arg (base := w.heap.size) hb1 hn1 (Nat.le_refl _))
      have P2 := Lib.hid (Pt.arg (base := w.heap.size) hb2 hn2 (Nat.le_refl _))
      have HSN := Lib.hid (trP_snoc HX.out)
      have d0 := (hb.cell (p := ⟨b, off + k * 3, none⟩) hbl).trans hc0
      have d1 := (hb.cell (p := ⟨b, off + k * 3 + 1, none⟩) hbl).trans hc1
      have d2 := (hb.cell (p := ⟨b, off + k * 3 + 2, none⟩) hbl).trans hc2
      generalize t.f = f at *
      clear hb1 hb2 hc0 hc1 hc2
      have e0 : wr.drew.cell? ⟨b, off + k * 3, none⟩ = some (.slice A1 n1 c1) := d0
      have e1 : wr.drew.cell? ⟨b, off + k * 3 + 1, none⟩ = some (.slice A2 n2 c2) := d1
      have e2 : wr.drew.cell? ⟨b, off + k * 3 + 2, none⟩ = some (.bool f) := d2
      have hbB : Below w.heap.size w wr.drew := below_n hb 1
      have hpB : Pts wr.drew w.heap.size A' m c' (trP (l.take k)) := hp
      have hsB : w.heap.size ≤ wr.drew.heap.size := hs
      have hbr : b < wr.drew.heap.size := Nat.lt_of_lt_of_le hbl hs
      have z0 : (0 : Int) ≤ (k : Int) := by omega
      have z1 : (k : Int) < (n : Int) := by omega
      clear hp
      go_wp2_with fail
      go_region_held3 (fun w' => w'.cell? ⟨b, off + k * 3, none⟩ = some (.slice A1 n1 c1) ∧ w'.cell? ⟨b, off + k * 3 + 1, none⟩ = some (.slice A2 n2 c2) ∧ w'.cell? ⟨b, off + k * 3 + 2, none⟩ = some (.bool f)) (first | exact ⟨e0, e1, e2⟩ | exact ⟨f0, f1, f2⟩ | exact ⟨g0, g1, g2⟩ | exact ⟨i0, i1, i2⟩) (first | (go_at_call 60; refine (rflag_one _ _).mono ?_; rintro e w4 ⟨A4, c4, rfl, ho4, hb4⟩; have f0 := (hb4.cell (p := ⟨b, off + k * 3, none⟩) hbr).trans e0; have f1 := (hb4.cell (p := ⟨b, off + k * 3 + 1, none⟩) hbr).trans e1; have f2 := (hb4.cell (p := ⟨b, off + k * 3 + 2, none⟩) hbr).trans e2; have hp4 := hpB.keep hb4; have hbw4 := hbB.trans (hb4.mono hsB); have hs4 := hbw4.size; have hw4l := Nat.lt_of_lt_of_le hbl hs4; have hbo := below_alloc w4 (.cells #[.slice A4 1 c4, .slice A1 n1 c1, .slice A2 n2 c2] 28); have g0 := (hbo.cell (p := ⟨b, off + k * 3, none⟩) hw4l).trans f0; have g1 := (hbo.cell (p := ⟨b, off + k * 3 + 1, none⟩) hw4l).trans f1; have g2 := (hbo.cell (p := ⟨b, off + k * 3 + 2, none⟩) hw4l).trans f2; have P3 := Lib.hid (Pt.own (base := w.heap.size) ho4 (flagB_ran f)); obtain ⟨vs, hrow, HROW⟩ := hp4.row (.cells #[.slice A4 1 c4, .slice A1 n1 c1, .slice A2 n2 c2] 28)) | (refine step_append_rd rfl (.tmp 11) (.tmp 28) 62 rfl j0 (.slice none 0 0) 24 Try.underlying62 hj hy0 hy1 hy2 rfl (by simp [Act.eval, Act.put]) hrow (some ⟨w4.heap.size, 0, none⟩) 3 3 [.slice A4 1 c4, .slice A1 n1 c1, .slice A2 n2 c2] (by simp [Act.eval, Act.put]) (rd_three w4 _ _ _ 28) (three_slices _ _ _ _ _ _ _ _ _) (by unfold maxLen; omega) (by omega) (by simp; omega) ?_; intro A5 c5 w5 ho5 hg5; have hb55 := hg5.below (B := w.heap.size) (by simp; omega) (fun j hj => (hrow.lies j hj).1); have i0 := (hb55.cell (p := ⟨b, off + k * 3, none⟩) hbl).trans g0; have i1 := (hb55.cell (p := ⟨b, off + k * 3 + 1, none⟩) hbl).trans g1; have i2 := (hb55.cell (p := ⟨b, off + k * 3 + 2, none⟩) hbl).trans g2))
      have hp5 : Pts w5 w.heap.size A5 (m + 3) c5 (trP (l.take (k + 1))) := by
        rw [HSN.out]
        exact HROW.out [.slice A4 1 c4, .slice A1 n1 c1, .slice A2 n2 c2] [[flagB f], t.a, t.b] w5 A5 c5 rfl (pt_three P3.out (P1.out.keepW hbw4) (P2.out.keepW hbw4)) ho5 hg5
      have hb5 := (hbw4.alloc hs4 (.cells #[.slice A4 1 c4, .slice A1 n1 c1, .slice A2 n2 c2] 28)).trans hb55
      clear hrow ho5 hg5 hp4 ho4 hb4 hbo f0 f1 f2 g0 g1 g2 i0 i1 i2 e0 e1 e2 d0 d1 d2 hbB hpB hb55
      go_wp2
      go_roundw
      case rel => exact ⟨k + 1, m + 3, c5, A5, rfl, by go_num, by omega, by omega, hp5, hb5⟩
      case measure => simp [intOf]; omega
    · obtain rfl : k = n := by omega
      rw [show l.take k = l from List.take_of_length_le (by rw [HLN.out]; exact Nat.le_refl _)] at hp
      have HBG : Hid ((joinL (trP l)).length + 20 ≤ 140737488355328) := Lib.hid hbig
      have HRN := Lib.hid (joinL_ran hp.bss)
      go_wp2_with fail
      refine (rjoin_any A' m c' (trP l) _ hp.bss (by unfold maxLen; omega) HBG.out).mono ?_
      rintro e w2 ⟨A2, n2, c2, rfl, hn2, ho2, hb2⟩
      have hb3 := hb.trans (hb2.mono hs)
      clear hn2 hp hb2
      go_wp2
      go_ret
      exact partP_own ho2 HRN.out hb3
set_option maxRecDepth 100000 in
set_option maxHeartbeats 2000000 in
theorem rranges_any {B : Nat} (A : Option Addr) (n c : Nat) (l : List Tr) (w : World) (h : Trs w A n l) (hn : n ≤ 20000000) (hbig : (trs l).length + 20 ≤ 140737488355328) :
    Calls Try.prog 58 #[.slice A n c] w (PartP B w (trs l)) := by
  obtain ⟨j0, hj, hy0, hy1, hy2⟩ := info_parts info23
  have HLN := Lib.hid h.1
  go_enter Try.func58, Try.ntmps58
  go_wp2_with fail
  go_loopw [3, 4] (fun pv iv wr => ∃ (k m c' : Nat) (A' : Option Addr), pv = .slice A' m c' ∧ iv = .int .i64 k ∧ k ≤ n ∧ m ≤ 3 * k ∧ Pts wr w.heap.size A' m c' (trP (l.take k)) ∧ Below w.heap.size w wr) (fun _ iv _ => n - (intOf iv).toNat)
  case atStart => exact ⟨0, 0, 0, none, rfl, rfl, by omega, by omega, Pts.nil_, Below.refl _ _⟩
  case round =>
    obtain ⟨k, m, c', A', rfl, rfl, hk, hm, hp, hb⟩ := hrel
    have hs := hb.size
    by_cases hlt : k < n
    · obtain ⟨b, off, A1, n1, c1, A2, n2, c2, t, rfl, hbl, HX, HA, HB, hc0, hc1, hc2, hb1, hn1, hb2, hn2⟩ := h.at_ hlt
      have P1 := Lib.hid (Pt.arg (base := w.heap.size) hb1 hn1 (Nat.le_refl _))
      have P2 := Lib.hid (Pt.arg (base := w.heap.size) hb2 hn2 (Nat.le_refl _))
      have HSN := Lib.hid (trP_snoc HX.out)
      have d0 := (hb.cell (p := ⟨b, off + k * 3, none⟩) hbl).trans hc0
      have d1 := (hb.cell (p := ⟨b, off + k * 3 + 1, none⟩) hbl).trans hc1
      have d2 := (hb.cell (p := ⟨b, off + k * 3 + 2, none⟩) hbl).trans hc2
      generalize t.f = f at *
      clear hb1 hb2 hc0 hc1 hc2
      have e0 : wr.drew.cell? ⟨b, off + k * 3, none⟩ = some (.slice A1 n1 c1) := d0
      have e1 : wr.drew.cell? ⟨b, off + k * 3 + 1, none⟩ = some (.slice A2 n2 c2) := d1
      have e2 : wr.drew.cell? ⟨b, off + k * 3 + 2, none⟩ = some (.bool f) := d2
      have hbB : Below w.heap.size w wr.drew := below_n hb 1
      have hpB : Pts wr.drew w.heap.size A' m c' (trP (l.take k)) := hp
      have hsB : w.heap.size ≤ wr.drew.heap.size := hs
      have hbr : b < wr.drew.heap.size := Nat.lt_of_lt_of_le hbl hs
      have z0 : (0 : Int) ≤ (k : Int) := by omega
      have z1 : (k : Int) < (n : Int) := by omega
      clear hp
      go_wp2_with fail
      go_region_held3 (fun w' => w'.cell? ⟨b, off + k * 3, none⟩ = some (.slice A1 n1 c1) ∧ w'.cell? ⟨b, off + k * 3 + 1, none⟩ = some (.slice A2 n2 c2) ∧ w'.cell? ⟨b, off + k * 3 + 2, none⟩ = some (.bool f)) (first | exact ⟨e0, e1, e2⟩ | exact ⟨f0, f1, f2⟩ | exact ⟨g0, g1, g2⟩ | exact ⟨i0, i1, i2⟩) (first | (go_at_call 60; refine (rflag_one _ _).mono ?_; rintro e w4 ⟨A4, c4, rfl, ho4, hb4⟩; have f0 := (hb4.cell (p := ⟨b, off + k * 3, none⟩) hbr).trans e0; have f1 := (hb4.cell (p := ⟨b, off + k * 3 + 1, none⟩) hbr).trans e1; have f2 := (hb4.cell (p := ⟨b, off + k * 3 + 2, none⟩) hbr).trans e2; have hp4 := hpB.keep hb4; have hbw4 := hbB.trans (hb4.mono hsB); have hs4 := hbw4.size; have hw4l := Nat.lt_of_lt_of_le hbl hs4; have hbo := below_alloc w4 (.cells #[.slice A4 1 c4, .slice A1 n1 c1, .slice A2 n2 c2] 28); have g0 := (hbo.cell (p := ⟨b, off + k * 3, none⟩) hw4l).trans f0; have g1 := (hbo.cell (p := ⟨b, off + k * 3 + 1, none⟩) hw4l).trans f1; have g2 := (hbo.cell (p := ⟨b, off + k * 3 + 2, none⟩) hw4l).trans f2; have P3 := Lib.hid (Pt.own (base := w.heap.size) ho4 (flagB_ran f)); obtain ⟨vs, hrow, HROW⟩ := hp4.row (.cells #[.slice A4 1 c4, .slice A1 n1 c1, .slice A2 n2 c2] 28)) | (refine step_append_rd rfl (.tmp 11) (.tmp 28) 62 rfl j0 (.slice none 0 0) 24 Try.underlying62 hj hy0 hy1 hy2 rfl (by simp [Act.eval, Act.put]) hrow (some ⟨w4.heap.size, 0, none⟩) 3 3 [.slice A4 1 c4, .slice A1 n1 c1, .slice A2 n2 c2] (by simp [Act.eval, Act.put]) (rd_three w4 _ _ _ 28) (three_slices _ _ _ _ _ _ _ _ _) (by unfold maxLen; omega) (by omega) (by simp; omega) ?_; intro A5 c5 w5 ho5 hg5; have hb55 := hg5.below (B := w.heap.size) (by simp; omega) (fun j hj => (hrow.lies j hj).1); have i0 := (hb55.cell (p := ⟨b, off + k * 3, none⟩) hbl).trans g0; have i1 := (hb55.cell (p := ⟨b, off + k * 3 + 1, none⟩) hbl).trans g1; have i2 := (hb55.cell (p := ⟨b, off + k * 3 + 2, none⟩) hbl).trans g2))
      have hp5 : Pts w5 w.heap.size A5 (m + 3) c5 (trP (l.take (k + 1))) := by
        rw [HSN.out]
        exact HROW.out [.slice A4 1 c4, .slice A1 n1 c1, .slice A2 n2 c2] [[flagB f], t.a, t.b] w5 A5 c5 rfl (pt_three P3.out (P1.out.keepW hbw4) (P2.out.keepW hbw4)) ho5 hg5
      have hb5 := (hbw4.alloc hs4 (.cells #[.slice A4 1 c4, .slice A1 n1 c1, .slice A2 n2 c2] 28)).trans hb55
      clear hrow ho5 hg5 hp4 ho4 hb4 hbo f0 f1 f2 g0 g1 g2 i0 i1 i2 e0 e1 e2 d0 d1 d2 hbB hpB hb55
      go_wp2
      go_roundw
      case rel => exact ⟨k + 1, m + 3, c5, A5, rfl, by go_num, by omega, by omega, hp5, hb5⟩
      case measure => simp [intOf]; omega
    · obtain rfl : k = n := by omega
      rw [show l.take k = l from List.take_of_length_le (by rw [HLN.out]; exact Nat.le_refl _)] at hp
      have HBG : Hid ((joinL (trP l)).length + 20 ≤ 140737488355328) := Lib.hid hbig
      have HRN := Lib.hid (joinL_ran hp.bss)
      go_wp2_with fail
      refine (rjoin_any A' m c' (trP l) _ hp.bss (by unfold maxLen; omega) HBG.out).mono ?_
      rintro e w2 ⟨A2, n2, c2, rfl, hn2, ho2, hb2⟩
      have hb3 := hb.trans (hb2.mono hs)
      clear hn2 hp hb2
      go_wp2
      go_ret
      exact partP_own ho2 HRN.out hb3
set_option maxRecDepth 100000 in
set_option maxHeartbeats 2000000 in
theorem rtxn_any {B : Nat} (b s q : Int) (w : World) (h0 : 0 ≤ b ∧ b ≤ 18446744073709551615) (h1 : 0 ≤ s ∧ s ≤ 18446744073709551615) (h2 : 0 ≤ q ∧ q ≤ 18446744073709551615) :
    Calls Try.prog 56 #[.agg #[.int .u64 b, .int .u64 s, .int .u64 q]] w (PartP B w (nums [b, s, q])) := by
  obtain ⟨i0, hi, hz0, hz1, hz2⟩ := info_parts info5
  have HNN := Lib.hid (show nums [b, s, q] = num b ++ num s ++ num q by simp [nums])
  have HRN : Hid (Ran (nums [b, s, q])) := by
    rw [HNN.out]; exact ((num_ran b h0.1).append (num_ran s h1.1)).append (num_ran q h2.1)
  have HB := Lib.hid (fun W => rnumber_any b W h0.1 h0.2)
  have HS := Lib.hid (fun W => rnumber_any s W h1.1 h1.2)
  have HQ := Lib.hid (fun W => rnumber_any q W h2.1 h2.2)
  have lb := num_le b
  have ls := num_le s
  have lq := num_le q
  have hnew := heap_alloc_new w (.cells #[.int .u64 b, .int .u64 s, .int .u64 q] 24)
  have e0 : (w.alloc (.cells #[.int .u64 b, .int .u64 s, .int .u64 q] 24)).drew.cell? ⟨w.heap.size, 0, none⟩ = some (.int .u64 b) := three_cell0 hnew
  have e1 : (w.alloc (.cells #[.int .u64 b, .int .u64 s, .int .u64 q] 24)).drew.cell? ⟨w.heap.size, 1, none⟩ = some (.int .u64 s) := three_cell1 hnew
  have e2 : (w.alloc (.cells #[.int .u64 b, .int .u64 s, .int .u64 q] 24)).drew.cell? ⟨w.heap.size, 2, none⟩ = some (.int .u64 q) := three_cell2 hnew
  have hb0 : Below w.heap.size w (w.alloc (.cells #[.int .u64 b, .int .u64 s, .int .u64 q] 24)).drew := below_n (below_alloc w _) 1
  have hl0 : w.heap.size < (w.alloc (.cells #[.int .u64 b, .int .u64 s, .int .u64 q] 24)).drew.heap.size := by show w.heap.size < (w.alloc (.cells #[.int .u64 b, .int .u64 s, .int .u64 q] 24)).heap.size; simp
  have hs0 := hb0.size
  clear hnew h0 h1 h2
  go_enter Try.func56, Try.ntmps56
  go_wp2_with fail
  go_region_held3 (fun w' => w'.cell? ⟨w.heap.size, 0, none⟩ = some (.int .u64 b) ∧ w'.cell? ⟨w.heap.size, 1, none⟩ = some (.int .u64 s) ∧ w'.cell? ⟨w.heap.size, 2, none⟩ = some (.int .u64 q)) (first | exact ⟨e0, e1, e2⟩ | exact ⟨f0, f1, f2⟩ | exact ⟨g0, g1, g2⟩ | exact ⟨k0, k1, k2⟩ | exact ⟨l0, l1, l2⟩ | exact ⟨m0, m1, m2⟩) (first | (go_at_call_of 59 (Value.int IntKind.u64 b); refine (HB.out _).mono ?_; rintro e w1 ⟨A1, c1, n1, rfl, hn1, ho1, hb1⟩; have HN1 := Lib.hid hn1; have lN1 : n1 ≤ 9 := (by omega); clear hn1; have f0 := (hb1.cell (p := ⟨w.heap.size, 0, none⟩) hl0).trans e0; have f1 := (hb1.cell (p := ⟨w.heap.size, 1, none⟩) hl0).trans e1; have f2 := (hb1.cell (p := ⟨w.heap.size, 2, none⟩) hl0).trans e2; have hbw1 := hb0.trans (hb1.mono hs0); have hs1 := hbw1.size; have hl1 := Nat.lt_of_lt_of_le hl0 hb1.size; have hS1 := hb1.size) | (go_at_call_of 59 (Value.int IntKind.u64 s); refine (HS.out _).mono ?_; rintro e w2 ⟨A2, c2, n2, rfl, hn2, ho2, hb2⟩; have HN2 := Lib.hid hn2; have lN2 : n2 ≤ 9 := (by omega); clear hn2; have g0 := (hb2.cell (p := ⟨w.heap.size, 0, none⟩) hl1).trans f0; have g1 := (hb2.cell (p := ⟨w.heap.size, 1, none⟩) hl1).trans f1; have g2 := (hb2.cell (p := ⟨w.heap.size, 2, none⟩) hl1).trans f2; have hbw2 := hbw1.trans (hb2.mono hs1); have hs2 := hbw2.size; have hl2 := Nat.lt_of_lt_of_le hl1 hb2.size; have hS2 := Nat.le_trans hS1 hb2.size; have ho12 := ho1.below hb2 (fun k hk => (ho1.lies k hk).2)) | (refine step_append_rd rfl (.tmp 5) (.tmp 8) 28 rfl i0 (.int .u8 0) 1 Try.underlying28 hi hz0 hz1 hz2 rfl (by simp [Act.eval, Act.put]) ho12 A2 n2 c2 (By (num s)) (by simp [Act.eval, Act.put]) ho2.rd (By_one _) (by unfold maxLen; omega) (by omega) hS2 ?_; intro A3 c3 w3 ho3 hg3; have hbg3 := hg3.below (B := (w.alloc (.cells #[.int .u64 b, .int .u64 s, .int .u64 q] 24)).drew.heap.size) hS2 (fun k hk => (ho12.lies k hk).1); have k0 := (hbg3.cell (p := ⟨w.heap.size, 0, none⟩) hl0).trans g0; have k1 := (hbg3.cell (p := ⟨w.heap.size, 1, none⟩) hl0).trans g1; have k2 := (hbg3.cell (p := ⟨w.heap.size, 2, none⟩) hl0).trans g2; have hbw3 := hbw2.trans (hbg3.mono hs0); have hs3 := hbw3.size; have hl3 := Nat.lt_of_lt_of_le hl2 hbg3.size; have hS3 := Nat.le_trans hS2 hbg3.size) | (go_at_call_of 59 (Value.int IntKind.u64 q); refine (HQ.out _).mono ?_; rintro e w4 ⟨A4, c4, n4, rfl, hn4, ho4, hb4⟩; have HN4 := Lib.hid hn4; have lN4 : n4 ≤ 9 := (by omega); clear hn4; have l0 := (hb4.cell (p := ⟨w.heap.size, 0, none⟩) hl3).trans k0; have l1 := (hb4.cell (p := ⟨w.heap.size, 1, none⟩) hl3).trans k1; have l2 := (hb4.cell (p := ⟨w.heap.size, 2, none⟩) hl3).trans k2; have hbw4 := hbw3.trans (hb4.mono hs3); have hs4 := hbw4.size; have hS4 := Nat.le_trans hS3 hb4.size; have ho34 := ho3.below hb4 (fun k hk => (ho3.lies k hk).2)) | (refine step_append_rd rfl (.tmp 9) (.tmp 12) 28 rfl i0 (.int .u8 0) 1 Try.underlying28 hi hz0 hz1 hz2 rfl (by simp [Act.eval, Act.put]) ho34 A4 n4 c4 (By (num q)) (by simp [Act.eval, Act.put]) ho4.rd (By_one _) (by unfold maxLen; omega) (by omega) hS4 ?_; intro A5 c5 w5 ho5 hg5; have hbg5 := hg5.below (B := (w.alloc (.cells #[.int .u64 b, .int .u64 s, .int .u64 q] 24)).drew.heap.size) hS4 (fun k hk => (ho34.lies k hk).1); have m0 := (hbg5.cell (p := ⟨w.heap.size, 0, none⟩) hl0).trans l0; have m1 := (hbg5.cell (p := ⟨w.heap.size, 1, none⟩) hl0).trans l1; have m2 := (hbg5.cell (p := ⟨w.heap.size, 2, none⟩) hl0).trans l2))
  have hb6 := hbw4.trans (hbg5.mono hs0)
  have ho6 : Own w5 (w.alloc (.cells #[.int .u64 b, .int .u64 s, .int .u64 q] 24)).drew.heap.size 5 A5 (n1 + n2 + n4) c5 (By (nums [b, s, q])) := by
    rw [HNN.out, By_append, By_append]; exact ho5
  clear hbg5 hg5 ho5 ho34 ho4 hb4 ho3 hg3 hbg3 ho12 ho2 hb2 ho1 hb1 e0 e1 e2 f0 f1 f2 g0 g1 g2 k0 k1 k2 l0 l1 l2 m0 m1 m2
  go_wp2
  go_ret
  exact partP_own ho6 HRN.out hb6
/-- Does a kind use a Txn? -/
def hasT (k : Int) : Bool := decide ((1 ≤ k ∧ k ≤ 4) ∨ k = 6 ∨ k = 9)
set_option maxHeartbeats 1000000 in
theorem hasTxn_any (k : Int) (w : World) : Calls Try.prog 24 #[.int .i64 k] w fun e w' => e = .returned (.bool (hasT k)) ∧ w = w' := by
  by_cases h1 : 1 ≤ k
  · by_cases h4 : k ≤ 4
    · have HD := Lib.hid (show hasT k = true by unfold hasT; simp; omega)
      go_enter Try.func24, Try.ntmps24
      go_wp2
      go_ret
      exact ⟨by rw [HD.out]; rfl, rfl⟩
    · by_cases h6 : k = 6
      · subst h6
        go_enter Try.func24, Try.ntmps24
        go_wp2
        go_ret
        exact ⟨rfl, rfl⟩
      · by_cases h9 : k = 9
        · subst h9
          go_enter Try.func24, Try.ntmps24
          go_wp2
          go_ret
          exact ⟨rfl, rfl⟩
        · have HD := Lib.hid (show hasT k = false by unfold hasT; simp; omega)
          have b6 : (k == 6) = false := by simp [h6]
          have b9 : (k == 9) = false := by simp [h9]
          go_enter Try.func24, Try.ntmps24
          go_wp2
          go_ret
          exact ⟨by rw [HD.out]; rfl, rfl⟩
  · have HD := Lib.hid (show hasT k = false by unfold hasT; simp; omega)
    have b6 : (k == 6) = false := by simp; omega
    have b9 : (k == 9) = false := by simp; omega
    go_enter Try.func24, Try.ntmps24
    go_wp2
    go_ret
    exact ⟨by rw [HD.out]; rfl, rfl⟩
end Go.Proofs.Ytmjjbfcblmmipaa
