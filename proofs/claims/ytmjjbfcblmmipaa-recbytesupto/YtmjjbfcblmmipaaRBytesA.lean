/- The reference's Bytes, all kinds. -/
import Derived.Test.YtmjjbfcblmmipaaRBytesB
import Derived.Test.YtmjjbfcblmmipaaClW
namespace Go.Proofs.Ytmjjbfcblmmipaa
set_option linter.unusedVariables false
set_option linter.unusedSimpArgs false
open Go.RowKit


set_option maxRecDepth 100000 in
set_option maxHeartbeats 4000000 in
theorem rbytes_none (x : Rc) (s : Sl) (w : World) (h : RcR w x s) (hbig : (recL x).length + 20 ≤ 140737488355328) (hk : x.kind ≤ 0 ∨ 10 ≤ x.kind) :
    Calls Try.prog 17 #[.agg #[.int .i64 x.kind, .int .u64 x.boot, .int .u64 x.sess, .int .u64 x.seq, .slice s.AW s.nW s.cW, .slice s.AR s.nR s.cR, .bool x.commit, .slice s.AS s.nS s.cS, .slice s.AP s.nP s.cP, .int .u64 x.id, .string (strOfNums x.name)]] w (BytesP w (recL x)) := by
  obtain ⟨i0, hi, hz0, hz1, hz2⟩ := info_parts info5
  obtain ⟨j0, hj, hy0, hy1, hy2⟩ := info_parts info23
  have HH := Lib.hid h; clear h
  have HFL : Hid (fl x.kind = []) := fl_none hk
  have HHT := Lib.hid (hasT_no (k := x.kind) (by omega))
  have HK := Lib.hid hk; clear hk
  have HRE := Lib.hid (show recL x = joinL ([x.kind % 256] :: (fl x.kind).map (partL x)) from rfl)
  rw [HRE.out] at hbig ⊢
  rw [HFL.out] at hbig ⊢
  have HBG := Lib.hid hbig; clear hbig
  have HTX := Lib.hid (hasTxn_any x.kind)
  rw [HHT.out] at HTX
  clear HRE HFL HHT
  generalize strOfNums x.name = SN at *
  have HH8 := Lib.hid (show 0 ≤ x.kind % 256 ∧ x.kind % 256 ≤ 255 by omega)
  have hnb : ((w.alloc (.cells #[.int .i64 x.kind, .int .u64 x.boot, .int .u64 x.sess, .int .u64 x.seq, .slice s.AW s.nW s.cW, .slice s.AR s.nR s.cR, .bool x.commit, .slice s.AS s.nS s.cS, .slice s.AP s.nP s.cP, .int .u64 x.id, .string SN] 30)).alloc (.cells #[.int .u8 (x.kind % 256)] 5)).heap[w.heap.size + 1]? = some (.cells #[.int .u8 (x.kind % 256)] 5 (0, 0)) := by
    have := heap_alloc_new (w.alloc (.cells #[.int .i64 x.kind, .int .u64 x.boot, .int .u64 x.sess, .int .u64 x.seq, .slice s.AW s.nW s.cW, .slice s.AR s.nR s.cR, .bool x.commit, .slice s.AS s.nS s.cS, .slice s.AP s.nP s.cP, .int .u64 x.id, .string SN] 30)) (.cells #[.int .u8 (x.kind % 256)] 5)
    simpa using this
  have hs2 : ((w.alloc (.cells #[.int .i64 x.kind, .int .u64 x.boot, .int .u64 x.sess, .int .u64 x.seq, .slice s.AW s.nW s.cW, .slice s.AR s.nR s.cR, .bool x.commit, .slice s.AS s.nS s.cS, .slice s.AP s.nP s.cP, .int .u64 x.id, .string SN] 30)).alloc (.cells #[.int .u8 (x.kind % 256)] 5)).heap.size = w.heap.size + 1 + 1 := by simp
  have hp0 : Pts (((w.alloc (.cells #[.int .i64 x.kind, .int .u64 x.boot, .int .u64 x.sess, .int .u64 x.seq, .slice s.AW s.nW s.cW, .slice s.AR s.nR s.cR, .bool x.commit, .slice s.AS s.nS s.cS, .slice s.AP s.nP s.cP, .int .u64 x.id, .string SN] 30)).alloc (.cells #[.int .u8 (x.kind % 256)] 5)).alloc (.cells #[.slice (some ⟨w.heap.size + 1, 0, none⟩) 1 1] 28)) w.heap.size (some ⟨w.heap.size + 1 + 1, 0, none⟩) 1 1 [[x.kind % 256]] := by
    have := pts_first (w := ((w.alloc (.cells #[.int .i64 x.kind, .int .u64 x.boot, .int .u64 x.sess, .int .u64 x.seq, .slice s.AW s.nW s.cW, .slice s.AR s.nR s.cR, .bool x.commit, .slice s.AS s.nS s.cS, .slice s.AP s.nP s.cP, .int .u64 x.id, .string SN] 30)).alloc (.cells #[.int .u8 (x.kind % 256)] 5))) (base := w.heap.size) (x.kind % 256) HH8.out hnb (by omega) (by omega)
    rwa [hs2] at this
  have hb3 : Below w.heap.size w (((w.alloc (.cells #[.int .i64 x.kind, .int .u64 x.boot, .int .u64 x.sess, .int .u64 x.seq, .slice s.AW s.nW s.cW, .slice s.AR s.nR s.cR, .bool x.commit, .slice s.AS s.nS s.cS, .slice s.AP s.nP s.cP, .int .u64 x.id, .string SN] 30)).alloc (.cells #[.int .u8 (x.kind % 256)] 5)).alloc (.cells #[.slice (some ⟨w.heap.size + 1, 0, none⟩) 1 1] 28)) := ((below_alloc w _).alloc (by simp) _).alloc (by simp; omega) _
  have hbx : (((w.alloc (.cells #[.int .i64 x.kind, .int .u64 x.boot, .int .u64 x.sess, .int .u64 x.seq, .slice s.AW s.nW s.cW, .slice s.AR s.nR s.cR, .bool x.commit, .slice s.AS s.nS s.cS, .slice s.AP s.nP s.cP, .int .u64 x.id, .string SN] 30)).alloc (.cells #[.int .u8 (x.kind % 256)] 5)).alloc (.cells #[.slice (some ⟨w.heap.size + 1, 0, none⟩) 1 1] 28)).heap[w.heap.size]? = some (.cells #[.int .i64 x.kind, .int .u64 x.boot, .int .u64 x.sess, .int .u64 x.seq, .slice s.AW s.nW s.cW, .slice s.AR s.nR s.cR, .bool x.commit, .slice s.AS s.nS s.cS, .slice s.AP s.nP s.cP, .int .u64 x.id, .string SN] 30 (0, 0)) := by
    have h1 := heap_alloc_new w (.cells #[.int .i64 x.kind, .int .u64 x.boot, .int .u64 x.sess, .int .u64 x.seq, .slice s.AW s.nW s.cW, .slice s.AR s.nR s.cR, .bool x.commit, .slice s.AS s.nS s.cS, .slice s.AP s.nP s.cP, .int .u64 x.id, .string SN] 30)
    have h2 := (below_alloc (w.alloc (.cells #[.int .i64 x.kind, .int .u64 x.boot, .int .u64 x.sess, .int .u64 x.seq, .slice s.AW s.nW s.cW, .slice s.AR s.nR s.cR, .bool x.commit, .slice s.AS s.nS s.cS, .slice s.AP s.nP s.cP, .int .u64 x.id, .string SN] 30)) (.cells #[.int .u8 (x.kind % 256)] 5)).block w.heap.size (by simp)
    have h3 := (below_alloc ((w.alloc (.cells #[.int .i64 x.kind, .int .u64 x.boot, .int .u64 x.sess, .int .u64 x.seq, .slice s.AW s.nW s.cW, .slice s.AR s.nR s.cR, .bool x.commit, .slice s.AS s.nS s.cS, .slice s.AP s.nP s.cP, .int .u64 x.id, .string SN] 30)).alloc (.cells #[.int .u8 (x.kind % 256)] 5)) (.cells #[.slice (some ⟨w.heap.size + 1, 0, none⟩) 1 1] 28)).block w.heap.size (by simp; omega)
    rw [h3, h2]; exact h1
  have hs3 := hb3.size
  have HBX := Lib.hid hbx
  clear hnb hs2 hbx
  go_enter Try.func17, Try.ntmps17
  go_wp2_with fail
  refine (HTX.out _).mono ?_
  rintro e wz ⟨rfl, rfl⟩
  have hp := hp0
  have hbP := hb3
  have HBP := HBX
  clear hp0 hb3 HBX
  have q0 : (((w.alloc (.cells #[.int .i64 x.kind, .int .u64 x.boot, .int .u64 x.sess, .int .u64 x.seq, .slice s.AW s.nW s.cW, .slice s.AR s.nR s.cR, .bool x.commit, .slice s.AS s.nS s.cS, .slice s.AP s.nP s.cP, .int .u64 x.id, .string SN] 30)).alloc (.cells #[.int .u8 (x.kind % 256)] 5)).alloc (.cells #[.slice (some ⟨w.heap.size + 1, 0, none⟩) 1 1] 28)).cell? ⟨w.heap.size, 0, none⟩ = some (.int .i64 x.kind) := by rw [cell_of_row (((w.alloc (.cells #[.int .i64 x.kind, .int .u64 x.boot, .int .u64 x.sess, .int .u64 x.seq, .slice s.AW s.nW s.cW, .slice s.AR s.nR s.cR, .bool x.commit, .slice s.AS s.nS s.cS, .slice s.AP s.nP s.cP, .int .u64 x.id, .string SN] 30)).alloc (.cells #[.int .u8 (x.kind % 256)] 5)).alloc (.cells #[.slice (some ⟨w.heap.size + 1, 0, none⟩) 1 1] 28)) w.heap.size 0 _ 30 (0, 0) HBP.out]; rfl
  have n1 : (x.kind == 1) = false := by have := HK.out; simp; omega
  have n4 : (x.kind == 4) = false := by have := HK.out; simp; omega
  have n5 : (x.kind == 5) = false := by have := HK.out; simp; omega
  have n7 : (x.kind == 7) = false := by have := HK.out; simp; omega
  have n8 : (x.kind == 8) = false := by have := HK.out; simp; omega
  have n6 : (x.kind == 6) = false := by have := HK.out; simp; omega
  have HRN := Lib.hid (joinL_ran hp.bss)
  have hsE := hbP.size
  go_wp2_with fail
  refine (rjoin_any (some ⟨w.heap.size + 1 + 1, 0, none⟩) _ 1 _ _ hp.bss (by unfold maxLen; omega) HBG.out).mono ?_
  rintro e wE ⟨AE, nE, cE, rfl, hnE, hoE, hbE⟩
  have hbF := hbP.trans (hbE.mono hsE)
  have hoF := hoE.mono hsE
  have HNE := Lib.hid hnE
  clear hnE hp hbE hoE
  go_wp2
  go_ret
  exact ⟨AE, nE, cE, rfl, HNE.out, hoF, HRN.out, hbF⟩

set_option maxRecDepth 100000 in
set_option maxHeartbeats 4000000 in
theorem rbytes_t (x : Rc) (s : Sl) (w : World) (h : RcR w x s) (hbig : (recL x).length + 20 ≤ 140737488355328) (hk : x.kind = 2 ∨ x.kind = 3 ∨ x.kind = 9) :
    Calls Try.prog 17 #[.agg #[.int .i64 x.kind, .int .u64 x.boot, .int .u64 x.sess, .int .u64 x.seq, .slice s.AW s.nW s.cW, .slice s.AR s.nR s.cR, .bool x.commit, .slice s.AS s.nS s.cS, .slice s.AP s.nP s.cP, .int .u64 x.id, .string (strOfNums x.name)]] w (BytesP w (recL x)) := by
  obtain ⟨i0, hi, hz0, hz1, hz2⟩ := info_parts info5
  obtain ⟨j0, hj, hy0, hy1, hy2⟩ := info_parts info23
  have HH := Lib.hid h; clear h
  have HFL : Hid (fl x.kind = [116]) := fl_t hk
  have HHT := Lib.hid (hasT_yes (k := x.kind) (by omega))
  have HK := Lib.hid hk; clear hk
  have HRE := Lib.hid (show recL x = joinL ([x.kind % 256] :: (fl x.kind).map (partL x)) from rfl)
  rw [HRE.out] at hbig ⊢
  rw [HFL.out] at hbig ⊢
  have HBG := Lib.hid hbig; clear hbig
  have HTX := Lib.hid (hasTxn_any x.kind)
  rw [HHT.out] at HTX
  clear HRE HFL HHT
  generalize strOfNums x.name = SN at *
  have HH8 := Lib.hid (show 0 ≤ x.kind % 256 ∧ x.kind % 256 ≤ 255 by omega)
  have hnb : ((w.alloc (.cells #[.int .i64 x.kind, .int .u64 x.boot, .int .u64 x.sess, .int .u64 x.seq, .slice s.AW s.nW s.cW, .slice s.AR s.nR s.cR, .bool x.commit, .slice s.AS s.nS s.cS, .slice s.AP s.nP s.cP, .int .u64 x.id, .string SN] 30)).alloc (.cells #[.int .u8 (x.kind % 256)] 5)).heap[w.heap.size + 1]? = some (.cells #[.int .u8 (x.kind % 256)] 5 (0, 0)) := by
    have := heap_alloc_new (w.alloc (.cells #[.int .i64 x.kind, .int .u64 x.boot, .int .u64 x.sess, .int .u64 x.seq, .slice s.AW s.nW s.cW, .slice s.AR s.nR s.cR, .bool x.commit, .slice s.AS s.nS s.cS, .slice s.AP s.nP s.cP, .int .u64 x.id, .string SN] 30)) (.cells #[.int .u8 (x.kind % 256)] 5)
    simpa using this
  have hs2 : ((w.alloc (.cells #[.int .i64 x.kind, .int .u64 x.boot, .int .u64 x.sess, .int .u64 x.seq, .slice s.AW s.nW s.cW, .slice s.AR s.nR s.cR, .bool x.commit, .slice s.AS s.nS s.cS, .slice s.AP s.nP s.cP, .int .u64 x.id, .string SN] 30)).alloc (.cells #[.int .u8 (x.kind % 256)] 5)).heap.size = w.heap.size + 1 + 1 := by simp
  have hp0 : Pts (((w.alloc (.cells #[.int .i64 x.kind, .int .u64 x.boot, .int .u64 x.sess, .int .u64 x.seq, .slice s.AW s.nW s.cW, .slice s.AR s.nR s.cR, .bool x.commit, .slice s.AS s.nS s.cS, .slice s.AP s.nP s.cP, .int .u64 x.id, .string SN] 30)).alloc (.cells #[.int .u8 (x.kind % 256)] 5)).alloc (.cells #[.slice (some ⟨w.heap.size + 1, 0, none⟩) 1 1] 28)) w.heap.size (some ⟨w.heap.size + 1 + 1, 0, none⟩) 1 1 [[x.kind % 256]] := by
    have := pts_first (w := ((w.alloc (.cells #[.int .i64 x.kind, .int .u64 x.boot, .int .u64 x.sess, .int .u64 x.seq, .slice s.AW s.nW s.cW, .slice s.AR s.nR s.cR, .bool x.commit, .slice s.AS s.nS s.cS, .slice s.AP s.nP s.cP, .int .u64 x.id, .string SN] 30)).alloc (.cells #[.int .u8 (x.kind % 256)] 5))) (base := w.heap.size) (x.kind % 256) HH8.out hnb (by omega) (by omega)
    rwa [hs2] at this
  have hb3 : Below w.heap.size w (((w.alloc (.cells #[.int .i64 x.kind, .int .u64 x.boot, .int .u64 x.sess, .int .u64 x.seq, .slice s.AW s.nW s.cW, .slice s.AR s.nR s.cR, .bool x.commit, .slice s.AS s.nS s.cS, .slice s.AP s.nP s.cP, .int .u64 x.id, .string SN] 30)).alloc (.cells #[.int .u8 (x.kind % 256)] 5)).alloc (.cells #[.slice (some ⟨w.heap.size + 1, 0, none⟩) 1 1] 28)) := ((below_alloc w _).alloc (by simp) _).alloc (by simp; omega) _
  have hbx : (((w.alloc (.cells #[.int .i64 x.kind, .int .u64 x.boot, .int .u64 x.sess, .int .u64 x.seq, .slice s.AW s.nW s.cW, .slice s.AR s.nR s.cR, .bool x.commit, .slice s.AS s.nS s.cS, .slice s.AP s.nP s.cP, .int .u64 x.id, .string SN] 30)).alloc (.cells #[.int .u8 (x.kind % 256)] 5)).alloc (.cells #[.slice (some ⟨w.heap.size + 1, 0, none⟩) 1 1] 28)).heap[w.heap.size]? = some (.cells #[.int .i64 x.kind, .int .u64 x.boot, .int .u64 x.sess, .int .u64 x.seq, .slice s.AW s.nW s.cW, .slice s.AR s.nR s.cR, .bool x.commit, .slice s.AS s.nS s.cS, .slice s.AP s.nP s.cP, .int .u64 x.id, .string SN] 30 (0, 0)) := by
    have h1 := heap_alloc_new w (.cells #[.int .i64 x.kind, .int .u64 x.boot, .int .u64 x.sess, .int .u64 x.seq, .slice s.AW s.nW s.cW, .slice s.AR s.nR s.cR, .bool x.commit, .slice s.AS s.nS s.cS, .slice s.AP s.nP s.cP, .int .u64 x.id, .string SN] 30)
    have h2 := (below_alloc (w.alloc (.cells #[.int .i64 x.kind, .int .u64 x.boot, .int .u64 x.sess, .int .u64 x.seq, .slice s.AW s.nW s.cW, .slice s.AR s.nR s.cR, .bool x.commit, .slice s.AS s.nS s.cS, .slice s.AP s.nP s.cP, .int .u64 x.id, .string SN] 30)) (.cells #[.int .u8 (x.kind % 256)] 5)).block w.heap.size (by simp)
    have h3 := (below_alloc ((w.alloc (.cells #[.int .i64 x.kind, .int .u64 x.boot, .int .u64 x.sess, .int .u64 x.seq, .slice s.AW s.nW s.cW, .slice s.AR s.nR s.cR, .bool x.commit, .slice s.AS s.nS s.cS, .slice s.AP s.nP s.cP, .int .u64 x.id, .string SN] 30)).alloc (.cells #[.int .u8 (x.kind % 256)] 5)) (.cells #[.slice (some ⟨w.heap.size + 1, 0, none⟩) 1 1] 28)).block w.heap.size (by simp; omega)
    rw [h3, h2]; exact h1
  have hs3 := hb3.size
  have HBX := Lib.hid hbx
  clear hnb hs2 hbx
  go_enter Try.func17, Try.ntmps17
  go_wp2_with fail
  refine (HTX.out _).mono ?_
  rintro e wz ⟨rfl, rfl⟩
  go_wp2_with fail
  refine (rtxn_any (B := w.heap.size) x.boot x.sess x.seq _ HH.out.boot HH.out.sess HH.out.seq).mono ?_
  rintro e w4 ⟨A4, n4, c4, rfl, hpt, hb4⟩
  have hp4 := hp0.keep hb4
  have hb5 := hb3.trans (hb4.mono hs3)
  have hs5 := hb5.size
  have HPT4 := Lib.hid hpt
  have HBX4 := Lib.hid ((hb4.block _ (lt_of_heap HBX.out)).trans HBX.out)
  obtain ⟨vs, hrow, HROW⟩ := hp4.row (.cells #[.slice A4 n4 c4] 28)
  have HBX5 := Lib.hid (((below_alloc w4 (.cells #[.slice A4 n4 c4] 28)).block _ (lt_of_heap HBX4.out)).trans HBX4.out)
  clear hpt hp0 hp4 hb4 hb3 HBX HBX4
  go_wp2_with (at_builtin; refine wpList_append_rd rfl _ _ 62 rfl j0 (.slice none 0 0) 24 Try.underlying62 hj hy0 hy1 hy2 rfl rfl hrow (some ⟨w4.heap.size, 0, none⟩) 1 1 [.slice A4 n4 c4] rfl (rd_oneV w4 _ 28) (one_slice _ _ _) ?a1 ?a2 ?a3 ?_)
  case a1 => unfold maxLen; omega
  case a2 => omega
  case a3 => simp; omega
  intro A' c' wP ho6 hg6
  have hp : Pts wP w.heap.size A' 2 c' [[x.kind % 256], partL x 116] := HROW.out [.slice A4 n4 c4] [partL x 116] wP A' c' rfl (pt_one HPT4.out) ho6 hg6
  have HBP := Lib.hid ((hg6.1.block _ (lt_of_heap HBX5.out) (fun e => hrow.ne_blk HBX5.out (by decide) e.symm)).trans HBX5.out)
  have hbP := (hb5.alloc hs5 (.cells #[.slice A4 n4 c4] 28)).trans (hg6.below (by simp; omega) (fun j hj => (hrow.lies j hj).1))
  clear hrow ho6 hg6 hb5 HBX5
  have q0 : wP.cell? ⟨w.heap.size, 0, none⟩ = some (.int .i64 x.kind) := by rw [cell_of_row wP w.heap.size 0 _ 30 (0, 0) HBP.out]; rfl
  have n1 : (x.kind == 1) = false := by have := HK.out; simp; omega
  have n4 : (x.kind == 4) = false := by have := HK.out; simp; omega
  have n5 : (x.kind == 5) = false := by have := HK.out; simp; omega
  have n7 : (x.kind == 7) = false := by have := HK.out; simp; omega
  have n8 : (x.kind == 8) = false := by have := HK.out; simp; omega
  have n6 : (x.kind == 6) = false := by have := HK.out; simp; omega
  have HRN := Lib.hid (joinL_ran hp.bss)
  have hsE := hbP.size
  go_wp2_with fail
  refine (rjoin_any A' _ c' _ _ hp.bss (by unfold maxLen; omega) HBG.out).mono ?_
  rintro e wE ⟨AE, nE, cE, rfl, hnE, hoE, hbE⟩
  have hbF := hbP.trans (hbE.mono hsE)
  have hoF := hoE.mono hsE
  have HNE := Lib.hid hnE
  clear hnE hp hbE hoE
  go_wp2
  go_ret
  exact ⟨AE, nE, cE, rfl, HNE.out, hoF, HRN.out, hbF⟩

set_option maxRecDepth 100000 in
set_option maxHeartbeats 4000000 in
theorem rbytes_k1 (x : Rc) (s : Sl) (w : World) (h : RcR w x s) (hbig : (recL x).length + 20 ≤ 140737488355328) (hk : x.kind = 1) :
    Calls Try.prog 17 #[.agg #[.int .i64 x.kind, .int .u64 x.boot, .int .u64 x.sess, .int .u64 x.seq, .slice s.AW s.nW s.cW, .slice s.AR s.nR s.cR, .bool x.commit, .slice s.AS s.nS s.cS, .slice s.AP s.nP s.cP, .int .u64 x.id, .string (strOfNums x.name)]] w (BytesP w (recL x)) := by
  obtain ⟨i0, hi, hz0, hz1, hz2⟩ := info_parts info5
  obtain ⟨j0, hj, hy0, hy1, hy2⟩ := info_parts info23
  have HH := Lib.hid h; clear h
  have HFL : Hid (fl x.kind = [116, 119, 114]) := fl_1 hk
  have HHT := Lib.hid (hasT_yes (k := x.kind) (by omega))
  have HK := Lib.hid hk; clear hk
  have HRE := Lib.hid (show recL x = joinL ([x.kind % 256] :: (fl x.kind).map (partL x)) from rfl)
  rw [HRE.out] at hbig ⊢
  rw [HFL.out] at hbig ⊢
  have HBG := Lib.hid hbig; clear hbig
  have HTX := Lib.hid (hasTxn_any x.kind)
  rw [HHT.out] at HTX
  clear HRE HFL HHT
  generalize strOfNums x.name = SN at *
  have HH8 := Lib.hid (show 0 ≤ x.kind % 256 ∧ x.kind % 256 ≤ 255 by omega)
  have hnb : ((w.alloc (.cells #[.int .i64 x.kind, .int .u64 x.boot, .int .u64 x.sess, .int .u64 x.seq, .slice s.AW s.nW s.cW, .slice s.AR s.nR s.cR, .bool x.commit, .slice s.AS s.nS s.cS, .slice s.AP s.nP s.cP, .int .u64 x.id, .string SN] 30)).alloc (.cells #[.int .u8 (x.kind % 256)] 5)).heap[w.heap.size + 1]? = some (.cells #[.int .u8 (x.kind % 256)] 5 (0, 0)) := by
    have := heap_alloc_new (w.alloc (.cells #[.int .i64 x.kind, .int .u64 x.boot, .int .u64 x.sess, .int .u64 x.seq, .slice s.AW s.nW s.cW, .slice s.AR s.nR s.cR, .bool x.commit, .slice s.AS s.nS s.cS, .slice s.AP s.nP s.cP, .int .u64 x.id, .string SN] 30)) (.cells #[.int .u8 (x.kind % 256)] 5)
    simpa using this
  have hs2 : ((w.alloc (.cells #[.int .i64 x.kind, .int .u64 x.boot, .int .u64 x.sess, .int .u64 x.seq, .slice s.AW s.nW s.cW, .slice s.AR s.nR s.cR, .bool x.commit, .slice s.AS s.nS s.cS, .slice s.AP s.nP s.cP, .int .u64 x.id, .string SN] 30)).alloc (.cells #[.int .u8 (x.kind % 256)] 5)).heap.size = w.heap.size + 1 + 1 := by simp
  have hp0 : Pts (((w.alloc (.cells #[.int .i64 x.kind, .int .u64 x.boot, .int .u64 x.sess, .int .u64 x.seq, .slice s.AW s.nW s.cW, .slice s.AR s.nR s.cR, .bool x.commit, .slice s.AS s.nS s.cS, .slice s.AP s.nP s.cP, .int .u64 x.id, .string SN] 30)).alloc (.cells #[.int .u8 (x.kind % 256)] 5)).alloc (.cells #[.slice (some ⟨w.heap.size + 1, 0, none⟩) 1 1] 28)) w.heap.size (some ⟨w.heap.size + 1 + 1, 0, none⟩) 1 1 [[x.kind % 256]] := by
    have := pts_first (w := ((w.alloc (.cells #[.int .i64 x.kind, .int .u64 x.boot, .int .u64 x.sess, .int .u64 x.seq, .slice s.AW s.nW s.cW, .slice s.AR s.nR s.cR, .bool x.commit, .slice s.AS s.nS s.cS, .slice s.AP s.nP s.cP, .int .u64 x.id, .string SN] 30)).alloc (.cells #[.int .u8 (x.kind % 256)] 5))) (base := w.heap.size) (x.kind % 256) HH8.out hnb (by omega) (by omega)
    rwa [hs2] at this
  have hb3 : Below w.heap.size w (((w.alloc (.cells #[.int .i64 x.kind, .int .u64 x.boot, .int .u64 x.sess, .int .u64 x.seq, .slice s.AW s.nW s.cW, .slice s.AR s.nR s.cR, .bool x.commit, .slice s.AS s.nS s.cS, .slice s.AP s.nP s.cP, .int .u64 x.id, .string SN] 30)).alloc (.cells #[.int .u8 (x.kind % 256)] 5)).alloc (.cells #[.slice (some ⟨w.heap.size + 1, 0, none⟩) 1 1] 28)) := ((below_alloc w _).alloc (by simp) _).alloc (by simp; omega) _
  have hbx : (((w.alloc (.cells #[.int .i64 x.kind, .int .u64 x.boot, .int .u64 x.sess, .int .u64 x.seq, .slice s.AW s.nW s.cW, .slice s.AR s.nR s.cR, .bool x.commit, .slice s.AS s.nS s.cS, .slice s.AP s.nP s.cP, .int .u64 x.id, .string SN] 30)).alloc (.cells #[.int .u8 (x.kind % 256)] 5)).alloc (.cells #[.slice (some ⟨w.heap.size + 1, 0, none⟩) 1 1] 28)).heap[w.heap.size]? = some (.cells #[.int .i64 x.kind, .int .u64 x.boot, .int .u64 x.sess, .int .u64 x.seq, .slice s.AW s.nW s.cW, .slice s.AR s.nR s.cR, .bool x.commit, .slice s.AS s.nS s.cS, .slice s.AP s.nP s.cP, .int .u64 x.id, .string SN] 30 (0, 0)) := by
    have h1 := heap_alloc_new w (.cells #[.int .i64 x.kind, .int .u64 x.boot, .int .u64 x.sess, .int .u64 x.seq, .slice s.AW s.nW s.cW, .slice s.AR s.nR s.cR, .bool x.commit, .slice s.AS s.nS s.cS, .slice s.AP s.nP s.cP, .int .u64 x.id, .string SN] 30)
    have h2 := (below_alloc (w.alloc (.cells #[.int .i64 x.kind, .int .u64 x.boot, .int .u64 x.sess, .int .u64 x.seq, .slice s.AW s.nW s.cW, .slice s.AR s.nR s.cR, .bool x.commit, .slice s.AS s.nS s.cS, .slice s.AP s.nP s.cP, .int .u64 x.id, .string SN] 30)) (.cells #[.int .u8 (x.kind % 256)] 5)).block w.heap.size (by simp)
    have h3 := (below_alloc ((w.alloc (.cells #[.int .i64 x.kind, .int .u64 x.boot, .int .u64 x.sess, .int .u64 x.seq, .slice s.AW s.nW s.cW, .slice s.AR s.nR s.cR, .bool x.commit, .slice s.AS s.nS s.cS, .slice s.AP s.nP s.cP, .int .u64 x.id, .string SN] 30)).alloc (.cells #[.int .u8 (x.kind % 256)] 5)) (.cells #[.slice (some ⟨w.heap.size + 1, 0, none⟩) 1 1] 28)).block w.heap.size (by simp; omega)
    rw [h3, h2]; exact h1
  have hs3 := hb3.size
  have HBX := Lib.hid hbx
  clear hnb hs2 hbx
  go_enter Try.func17, Try.ntmps17
  go_wp2_with fail
  refine (HTX.out _).mono ?_
  rintro e wz ⟨rfl, rfl⟩
  go_wp2_with fail
  refine (rtxn_any (B := w.heap.size) x.boot x.sess x.seq _ HH.out.boot HH.out.sess HH.out.seq).mono ?_
  rintro e w4 ⟨A4, n4, c4, rfl, hpt, hb4⟩
  have hp4 := hp0.keep hb4
  have hb5 := hb3.trans (hb4.mono hs3)
  have hs5 := hb5.size
  have HPT4 := Lib.hid hpt
  have HBX4 := Lib.hid ((hb4.block _ (lt_of_heap HBX.out)).trans HBX.out)
  obtain ⟨vs, hrow, HROW⟩ := hp4.row (.cells #[.slice A4 n4 c4] 28)
  have HBX5 := Lib.hid (((below_alloc w4 (.cells #[.slice A4 n4 c4] 28)).block _ (lt_of_heap HBX4.out)).trans HBX4.out)
  clear hpt hp0 hp4 hb4 hb3 HBX HBX4
  go_wp2_with (at_builtin; refine wpList_append_rd rfl _ _ 62 rfl j0 (.slice none 0 0) 24 Try.underlying62 hj hy0 hy1 hy2 rfl rfl hrow (some ⟨w4.heap.size, 0, none⟩) 1 1 [.slice A4 n4 c4] rfl (rd_oneV w4 _ 28) (one_slice _ _ _) ?a1 ?a2 ?a3 ?_)
  case a1 => unfold maxLen; omega
  case a2 => omega
  case a3 => simp; omega
  intro A' c' wP ho6 hg6
  have hp : Pts wP w.heap.size A' 2 c' [[x.kind % 256], partL x 116] := HROW.out [.slice A4 n4 c4] [partL x 116] wP A' c' rfl (pt_one HPT4.out) ho6 hg6
  have HBP := Lib.hid ((hg6.1.block _ (lt_of_heap HBX5.out) (fun e => hrow.ne_blk HBX5.out (by decide) e.symm)).trans HBX5.out)
  have hbP := (hb5.alloc hs5 (.cells #[.slice A4 n4 c4] 28)).trans (hg6.below (by simp; omega) (fun j hj => (hrow.lies j hj).1))
  clear hrow ho6 hg6 hb5 HBX5
  have q0 : wP.cell? ⟨w.heap.size, 0, none⟩ = some (.int .i64 x.kind) := by rw [cell_of_row wP w.heap.size 0 _ 30 (0, 0) HBP.out]; rfl
  have y1 : (x.kind == 1) = true := by have := HK.out; simp; omega
  have q4 : wP.cell? ⟨w.heap.size, 4, none⟩ = some (.slice s.AW s.nW s.cW) := by rw [cell_of_row wP w.heap.size 4 _ 30 (0, 0) HBP.out]; rfl
  have q5 : wP.cell? ⟨w.heap.size, 5, none⟩ = some (.slice s.AR s.nR s.cR) := by rw [cell_of_row wP w.heap.size 5 _ 30 (0, 0) HBP.out]; rfl
  have e4 : wP.drew.cell? ⟨w.heap.size, 4, none⟩ = some (.slice s.AW s.nW s.cW) := q4
  have e5 : wP.drew.cell? ⟨w.heap.size, 5, none⟩ = some (.slice s.AR s.nR s.cR) := q5
  have hpD : Pts wP.drew w.heap.size A' 2 c' _ := hp
  have hbD : Below w.heap.size w wP.drew := below_n hbP 1
  have hsD := hbD.size
  have hlD : w.heap.size < wP.drew.heap.size := lt_of_heap HBP.out
  clear hp
  go_wp2_with fail
  go_region_held3 (fun w' => w'.cell? ⟨w.heap.size, 4, none⟩ = some (.slice s.AW s.nW s.cW) ∧ w'.cell? ⟨w.heap.size, 5, none⟩ = some (.slice s.AR s.nR s.cR)) (first | exact ⟨e4, e5⟩ | exact ⟨f4, f5⟩ | exact ⟨g4, g5⟩ | exact ⟨k4, k5⟩ | exact ⟨l4, l5⟩) (first | (go_at_call 57; refine (rwrites_any (B := w.heap.size) _ _ _ x.ws _ (HH.out.keep hbD).ws HH.out.bW HH.out.tW).mono ?_; rintro e w5 ⟨A5, n5, c5, rfl, hpt5, hb5⟩; have f4 := (hb5.cell (p := ⟨w.heap.size, 4, none⟩) hlD).trans e4; have f5 := (hb5.cell (p := ⟨w.heap.size, 5, none⟩) hlD).trans e5; have hp5 := hpD.keep hb5; have hbw5 := hbD.trans (hb5.mono hsD); have hs5w := hbw5.size; have hl5 := Nat.lt_of_lt_of_le hlD hb5.size; have HT5 := Lib.hid hpt5) | (go_at_call 58; refine (rranges_any (B := w.heap.size) _ _ _ x.rs _ (HH.out.keep hbw5).rs HH.out.bR HH.out.tR).mono ?_; rintro e w6 ⟨A6, n6, c6, rfl, hpt6, hb6⟩; have g4 := (hb6.cell (p := ⟨w.heap.size, 4, none⟩) hl5).trans f4; have g5 := (hb6.cell (p := ⟨w.heap.size, 5, none⟩) hl5).trans f5; have hp6 := hp5.keep hb6; have hbw6 := hbw5.trans (hb6.mono hs5w); have hs6w := hbw6.size; have hl6 := Nat.lt_of_lt_of_le hl5 hb6.size; have HT6 := Lib.hid hpt6; have HT56 := Lib.hid (HT5.out.keep hb6); have hbo := below_alloc w6 (.cells #[.slice A5 n5 c5, .slice A6 n6 c6] 28); have k4 := (hbo.cell (p := ⟨w.heap.size, 4, none⟩) hl6).trans g4; have k5 := (hbo.cell (p := ⟨w.heap.size, 5, none⟩) hl6).trans g5; have HBO := Lib.hid ((hbo.block _ hl6).trans ((hb6.block _ hl5).trans ((hb5.block _ hlD).trans HBP.out))); obtain ⟨vs, hrow, HROW⟩ := hp6.row (.cells #[.slice A5 n5 c5, .slice A6 n6 c6] 28)) | (refine step_append_rd rfl (.tmp 24) (.tmp 31) 62 rfl j0 (.slice none 0 0) 24 Try.underlying62 hj hy0 hy1 hy2 rfl (by simp [Act.eval, Act.put]) hrow (some ⟨w6.heap.size, 0, none⟩) 2 2 [.slice A5 n5 c5, .slice A6 n6 c6] (by simp [Act.eval, Act.put]) (rd_twoS w6 _ _ 28) (two_slices _ _ _ _ _ _) (by unfold maxLen; omega) (by omega) (by simp; omega) ?_; intro A7 c7 w7 ho7 hg7; have hne := fun e => hrow.ne_blk HBO.out (by decide) (Eq.symm e); have l4 := (World.cell?_of_block (a := ⟨w.heap.size, 4, none⟩) (hg7.1.block _ (lt_of_heap HBO.out) hne)).trans k4; have l5 := (World.cell?_of_block (a := ⟨w.heap.size, 5, none⟩) (hg7.1.block _ (lt_of_heap HBO.out) hne)).trans k5))
  have hp7 : Pts w7 w.heap.size A7 (2 + 2) c7 ([[x.kind % 256], partL x 116] ++ [partL x 119, partL x 114]) := HROW.out [.slice A5 n5 c5, .slice A6 n6 c6] [partL x 119, partL x 114] w7 A7 c7 rfl (pt_two HT56.out HT6.out) ho7 hg7
  have hb7 := (hbw6.alloc hs6w (.cells #[.slice A5 n5 c5, .slice A6 n6 c6] 28)).trans (hg7.below (by simp; omega) (fun j hj => (hrow.lies j hj).1))
  clear hrow ho7 hg7 hp6 hp5 hpD hne hbo e4 e5 f4 f5 g4 g5 k4 k5 l4 l5 hb5 hb6 hpt5 hpt6
  have HRN := Lib.hid (joinL_ran hp7.bss)
  have hsE := hb7.size
  go_wp2_with fail
  refine (rjoin_any A7 _ c7 _ _ hp7.bss (by unfold maxLen; omega) HBG.out).mono ?_
  rintro e wE ⟨AE, nE, cE, rfl, hnE, hoE, hbE⟩
  have hbF := hb7.trans (hbE.mono hsE)
  have hoF := hoE.mono hsE
  have HNE := Lib.hid hnE
  clear hnE hp7 hbE hoE
  go_wp2
  go_ret
  exact ⟨AE, nE, cE, rfl, HNE.out, hoF, HRN.out, hbF⟩

set_option maxRecDepth 100000 in
set_option maxHeartbeats 4000000 in
theorem rbytes_k4 (x : Rc) (s : Sl) (w : World) (h : RcR w x s) (hbig : (recL x).length + 20 ≤ 140737488355328) (hk : x.kind = 4) :
    Calls Try.prog 17 #[.agg #[.int .i64 x.kind, .int .u64 x.boot, .int .u64 x.sess, .int .u64 x.seq, .slice s.AW s.nW s.cW, .slice s.AR s.nR s.cR, .bool x.commit, .slice s.AS s.nS s.cS, .slice s.AP s.nP s.cP, .int .u64 x.id, .string (strOfNums x.name)]] w (BytesP w (recL x)) := by
  obtain ⟨i0, hi, hz0, hz1, hz2⟩ := info_parts info5
  obtain ⟨j0, hj, hy0, hy1, hy2⟩ := info_parts info23
  have HH := Lib.hid h; clear h
  have HFL : Hid (fl x.kind = [116, 119, 97]) := fl_4 hk
  have HHT := Lib.hid (hasT_yes (k := x.kind) (by omega))
  have HK := Lib.hid hk; clear hk
  have HRE := Lib.hid (show recL x = joinL ([x.kind % 256] :: (fl x.kind).map (partL x)) from rfl)
  rw [HRE.out] at hbig ⊢
  rw [HFL.out] at hbig ⊢
  have HBG := Lib.hid hbig; clear hbig
  have HTX := Lib.hid (hasTxn_any x.kind)
  rw [HHT.out] at HTX
  clear HRE HFL HHT
  generalize strOfNums x.name = SN at *
  have HH8 := Lib.hid (show 0 ≤ x.kind % 256 ∧ x.kind % 256 ≤ 255 by omega)
  have hnb : ((w.alloc (.cells #[.int .i64 x.kind, .int .u64 x.boot, .int .u64 x.sess, .int .u64 x.seq, .slice s.AW s.nW s.cW, .slice s.AR s.nR s.cR, .bool x.commit, .slice s.AS s.nS s.cS, .slice s.AP s.nP s.cP, .int .u64 x.id, .string SN] 30)).alloc (.cells #[.int .u8 (x.kind % 256)] 5)).heap[w.heap.size + 1]? = some (.cells #[.int .u8 (x.kind % 256)] 5 (0, 0)) := by
    have := heap_alloc_new (w.alloc (.cells #[.int .i64 x.kind, .int .u64 x.boot, .int .u64 x.sess, .int .u64 x.seq, .slice s.AW s.nW s.cW, .slice s.AR s.nR s.cR, .bool x.commit, .slice s.AS s.nS s.cS, .slice s.AP s.nP s.cP, .int .u64 x.id, .string SN] 30)) (.cells #[.int .u8 (x.kind % 256)] 5)
    simpa using this
  have hs2 : ((w.alloc (.cells #[.int .i64 x.kind, .int .u64 x.boot, .int .u64 x.sess, .int .u64 x.seq, .slice s.AW s.nW s.cW, .slice s.AR s.nR s.cR, .bool x.commit, .slice s.AS s.nS s.cS, .slice s.AP s.nP s.cP, .int .u64 x.id, .string SN] 30)).alloc (.cells #[.int .u8 (x.kind % 256)] 5)).heap.size = w.heap.size + 1 + 1 := by simp
  have hp0 : Pts (((w.alloc (.cells #[.int .i64 x.kind, .int .u64 x.boot, .int .u64 x.sess, .int .u64 x.seq, .slice s.AW s.nW s.cW, .slice s.AR s.nR s.cR, .bool x.commit, .slice s.AS s.nS s.cS, .slice s.AP s.nP s.cP, .int .u64 x.id, .string SN] 30)).alloc (.cells #[.int .u8 (x.kind % 256)] 5)).alloc (.cells #[.slice (some ⟨w.heap.size + 1, 0, none⟩) 1 1] 28)) w.heap.size (some ⟨w.heap.size + 1 + 1, 0, none⟩) 1 1 [[x.kind % 256]] := by
    have := pts_first (w := ((w.alloc (.cells #[.int .i64 x.kind, .int .u64 x.boot, .int .u64 x.sess, .int .u64 x.seq, .slice s.AW s.nW s.cW, .slice s.AR s.nR s.cR, .bool x.commit, .slice s.AS s.nS s.cS, .slice s.AP s.nP s.cP, .int .u64 x.id, .string SN] 30)).alloc (.cells #[.int .u8 (x.kind % 256)] 5))) (base := w.heap.size) (x.kind % 256) HH8.out hnb (by omega) (by omega)
    rwa [hs2] at this
  have hb3 : Below w.heap.size w (((w.alloc (.cells #[.int .i64 x.kind, .int .u64 x.boot, .int .u64 x.sess, .int .u64 x.seq, .slice s.AW s.nW s.cW, .slice s.AR s.nR s.cR, .bool x.commit, .slice s.AS s.nS s.cS, .slice s.AP s.nP s.cP, .int .u64 x.id, .string SN] 30)).alloc (.cells #[.int .u8 (x.kind % 256)] 5)).alloc (.cells #[.slice (some ⟨w.heap.size + 1, 0, none⟩) 1 1] 28)) := ((below_alloc w _).alloc (by simp) _).alloc (by simp; omega) _
  have hbx : (((w.alloc (.cells #[.int .i64 x.kind, .int .u64 x.boot, .int .u64 x.sess, .int .u64 x.seq, .slice s.AW s.nW s.cW, .slice s.AR s.nR s.cR, .bool x.commit, .slice s.AS s.nS s.cS, .slice s.AP s.nP s.cP, .int .u64 x.id, .string SN] 30)).alloc (.cells #[.int .u8 (x.kind % 256)] 5)).alloc (.cells #[.slice (some ⟨w.heap.size + 1, 0, none⟩) 1 1] 28)).heap[w.heap.size]? = some (.cells #[.int .i64 x.kind, .int .u64 x.boot, .int .u64 x.sess, .int .u64 x.seq, .slice s.AW s.nW s.cW, .slice s.AR s.nR s.cR, .bool x.commit, .slice s.AS s.nS s.cS, .slice s.AP s.nP s.cP, .int .u64 x.id, .string SN] 30 (0, 0)) := by
    have h1 := heap_alloc_new w (.cells #[.int .i64 x.kind, .int .u64 x.boot, .int .u64 x.sess, .int .u64 x.seq, .slice s.AW s.nW s.cW, .slice s.AR s.nR s.cR, .bool x.commit, .slice s.AS s.nS s.cS, .slice s.AP s.nP s.cP, .int .u64 x.id, .string SN] 30)
    have h2 := (below_alloc (w.alloc (.cells #[.int .i64 x.kind, .int .u64 x.boot, .int .u64 x.sess, .int .u64 x.seq, .slice s.AW s.nW s.cW, .slice s.AR s.nR s.cR, .bool x.commit, .slice s.AS s.nS s.cS, .slice s.AP s.nP s.cP, .int .u64 x.id, .string SN] 30)) (.cells #[.int .u8 (x.kind % 256)] 5)).block w.heap.size (by simp)
    have h3 := (below_alloc ((w.alloc (.cells #[.int .i64 x.kind, .int .u64 x.boot, .int .u64 x.sess, .int .u64 x.seq, .slice s.AW s.nW s.cW, .slice s.AR s.nR s.cR, .bool x.commit, .slice s.AS s.nS s.cS, .slice s.AP s.nP s.cP, .int .u64 x.id, .string SN] 30)).alloc (.cells #[.int .u8 (x.kind % 256)] 5)) (.cells #[.slice (some ⟨w.heap.size + 1, 0, none⟩) 1 1] 28)).block w.heap.size (by simp; omega)
    rw [h3, h2]; exact h1
  have hs3 := hb3.size
  have HBX := Lib.hid hbx
  clear hnb hs2 hbx
  go_enter Try.func17, Try.ntmps17
  go_wp2_with fail
  refine (HTX.out _).mono ?_
  rintro e wz ⟨rfl, rfl⟩
  go_wp2_with fail
  refine (rtxn_any (B := w.heap.size) x.boot x.sess x.seq _ HH.out.boot HH.out.sess HH.out.seq).mono ?_
  rintro e w4 ⟨A4, n4, c4, rfl, hpt, hb4⟩
  have hp4 := hp0.keep hb4
  have hb5 := hb3.trans (hb4.mono hs3)
  have hs5 := hb5.size
  have HPT4 := Lib.hid hpt
  have HBX4 := Lib.hid ((hb4.block _ (lt_of_heap HBX.out)).trans HBX.out)
  obtain ⟨vs, hrow, HROW⟩ := hp4.row (.cells #[.slice A4 n4 c4] 28)
  have HBX5 := Lib.hid (((below_alloc w4 (.cells #[.slice A4 n4 c4] 28)).block _ (lt_of_heap HBX4.out)).trans HBX4.out)
  clear hpt hp0 hp4 hb4 hb3 HBX HBX4
  go_wp2_with (at_builtin; refine wpList_append_rd rfl _ _ 62 rfl j0 (.slice none 0 0) 24 Try.underlying62 hj hy0 hy1 hy2 rfl rfl hrow (some ⟨w4.heap.size, 0, none⟩) 1 1 [.slice A4 n4 c4] rfl (rd_oneV w4 _ 28) (one_slice _ _ _) ?a1 ?a2 ?a3 ?_)
  case a1 => unfold maxLen; omega
  case a2 => omega
  case a3 => simp; omega
  intro A' c' wP ho6 hg6
  have hp : Pts wP w.heap.size A' 2 c' [[x.kind % 256], partL x 116] := HROW.out [.slice A4 n4 c4] [partL x 116] wP A' c' rfl (pt_one HPT4.out) ho6 hg6
  have HBP := Lib.hid ((hg6.1.block _ (lt_of_heap HBX5.out) (fun e => hrow.ne_blk HBX5.out (by decide) e.symm)).trans HBX5.out)
  have hbP := (hb5.alloc hs5 (.cells #[.slice A4 n4 c4] 28)).trans (hg6.below (by simp; omega) (fun j hj => (hrow.lies j hj).1))
  clear hrow ho6 hg6 hb5 HBX5
  have q0 : wP.cell? ⟨w.heap.size, 0, none⟩ = some (.int .i64 x.kind) := by rw [cell_of_row wP w.heap.size 0 _ 30 (0, 0) HBP.out]; rfl
  have y1 : (x.kind == 1) = false := by have := HK.out; simp; omega
  have y4 : (x.kind == 4) = true := by have := HK.out; simp; omega
  have q4 : wP.cell? ⟨w.heap.size, 4, none⟩ = some (.slice s.AW s.nW s.cW) := by rw [cell_of_row wP w.heap.size 4 _ 30 (0, 0) HBP.out]; rfl
  have q5 : wP.cell? ⟨w.heap.size, 8, none⟩ = some (.slice s.AP s.nP s.cP) := by rw [cell_of_row wP w.heap.size 8 _ 30 (0, 0) HBP.out]; rfl
  have HPR := Lib.hid (Pt.arg (base := w.heap.size) HH.out.rp HH.out.rc (Nat.le_refl _))
  have e4 : wP.drew.cell? ⟨w.heap.size, 4, none⟩ = some (.slice s.AW s.nW s.cW) := q4
  have e5 : wP.drew.cell? ⟨w.heap.size, 8, none⟩ = some (.slice s.AP s.nP s.cP) := q5
  have hpD : Pts wP.drew w.heap.size A' 2 c' _ := hp
  have hbD : Below w.heap.size w wP.drew := below_n hbP 1
  have hsD := hbD.size
  have hlD : w.heap.size < wP.drew.heap.size := lt_of_heap HBP.out
  clear hp
  go_wp2_with fail
  go_region_held3 (fun w' => w'.cell? ⟨w.heap.size, 4, none⟩ = some (.slice s.AW s.nW s.cW) ∧ w'.cell? ⟨w.heap.size, 8, none⟩ = some (.slice s.AP s.nP s.cP)) (first | exact ⟨e4, e5⟩ | exact ⟨f4, f5⟩ | exact ⟨k4, k5⟩ | exact ⟨l4, l5⟩) (first | (go_at_call 57; refine (rwrites_any (B := w.heap.size) _ _ _ x.ws _ (HH.out.keep hbD).ws HH.out.bW HH.out.tW).mono ?_; rintro e w5 ⟨A5, n5, c5, rfl, hpt5, hb5⟩; have f4 := (hb5.cell (p := ⟨w.heap.size, 4, none⟩) hlD).trans e4; have f5 := (hb5.cell (p := ⟨w.heap.size, 8, none⟩) hlD).trans e5; have hp5 := hpD.keep hb5; have hbw5 := hbD.trans (hb5.mono hsD); have hs5w := hbw5.size; have hl5 := Nat.lt_of_lt_of_le hlD hb5.size; have HT5 := Lib.hid hpt5; have HTR := Lib.hid (HPR.out.keepW hbw5); have hbo := below_alloc w5 (.cells #[.slice A5 n5 c5, .slice s.AP s.nP s.cP] 28); have k4 := (hbo.cell (p := ⟨w.heap.size, 4, none⟩) hl5).trans f4; have k5 := (hbo.cell (p := ⟨w.heap.size, 8, none⟩) hl5).trans f5; have HBO := Lib.hid ((hbo.block _ hl5).trans ((hb5.block _ hlD).trans HBP.out)); obtain ⟨vs, hrow, HROW⟩ := hp5.row (.cells #[.slice A5 n5 c5, .slice s.AP s.nP s.cP] 28)) | (refine step_append_rd rfl (.tmp 35) (.tmp 41) 62 rfl j0 (.slice none 0 0) 24 Try.underlying62 hj hy0 hy1 hy2 rfl (by simp [Act.eval, Act.put]) hrow (some ⟨w5.heap.size, 0, none⟩) 2 2 [.slice A5 n5 c5, .slice s.AP s.nP s.cP] (by simp [Act.eval, Act.put]) (rd_twoS w5 _ _ 28) (two_slices _ _ _ _ _ _) (by unfold maxLen; omega) (by omega) (by simp; omega) ?_; intro A7 c7 w7 ho7 hg7; have hne := fun e => hrow.ne_blk HBO.out (by decide) (Eq.symm e); have l4 := (World.cell?_of_block (a := ⟨w.heap.size, 4, none⟩) (hg7.1.block _ (lt_of_heap HBO.out) hne)).trans k4; have l5 := (World.cell?_of_block (a := ⟨w.heap.size, 8, none⟩) (hg7.1.block _ (lt_of_heap HBO.out) hne)).trans k5))
  have hp7 : Pts w7 w.heap.size A7 (2 + 2) c7 ([[x.kind % 256], partL x 116] ++ [partL x 119, partL x 97]) := HROW.out [.slice A5 n5 c5, .slice s.AP s.nP s.cP] [partL x 119, partL x 97] w7 A7 c7 rfl (pt_two HT5.out HTR.out) ho7 hg7
  have hb7 := (hbw5.alloc hs5w (.cells #[.slice A5 n5 c5, .slice s.AP s.nP s.cP] 28)).trans (hg7.below (by simp; omega) (fun j hj => (hrow.lies j hj).1))
  clear hrow ho7 hg7 hp5 hpD hne hbo e4 e5 f4 f5 k4 k5 l4 l5 hb5 hpt5
  have HRN := Lib.hid (joinL_ran hp7.bss)
  have hsE := hb7.size
  go_wp2_with fail
  refine (rjoin_any A7 _ c7 _ _ hp7.bss (by unfold maxLen; omega) HBG.out).mono ?_
  rintro e wE ⟨AE, nE, cE, rfl, hnE, hoE, hbE⟩
  have hbF := hb7.trans (hbE.mono hsE)
  have hoF := hoE.mono hsE
  have HNE := Lib.hid hnE
  clear hnE hp7 hbE hoE
  go_wp2
  go_ret
  exact ⟨AE, nE, cE, rfl, HNE.out, hoF, HRN.out, hbF⟩

theorem conv_sb (W : World) (xs : List Int) (hr : Ran xs) : ∃ A' n' c' W', (convert 9 28 (.string (strOfNums xs))).run Try.prog W = .ok (.slice A' n' c') W' ∧ n' = xs.length ∧ (∀ B, Pt W' B A' n' c' xs) ∧ Below W.heap.size W W' := by
  refine ⟨_, _, _, _, Lib.run_convert_string_bytes (P := Try.prog) W 9 28 5 (strOfNums xs) Try.underlying9 Try.underlying28 Try.underlying5, strOfNums_size xs, fun B => ⟨strOfNums_size xs, grownCap_ge W (strOfNums xs).size 0 5, ?_, ?_⟩, Lib.bytesWorld_below W 5 (strOfNums xs)⟩
  · rw [strOfNums_size]; exact bw_bs W xs hr
  · rw [strOfNums_size]; exact bw_fo W B (strOfNums xs) xs.length
set_option maxRecDepth 100000 in
set_option maxHeartbeats 4000000 in
theorem rbytes_k5 (x : Rc) (s : Sl) (w : World) (h : RcR w x s) (hbig : (recL x).length + 20 ≤ 140737488355328) (hk : x.kind = 5 ∨ x.kind = 7 ∨ x.kind = 8) :
    Calls Try.prog 17 #[.agg #[.int .i64 x.kind, .int .u64 x.boot, .int .u64 x.sess, .int .u64 x.seq, .slice s.AW s.nW s.cW, .slice s.AR s.nR s.cR, .bool x.commit, .slice s.AS s.nS s.cS, .slice s.AP s.nP s.cP, .int .u64 x.id, .string (strOfNums x.name)]] w (BytesP w (recL x)) := by
  obtain ⟨i0, hi, hz0, hz1, hz2⟩ := info_parts info5
  obtain ⟨j0, hj, hy0, hy1, hy2⟩ := info_parts info23
  have h0n := h.name
  have HH := Lib.hid h; clear h
  have HFL : Hid (fl x.kind = [105, 110]) := fl_i hk
  have HHT := Lib.hid (hasT_no (k := x.kind) (by omega))
  have HK := Lib.hid hk; clear hk
  have HRE := Lib.hid (show recL x = joinL ([x.kind % 256] :: (fl x.kind).map (partL x)) from rfl)
  rw [HRE.out] at hbig ⊢
  rw [HFL.out] at hbig ⊢
  have HBG := Lib.hid hbig; clear hbig
  have HTX := Lib.hid (hasTxn_any x.kind)
  rw [HHT.out] at HTX
  clear HRE HFL HHT
  have HRNM := Lib.hid h0n
  have HCV := Lib.hid (fun W => conv_sb W x.name h0n)
  generalize strOfNums x.name = SN at *
  have HH8 := Lib.hid (show 0 ≤ x.kind % 256 ∧ x.kind % 256 ≤ 255 by omega)
  have hnb : ((w.alloc (.cells #[.int .i64 x.kind, .int .u64 x.boot, .int .u64 x.sess, .int .u64 x.seq, .slice s.AW s.nW s.cW, .slice s.AR s.nR s.cR, .bool x.commit, .slice s.AS s.nS s.cS, .slice s.AP s.nP s.cP, .int .u64 x.id, .string SN] 30)).alloc (.cells #[.int .u8 (x.kind % 256)] 5)).heap[w.heap.size + 1]? = some (.cells #[.int .u8 (x.kind % 256)] 5 (0, 0)) := by
    have := heap_alloc_new (w.alloc (.cells #[.int .i64 x.kind, .int .u64 x.boot, .int .u64 x.sess, .int .u64 x.seq, .slice s.AW s.nW s.cW, .slice s.AR s.nR s.cR, .bool x.commit, .slice s.AS s.nS s.cS, .slice s.AP s.nP s.cP, .int .u64 x.id, .string SN] 30)) (.cells #[.int .u8 (x.kind % 256)] 5)
    simpa using this
  have hs2 : ((w.alloc (.cells #[.int .i64 x.kind, .int .u64 x.boot, .int .u64 x.sess, .int .u64 x.seq, .slice s.AW s.nW s.cW, .slice s.AR s.nR s.cR, .bool x.commit, .slice s.AS s.nS s.cS, .slice s.AP s.nP s.cP, .int .u64 x.id, .string SN] 30)).alloc (.cells #[.int .u8 (x.kind % 256)] 5)).heap.size = w.heap.size + 1 + 1 := by simp
  have hp0 : Pts (((w.alloc (.cells #[.int .i64 x.kind, .int .u64 x.boot, .int .u64 x.sess, .int .u64 x.seq, .slice s.AW s.nW s.cW, .slice s.AR s.nR s.cR, .bool x.commit, .slice s.AS s.nS s.cS, .slice s.AP s.nP s.cP, .int .u64 x.id, .string SN] 30)).alloc (.cells #[.int .u8 (x.kind % 256)] 5)).alloc (.cells #[.slice (some ⟨w.heap.size + 1, 0, none⟩) 1 1] 28)) w.heap.size (some ⟨w.heap.size + 1 + 1, 0, none⟩) 1 1 [[x.kind % 256]] := by
    have := pts_first (w := ((w.alloc (.cells #[.int .i64 x.kind, .int .u64 x.boot, .int .u64 x.sess, .int .u64 x.seq, .slice s.AW s.nW s.cW, .slice s.AR s.nR s.cR, .bool x.commit, .slice s.AS s.nS s.cS, .slice s.AP s.nP s.cP, .int .u64 x.id, .string SN] 30)).alloc (.cells #[.int .u8 (x.kind % 256)] 5))) (base := w.heap.size) (x.kind % 256) HH8.out hnb (by omega) (by omega)
    rwa [hs2] at this
  have hb3 : Below w.heap.size w (((w.alloc (.cells #[.int .i64 x.kind, .int .u64 x.boot, .int .u64 x.sess, .int .u64 x.seq, .slice s.AW s.nW s.cW, .slice s.AR s.nR s.cR, .bool x.commit, .slice s.AS s.nS s.cS, .slice s.AP s.nP s.cP, .int .u64 x.id, .string SN] 30)).alloc (.cells #[.int .u8 (x.kind % 256)] 5)).alloc (.cells #[.slice (some ⟨w.heap.size + 1, 0, none⟩) 1 1] 28)) := ((below_alloc w _).alloc (by simp) _).alloc (by simp; omega) _
  have hbx : (((w.alloc (.cells #[.int .i64 x.kind, .int .u64 x.boot, .int .u64 x.sess, .int .u64 x.seq, .slice s.AW s.nW s.cW, .slice s.AR s.nR s.cR, .bool x.commit, .slice s.AS s.nS s.cS, .slice s.AP s.nP s.cP, .int .u64 x.id, .string SN] 30)).alloc (.cells #[.int .u8 (x.kind % 256)] 5)).alloc (.cells #[.slice (some ⟨w.heap.size + 1, 0, none⟩) 1 1] 28)).heap[w.heap.size]? = some (.cells #[.int .i64 x.kind, .int .u64 x.boot, .int .u64 x.sess, .int .u64 x.seq, .slice s.AW s.nW s.cW, .slice s.AR s.nR s.cR, .bool x.commit, .slice s.AS s.nS s.cS, .slice s.AP s.nP s.cP, .int .u64 x.id, .string SN] 30 (0, 0)) := by
    have h1 := heap_alloc_new w (.cells #[.int .i64 x.kind, .int .u64 x.boot, .int .u64 x.sess, .int .u64 x.seq, .slice s.AW s.nW s.cW, .slice s.AR s.nR s.cR, .bool x.commit, .slice s.AS s.nS s.cS, .slice s.AP s.nP s.cP, .int .u64 x.id, .string SN] 30)
    have h2 := (below_alloc (w.alloc (.cells #[.int .i64 x.kind, .int .u64 x.boot, .int .u64 x.sess, .int .u64 x.seq, .slice s.AW s.nW s.cW, .slice s.AR s.nR s.cR, .bool x.commit, .slice s.AS s.nS s.cS, .slice s.AP s.nP s.cP, .int .u64 x.id, .string SN] 30)) (.cells #[.int .u8 (x.kind % 256)] 5)).block w.heap.size (by simp)
    have h3 := (below_alloc ((w.alloc (.cells #[.int .i64 x.kind, .int .u64 x.boot, .int .u64 x.sess, .int .u64 x.seq, .slice s.AW s.nW s.cW, .slice s.AR s.nR s.cR, .bool x.commit, .slice s.AS s.nS s.cS, .slice s.AP s.nP s.cP, .int .u64 x.id, .string SN] 30)).alloc (.cells #[.int .u8 (x.kind % 256)] 5)) (.cells #[.slice (some ⟨w.heap.size + 1, 0, none⟩) 1 1] 28)).block w.heap.size (by simp; omega)
    rw [h3, h2]; exact h1
  have hs3 := hb3.size
  have HBX := Lib.hid hbx
  clear hnb hs2 hbx
  go_enter Try.func17, Try.ntmps17
  go_wp2_with fail
  refine (HTX.out _).mono ?_
  rintro e wz ⟨rfl, rfl⟩
  have hp := hp0
  have hbP := hb3
  have HBP := HBX
  clear hp0 hb3 HBX
  generalize (((w.alloc (.cells #[.int .i64 x.kind, .int .u64 x.boot, .int .u64 x.sess, .int .u64 x.seq, .slice s.AW s.nW s.cW, .slice s.AR s.nR s.cR, .bool x.commit, .slice s.AS s.nS s.cS, .slice s.AP s.nP s.cP, .int .u64 x.id, .string SN] 30)).alloc (.cells #[.int .u8 (x.kind % 256)] 5)).alloc (.cells #[.slice (some ⟨w.heap.size + 1, 0, none⟩) 1 1] 28)) = wP at *
  have q0 : wP.cell? ⟨w.heap.size, 0, none⟩ = some (.int .i64 x.kind) := rc_cell 0 _ HBP.out rfl
  have BXd : Hid (wP.drew.heap[w.heap.size]? = _) := HBP
  have PSd : Hid (Pts wP.drew w.heap.size (some ⟨w.heap.size + 1 + 1, 0, none⟩) 1 1 [[x.kind % 256]]) := Lib.hid (hp.keep ((Dr.refl wP).one.below _))
  have HBd : Hid (Below w.heap.size w wP.drew) := Lib.hid (below_n hbP 1)
  have n1 : (x.kind == 1) = false := by have := HK.out; simp; omega
  have n4 : (x.kind == 4) = false := by have := HK.out; simp; omega
  clear hp hbP
  rcases HK.out with h5 | h7 | h8
  · have m5 : (x.kind == 5) = true := by simp [h5]
    clear h5
    go_wp2_with fail
    refine wp_region_held_drew (S := fun w' => w'.cell? ⟨w.heap.size, 9, none⟩ = some (.int .u64 x.id) ∧ w'.cell? ⟨w.heap.size, 10, none⟩ = some (.string SN)) (by kernel_rfl) ⟨rc_cell 9 _ BXd.out rfl, rc_cell 10 _ BXd.out rfl⟩ (fun hH0 => ?_)
    generalize wP.drew = zd at *
    refine wpAnyH_take (i := 0) (oi := { dst := some 47, op := Op.move (Operand.tmp 3), type := 62, pos := _, after := #[], guard := none }) (v := ?vku1_0) rfl (by kernel_rfl) (by kernel_rfl) (by kernel_rfl) (fun _ _ _ h => h) (Or.inl ⟨by rfl, ?yku1_0⟩) hH0 ?rku1_0
    case yku1_0 => (intro w hSw; (try dsimp only at hSw); go_simp; try (with_reducible rfl))
    try simp only [Act.put, List.setIfInBounds_toArray, List.set_cons_zero, List.set_cons_succ]
    refine wpAnyH_take (i := 1) (oi := { dst := some 48, op := Op.fieldAddr 30 (Operand.tmp 1) 7, type := 0, pos := _, after := #[], guard := none }) (v := ?vku2_1) rfl (by kernel_rfl) (by kernel_rfl) (by kernel_rfl) (fun _ _ _ h => h) (Or.inl ⟨by rfl, ?yku2_1⟩) hH0 ?rku2_1
    case yku2_1 => (intro w hSw; (try dsimp only at hSw); go_simp; try (with_reducible rfl))
    try simp only [Act.put, List.setIfInBounds_toArray, List.set_cons_zero, List.set_cons_succ]
    refine wpAnyH_take (i := 2) (oi := { dst := some 49, op := Op.load 22 (Operand.tmp 48), type := 22, pos := _, after := #[{ on := 1, ground := Ground.data }], guard := none }) (v := ?vku3_2) rfl (by kernel_rfl) (by kernel_rfl) (by kernel_rfl) (fun _ _ _ h => h) (Or.inl ⟨by rfl, ?yku3_2⟩) hH0 ?rku3_2
    case yku3_2 => (intro w hSw; (try dsimp only at hSw); go_simp; try (with_reducible rfl))
    try simp only [Act.put, List.setIfInBounds_toArray, List.set_cons_zero, List.set_cons_succ]
    refine wpAnyH_take (i := 4) (oi := { dst := some 51, op := Op.fieldAddr 30 (Operand.tmp 1) 8, type := 0, pos := _, after := #[], guard := none }) (v := ?vku4_4) rfl (by kernel_rfl) (by kernel_rfl) (by kernel_rfl) (fun _ _ _ h => h) (Or.inl ⟨by rfl, ?yku4_4⟩) hH0 ?rku4_4
    case yku4_4 => (intro w hSw; (try dsimp only at hSw); go_simp; try (with_reducible rfl))
    try simp only [Act.put, List.setIfInBounds_toArray, List.set_cons_zero, List.set_cons_succ]
    refine wpAnyH_take (i := 5) (oi := { dst := some 52, op := Op.load 9 (Operand.tmp 51), type := 9, pos := _, after := #[{ on := 4, ground := Ground.data }], guard := none }) (v := ?vku5_5) rfl (by kernel_rfl) (by kernel_rfl) (by kernel_rfl) (fun _ _ _ h => h) (Or.inl ⟨by rfl, ?yku5_5⟩) hH0 ?rku5_5
    case yku5_5 => (intro w hSw; (try dsimp only at hSw); go_simp; try (with_reducible rfl))
    try simp only [Act.put, List.setIfInBounds_toArray, List.set_cons_zero, List.set_cons_succ]
    refine wpAnyH_ready (rs := [3, 6]) (by kernel_rfl) (by simp) ?_
    refine (AllReadyH.cons (o := { dst := some 50, op := Op.call { callee := Callee.value (Operand.func 59), args := #[Operand.tmp 49], argTypes := #[22] }, type := 28, pos := _, after := #[{ on := 2, ground := Ground.data }], guard := none }) rfl (fun K hK => ?_) (AllReadyH.cons (o := { dst := some 53, op := Op.convert 9 28 (Operand.tmp 52), type := 28, pos := _, after := #[{ on := 5, ground := Ground.data }], guard := none }) rfl (fun K hK => ?_) AllReadyH.nil))
    · go_simp
      refine (rnumber_any x.id zd HH.out.id.1 HH.out.id.2).mono ?_
      rintro e z1 ⟨A5, c5, n5, rfl, hn5, ho5, hb1⟩
      have BX1 := Lib.hid ((hb1.block _ (lt_of_heap BXd.out)).trans BXd.out)
      have PS1 := Lib.hid (PSd.out.keep hb1)
      have HB1 := Lib.hid (HBd.out.trans (hb1.mono HBd.out.size))
      have PN1 := Lib.hid (Pt.own (base := w.heap.size) ho5 (num_ran _ HH.out.id.1))
      clear hn5 ho5 hb1
      go_wp2_with fail
      refine hK.out _ _ ⟨rc_cell 9 _ BX1.out rfl, rc_cell 10 _ BX1.out rfl⟩ (fun hH1 => ?_)
      clear hK K
      try simp only [Act.put, List.setIfInBounds_toArray, List.set_cons_zero, List.set_cons_succ]
      refine wpAnyH_ready (rs := [6]) (by kernel_rfl) (by simp) ?_
      refine (AllReadyH.cons (o := { dst := some 53, op := Op.convert 9 28 (Operand.tmp 52), type := 28, pos := _, after := #[{ on := 5, ground := Ground.data }], guard := none }) rfl (fun K hK => ?_) AllReadyH.nil)
      obtain ⟨A6, n6, c6, z2, hcv, hn6, hpt6, hb2⟩ := HCV.out z1
      clear hn6
      have BX2 := Lib.hid ((hb2.block _ (lt_of_heap BX1.out)).trans BX1.out)
      have PS2 := Lib.hid (PS1.out.keep hb2)
      have HB2 := Lib.hid (HB1.out.trans (hb2.mono HB1.out.size))
      have PN2 := Lib.hid (PN1.out.keep hb2)
      have PM2 := Lib.hid (hpt6 w.heap.size)
      go_simp
      clear hpt6 hb2 hcv
      refine hK.out _ _ ⟨rc_cell 9 _ BX2.out rfl, rc_cell 10 _ BX2.out rfl⟩ (fun hH2 => ?_)
      clear hK K
      try simp only [Act.put, List.setIfInBounds_toArray, List.set_cons_zero, List.set_cons_succ]
      refine wpAnyH_ready (rs := [7]) (by kernel_rfl) (by simp) ?_
      refine (AllReadyH.cons (o := { dst := some 54, op := Op.buildSlice 62 2 #[(0, Operand.tmp 50), (1, Operand.tmp 53)], type := 62, pos := _, after := #[{ on := 3, ground := Ground.data }, { on := 6, ground := Ground.data }], guard := none }) rfl (fun K hK => ?_) AllReadyH.nil)
      go_simp
      obtain ⟨vs, hrow, HROW⟩ := PS2.out.row (.cells #[.slice A5 n5 c5, .slice A6 n6 c6] 28)
      have ba := below_alloc z2 (.cells #[.slice A5 n5 c5, .slice A6 n6 c6] 28)
      have BX8 := Lib.hid ((ba.block _ (lt_of_heap BX2.out)).trans BX2.out)
      have HB8 := Lib.hid (HB2.out.trans (ba.mono HB2.out.size))
      have RD8 := rd_twoS z2 (.slice A5 n5 c5) (.slice A6 n6 c6) 28
      refine hK.out _ _ ⟨rc_cell 9 _ BX8.out rfl, rc_cell 10 _ BX8.out rfl⟩ (fun hH8 => ?_)
      clear hK K
      try simp only [Act.put, List.setIfInBounds_toArray, List.set_cons_zero, List.set_cons_succ]
      clear ba
      generalize z2.alloc (.cells #[.slice A5 n5 c5, .slice A6 n6 c6] 28) = z8 at *
      refine wpAnyH_ready (rs := [8]) (by kernel_rfl) (by simp) ?_
      refine (AllReadyH.cons (o := { dst := some 55, op := Op.call { callee := Callee.builtin Builtin.append, args := #[Operand.tmp 47, Operand.tmp 54], argTypes := #[62, 62] }, type := 62, pos := _, after := #[{ on := 0, ground := Ground.data }, { on := 7, ground := Ground.data }, { on := 3, ground := Ground.chain }], guard := none }) rfl (fun K hK => ?_) AllReadyH.nil)
      refine step_append_rd rfl (.tmp 47) (.tmp 54) 62 rfl j0 (.slice none 0 0) 24 Try.underlying62 hj hy0 hy1 hy2 rfl (by simp [Act.eval, Act.put]) hrow (some ⟨z2.heap.size, 0, none⟩) 2 2 [.slice A5 n5 c5, .slice A6 n6 c6] (by simp [Act.eval, Act.put]) RD8 (two_slices _ _ _ _ _ _) (by unfold maxLen; omega) (by omega) HB8.out.size ?_
      intro A9 c9 z9 ho9 hg9
      have hp9 : Pts z9 w.heap.size A9 (1 + 2) c9 ([[x.kind % 256]] ++ [num x.id, x.name]) := HROW.out [.slice A5 n5 c5, .slice A6 n6 c6] [num x.id, x.name] z9 A9 c9 rfl (pt_two PN2.out PM2.out) ho9 hg9
      have BX9 := Lib.hid ((hg9.1.block _ (lt_of_heap BX8.out) (fun e => hrow.ne_blk BX8.out (by decide) e.symm)).trans BX8.out)
      have hb9 := HB8.out.trans (hg9.below HB8.out.size (fun j hj => (hrow.lies j hj).1))
      clear ho9 hg9 hrow RD8
      refine hK.out _ _ ⟨rc_cell 9 _ BX9.out rfl, rc_cell 10 _ BX9.out rfl⟩ (fun hH9 => ?_)
      clear hK K
      try simp only [Act.put, List.setIfInBounds_toArray, List.set_cons_zero, List.set_cons_succ]
      refine wpAnyH_take (i := 9) (oi := { dst := some 3, op := Op.assign (Operand.tmp 55), type := 62, pos := _, after := #[{ on := 8, ground := Ground.data }, { on := 8, ground := Ground.chain }, { on := 0, ground := Ground.phase }, { on := 1, ground := Ground.phase }, { on := 2, ground := Ground.phase }, { on := 3, ground := Ground.phase }, { on := 4, ground := Ground.phase }, { on := 5, ground := Ground.phase }, { on := 6, ground := Ground.phase }, { on := 7, ground := Ground.phase }, { on := 8, ground := Ground.phase }], guard := none }) (v := ?veu6_9) rfl (by kernel_rfl) (by kernel_rfl) (by kernel_rfl) (fun _ _ _ h => h) (Or.inl ⟨by rfl, ?yeu6_9⟩) hH9 ?reu6_9
      case yeu6_9 => (intro w hSw; (try dsimp only at hSw); go_simp; try (with_reducible rfl))
      try simp only [Act.put, List.setIfInBounds_toArray, List.set_cons_zero, List.set_cons_succ]
      refine wpAnyH_done (by kernel_rfl) ?_ _
      have HRN := Lib.hid (joinL_ran hp9.bss)
      have hsE := hb9.size
      go_wp2_with fail
      refine (rjoin_any A9 _ c9 _ _ hp9.bss (by unfold maxLen; omega) HBG.out).mono ?_
      rintro e wE ⟨AE, nE, cE, rfl, hnE, hoE, hbE⟩
      have hbF := hb9.trans (hbE.mono hsE)
      have hoF := hoE.mono hsE
      have HNE := Lib.hid hnE
      clear hnE hp9 hbE hoE
      go_wp2
      go_ret
      exact ⟨AE, nE, cE, rfl, HNE.out, hoF, HRN.out, hbF⟩
    · obtain ⟨A6, n6, c6, z1, hcv, hn6, hpt6, hb1⟩ := HCV.out zd
      clear hn6
      have BX1 := Lib.hid ((hb1.block _ (lt_of_heap BXd.out)).trans BXd.out)
      have PS1 := Lib.hid (PSd.out.keep hb1)
      have HB1 := Lib.hid (HBd.out.trans (hb1.mono HBd.out.size))
      have PM1 := Lib.hid (hpt6 w.heap.size)
      go_simp
      clear hpt6 hb1 hcv
      refine hK.out _ _ ⟨rc_cell 9 _ BX1.out rfl, rc_cell 10 _ BX1.out rfl⟩ (fun hH1 => ?_)
      clear hK K
      try simp only [Act.put, List.setIfInBounds_toArray, List.set_cons_zero, List.set_cons_succ]
      refine wpAnyH_ready (rs := [3]) (by kernel_rfl) (by simp) ?_
      refine (AllReadyH.cons (o := { dst := some 50, op := Op.call { callee := Callee.value (Operand.func 59), args := #[Operand.tmp 49], argTypes := #[22] }, type := 28, pos := _, after := #[{ on := 2, ground := Ground.data }], guard := none }) rfl (fun K hK => ?_) AllReadyH.nil)
      go_simp
      refine (rnumber_any x.id z1 HH.out.id.1 HH.out.id.2).mono ?_
      rintro e z2 ⟨A5, c5, n5, rfl, hn5, ho5, hb2⟩
      have BX2 := Lib.hid ((hb2.block _ (lt_of_heap BX1.out)).trans BX1.out)
      have PS2 := Lib.hid (PS1.out.keep hb2)
      have HB2 := Lib.hid (HB1.out.trans (hb2.mono HB1.out.size))
      have PM2 := Lib.hid (PM1.out.keep hb2)
      have PN2 := Lib.hid (Pt.own (base := w.heap.size) ho5 (num_ran _ HH.out.id.1))
      clear hn5 ho5 hb2
      go_wp2_with fail
      refine hK.out _ _ ⟨rc_cell 9 _ BX2.out rfl, rc_cell 10 _ BX2.out rfl⟩ (fun hH2 => ?_)
      clear hK K
      try simp only [Act.put, List.setIfInBounds_toArray, List.set_cons_zero, List.set_cons_succ]
      refine wpAnyH_ready (rs := [7]) (by kernel_rfl) (by simp) ?_
      refine (AllReadyH.cons (o := { dst := some 54, op := Op.buildSlice 62 2 #[(0, Operand.tmp 50), (1, Operand.tmp 53)], type := 62, pos := _, after := #[{ on := 3, ground := Ground.data }, { on := 6, ground := Ground.data }], guard := none }) rfl (fun K hK => ?_) AllReadyH.nil)
      go_simp
      obtain ⟨vs, hrow, HROW⟩ := PS2.out.row (.cells #[.slice A5 n5 c5, .slice A6 n6 c6] 28)
      have ba := below_alloc z2 (.cells #[.slice A5 n5 c5, .slice A6 n6 c6] 28)
      have BX8 := Lib.hid ((ba.block _ (lt_of_heap BX2.out)).trans BX2.out)
      have HB8 := Lib.hid (HB2.out.trans (ba.mono HB2.out.size))
      have RD8 := rd_twoS z2 (.slice A5 n5 c5) (.slice A6 n6 c6) 28
      refine hK.out _ _ ⟨rc_cell 9 _ BX8.out rfl, rc_cell 10 _ BX8.out rfl⟩ (fun hH8 => ?_)
      clear hK K
      try simp only [Act.put, List.setIfInBounds_toArray, List.set_cons_zero, List.set_cons_succ]
      clear ba
      generalize z2.alloc (.cells #[.slice A5 n5 c5, .slice A6 n6 c6] 28) = z8 at *
      refine wpAnyH_ready (rs := [8]) (by kernel_rfl) (by simp) ?_
      refine (AllReadyH.cons (o := { dst := some 55, op := Op.call { callee := Callee.builtin Builtin.append, args := #[Operand.tmp 47, Operand.tmp 54], argTypes := #[62, 62] }, type := 62, pos := _, after := #[{ on := 0, ground := Ground.data }, { on := 7, ground := Ground.data }, { on := 3, ground := Ground.chain }], guard := none }) rfl (fun K hK => ?_) AllReadyH.nil)
      refine step_append_rd rfl (.tmp 47) (.tmp 54) 62 rfl j0 (.slice none 0 0) 24 Try.underlying62 hj hy0 hy1 hy2 rfl (by simp [Act.eval, Act.put]) hrow (some ⟨z2.heap.size, 0, none⟩) 2 2 [.slice A5 n5 c5, .slice A6 n6 c6] (by simp [Act.eval, Act.put]) RD8 (two_slices _ _ _ _ _ _) (by unfold maxLen; omega) (by omega) HB8.out.size ?_
      intro A9 c9 z9 ho9 hg9
      have hp9 : Pts z9 w.heap.size A9 (1 + 2) c9 ([[x.kind % 256]] ++ [num x.id, x.name]) := HROW.out [.slice A5 n5 c5, .slice A6 n6 c6] [num x.id, x.name] z9 A9 c9 rfl (pt_two PN2.out PM2.out) ho9 hg9
      have BX9 := Lib.hid ((hg9.1.block _ (lt_of_heap BX8.out) (fun e => hrow.ne_blk BX8.out (by decide) e.symm)).trans BX8.out)
      have hb9 := HB8.out.trans (hg9.below HB8.out.size (fun j hj => (hrow.lies j hj).1))
      clear ho9 hg9 hrow RD8
      refine hK.out _ _ ⟨rc_cell 9 _ BX9.out rfl, rc_cell 10 _ BX9.out rfl⟩ (fun hH9 => ?_)
      clear hK K
      try simp only [Act.put, List.setIfInBounds_toArray, List.set_cons_zero, List.set_cons_succ]
      refine wpAnyH_take (i := 9) (oi := { dst := some 3, op := Op.assign (Operand.tmp 55), type := 62, pos := _, after := #[{ on := 8, ground := Ground.data }, { on := 8, ground := Ground.chain }, { on := 0, ground := Ground.phase }, { on := 1, ground := Ground.phase }, { on := 2, ground := Ground.phase }, { on := 3, ground := Ground.phase }, { on := 4, ground := Ground.phase }, { on := 5, ground := Ground.phase }, { on := 6, ground := Ground.phase }, { on := 7, ground := Ground.phase }, { on := 8, ground := Ground.phase }], guard := none }) (v := ?veu7_9) rfl (by kernel_rfl) (by kernel_rfl) (by kernel_rfl) (fun _ _ _ h => h) (Or.inl ⟨by rfl, ?yeu7_9⟩) hH9 ?reu7_9
      case yeu7_9 => (intro w hSw; (try dsimp only at hSw); go_simp; try (with_reducible rfl))
      try simp only [Act.put, List.setIfInBounds_toArray, List.set_cons_zero, List.set_cons_succ]
      refine wpAnyH_done (by kernel_rfl) ?_ _
      have HRN := Lib.hid (joinL_ran hp9.bss)
      have hsE := hb9.size
      go_wp2_with fail
      refine (rjoin_any A9 _ c9 _ _ hp9.bss (by unfold maxLen; omega) HBG.out).mono ?_
      rintro e wE ⟨AE, nE, cE, rfl, hnE, hoE, hbE⟩
      have hbF := hb9.trans (hbE.mono hsE)
      have hoF := hoE.mono hsE
      have HNE := Lib.hid hnE
      clear hnE hp9 hbE hoE
      go_wp2
      go_ret
      exact ⟨AE, nE, cE, rfl, HNE.out, hoF, HRN.out, hbF⟩
  · have m5 : (x.kind == 5) = false := by simp [h7]
    have m7 : (x.kind == 7) = true := by simp [h7]
    clear h7
    go_wp2_with fail
    refine wp_region_held_drew (S := fun w' => w'.cell? ⟨w.heap.size, 9, none⟩ = some (.int .u64 x.id) ∧ w'.cell? ⟨w.heap.size, 10, none⟩ = some (.string SN)) (by kernel_rfl) ⟨rc_cell 9 _ BXd.out rfl, rc_cell 10 _ BXd.out rfl⟩ (fun hH0 => ?_)
    generalize wP.drew = zd at *
    refine wpAnyH_take (i := 0) (oi := { dst := some 47, op := Op.move (Operand.tmp 3), type := 62, pos := _, after := #[], guard := none }) (v := ?vku8_0) rfl (by kernel_rfl) (by kernel_rfl) (by kernel_rfl) (fun _ _ _ h => h) (Or.inl ⟨by rfl, ?yku8_0⟩) hH0 ?rku8_0
    case yku8_0 => (intro w hSw; (try dsimp only at hSw); go_simp; try (with_reducible rfl))
    try simp only [Act.put, List.setIfInBounds_toArray, List.set_cons_zero, List.set_cons_succ]
    refine wpAnyH_take (i := 1) (oi := { dst := some 48, op := Op.fieldAddr 30 (Operand.tmp 1) 7, type := 0, pos := _, after := #[], guard := none }) (v := ?vku9_1) rfl (by kernel_rfl) (by kernel_rfl) (by kernel_rfl) (fun _ _ _ h => h) (Or.inl ⟨by rfl, ?yku9_1⟩) hH0 ?rku9_1
    case yku9_1 => (intro w hSw; (try dsimp only at hSw); go_simp; try (with_reducible rfl))
    try simp only [Act.put, List.setIfInBounds_toArray, List.set_cons_zero, List.set_cons_succ]
    refine wpAnyH_take (i := 2) (oi := { dst := some 49, op := Op.load 22 (Operand.tmp 48), type := 22, pos := _, after := #[{ on := 1, ground := Ground.data }], guard := none }) (v := ?vku10_2) rfl (by kernel_rfl) (by kernel_rfl) (by kernel_rfl) (fun _ _ _ h => h) (Or.inl ⟨by rfl, ?yku10_2⟩) hH0 ?rku10_2
    case yku10_2 => (intro w hSw; (try dsimp only at hSw); go_simp; try (with_reducible rfl))
    try simp only [Act.put, List.setIfInBounds_toArray, List.set_cons_zero, List.set_cons_succ]
    refine wpAnyH_take (i := 4) (oi := { dst := some 51, op := Op.fieldAddr 30 (Operand.tmp 1) 8, type := 0, pos := _, after := #[], guard := none }) (v := ?vku11_4) rfl (by kernel_rfl) (by kernel_rfl) (by kernel_rfl) (fun _ _ _ h => h) (Or.inl ⟨by rfl, ?yku11_4⟩) hH0 ?rku11_4
    case yku11_4 => (intro w hSw; (try dsimp only at hSw); go_simp; try (with_reducible rfl))
    try simp only [Act.put, List.setIfInBounds_toArray, List.set_cons_zero, List.set_cons_succ]
    refine wpAnyH_take (i := 5) (oi := { dst := some 52, op := Op.load 9 (Operand.tmp 51), type := 9, pos := _, after := #[{ on := 4, ground := Ground.data }], guard := none }) (v := ?vku12_5) rfl (by kernel_rfl) (by kernel_rfl) (by kernel_rfl) (fun _ _ _ h => h) (Or.inl ⟨by rfl, ?yku12_5⟩) hH0 ?rku12_5
    case yku12_5 => (intro w hSw; (try dsimp only at hSw); go_simp; try (with_reducible rfl))
    try simp only [Act.put, List.setIfInBounds_toArray, List.set_cons_zero, List.set_cons_succ]
    refine wpAnyH_ready (rs := [3, 6]) (by kernel_rfl) (by simp) ?_
    refine (AllReadyH.cons (o := { dst := some 50, op := Op.call { callee := Callee.value (Operand.func 59), args := #[Operand.tmp 49], argTypes := #[22] }, type := 28, pos := _, after := #[{ on := 2, ground := Ground.data }], guard := none }) rfl (fun K hK => ?_) (AllReadyH.cons (o := { dst := some 53, op := Op.convert 9 28 (Operand.tmp 52), type := 28, pos := _, after := #[{ on := 5, ground := Ground.data }], guard := none }) rfl (fun K hK => ?_) AllReadyH.nil))
    · go_simp
      refine (rnumber_any x.id zd HH.out.id.1 HH.out.id.2).mono ?_
      rintro e z1 ⟨A5, c5, n5, rfl, hn5, ho5, hb1⟩
      have BX1 := Lib.hid ((hb1.block _ (lt_of_heap BXd.out)).trans BXd.out)
      have PS1 := Lib.hid (PSd.out.keep hb1)
      have HB1 := Lib.hid (HBd.out.trans (hb1.mono HBd.out.size))
      have PN1 := Lib.hid (Pt.own (base := w.heap.size) ho5 (num_ran _ HH.out.id.1))
      clear hn5 ho5 hb1
      go_wp2_with fail
      refine hK.out _ _ ⟨rc_cell 9 _ BX1.out rfl, rc_cell 10 _ BX1.out rfl⟩ (fun hH1 => ?_)
      clear hK K
      try simp only [Act.put, List.setIfInBounds_toArray, List.set_cons_zero, List.set_cons_succ]
      refine wpAnyH_ready (rs := [6]) (by kernel_rfl) (by simp) ?_
      refine (AllReadyH.cons (o := { dst := some 53, op := Op.convert 9 28 (Operand.tmp 52), type := 28, pos := _, after := #[{ on := 5, ground := Ground.data }], guard := none }) rfl (fun K hK => ?_) AllReadyH.nil)
      obtain ⟨A6, n6, c6, z2, hcv, hn6, hpt6, hb2⟩ := HCV.out z1
      clear hn6
      have BX2 := Lib.hid ((hb2.block _ (lt_of_heap BX1.out)).trans BX1.out)
      have PS2 := Lib.hid (PS1.out.keep hb2)
      have HB2 := Lib.hid (HB1.out.trans (hb2.mono HB1.out.size))
      have PN2 := Lib.hid (PN1.out.keep hb2)
      have PM2 := Lib.hid (hpt6 w.heap.size)
      go_simp
      clear hpt6 hb2 hcv
      refine hK.out _ _ ⟨rc_cell 9 _ BX2.out rfl, rc_cell 10 _ BX2.out rfl⟩ (fun hH2 => ?_)
      clear hK K
      try simp only [Act.put, List.setIfInBounds_toArray, List.set_cons_zero, List.set_cons_succ]
      refine wpAnyH_ready (rs := [7]) (by kernel_rfl) (by simp) ?_
      refine (AllReadyH.cons (o := { dst := some 54, op := Op.buildSlice 62 2 #[(0, Operand.tmp 50), (1, Operand.tmp 53)], type := 62, pos := _, after := #[{ on := 3, ground := Ground.data }, { on := 6, ground := Ground.data }], guard := none }) rfl (fun K hK => ?_) AllReadyH.nil)
      go_simp
      obtain ⟨vs, hrow, HROW⟩ := PS2.out.row (.cells #[.slice A5 n5 c5, .slice A6 n6 c6] 28)
      have ba := below_alloc z2 (.cells #[.slice A5 n5 c5, .slice A6 n6 c6] 28)
      have BX8 := Lib.hid ((ba.block _ (lt_of_heap BX2.out)).trans BX2.out)
      have HB8 := Lib.hid (HB2.out.trans (ba.mono HB2.out.size))
      have RD8 := rd_twoS z2 (.slice A5 n5 c5) (.slice A6 n6 c6) 28
      refine hK.out _ _ ⟨rc_cell 9 _ BX8.out rfl, rc_cell 10 _ BX8.out rfl⟩ (fun hH8 => ?_)
      clear hK K
      try simp only [Act.put, List.setIfInBounds_toArray, List.set_cons_zero, List.set_cons_succ]
      clear ba
      generalize z2.alloc (.cells #[.slice A5 n5 c5, .slice A6 n6 c6] 28) = z8 at *
      refine wpAnyH_ready (rs := [8]) (by kernel_rfl) (by simp) ?_
      refine (AllReadyH.cons (o := { dst := some 55, op := Op.call { callee := Callee.builtin Builtin.append, args := #[Operand.tmp 47, Operand.tmp 54], argTypes := #[62, 62] }, type := 62, pos := _, after := #[{ on := 0, ground := Ground.data }, { on := 7, ground := Ground.data }, { on := 3, ground := Ground.chain }], guard := none }) rfl (fun K hK => ?_) AllReadyH.nil)
      refine step_append_rd rfl (.tmp 47) (.tmp 54) 62 rfl j0 (.slice none 0 0) 24 Try.underlying62 hj hy0 hy1 hy2 rfl (by simp [Act.eval, Act.put]) hrow (some ⟨z2.heap.size, 0, none⟩) 2 2 [.slice A5 n5 c5, .slice A6 n6 c6] (by simp [Act.eval, Act.put]) RD8 (two_slices _ _ _ _ _ _) (by unfold maxLen; omega) (by omega) HB8.out.size ?_
      intro A9 c9 z9 ho9 hg9
      have hp9 : Pts z9 w.heap.size A9 (1 + 2) c9 ([[x.kind % 256]] ++ [num x.id, x.name]) := HROW.out [.slice A5 n5 c5, .slice A6 n6 c6] [num x.id, x.name] z9 A9 c9 rfl (pt_two PN2.out PM2.out) ho9 hg9
      have BX9 := Lib.hid ((hg9.1.block _ (lt_of_heap BX8.out) (fun e => hrow.ne_blk BX8.out (by decide) e.symm)).trans BX8.out)
      have hb9 := HB8.out.trans (hg9.below HB8.out.size (fun j hj => (hrow.lies j hj).1))
      clear ho9 hg9 hrow RD8
      refine hK.out _ _ ⟨rc_cell 9 _ BX9.out rfl, rc_cell 10 _ BX9.out rfl⟩ (fun hH9 => ?_)
      clear hK K
      try simp only [Act.put, List.setIfInBounds_toArray, List.set_cons_zero, List.set_cons_succ]
      refine wpAnyH_take (i := 9) (oi := { dst := some 3, op := Op.assign (Operand.tmp 55), type := 62, pos := _, after := #[{ on := 8, ground := Ground.data }, { on := 8, ground := Ground.chain }, { on := 0, ground := Ground.phase }, { on := 1, ground := Ground.phase }, { on := 2, ground := Ground.phase }, { on := 3, ground := Ground.phase }, { on := 4, ground := Ground.phase }, { on := 5, ground := Ground.phase }, { on := 6, ground := Ground.phase }, { on := 7, ground := Ground.phase }, { on := 8, ground := Ground.phase }], guard := none }) (v := ?veu13_9) rfl (by kernel_rfl) (by kernel_rfl) (by kernel_rfl) (fun _ _ _ h => h) (Or.inl ⟨by rfl, ?yeu13_9⟩) hH9 ?reu13_9
      case yeu13_9 => (intro w hSw; (try dsimp only at hSw); go_simp; try (with_reducible rfl))
      try simp only [Act.put, List.setIfInBounds_toArray, List.set_cons_zero, List.set_cons_succ]
      refine wpAnyH_done (by kernel_rfl) ?_ _
      have HRN := Lib.hid (joinL_ran hp9.bss)
      have hsE := hb9.size
      go_wp2_with fail
      refine (rjoin_any A9 _ c9 _ _ hp9.bss (by unfold maxLen; omega) HBG.out).mono ?_
      rintro e wE ⟨AE, nE, cE, rfl, hnE, hoE, hbE⟩
      have hbF := hb9.trans (hbE.mono hsE)
      have hoF := hoE.mono hsE
      have HNE := Lib.hid hnE
      clear hnE hp9 hbE hoE
      go_wp2
      go_ret
      exact ⟨AE, nE, cE, rfl, HNE.out, hoF, HRN.out, hbF⟩
    · obtain ⟨A6, n6, c6, z1, hcv, hn6, hpt6, hb1⟩ := HCV.out zd
      clear hn6
      have BX1 := Lib.hid ((hb1.block _ (lt_of_heap BXd.out)).trans BXd.out)
      have PS1 := Lib.hid (PSd.out.keep hb1)
      have HB1 := Lib.hid (HBd.out.trans (hb1.mono HBd.out.size))
      have PM1 := Lib.hid (hpt6 w.heap.size)
      go_simp
      clear hpt6 hb1 hcv
      refine hK.out _ _ ⟨rc_cell 9 _ BX1.out rfl, rc_cell 10 _ BX1.out rfl⟩ (fun hH1 => ?_)
      clear hK K
      try simp only [Act.put, List.setIfInBounds_toArray, List.set_cons_zero, List.set_cons_succ]
      refine wpAnyH_ready (rs := [3]) (by kernel_rfl) (by simp) ?_
      refine (AllReadyH.cons (o := { dst := some 50, op := Op.call { callee := Callee.value (Operand.func 59), args := #[Operand.tmp 49], argTypes := #[22] }, type := 28, pos := _, after := #[{ on := 2, ground := Ground.data }], guard := none }) rfl (fun K hK => ?_) AllReadyH.nil)
      go_simp
      refine (rnumber_any x.id z1 HH.out.id.1 HH.out.id.2).mono ?_
      rintro e z2 ⟨A5, c5, n5, rfl, hn5, ho5, hb2⟩
      have BX2 := Lib.hid ((hb2.block _ (lt_of_heap BX1.out)).trans BX1.out)
      have PS2 := Lib.hid (PS1.out.keep hb2)
      have HB2 := Lib.hid (HB1.out.trans (hb2.mono HB1.out.size))
      have PM2 := Lib.hid (PM1.out.keep hb2)
      have PN2 := Lib.hid (Pt.own (base := w.heap.size) ho5 (num_ran _ HH.out.id.1))
      clear hn5 ho5 hb2
      go_wp2_with fail
      refine hK.out _ _ ⟨rc_cell 9 _ BX2.out rfl, rc_cell 10 _ BX2.out rfl⟩ (fun hH2 => ?_)
      clear hK K
      try simp only [Act.put, List.setIfInBounds_toArray, List.set_cons_zero, List.set_cons_succ]
      refine wpAnyH_ready (rs := [7]) (by kernel_rfl) (by simp) ?_
      refine (AllReadyH.cons (o := { dst := some 54, op := Op.buildSlice 62 2 #[(0, Operand.tmp 50), (1, Operand.tmp 53)], type := 62, pos := _, after := #[{ on := 3, ground := Ground.data }, { on := 6, ground := Ground.data }], guard := none }) rfl (fun K hK => ?_) AllReadyH.nil)
      go_simp
      obtain ⟨vs, hrow, HROW⟩ := PS2.out.row (.cells #[.slice A5 n5 c5, .slice A6 n6 c6] 28)
      have ba := below_alloc z2 (.cells #[.slice A5 n5 c5, .slice A6 n6 c6] 28)
      have BX8 := Lib.hid ((ba.block _ (lt_of_heap BX2.out)).trans BX2.out)
      have HB8 := Lib.hid (HB2.out.trans (ba.mono HB2.out.size))
      have RD8 := rd_twoS z2 (.slice A5 n5 c5) (.slice A6 n6 c6) 28
      refine hK.out _ _ ⟨rc_cell 9 _ BX8.out rfl, rc_cell 10 _ BX8.out rfl⟩ (fun hH8 => ?_)
      clear hK K
      try simp only [Act.put, List.setIfInBounds_toArray, List.set_cons_zero, List.set_cons_succ]
      clear ba
      generalize z2.alloc (.cells #[.slice A5 n5 c5, .slice A6 n6 c6] 28) = z8 at *
      refine wpAnyH_ready (rs := [8]) (by kernel_rfl) (by simp) ?_
      refine (AllReadyH.cons (o := { dst := some 55, op := Op.call { callee := Callee.builtin Builtin.append, args := #[Operand.tmp 47, Operand.tmp 54], argTypes := #[62, 62] }, type := 62, pos := _, after := #[{ on := 0, ground := Ground.data }, { on := 7, ground := Ground.data }, { on := 3, ground := Ground.chain }], guard := none }) rfl (fun K hK => ?_) AllReadyH.nil)
      refine step_append_rd rfl (.tmp 47) (.tmp 54) 62 rfl j0 (.slice none 0 0) 24 Try.underlying62 hj hy0 hy1 hy2 rfl (by simp [Act.eval, Act.put]) hrow (some ⟨z2.heap.size, 0, none⟩) 2 2 [.slice A5 n5 c5, .slice A6 n6 c6] (by simp [Act.eval, Act.put]) RD8 (two_slices _ _ _ _ _ _) (by unfold maxLen; omega) (by omega) HB8.out.size ?_
      intro A9 c9 z9 ho9 hg9
      have hp9 : Pts z9 w.heap.size A9 (1 + 2) c9 ([[x.kind % 256]] ++ [num x.id, x.name]) := HROW.out [.slice A5 n5 c5, .slice A6 n6 c6] [num x.id, x.name] z9 A9 c9 rfl (pt_two PN2.out PM2.out) ho9 hg9
      have BX9 := Lib.hid ((hg9.1.block _ (lt_of_heap BX8.out) (fun e => hrow.ne_blk BX8.out (by decide) e.symm)).trans BX8.out)
      have hb9 := HB8.out.trans (hg9.below HB8.out.size (fun j hj => (hrow.lies j hj).1))
      clear ho9 hg9 hrow RD8
      refine hK.out _ _ ⟨rc_cell 9 _ BX9.out rfl, rc_cell 10 _ BX9.out rfl⟩ (fun hH9 => ?_)
      clear hK K
      try simp only [Act.put, List.setIfInBounds_toArray, List.set_cons_zero, List.set_cons_succ]
      refine wpAnyH_take (i := 9) (oi := { dst := some 3, op := Op.assign (Operand.tmp 55), type := 62, pos := _, after := #[{ on := 8, ground := Ground.data }, { on := 8, ground := Ground.chain }, { on := 0, ground := Ground.phase }, { on := 1, ground := Ground.phase }, { on := 2, ground := Ground.phase }, { on := 3, ground := Ground.phase }, { on := 4, ground := Ground.phase }, { on := 5, ground := Ground.phase }, { on := 6, ground := Ground.phase }, { on := 7, ground := Ground.phase }, { on := 8, ground := Ground.phase }], guard := none }) (v := ?veu14_9) rfl (by kernel_rfl) (by kernel_rfl) (by kernel_rfl) (fun _ _ _ h => h) (Or.inl ⟨by rfl, ?yeu14_9⟩) hH9 ?reu14_9
      case yeu14_9 => (intro w hSw; (try dsimp only at hSw); go_simp; try (with_reducible rfl))
      try simp only [Act.put, List.setIfInBounds_toArray, List.set_cons_zero, List.set_cons_succ]
      refine wpAnyH_done (by kernel_rfl) ?_ _
      have HRN := Lib.hid (joinL_ran hp9.bss)
      have hsE := hb9.size
      go_wp2_with fail
      refine (rjoin_any A9 _ c9 _ _ hp9.bss (by unfold maxLen; omega) HBG.out).mono ?_
      rintro e wE ⟨AE, nE, cE, rfl, hnE, hoE, hbE⟩
      have hbF := hb9.trans (hbE.mono hsE)
      have hoF := hoE.mono hsE
      have HNE := Lib.hid hnE
      clear hnE hp9 hbE hoE
      go_wp2
      go_ret
      exact ⟨AE, nE, cE, rfl, HNE.out, hoF, HRN.out, hbF⟩
  · have m5 : (x.kind == 5) = false := by simp [h8]
    have m7 : (x.kind == 7) = false := by simp [h8]
    have m8 : (x.kind == 8) = true := by simp [h8]
    clear h8
    go_wp2_with fail
    refine wp_region_held_drew (S := fun w' => w'.cell? ⟨w.heap.size, 9, none⟩ = some (.int .u64 x.id) ∧ w'.cell? ⟨w.heap.size, 10, none⟩ = some (.string SN)) (by kernel_rfl) ⟨rc_cell 9 _ BXd.out rfl, rc_cell 10 _ BXd.out rfl⟩ (fun hH0 => ?_)
    generalize wP.drew = zd at *
    refine wpAnyH_take (i := 0) (oi := { dst := some 47, op := Op.move (Operand.tmp 3), type := 62, pos := _, after := #[], guard := none }) (v := ?vku15_0) rfl (by kernel_rfl) (by kernel_rfl) (by kernel_rfl) (fun _ _ _ h => h) (Or.inl ⟨by rfl, ?yku15_0⟩) hH0 ?rku15_0
    case yku15_0 => (intro w hSw; (try dsimp only at hSw); go_simp; try (with_reducible rfl))
    try simp only [Act.put, List.setIfInBounds_toArray, List.set_cons_zero, List.set_cons_succ]
    refine wpAnyH_take (i := 1) (oi := { dst := some 48, op := Op.fieldAddr 30 (Operand.tmp 1) 7, type := 0, pos := _, after := #[], guard := none }) (v := ?vku16_1) rfl (by kernel_rfl) (by kernel_rfl) (by kernel_rfl) (fun _ _ _ h => h) (Or.inl ⟨by rfl, ?yku16_1⟩) hH0 ?rku16_1
    case yku16_1 => (intro w hSw; (try dsimp only at hSw); go_simp; try (with_reducible rfl))
    try simp only [Act.put, List.setIfInBounds_toArray, List.set_cons_zero, List.set_cons_succ]
    refine wpAnyH_take (i := 2) (oi := { dst := some 49, op := Op.load 22 (Operand.tmp 48), type := 22, pos := _, after := #[{ on := 1, ground := Ground.data }], guard := none }) (v := ?vku17_2) rfl (by kernel_rfl) (by kernel_rfl) (by kernel_rfl) (fun _ _ _ h => h) (Or.inl ⟨by rfl, ?yku17_2⟩) hH0 ?rku17_2
    case yku17_2 => (intro w hSw; (try dsimp only at hSw); go_simp; try (with_reducible rfl))
    try simp only [Act.put, List.setIfInBounds_toArray, List.set_cons_zero, List.set_cons_succ]
    refine wpAnyH_take (i := 4) (oi := { dst := some 51, op := Op.fieldAddr 30 (Operand.tmp 1) 8, type := 0, pos := _, after := #[], guard := none }) (v := ?vku18_4) rfl (by kernel_rfl) (by kernel_rfl) (by kernel_rfl) (fun _ _ _ h => h) (Or.inl ⟨by rfl, ?yku18_4⟩) hH0 ?rku18_4
    case yku18_4 => (intro w hSw; (try dsimp only at hSw); go_simp; try (with_reducible rfl))
    try simp only [Act.put, List.setIfInBounds_toArray, List.set_cons_zero, List.set_cons_succ]
    refine wpAnyH_take (i := 5) (oi := { dst := some 52, op := Op.load 9 (Operand.tmp 51), type := 9, pos := _, after := #[{ on := 4, ground := Ground.data }], guard := none }) (v := ?vku19_5) rfl (by kernel_rfl) (by kernel_rfl) (by kernel_rfl) (fun _ _ _ h => h) (Or.inl ⟨by rfl, ?yku19_5⟩) hH0 ?rku19_5
    case yku19_5 => (intro w hSw; (try dsimp only at hSw); go_simp; try (with_reducible rfl))
    try simp only [Act.put, List.setIfInBounds_toArray, List.set_cons_zero, List.set_cons_succ]
    refine wpAnyH_ready (rs := [3, 6]) (by kernel_rfl) (by simp) ?_
    refine (AllReadyH.cons (o := { dst := some 50, op := Op.call { callee := Callee.value (Operand.func 59), args := #[Operand.tmp 49], argTypes := #[22] }, type := 28, pos := _, after := #[{ on := 2, ground := Ground.data }], guard := none }) rfl (fun K hK => ?_) (AllReadyH.cons (o := { dst := some 53, op := Op.convert 9 28 (Operand.tmp 52), type := 28, pos := _, after := #[{ on := 5, ground := Ground.data }], guard := none }) rfl (fun K hK => ?_) AllReadyH.nil))
    · go_simp
      refine (rnumber_any x.id zd HH.out.id.1 HH.out.id.2).mono ?_
      rintro e z1 ⟨A5, c5, n5, rfl, hn5, ho5, hb1⟩
      have BX1 := Lib.hid ((hb1.block _ (lt_of_heap BXd.out)).trans BXd.out)
      have PS1 := Lib.hid (PSd.out.keep hb1)
      have HB1 := Lib.hid (HBd.out.trans (hb1.mono HBd.out.size))
      have PN1 := Lib.hid (Pt.own (base := w.heap.size) ho5 (num_ran _ HH.out.id.1))
      clear hn5 ho5 hb1
      go_wp2_with fail
      refine hK.out _ _ ⟨rc_cell 9 _ BX1.out rfl, rc_cell 10 _ BX1.out rfl⟩ (fun hH1 => ?_)
      clear hK K
      try simp only [Act.put, List.setIfInBounds_toArray, List.set_cons_zero, List.set_cons_succ]
      refine wpAnyH_ready (rs := [6]) (by kernel_rfl) (by simp) ?_
      refine (AllReadyH.cons (o := { dst := some 53, op := Op.convert 9 28 (Operand.tmp 52), type := 28, pos := _, after := #[{ on := 5, ground := Ground.data }], guard := none }) rfl (fun K hK => ?_) AllReadyH.nil)
      obtain ⟨A6, n6, c6, z2, hcv, hn6, hpt6, hb2⟩ := HCV.out z1
      clear hn6
      have BX2 := Lib.hid ((hb2.block _ (lt_of_heap BX1.out)).trans BX1.out)
      have PS2 := Lib.hid (PS1.out.keep hb2)
      have HB2 := Lib.hid (HB1.out.trans (hb2.mono HB1.out.size))
      have PN2 := Lib.hid (PN1.out.keep hb2)
      have PM2 := Lib.hid (hpt6 w.heap.size)
      go_simp
      clear hpt6 hb2 hcv
      refine hK.out _ _ ⟨rc_cell 9 _ BX2.out rfl, rc_cell 10 _ BX2.out rfl⟩ (fun hH2 => ?_)
      clear hK K
      try simp only [Act.put, List.setIfInBounds_toArray, List.set_cons_zero, List.set_cons_succ]
      refine wpAnyH_ready (rs := [7]) (by kernel_rfl) (by simp) ?_
      refine (AllReadyH.cons (o := { dst := some 54, op := Op.buildSlice 62 2 #[(0, Operand.tmp 50), (1, Operand.tmp 53)], type := 62, pos := _, after := #[{ on := 3, ground := Ground.data }, { on := 6, ground := Ground.data }], guard := none }) rfl (fun K hK => ?_) AllReadyH.nil)
      go_simp
      obtain ⟨vs, hrow, HROW⟩ := PS2.out.row (.cells #[.slice A5 n5 c5, .slice A6 n6 c6] 28)
      have ba := below_alloc z2 (.cells #[.slice A5 n5 c5, .slice A6 n6 c6] 28)
      have BX8 := Lib.hid ((ba.block _ (lt_of_heap BX2.out)).trans BX2.out)
      have HB8 := Lib.hid (HB2.out.trans (ba.mono HB2.out.size))
      have RD8 := rd_twoS z2 (.slice A5 n5 c5) (.slice A6 n6 c6) 28
      refine hK.out _ _ ⟨rc_cell 9 _ BX8.out rfl, rc_cell 10 _ BX8.out rfl⟩ (fun hH8 => ?_)
      clear hK K
      try simp only [Act.put, List.setIfInBounds_toArray, List.set_cons_zero, List.set_cons_succ]
      clear ba
      generalize z2.alloc (.cells #[.slice A5 n5 c5, .slice A6 n6 c6] 28) = z8 at *
      refine wpAnyH_ready (rs := [8]) (by kernel_rfl) (by simp) ?_
      refine (AllReadyH.cons (o := { dst := some 55, op := Op.call { callee := Callee.builtin Builtin.append, args := #[Operand.tmp 47, Operand.tmp 54], argTypes := #[62, 62] }, type := 62, pos := _, after := #[{ on := 0, ground := Ground.data }, { on := 7, ground := Ground.data }, { on := 3, ground := Ground.chain }], guard := none }) rfl (fun K hK => ?_) AllReadyH.nil)
      refine step_append_rd rfl (.tmp 47) (.tmp 54) 62 rfl j0 (.slice none 0 0) 24 Try.underlying62 hj hy0 hy1 hy2 rfl (by simp [Act.eval, Act.put]) hrow (some ⟨z2.heap.size, 0, none⟩) 2 2 [.slice A5 n5 c5, .slice A6 n6 c6] (by simp [Act.eval, Act.put]) RD8 (two_slices _ _ _ _ _ _) (by unfold maxLen; omega) (by omega) HB8.out.size ?_
      intro A9 c9 z9 ho9 hg9
      have hp9 : Pts z9 w.heap.size A9 (1 + 2) c9 ([[x.kind % 256]] ++ [num x.id, x.name]) := HROW.out [.slice A5 n5 c5, .slice A6 n6 c6] [num x.id, x.name] z9 A9 c9 rfl (pt_two PN2.out PM2.out) ho9 hg9
      have BX9 := Lib.hid ((hg9.1.block _ (lt_of_heap BX8.out) (fun e => hrow.ne_blk BX8.out (by decide) e.symm)).trans BX8.out)
      have hb9 := HB8.out.trans (hg9.below HB8.out.size (fun j hj => (hrow.lies j hj).1))
      clear ho9 hg9 hrow RD8
      refine hK.out _ _ ⟨rc_cell 9 _ BX9.out rfl, rc_cell 10 _ BX9.out rfl⟩ (fun hH9 => ?_)
      clear hK K
      try simp only [Act.put, List.setIfInBounds_toArray, List.set_cons_zero, List.set_cons_succ]
      refine wpAnyH_take (i := 9) (oi := { dst := some 3, op := Op.assign (Operand.tmp 55), type := 62, pos := _, after := #[{ on := 8, ground := Ground.data }, { on := 8, ground := Ground.chain }, { on := 0, ground := Ground.phase }, { on := 1, ground := Ground.phase }, { on := 2, ground := Ground.phase }, { on := 3, ground := Ground.phase }, { on := 4, ground := Ground.phase }, { on := 5, ground := Ground.phase }, { on := 6, ground := Ground.phase }, { on := 7, ground := Ground.phase }, { on := 8, ground := Ground.phase }], guard := none }) (v := ?veu20_9) rfl (by kernel_rfl) (by kernel_rfl) (by kernel_rfl) (fun _ _ _ h => h) (Or.inl ⟨by rfl, ?yeu20_9⟩) hH9 ?reu20_9
      case yeu20_9 => (intro w hSw; (try dsimp only at hSw); go_simp; try (with_reducible rfl))
      try simp only [Act.put, List.setIfInBounds_toArray, List.set_cons_zero, List.set_cons_succ]
      refine wpAnyH_done (by kernel_rfl) ?_ _
      have HRN := Lib.hid (joinL_ran hp9.bss)
      have hsE := hb9.size
      go_wp2_with fail
      refine (rjoin_any A9 _ c9 _ _ hp9.bss (by unfold maxLen; omega) HBG.out).mono ?_
      rintro e wE ⟨AE, nE, cE, rfl, hnE, hoE, hbE⟩
      have hbF := hb9.trans (hbE.mono hsE)
      have hoF := hoE.mono hsE
      have HNE := Lib.hid hnE
      clear hnE hp9 hbE hoE
      go_wp2
      go_ret
      exact ⟨AE, nE, cE, rfl, HNE.out, hoF, HRN.out, hbF⟩
    · obtain ⟨A6, n6, c6, z1, hcv, hn6, hpt6, hb1⟩ := HCV.out zd
      clear hn6
      have BX1 := Lib.hid ((hb1.block _ (lt_of_heap BXd.out)).trans BXd.out)
      have PS1 := Lib.hid (PSd.out.keep hb1)
      have HB1 := Lib.hid (HBd.out.trans (hb1.mono HBd.out.size))
      have PM1 := Lib.hid (hpt6 w.heap.size)
      go_simp
      clear hpt6 hb1 hcv
      refine hK.out _ _ ⟨rc_cell 9 _ BX1.out rfl, rc_cell 10 _ BX1.out rfl⟩ (fun hH1 => ?_)
      clear hK K
      try simp only [Act.put, List.setIfInBounds_toArray, List.set_cons_zero, List.set_cons_succ]
      refine wpAnyH_ready (rs := [3]) (by kernel_rfl) (by simp) ?_
      refine (AllReadyH.cons (o := { dst := some 50, op := Op.call { callee := Callee.value (Operand.func 59), args := #[Operand.tmp 49], argTypes := #[22] }, type := 28, pos := _, after := #[{ on := 2, ground := Ground.data }], guard := none }) rfl (fun K hK => ?_) AllReadyH.nil)
      go_simp
      refine (rnumber_any x.id z1 HH.out.id.1 HH.out.id.2).mono ?_
      rintro e z2 ⟨A5, c5, n5, rfl, hn5, ho5, hb2⟩
      have BX2 := Lib.hid ((hb2.block _ (lt_of_heap BX1.out)).trans BX1.out)
      have PS2 := Lib.hid (PS1.out.keep hb2)
      have HB2 := Lib.hid (HB1.out.trans (hb2.mono HB1.out.size))
      have PM2 := Lib.hid (PM1.out.keep hb2)
      have PN2 := Lib.hid (Pt.own (base := w.heap.size) ho5 (num_ran _ HH.out.id.1))
      clear hn5 ho5 hb2
      go_wp2_with fail
      refine hK.out _ _ ⟨rc_cell 9 _ BX2.out rfl, rc_cell 10 _ BX2.out rfl⟩ (fun hH2 => ?_)
      clear hK K
      try simp only [Act.put, List.setIfInBounds_toArray, List.set_cons_zero, List.set_cons_succ]
      refine wpAnyH_ready (rs := [7]) (by kernel_rfl) (by simp) ?_
      refine (AllReadyH.cons (o := { dst := some 54, op := Op.buildSlice 62 2 #[(0, Operand.tmp 50), (1, Operand.tmp 53)], type := 62, pos := _, after := #[{ on := 3, ground := Ground.data }, { on := 6, ground := Ground.data }], guard := none }) rfl (fun K hK => ?_) AllReadyH.nil)
      go_simp
      obtain ⟨vs, hrow, HROW⟩ := PS2.out.row (.cells #[.slice A5 n5 c5, .slice A6 n6 c6] 28)
      have ba := below_alloc z2 (.cells #[.slice A5 n5 c5, .slice A6 n6 c6] 28)
      have BX8 := Lib.hid ((ba.block _ (lt_of_heap BX2.out)).trans BX2.out)
      have HB8 := Lib.hid (HB2.out.trans (ba.mono HB2.out.size))
      have RD8 := rd_twoS z2 (.slice A5 n5 c5) (.slice A6 n6 c6) 28
      refine hK.out _ _ ⟨rc_cell 9 _ BX8.out rfl, rc_cell 10 _ BX8.out rfl⟩ (fun hH8 => ?_)
      clear hK K
      try simp only [Act.put, List.setIfInBounds_toArray, List.set_cons_zero, List.set_cons_succ]
      clear ba
      generalize z2.alloc (.cells #[.slice A5 n5 c5, .slice A6 n6 c6] 28) = z8 at *
      refine wpAnyH_ready (rs := [8]) (by kernel_rfl) (by simp) ?_
      refine (AllReadyH.cons (o := { dst := some 55, op := Op.call { callee := Callee.builtin Builtin.append, args := #[Operand.tmp 47, Operand.tmp 54], argTypes := #[62, 62] }, type := 62, pos := _, after := #[{ on := 0, ground := Ground.data }, { on := 7, ground := Ground.data }, { on := 3, ground := Ground.chain }], guard := none }) rfl (fun K hK => ?_) AllReadyH.nil)
      refine step_append_rd rfl (.tmp 47) (.tmp 54) 62 rfl j0 (.slice none 0 0) 24 Try.underlying62 hj hy0 hy1 hy2 rfl (by simp [Act.eval, Act.put]) hrow (some ⟨z2.heap.size, 0, none⟩) 2 2 [.slice A5 n5 c5, .slice A6 n6 c6] (by simp [Act.eval, Act.put]) RD8 (two_slices _ _ _ _ _ _) (by unfold maxLen; omega) (by omega) HB8.out.size ?_
      intro A9 c9 z9 ho9 hg9
      have hp9 : Pts z9 w.heap.size A9 (1 + 2) c9 ([[x.kind % 256]] ++ [num x.id, x.name]) := HROW.out [.slice A5 n5 c5, .slice A6 n6 c6] [num x.id, x.name] z9 A9 c9 rfl (pt_two PN2.out PM2.out) ho9 hg9
      have BX9 := Lib.hid ((hg9.1.block _ (lt_of_heap BX8.out) (fun e => hrow.ne_blk BX8.out (by decide) e.symm)).trans BX8.out)
      have hb9 := HB8.out.trans (hg9.below HB8.out.size (fun j hj => (hrow.lies j hj).1))
      clear ho9 hg9 hrow RD8
      refine hK.out _ _ ⟨rc_cell 9 _ BX9.out rfl, rc_cell 10 _ BX9.out rfl⟩ (fun hH9 => ?_)
      clear hK K
      try simp only [Act.put, List.setIfInBounds_toArray, List.set_cons_zero, List.set_cons_succ]
      refine wpAnyH_take (i := 9) (oi := { dst := some 3, op := Op.assign (Operand.tmp 55), type := 62, pos := _, after := #[{ on := 8, ground := Ground.data }, { on := 8, ground := Ground.chain }, { on := 0, ground := Ground.phase }, { on := 1, ground := Ground.phase }, { on := 2, ground := Ground.phase }, { on := 3, ground := Ground.phase }, { on := 4, ground := Ground.phase }, { on := 5, ground := Ground.phase }, { on := 6, ground := Ground.phase }, { on := 7, ground := Ground.phase }, { on := 8, ground := Ground.phase }], guard := none }) (v := ?veu21_9) rfl (by kernel_rfl) (by kernel_rfl) (by kernel_rfl) (fun _ _ _ h => h) (Or.inl ⟨by rfl, ?yeu21_9⟩) hH9 ?reu21_9
      case yeu21_9 => (intro w hSw; (try dsimp only at hSw); go_simp; try (with_reducible rfl))
      try simp only [Act.put, List.setIfInBounds_toArray, List.set_cons_zero, List.set_cons_succ]
      refine wpAnyH_done (by kernel_rfl) ?_ _
      have HRN := Lib.hid (joinL_ran hp9.bss)
      have hsE := hb9.size
      go_wp2_with fail
      refine (rjoin_any A9 _ c9 _ _ hp9.bss (by unfold maxLen; omega) HBG.out).mono ?_
      rintro e wE ⟨AE, nE, cE, rfl, hnE, hoE, hbE⟩
      have hbF := hb9.trans (hbE.mono hsE)
      have hoF := hoE.mono hsE
      have HNE := Lib.hid hnE
      clear hnE hp9 hbE hoE
      go_wp2
      go_ret
      exact ⟨AE, nE, cE, rfl, HNE.out, hoF, HRN.out, hbF⟩

set_option maxRecDepth 100000 in
set_option maxHeartbeats 4000000 in
theorem rbytes_k6 (x : Rc) (s : Sl) (w : World) (h : RcR w x s) (hbig : (recL x).length + 20 ≤ 140737488355328) (hk : x.kind = 6) :
    Calls Try.prog 17 #[.agg #[.int .i64 x.kind, .int .u64 x.boot, .int .u64 x.sess, .int .u64 x.seq, .slice s.AW s.nW s.cW, .slice s.AR s.nR s.cR, .bool x.commit, .slice s.AS s.nS s.cS, .slice s.AP s.nP s.cP, .int .u64 x.id, .string (strOfNums x.name)]] w (BytesP w (recL x)) := by
  obtain ⟨i0, hi, hz0, hz1, hz2⟩ := info_parts info5
  obtain ⟨j0, hj, hy0, hy1, hy2⟩ := info_parts info23
  have HH := Lib.hid h; clear h
  have HFL : Hid (fl x.kind = [116, 99, 115, 97]) := fl_6 hk
  have HHT := Lib.hid (hasT_yes (k := x.kind) (by omega))
  have HK := Lib.hid hk; clear hk
  have HRE := Lib.hid (show recL x = joinL ([x.kind % 256] :: (fl x.kind).map (partL x)) from rfl)
  rw [HRE.out] at hbig ⊢
  rw [HFL.out] at hbig ⊢
  have HBG := Lib.hid hbig; clear hbig
  have HTX := Lib.hid (hasTxn_any x.kind)
  rw [HHT.out] at HTX
  clear HRE HFL HHT
  generalize strOfNums x.name = SN at *
  have HH8 := Lib.hid (show 0 ≤ x.kind % 256 ∧ x.kind % 256 ≤ 255 by omega)
  have hnb : ((w.alloc (.cells #[.int .i64 x.kind, .int .u64 x.boot, .int .u64 x.sess, .int .u64 x.seq, .slice s.AW s.nW s.cW, .slice s.AR s.nR s.cR, .bool x.commit, .slice s.AS s.nS s.cS, .slice s.AP s.nP s.cP, .int .u64 x.id, .string SN] 30)).alloc (.cells #[.int .u8 (x.kind % 256)] 5)).heap[w.heap.size + 1]? = some (.cells #[.int .u8 (x.kind % 256)] 5 (0, 0)) := by
    have := heap_alloc_new (w.alloc (.cells #[.int .i64 x.kind, .int .u64 x.boot, .int .u64 x.sess, .int .u64 x.seq, .slice s.AW s.nW s.cW, .slice s.AR s.nR s.cR, .bool x.commit, .slice s.AS s.nS s.cS, .slice s.AP s.nP s.cP, .int .u64 x.id, .string SN] 30)) (.cells #[.int .u8 (x.kind % 256)] 5)
    simpa using this
  have hs2 : ((w.alloc (.cells #[.int .i64 x.kind, .int .u64 x.boot, .int .u64 x.sess, .int .u64 x.seq, .slice s.AW s.nW s.cW, .slice s.AR s.nR s.cR, .bool x.commit, .slice s.AS s.nS s.cS, .slice s.AP s.nP s.cP, .int .u64 x.id, .string SN] 30)).alloc (.cells #[.int .u8 (x.kind % 256)] 5)).heap.size = w.heap.size + 1 + 1 := by simp
  have hp0 : Pts (((w.alloc (.cells #[.int .i64 x.kind, .int .u64 x.boot, .int .u64 x.sess, .int .u64 x.seq, .slice s.AW s.nW s.cW, .slice s.AR s.nR s.cR, .bool x.commit, .slice s.AS s.nS s.cS, .slice s.AP s.nP s.cP, .int .u64 x.id, .string SN] 30)).alloc (.cells #[.int .u8 (x.kind % 256)] 5)).alloc (.cells #[.slice (some ⟨w.heap.size + 1, 0, none⟩) 1 1] 28)) w.heap.size (some ⟨w.heap.size + 1 + 1, 0, none⟩) 1 1 [[x.kind % 256]] := by
    have := pts_first (w := ((w.alloc (.cells #[.int .i64 x.kind, .int .u64 x.boot, .int .u64 x.sess, .int .u64 x.seq, .slice s.AW s.nW s.cW, .slice s.AR s.nR s.cR, .bool x.commit, .slice s.AS s.nS s.cS, .slice s.AP s.nP s.cP, .int .u64 x.id, .string SN] 30)).alloc (.cells #[.int .u8 (x.kind % 256)] 5))) (base := w.heap.size) (x.kind % 256) HH8.out hnb (by omega) (by omega)
    rwa [hs2] at this
  have hb3 : Below w.heap.size w (((w.alloc (.cells #[.int .i64 x.kind, .int .u64 x.boot, .int .u64 x.sess, .int .u64 x.seq, .slice s.AW s.nW s.cW, .slice s.AR s.nR s.cR, .bool x.commit, .slice s.AS s.nS s.cS, .slice s.AP s.nP s.cP, .int .u64 x.id, .string SN] 30)).alloc (.cells #[.int .u8 (x.kind % 256)] 5)).alloc (.cells #[.slice (some ⟨w.heap.size + 1, 0, none⟩) 1 1] 28)) := ((below_alloc w _).alloc (by simp) _).alloc (by simp; omega) _
  have hbx : (((w.alloc (.cells #[.int .i64 x.kind, .int .u64 x.boot, .int .u64 x.sess, .int .u64 x.seq, .slice s.AW s.nW s.cW, .slice s.AR s.nR s.cR, .bool x.commit, .slice s.AS s.nS s.cS, .slice s.AP s.nP s.cP, .int .u64 x.id, .string SN] 30)).alloc (.cells #[.int .u8 (x.kind % 256)] 5)).alloc (.cells #[.slice (some ⟨w.heap.size + 1, 0, none⟩) 1 1] 28)).heap[w.heap.size]? = some (.cells #[.int .i64 x.kind, .int .u64 x.boot, .int .u64 x.sess, .int .u64 x.seq, .slice s.AW s.nW s.cW, .slice s.AR s.nR s.cR, .bool x.commit, .slice s.AS s.nS s.cS, .slice s.AP s.nP s.cP, .int .u64 x.id, .string SN] 30 (0, 0)) := by
    have h1 := heap_alloc_new w (.cells #[.int .i64 x.kind, .int .u64 x.boot, .int .u64 x.sess, .int .u64 x.seq, .slice s.AW s.nW s.cW, .slice s.AR s.nR s.cR, .bool x.commit, .slice s.AS s.nS s.cS, .slice s.AP s.nP s.cP, .int .u64 x.id, .string SN] 30)
    have h2 := (below_alloc (w.alloc (.cells #[.int .i64 x.kind, .int .u64 x.boot, .int .u64 x.sess, .int .u64 x.seq, .slice s.AW s.nW s.cW, .slice s.AR s.nR s.cR, .bool x.commit, .slice s.AS s.nS s.cS, .slice s.AP s.nP s.cP, .int .u64 x.id, .string SN] 30)) (.cells #[.int .u8 (x.kind % 256)] 5)).block w.heap.size (by simp)
    have h3 := (below_alloc ((w.alloc (.cells #[.int .i64 x.kind, .int .u64 x.boot, .int .u64 x.sess, .int .u64 x.seq, .slice s.AW s.nW s.cW, .slice s.AR s.nR s.cR, .bool x.commit, .slice s.AS s.nS s.cS, .slice s.AP s.nP s.cP, .int .u64 x.id, .string SN] 30)).alloc (.cells #[.int .u8 (x.kind % 256)] 5)) (.cells #[.slice (some ⟨w.heap.size + 1, 0, none⟩) 1 1] 28)).block w.heap.size (by simp; omega)
    rw [h3, h2]; exact h1
  have hs3 := hb3.size
  have HBX := Lib.hid hbx
  clear hnb hs2 hbx
  go_enter Try.func17, Try.ntmps17
  go_wp2_with fail
  refine (HTX.out _).mono ?_
  rintro e wz ⟨rfl, rfl⟩
  go_wp2_with fail
  refine (rtxn_any (B := w.heap.size) x.boot x.sess x.seq _ HH.out.boot HH.out.sess HH.out.seq).mono ?_
  rintro e w4 ⟨A4, n4, c4, rfl, hpt, hb4⟩
  have hp4 := hp0.keep hb4
  have hb5 := hb3.trans (hb4.mono hs3)
  have hs5 := hb5.size
  have HPT4 := Lib.hid hpt
  have HBX4 := Lib.hid ((hb4.block _ (lt_of_heap HBX.out)).trans HBX.out)
  obtain ⟨vs, hrow, HROW⟩ := hp4.row (.cells #[.slice A4 n4 c4] 28)
  have HBX5 := Lib.hid (((below_alloc w4 (.cells #[.slice A4 n4 c4] 28)).block _ (lt_of_heap HBX4.out)).trans HBX4.out)
  clear hpt hp0 hp4 hb4 hb3 HBX HBX4
  go_wp2_with (at_builtin; refine wpList_append_rd rfl _ _ 62 rfl j0 (.slice none 0 0) 24 Try.underlying62 hj hy0 hy1 hy2 rfl rfl hrow (some ⟨w4.heap.size, 0, none⟩) 1 1 [.slice A4 n4 c4] rfl (rd_oneV w4 _ 28) (one_slice _ _ _) ?a1 ?a2 ?a3 ?_)
  case a1 => unfold maxLen; omega
  case a2 => omega
  case a3 => simp; omega
  intro A' c' wP ho6 hg6
  have hp : Pts wP w.heap.size A' 2 c' [[x.kind % 256], partL x 116] := HROW.out [.slice A4 n4 c4] [partL x 116] wP A' c' rfl (pt_one HPT4.out) ho6 hg6
  have HBP := Lib.hid ((hg6.1.block _ (lt_of_heap HBX5.out) (fun e => hrow.ne_blk HBX5.out (by decide) e.symm)).trans HBX5.out)
  have hbP := (hb5.alloc hs5 (.cells #[.slice A4 n4 c4] 28)).trans (hg6.below (by simp; omega) (fun j hj => (hrow.lies j hj).1))
  clear hrow ho6 hg6 hb5 HBX5
  have q0 : wP.cell? ⟨w.heap.size, 0, none⟩ = some (.int .i64 x.kind) := by rw [cell_of_row wP w.heap.size 0 _ 30 (0, 0) HBP.out]; rfl
  have n1 : (x.kind == 1) = false := by have := HK.out; simp; omega
  have n4 : (x.kind == 4) = false := by have := HK.out; simp; omega
  have n5 : (x.kind == 5) = false := by have := HK.out; simp; omega
  have n7 : (x.kind == 7) = false := by have := HK.out; simp; omega
  have n8 : (x.kind == 8) = false := by have := HK.out; simp; omega
  have y6 : (x.kind == 6) = true := by have := HK.out; simp; omega
  have HPR := Lib.hid (Pt.arg (base := w.heap.size) HH.out.rp HH.out.rc (Nat.le_refl _))
  have hsP := hbP.size
  have HLN := Lib.hid HH.out.sh.len
  have hnS := HH.out.bS
  have hlP : w.heap.size < wP.heap.size := lt_of_heap HBP.out
  have q7 : wP.cell? ⟨w.heap.size, 7, none⟩ = some (.slice s.AS s.nS s.cS) := by rw [cell_of_row wP w.heap.size 7 _ 30 (0, 0) HBP.out]; rfl
  go_wp2_with fail
  go_loopw [4, 5] (fun sv iv wr => ∃ (k nG cG : Nat) (AG : Option Addr), sv = .slice AG nG cG ∧ iv = .int .i64 k ∧ k ≤ s.nS ∧ nG ≤ 9 * k ∧ Own wr wP.heap.size 5 AG nG cG (By (nums ((x.shards.map uw).take k))) ∧ Below wP.heap.size wP wr) (fun _ iv _ => s.nS - (intOf iv).toNat)
  case atStart => exact ⟨0, 0, 0, none, rfl, rfl, by omega, by omega, Own.nil_, Below.refl _ _⟩
  case round =>
    obtain ⟨k, nG, cG, AG, rfl, rfl, hk, hnG, hoG, hbG⟩ := hrel
    have hsG := hbG.size
    have r7 : wr.cell? ⟨w.heap.size, 7, none⟩ = some (.slice s.AS s.nS s.cS) := (hbG.cell (p := ⟨w.heap.size, 7, none⟩) hlP).trans q7
    by_cases hlt : k < s.nS
    · have hin := HH.out.sh.keep (hbP.trans (hbG.mono hsP))
      obtain ⟨bb, off, y, hAS, hbl, hx0, hx1, hcx⟩ := hin.at_ hlt
      have HX : Hid (x.shards[k]? = some y) := by
        obtain ⟨b2, off2, u, hA, _, hcu, HU⟩ := hin.1.at_ hlt
        rw [hAS] at hA
        injection hA with hA; injection hA with e1 e2; subst e1; subst e2
        rw [hcx] at hcu
        injection hcu with hcu
        have h3 := HU.out
        rw [← hcu, List.getElem?_map] at h3
        cases hl : x.shards[k]? with
        | none => rw [hl] at h3; cases h3
        | some z =>
          rw [hl] at h3
          simp only [Option.map_some, Option.some.injEq] at h3
          injection h3 with _ h3
          exact Lib.hid (by rw [h3])
      rw [hAS] at r7
      have HSN := Lib.hid (nums_snoc (ls := x.shards.map uw) (k := k) (x := uw y) (by rw [List.getElem?_map, HX.out]; rfl))
      have HWU := Lib.hid (wrap_uw y hx0 hx1)
      have HUB := Lib.hid (uw_bd y hx0 hx1)
      have HNU := Lib.hid (fun W => rnumber_any (IntKind.u64.wrap y) W (by rw [HWU.out]; exact HUB.out.1) (by rw [HWU.out]; exact HUB.out.2))
      have HAS := Lib.hid hAS
      clear hin hAS
      go_wp2_with fail
      refine (HNU.out _).mono ?_
      rintro e w4 ⟨A4, c4, n4, rfl, hn4, ho4, hb4⟩
      rw [HWU.out] at hn4 ho4
      have hn4' : n4 ≤ 9 := by rw [hn4]; exact num_le _
      have hoG4 := hoG.below hb4 (fun k hk => (hoG.lies k hk).2)
      have hbG4 := hbG.trans (hb4.mono hsG)
      have hsG4 := hbG4.size
      clear hn4 hoG hb4
      go_wp2_with (at_builtin; refine wpList_append_rd rfl _ _ 28 rfl i0 (.int .u8 0) 1 Try.underlying28 hi hz0 hz1 hz2 rfl rfl hoG4 A4 n4 c4 (By (num (uw y))) rfl ho4.rd (By_one _) ?a1 ?a2 ?a3 ?_)
      case a1 => unfold maxLen; omega
      case a2 => omega
      case a3 => exact hsG4
      intro A5 c5 w5 ho5 hg5
      have ho6 : Own w5 wP.heap.size 5 A5 (nG + n4) c5 (By (nums ((x.shards.map uw).take (k + 1)))) := by
        rw [HSN.out, By_append]; exact ho5
      have hb6 := hbG4.trans (hg5.below hsG4 (fun j hj => (hoG4.lies j hj).1))
      clear hoG4 ho5 hg5 ho4 hbG4
      go_wp2
      go_roundw
      case rel => exact ⟨k + 1, nG + n4, c5, A5, rfl, by go_num, by omega, by omega, ho6, hb6⟩
      case measure => simp [intOf]; omega
    · obtain rfl : k = s.nS := by omega
      rw [show (x.shards.map uw).take s.nS = x.shards.map uw from List.take_of_length_le (by rw [List.length_map, HLN.out]; exact Nat.le_refl _)] at hoG
      have HRS : Hid (Ran (nums (x.shards.map uw))) := nums_ran _ (fun z hz => by
        obtain ⟨y, hy, rfl⟩ := List.mem_map.1 hz
        exact (uw_bd y (HH.out.sh.2 y hy).1 (HH.out.sh.2 y hy).2).1)
      have q6 : wr.cell? ⟨w.heap.size, 6, none⟩ = some (.bool x.commit) := (hbG.cell (p := ⟨w.heap.size, 6, none⟩) hlP).trans (by rw [cell_of_row wP w.heap.size 6 _ 30 (0, 0) HBP.out]; rfl)
      have q8 : wr.cell? ⟨w.heap.size, 8, none⟩ = some (.slice s.AP s.nP s.cP) := (hbG.cell (p := ⟨w.heap.size, 8, none⟩) hlP).trans (by rw [cell_of_row wP w.heap.size 8 _ 30 (0, 0) HBP.out]; rfl)
      have hpR := hp.keep hbG
      have hbR := hbP.trans (hbG.mono hsP)
      have HBR := Lib.hid ((hbG.block _ hlP).trans HBP.out)
      have HTG := Lib.hid (Pt.own (base := w.heap.size) hoG HRS.out)
      have e4 : wr.drew.cell? ⟨w.heap.size, 6, none⟩ = some (.bool x.commit) := q6
      have e5 : wr.drew.cell? ⟨w.heap.size, 8, none⟩ = some (.slice s.AP s.nP s.cP) := q8
      have HTGD : Hid (Pt wr.drew w.heap.size AG nG cG (nums (x.shards.map uw))) := HTG
      have hpD : Pts wr.drew w.heap.size A' 2 c' _ := hpR
      have hbD : Below w.heap.size w wr.drew := below_n hbR 1
      have hsD := hbD.size
      have hlD : w.heap.size < wr.drew.heap.size := lt_of_heap HBR.out
      generalize hcm : x.commit = cm at *
      clear hp hpR hoG hbG hbP
      go_wp2_with fail
      go_region_held3 (fun w' => w'.cell? ⟨w.heap.size, 6, none⟩ = some (.bool cm) ∧ w'.cell? ⟨w.heap.size, 8, none⟩ = some (.slice s.AP s.nP s.cP)) (first | exact ⟨e4, e5⟩ | exact ⟨f4, f5⟩ | exact ⟨k4, k5⟩ | exact ⟨l4, l5⟩) (first | (go_at_call 60; refine (rflag_one _ _).mono ?_; rintro e w5 ⟨A5, c5, rfl, ho5, hb5⟩; have f4 := (hb5.cell (p := ⟨w.heap.size, 6, none⟩) hlD).trans e4; have f5 := (hb5.cell (p := ⟨w.heap.size, 8, none⟩) hlD).trans e5; have hp5 := hpD.keep hb5; have hbw5 := hbD.trans (hb5.mono hsD); have hs5w := hbw5.size; have hl5 := Nat.lt_of_lt_of_le hlD hb5.size; have HT5 := Lib.hid (Pt.own (base := w.heap.size) ho5 (flagB_ran cm)); have HT6 := Lib.hid (HTGD.out.keep hb5); have HTR := Lib.hid (HPR.out.keepW hbw5); have hbo := below_alloc w5 (.cells #[.slice A5 1 c5, .slice AG nG cG, .slice s.AP s.nP s.cP] 28); have k4 := (hbo.cell (p := ⟨w.heap.size, 6, none⟩) hl5).trans f4; have k5 := (hbo.cell (p := ⟨w.heap.size, 8, none⟩) hl5).trans f5; have HBO := Lib.hid ((hbo.block _ hl5).trans ((hb5.block _ hlD).trans HBR.out)); obtain ⟨vs, hrow, HROW⟩ := hp5.row (.cells #[.slice A5 1 c5, .slice AG nG cG, .slice s.AP s.nP s.cP] 28)) | (refine step_append_rd rfl (.tmp 74) (.tmp 81) 62 rfl j0 (.slice none 0 0) 24 Try.underlying62 hj hy0 hy1 hy2 rfl (by simp [Act.eval, Act.put]) hrow (some ⟨w5.heap.size, 0, none⟩) 3 3 [.slice A5 1 c5, .slice AG nG cG, .slice s.AP s.nP s.cP] (by simp [Act.eval, Act.put]) (rd_three w5 _ _ _ 28) (three_slices _ _ _ _ _ _ _ _ _) (by unfold maxLen; omega) (by omega) (by simp; omega) ?_; intro A7 c7 w7 ho7 hg7; have hne := fun e => hrow.ne_blk HBO.out (by decide) (Eq.symm e); have l4 := (World.cell?_of_block (a := ⟨w.heap.size, 6, none⟩) (hg7.1.block _ (lt_of_heap HBO.out) hne)).trans k4; have l5 := (World.cell?_of_block (a := ⟨w.heap.size, 8, none⟩) (hg7.1.block _ (lt_of_heap HBO.out) hne)).trans k5))
      have HCM : Hid (partL x 99 = [flagB cm]) := by rw [← hcm]; exact rfl
      have hp7 : Pts w7 w.heap.size A7 (2 + 3) c7 ([[x.kind % 256], partL x 116] ++ [partL x 99, partL x 115, partL x 97]) := by
        rw [HCM.out]
        exact HROW.out [.slice A5 1 c5, .slice AG nG cG, .slice s.AP s.nP s.cP] [[flagB cm], partL x 115, partL x 97] w7 A7 c7 rfl (pt_three HT5.out HT6.out HTR.out) ho7 hg7
      have hb7 := (hbw5.alloc hs5w (.cells #[.slice A5 1 c5, .slice AG nG cG, .slice s.AP s.nP s.cP] 28)).trans (hg7.below (by simp; omega) (fun j hj => (hrow.lies j hj).1))
      clear hrow ho7 hg7 hp5 hpD hne hbo e4 e5 f4 f5 k4 k5 l4 l5 hb5 ho5 hcm
      have HRN := Lib.hid (joinL_ran hp7.bss)
      have hsE := hb7.size
      go_wp2_with fail
      refine (rjoin_any A7 _ c7 _ _ hp7.bss (by unfold maxLen; omega) HBG.out).mono ?_
      rintro e wE ⟨AE, nE, cE, rfl, hnE, hoE, hbE⟩
      have hbF := hb7.trans (hbE.mono hsE)
      have hoF := hoE.mono hsE
      have HNE := Lib.hid hnE
      clear hnE hp7 hbE hoE
      go_wp2
      go_ret
      exact ⟨AE, nE, cE, rfl, HNE.out, hoF, HRN.out, hbF⟩
theorem rbytes_any (x : Rc) (s : Sl) (w : World) (h : RcR w x s) (hbig : (recL x).length + 20 ≤ 140737488355328) :
    Calls Try.prog 17 #[.agg #[.int .i64 x.kind, .int .u64 x.boot, .int .u64 x.sess, .int .u64 x.seq, .slice s.AW s.nW s.cW, .slice s.AR s.nR s.cR, .bool x.commit, .slice s.AS s.nS s.cS, .slice s.AP s.nP s.cP, .int .u64 x.id, .string (strOfNums x.name)]] w (BytesP w (recL x)) := by
  by_cases h1 : x.kind = 1
  · exact rbytes_k1 x s w h hbig h1
  by_cases h4 : x.kind = 4
  · exact rbytes_k4 x s w h hbig h4
  by_cases h6 : x.kind = 6
  · exact rbytes_k6 x s w h hbig h6
  by_cases h2 : x.kind = 2 ∨ x.kind = 3 ∨ x.kind = 9
  · exact rbytes_t x s w h hbig h2
  by_cases h5 : x.kind = 5 ∨ x.kind = 7 ∨ x.kind = 8
  · exact rbytes_k5 x s w h hbig h5
  · exact rbytes_none x s w h hbig (by omega)
end Go.Proofs.Ytmjjbfcblmmipaa
