/- rec.Read where it answers an error; Read at any record's bytes. -/
import Derived.Test.YtmjjbfcblmmipaaReadWt
import Derived.Test.YtmjjbfcblmmipaaReadWtwr
import Derived.Test.YtmjjbfcblmmipaaReadWtwa
import Derived.Test.YtmjjbfcblmmipaaReadWin
import Derived.Test.YtmjjbfcblmmipaaReadWtcsa
namespace Go.Proofs.Ytmjjbfcblmmipaa
set_option linter.unusedVariables false
set_option linter.unusedSimpArgs false
open Go.RowKit

def ReadE (w : World) (e : Ending) (w' : World) : Prop := e = .returned (.tuple #[.agg zeroV, .int .i64 3]) ∧ Below w.heap.size w w'
set_option maxRecDepth 100000 in
set_option maxHeartbeats 8000000 in
theorem read_split (A : Option Addr) (n c : Nat) (w : World) (xs : List Int) (hs : splitL xs = ([], 3)) (hx : Bs w A n xs) (hnc : n ≤ c) (hkb : ∀ k, blk A = some k → k < w.heap.size) (hn : n ≤ 1073741824) :
    Calls Try.prog 20 #[.slice A n c] w (ReadE w) := by
  have HSP := Lib.hid hs
  have hdz : w.heap.size < (w.alloc (.cells zeroV 32)).heap.size := by simp
  clear hs
  go_enter Try.func20, Try.ntmps20
  go_wp2_with fail
  refine (split_any A n c xs _ (hx.keep (below_alloc w _)) hnc (fun k h => Nat.lt_of_lt_of_le (hkb k h) (below_alloc w _).size) hn).mono ?_
  rintro e w1 ⟨A1, n1, c1, rfl, hn1, hp1, hb1⟩
  rw [HSP.out]
  have HB1 := Lib.hid ((below_alloc w (.cells zeroV 32)).trans (hb1.mono (Nat.le_of_lt hdz)))
  have HR1 := Lib.hid ((hb1.block w.heap.size hdz).trans (heap_alloc_new w (.cells zeroV 32)))
  clear hn1 hp1 hx hkb hb1 hdz
  have z0 := rc_cell 0 (.int .i64 0) HR1.out rfl
  have y0 := two_frozen (i := 0) HR1.out
  have z1 := rc_cell 1 (.int .u64 0) HR1.out rfl
  have y1 := two_frozen (i := 1) HR1.out
  have z2 := rc_cell 2 (.int .u64 0) HR1.out rfl
  have y2 := two_frozen (i := 2) HR1.out
  have z3 := rc_cell 3 (.int .u64 0) HR1.out rfl
  have y3 := two_frozen (i := 3) HR1.out
  have z4 := rc_cell 4 (.slice none 0 0) HR1.out rfl
  have y4 := two_frozen (i := 4) HR1.out
  have z5 := rc_cell 5 (.slice none 0 0) HR1.out rfl
  have y5 := two_frozen (i := 5) HR1.out
  have z6 := rc_cell 6 (.bool false) HR1.out rfl
  have y6 := two_frozen (i := 6) HR1.out
  have z7 := rc_cell 7 (.slice none 0 0) HR1.out rfl
  have y7 := two_frozen (i := 7) HR1.out
  have z8 := rc_cell 8 (.slice none 0 0) HR1.out rfl
  have y8 := two_frozen (i := 8) HR1.out
  have z9 := rc_cell 9 (.int .u64 0) HR1.out rfl
  have y9 := two_frozen (i := 9) HR1.out
  have z10 := rc_cell 10 (.string ⟨#[]⟩) HR1.out rfl
  have y10 := two_frozen (i := 10) HR1.out
  go_wp2
  clear z0 y0 z1 y1 z2 y2 z3 y3 z4 y4 z5 y5 z6 y6 z7 y7 z8 y8 z9 y9 z10 y10
  have HZ := Lib.hid (set11 w1 w.heap.size (.int .i64 0) (.int .u64 0) (.int .u64 0) (.int .u64 0) (.slice none 0 0) (.slice none 0 0) (.bool false) (.slice none 0 0) (.slice none 0 0) (.int .u64 0) (.string ⟨#[]⟩) HR1.out)
  have HBZ := Lib.hid (Below.trans HB1.out (HZ.out.2.below (Below.size HB1.out)))
  generalize (((((((((((w1.setCell ⟨w.heap.size, 0, none⟩ (.int .i64 0)).setCell ⟨w.heap.size, 1, none⟩ (.int .u64 0)).setCell ⟨w.heap.size, 2, none⟩ (.int .u64 0)).setCell ⟨w.heap.size, 3, none⟩ (.int .u64 0)).setCell ⟨w.heap.size, 4, none⟩ (.slice none 0 0)).setCell ⟨w.heap.size, 5, none⟩ (.slice none 0 0)).setCell ⟨w.heap.size, 6, none⟩ (.bool false)).setCell ⟨w.heap.size, 7, none⟩ (.slice none 0 0)).setCell ⟨w.heap.size, 8, none⟩ (.slice none 0 0)).setCell ⟨w.heap.size, 9, none⟩ (.int .u64 0)).setCell ⟨w.heap.size, 10, none⟩ (.string ⟨#[]⟩)) = VZ at *
  have r0 := rc_cell 0 (.int .i64 0) HZ.out.1 rfl
  have r1 := rc_cell 1 (.int .u64 0) HZ.out.1 rfl
  have r2 := rc_cell 2 (.int .u64 0) HZ.out.1 rfl
  have r3 := rc_cell 3 (.int .u64 0) HZ.out.1 rfl
  have r4 := rc_cell 4 (.slice none 0 0) HZ.out.1 rfl
  have r5 := rc_cell 5 (.slice none 0 0) HZ.out.1 rfl
  have r6 := rc_cell 6 (.bool false) HZ.out.1 rfl
  have r7 := rc_cell 7 (.slice none 0 0) HZ.out.1 rfl
  have r8 := rc_cell 8 (.slice none 0 0) HZ.out.1 rfl
  have r9 := rc_cell 9 (.int .u64 0) HZ.out.1 rfl
  have r10 := rc_cell 10 (.string ⟨#[]⟩) HZ.out.1 rfl
  refine bodyPost_ret (v := .tuple #[.agg zeroV, .int .i64 3]) (by rw [results_cell_tmp rfl]; simp [go_sem, Try.isAgg32, Try.sizeOf32, r0, r1, r2, r3, r4, r5, r6, r7, r8, r9, r10]) rfl ⟨rfl, HBZ.out⟩
set_option maxRecDepth 100000 in
set_option maxHeartbeats 8000000 in
theorem read_none (A : Option Addr) (n c : Nat) (w : World) (z : Int) (hx : Bs w A n (joinL [[z]])) (hnc : n ≤ c) (hkb : ∀ k, blk A = some k → k < w.heap.size) (hn : n ≤ 20000000) (hf : fl z = []) :
    Calls Try.prog 20 #[.slice A n c] w (ReadE w) := by
  have HFI : Hid (∀ W, Calls Try.prog 53 #[.int .i64 z] W fun e w' => e = .returned (.string ⟨#[]⟩) ∧ W = w') := fun W => by have := fields_any z W; rw [hf] at this; exact this
  clear hf
  have HSP : Hid (splitL (joinL [[z]]) = ([[z]], 0)) := splitL_joinB [[z]] (by have := hx.len; omega)
  have hdz : w.heap.size < (w.alloc (.cells zeroV 32)).heap.size := by simp
  go_enter Try.func20, Try.ntmps20
  go_wp2_with fail
  refine (split_any A n c (joinL [[z]]) _ (hx.keep (below_alloc w _)) hnc (fun k h => Nat.lt_of_lt_of_le (hkb k h) (below_alloc w _).size) (by omega)).mono ?_
  rintro e w1 ⟨A1, n1, c1, rfl, hn1, hp1, hb1⟩
  rw [HSP.out] at hp1
  rw [HSP.out]
  change Prts w1 _ A1 n1 c1 [[z]] at hp1
  have hp : PrR w1 w.heap.size A1 n1 c1 [[z]] := hp1.prR.mono (Nat.le_of_lt hdz)
  have hb01 : Below w.heap.size w w1 := (below_alloc w _).trans (hb1.mono (Nat.le_of_lt hdz))
  have HR1 := Lib.hid ((hb1.block w.heap.size hdz).trans (heap_alloc_new w (.cells zeroV 32)))
  have hgl1 : w.heap.size < w1.heap.size := Nat.lt_of_lt_of_le hdz hb1.size
  clear hn1 hp1 hx hkb hb1 hdz HSP
  obtain ⟨b2, off, A0, n0, c0, rfl, hb2, hc0, ho0, hr0, HN0, hpos⟩ := hp.head
  have hn0 : n0 = 1 := HN0.out
  subst hn0
  obtain ⟨b3, off3, z', rfl, hb3, hz0, hz1, hcz, HZ'⟩ := (ho0.bs hr0).at_ (k := 0) (by omega)
  have hz : z' = z := by have := HZ'.out; simpa using this.symm
  subst hz
  have hcz' : w1.cell? ⟨b3, off3, none⟩ = some (.int .u8 z') := hcz
  have d1 : ((n1 : Int) == 0) = false := by simp; omega
  have d2 : (0 : Int) < (n1 : Int) := by omega
  have hbr := below_alloc w1 (.cells (rcV z' 0 0 0 none 0 0 none 0 0 false none 0 0 none 0 0 0 ⟨#[]⟩) 32)
  have HG2 := Lib.hid (heap_alloc_new w1 (.cells (rcV z' 0 0 0 none 0 0 none 0 0 false none 0 0 none 0 0 0 ⟨#[]⟩) 32))
  have q0 := rc_cell 0 (.int .i64 z') HG2.out rfl
  have HR2 := Lib.hid ((hbr.block _ (lt_of_heap HR1.out)).trans HR1.out)
  have HB2 := Lib.hid (hb01.trans (hbr.mono (Nat.le_of_lt hgl1)))
  clear ho0 hr0 HN0 hb3 hcz HZ' hp hb01 hbr HR1 hpos
  go_wp2_with fail
  refine (HFI.out _).mono ?_
  rintro e wz ⟨rfl, rfl⟩
  generalize w1.alloc (.cells (rcV z' 0 0 0 none 0 0 none 0 0 false none 0 0 none 0 0 0 ⟨#[]⟩) 32) = v0 at *
  have z0 := rc_cell 0 (.int .i64 0) HR2.out rfl
  have y0 := two_frozen (i := 0) HR2.out
  have z1 := rc_cell 1 (.int .u64 0) HR2.out rfl
  have y1 := two_frozen (i := 1) HR2.out
  have z2 := rc_cell 2 (.int .u64 0) HR2.out rfl
  have y2 := two_frozen (i := 2) HR2.out
  have z3 := rc_cell 3 (.int .u64 0) HR2.out rfl
  have y3 := two_frozen (i := 3) HR2.out
  have z4 := rc_cell 4 (.slice none 0 0) HR2.out rfl
  have y4 := two_frozen (i := 4) HR2.out
  have z5 := rc_cell 5 (.slice none 0 0) HR2.out rfl
  have y5 := two_frozen (i := 5) HR2.out
  have z6 := rc_cell 6 (.bool false) HR2.out rfl
  have y6 := two_frozen (i := 6) HR2.out
  have z7 := rc_cell 7 (.slice none 0 0) HR2.out rfl
  have y7 := two_frozen (i := 7) HR2.out
  have z8 := rc_cell 8 (.slice none 0 0) HR2.out rfl
  have y8 := two_frozen (i := 8) HR2.out
  have z9 := rc_cell 9 (.int .u64 0) HR2.out rfl
  have y9 := two_frozen (i := 9) HR2.out
  have z10 := rc_cell 10 (.string ⟨#[]⟩) HR2.out rfl
  have y10 := two_frozen (i := 10) HR2.out
  go_wp2
  clear z0 y0 z1 y1 z2 y2 z3 y3 z4 y4 z5 y5 z6 y6 z7 y7 z8 y8 z9 y9 z10 y10
  have HZ := Lib.hid (set11 v0 w.heap.size (.int .i64 0) (.int .u64 0) (.int .u64 0) (.int .u64 0) (.slice none 0 0) (.slice none 0 0) (.bool false) (.slice none 0 0) (.slice none 0 0) (.int .u64 0) (.string ⟨#[]⟩) HR2.out)
  have HBZ := Lib.hid (Below.trans HB2.out (HZ.out.2.below (Below.size HB2.out)))
  generalize (((((((((((v0.setCell ⟨w.heap.size, 0, none⟩ (.int .i64 0)).setCell ⟨w.heap.size, 1, none⟩ (.int .u64 0)).setCell ⟨w.heap.size, 2, none⟩ (.int .u64 0)).setCell ⟨w.heap.size, 3, none⟩ (.int .u64 0)).setCell ⟨w.heap.size, 4, none⟩ (.slice none 0 0)).setCell ⟨w.heap.size, 5, none⟩ (.slice none 0 0)).setCell ⟨w.heap.size, 6, none⟩ (.bool false)).setCell ⟨w.heap.size, 7, none⟩ (.slice none 0 0)).setCell ⟨w.heap.size, 8, none⟩ (.slice none 0 0)).setCell ⟨w.heap.size, 9, none⟩ (.int .u64 0)).setCell ⟨w.heap.size, 10, none⟩ (.string ⟨#[]⟩)) = VZ at *
  have r0 := rc_cell 0 (.int .i64 0) HZ.out.1 rfl
  have r1 := rc_cell 1 (.int .u64 0) HZ.out.1 rfl
  have r2 := rc_cell 2 (.int .u64 0) HZ.out.1 rfl
  have r3 := rc_cell 3 (.int .u64 0) HZ.out.1 rfl
  have r4 := rc_cell 4 (.slice none 0 0) HZ.out.1 rfl
  have r5 := rc_cell 5 (.slice none 0 0) HZ.out.1 rfl
  have r6 := rc_cell 6 (.bool false) HZ.out.1 rfl
  have r7 := rc_cell 7 (.slice none 0 0) HZ.out.1 rfl
  have r8 := rc_cell 8 (.slice none 0 0) HZ.out.1 rfl
  have r9 := rc_cell 9 (.int .u64 0) HZ.out.1 rfl
  have r10 := rc_cell 10 (.string ⟨#[]⟩) HZ.out.1 rfl
  refine bodyPost_ret (v := .tuple #[.agg zeroV, .int .i64 3]) (by rw [results_cell_tmp rfl]; simp [go_sem, Try.isAgg32, Try.sizeOf32, r0, r1, r2, r3, r4, r5, r6, r7, r8, r9, r10]) rfl ⟨rfl, HBZ.out⟩
set_option maxRecDepth 100000 in
set_option maxHeartbeats 8000000 in
theorem read_lone (A : Option Addr) (n c : Nat) (w : World) (z : Int) (hx : Bs w A n (joinL [[z]])) (hnc : n ≤ c) (hkb : ∀ k, blk A = some k → k < w.heap.size) (hn : n ≤ 20000000) (ch : Int) (fs : List Int) (hf : fl z = ch :: fs) :
    Calls Try.prog 20 #[.slice A n c] w (ReadE w) := by
  have hch := fl_mem (k := z) (c := ch) (by rw [hf]; simp)
  have HFI : Hid (∀ W, Calls Try.prog 53 #[.int .i64 z] W fun e w' => e = .returned (.string (strOfNums (ch :: fs))) ∧ W = w') := fun W => by have := fields_any z W; rwa [hf] at this
  have HCH := Lib.hid hch.2
  clear hf hch
  have HSP : Hid (splitL (joinL [[z]]) = ([[z]], 0)) := splitL_joinB [[z]] (by have := hx.len; omega)
  have hdz : w.heap.size < (w.alloc (.cells zeroV 32)).heap.size := by simp
  go_enter Try.func20, Try.ntmps20
  go_wp2_with fail
  refine (split_any A n c (joinL [[z]]) _ (hx.keep (below_alloc w _)) hnc (fun k h => Nat.lt_of_lt_of_le (hkb k h) (below_alloc w _).size) (by omega)).mono ?_
  rintro e w1 ⟨A1, n1, c1, rfl, hn1, hp1, hb1⟩
  rw [HSP.out] at hp1
  rw [HSP.out]
  change Prts w1 _ A1 n1 c1 [[z]] at hp1
  have hp : PrR w1 w.heap.size A1 n1 c1 [[z]] := hp1.prR.mono (Nat.le_of_lt hdz)
  have hb01 : Below w.heap.size w w1 := (below_alloc w _).trans (hb1.mono (Nat.le_of_lt hdz))
  have HR1 := Lib.hid ((hb1.block w.heap.size hdz).trans (heap_alloc_new w (.cells zeroV 32)))
  have hgl1 : w.heap.size < w1.heap.size := Nat.lt_of_lt_of_le hdz hb1.size
  clear hn1 hp1 hx hkb hb1 hdz HSP
  obtain ⟨b2, off, A0, n0, c0, rfl, hb2, hc0, ho0, hr0, HN0, hpos⟩ := hp.head
  have hn0 : n0 = 1 := HN0.out
  subst hn0
  obtain ⟨b3, off3, z', rfl, hb3, hz0, hz1, hcz, HZ'⟩ := (ho0.bs hr0).at_ (k := 0) (by omega)
  have hz : z' = z := by have := HZ'.out; simpa using this.symm
  subst hz
  have hcz' : w1.cell? ⟨b3, off3, none⟩ = some (.int .u8 z') := hcz
  have d1 : ((n1 : Int) == 0) = false := by simp; omega
  have d2 : (0 : Int) < (n1 : Int) := by omega
  have hbr := below_alloc w1 (.cells (rcV z' 0 0 0 none 0 0 none 0 0 false none 0 0 none 0 0 0 ⟨#[]⟩) 32)
  have HG2 := Lib.hid (heap_alloc_new w1 (.cells (rcV z' 0 0 0 none 0 0 none 0 0 false none 0 0 none 0 0 0 ⟨#[]⟩) 32))
  have q0 := rc_cell 0 (.int .i64 z') HG2.out rfl
  have HR2 := Lib.hid ((hbr.block _ (lt_of_heap HR1.out)).trans HR1.out)
  have HB2 := Lib.hid (hb01.trans (hbr.mono (Nat.le_of_lt hgl1)))
  obtain ⟨A2, n2, c2, hsl0, hp2⟩ := hp.tail
  have hn2 : n2 = 0 := by have := hp2.1; simpa using this.symm
  subst hn2
  obtain ⟨STR, HSTR⟩ : ∃ STR, Hid (strOfNums (ch :: fs) = STR) := ⟨_, rfl⟩
  have hNE : NE STR := by rw [← HSTR.out]; exact str_ne (by simp)
  obtain ⟨ne1, ne2, ne3, ne4⟩ := hNE
  rw [HSTR.out] at HFI
  clear ho0 hr0 HN0 hb3 hcz HZ' hp hp2 hb01 HR1 hpos
  go_wp2_with fail
  refine (HFI.out _).mono ?_
  rintro e wz ⟨rfl, rfl⟩
  go_wp2_with fail
  refine (HFI.out _).mono ?_
  rintro e wz ⟨rfl, rfl⟩
  have hbi : Below (w1.alloc (.cells (rcV z' 0 0 0 none 0 0 none 0 0 false none 0 0 none 0 0 0 ⟨#[]⟩) 32)).heap.size (w1.alloc (.cells (rcV z' 0 0 0 none 0 0 none 0 0 false none 0 0 none 0 0 0 ⟨#[]⟩) 32)) ((w1.alloc (.cells (rcV z' 0 0 0 none 0 0 none 0 0 false none 0 0 none 0 0 0 ⟨#[]⟩) 32)).iter STR 0) := below_alloc _ _
  have hit := World.iter_heap (w1.alloc (.cells (rcV z' 0 0 0 none 0 0 none 0 0 false none 0 0 none 0 0 0 ⟨#[]⟩) 32)) STR 0
  have hsz : (w1.alloc (.cells (rcV z' 0 0 0 none 0 0 none 0 0 false none 0 0 none 0 0 0 ⟨#[]⟩) 32)).heap.size = w1.heap.size + 1 := by simp
  rw [hsz] at hit
  have HIT := Lib.hid hit
  have HR3 := Lib.hid ((hbi.block _ (lt_of_heap HR2.out)).trans HR2.out)
  have HB3 := Lib.hid (HB2.out.trans (hbi.mono (by omega)))
  clear hit hbi hsz HG2 HR2 HB2 hbr
  go_wp2_with fail
  generalize (w1.alloc (.cells (rcV z' 0 0 0 none 0 0 none 0 0 false none 0 0 none 0 0 0 ⟨#[]⟩) 32)).iter STR 0 = v0 at *
  clear q0 hc0 hcz' hb2 d1 d2 hsl0
  have hgi : w.heap.size ≠ w1.heap.size + 1 := by omega
  have hgi2 : w.heap.size ≤ w1.heap.size + 1 := by omega
  generalize w1.heap.size + 1 = gi at *
  refine wp_loop_rounds 1 ?_
  rw [rounds_succ]
  have hn1 := fun ty => next_at (P := Try.prog) v0 gi (ch :: fs) 0 ch ty (by rw [HSTR.out]; exact HIT.out) rfl HCH.out.1 HCH.out.2
  simp only [HSTR.out] at hn1
  have hon := itSet_onl v0 gi STR (0 + 1)
  have HR4 := Lib.hid ((hon.block _ (lt_of_heap HR3.out) (fun e => hgi (by injection e))).trans HR3.out)
  have HB4 : Hid (Below w.heap.size w (itSet v0 gi STR (0 + 1))) := by
    have h1 := HB3.out
    have h3 := hon
    exact ⟨h3.os.trans h1.os, h3.tape.trans h1.tape, h3.output.trans h1.output, Nat.le_trans h1.size h3.size, fun i hi => (h3.block i (Nat.lt_of_lt_of_le hi h1.size) (fun e => by injection e with e; omega)).trans (h1.block i hi)⟩
  clear hon HR3 HB3 HIT
  generalize itSet v0 gi STR (0 + 1) = u1 at *
  have z0 := rc_cell 0 (.int .i64 0) HR4.out rfl
  have y0 := two_frozen (i := 0) HR4.out
  have z1 := rc_cell 1 (.int .u64 0) HR4.out rfl
  have y1 := two_frozen (i := 1) HR4.out
  have z2 := rc_cell 2 (.int .u64 0) HR4.out rfl
  have y2 := two_frozen (i := 2) HR4.out
  have z3 := rc_cell 3 (.int .u64 0) HR4.out rfl
  have y3 := two_frozen (i := 3) HR4.out
  have z4 := rc_cell 4 (.slice none 0 0) HR4.out rfl
  have y4 := two_frozen (i := 4) HR4.out
  have z5 := rc_cell 5 (.slice none 0 0) HR4.out rfl
  have y5 := two_frozen (i := 5) HR4.out
  have z6 := rc_cell 6 (.bool false) HR4.out rfl
  have y6 := two_frozen (i := 6) HR4.out
  have z7 := rc_cell 7 (.slice none 0 0) HR4.out rfl
  have y7 := two_frozen (i := 7) HR4.out
  have z8 := rc_cell 8 (.slice none 0 0) HR4.out rfl
  have y8 := two_frozen (i := 8) HR4.out
  have z9 := rc_cell 9 (.int .u64 0) HR4.out rfl
  have y9 := two_frozen (i := 9) HR4.out
  have z10 := rc_cell 10 (.string ⟨#[]⟩) HR4.out rfl
  have y10 := two_frozen (i := 10) HR4.out
  go_wp2
  clear z0 y0 z1 y1 z2 y2 z3 y3 z4 y4 z5 y5 z6 y6 z7 y7 z8 y8 z9 y9 z10 y10
  have HZ := Lib.hid (set11 u1 w.heap.size (.int .i64 0) (.int .u64 0) (.int .u64 0) (.int .u64 0) (.slice none 0 0) (.slice none 0 0) (.bool false) (.slice none 0 0) (.slice none 0 0) (.int .u64 0) (.string ⟨#[]⟩) HR4.out)
  have HBZ := Lib.hid (Below.trans HB4.out (HZ.out.2.below (Below.size HB4.out)))
  generalize (((((((((((u1.setCell ⟨w.heap.size, 0, none⟩ (.int .i64 0)).setCell ⟨w.heap.size, 1, none⟩ (.int .u64 0)).setCell ⟨w.heap.size, 2, none⟩ (.int .u64 0)).setCell ⟨w.heap.size, 3, none⟩ (.int .u64 0)).setCell ⟨w.heap.size, 4, none⟩ (.slice none 0 0)).setCell ⟨w.heap.size, 5, none⟩ (.slice none 0 0)).setCell ⟨w.heap.size, 6, none⟩ (.bool false)).setCell ⟨w.heap.size, 7, none⟩ (.slice none 0 0)).setCell ⟨w.heap.size, 8, none⟩ (.slice none 0 0)).setCell ⟨w.heap.size, 9, none⟩ (.int .u64 0)).setCell ⟨w.heap.size, 10, none⟩ (.string ⟨#[]⟩)) = VZ at *
  have r0 := rc_cell 0 (.int .i64 0) HZ.out.1 rfl
  have r1 := rc_cell 1 (.int .u64 0) HZ.out.1 rfl
  have r2 := rc_cell 2 (.int .u64 0) HZ.out.1 rfl
  have r3 := rc_cell 3 (.int .u64 0) HZ.out.1 rfl
  have r4 := rc_cell 4 (.slice none 0 0) HZ.out.1 rfl
  have r5 := rc_cell 5 (.slice none 0 0) HZ.out.1 rfl
  have r6 := rc_cell 6 (.bool false) HZ.out.1 rfl
  have r7 := rc_cell 7 (.slice none 0 0) HZ.out.1 rfl
  have r8 := rc_cell 8 (.slice none 0 0) HZ.out.1 rfl
  have r9 := rc_cell 9 (.int .u64 0) HZ.out.1 rfl
  have r10 := rc_cell 10 (.string ⟨#[]⟩) HZ.out.1 rfl
  refine bodyPost_ret (v := .tuple #[.agg zeroV, .int .i64 3]) (by rw [results_cell_tmp rfl]; simp [go_sem, Try.isAgg32, Try.sizeOf32, r0, r1, r2, r3, r4, r5, r6, r7, r8, r9, r10]) rfl ⟨rfl, HBZ.out⟩
theorem read_ok (y : Rc) (A : Option Addr) (n c : Nat) (w : World) (hk0 : 1 ≤ y.kind) (hk1 : y.kind ≤ 9) (hx : Bs w A n (recL y)) (hnc : n ≤ c) (hkb : ∀ k, blk A = some k → k < w.heap.size) (hn : n ≤ 20000000) (hB : RcB y) :
    Calls Try.prog 20 #[.slice A n c] w (ReadP (trimR y) w) := by
  have h0 : 0 ≤ y.kind := by omega
  have h1 : y.kind ≤ 255 := by omega
  by_cases k1 : y.kind = 1
  · exact read_twr y A n c w (by rw [k1]; rfl) h0 h1 hx hnc hkb hn hB
  by_cases k4 : y.kind = 4
  · exact read_twa y A n c w (by rw [k4]; rfl) h0 h1 hx hnc hkb hn hB
  by_cases k6 : y.kind = 6
  · exact read_tcsa y A n c w (by rw [k6]; rfl) h0 h1 hx hnc hkb hn hB
  by_cases k2 : y.kind = 2 ∨ y.kind = 3 ∨ y.kind = 9
  · exact read_t y A n c w (by unfold fl; rw [if_neg k1, if_pos k2]) h0 h1 hx hnc hkb hn hB
  · exact read_in y A n c w (by unfold fl; rw [if_neg k1, if_neg k2, if_neg k4, if_pos (by omega)]) h0 h1 hx hnc hkb hn hB
theorem read_bad (y : Rc) (A : Option Addr) (n c : Nat) (w : World) (hk : ¬ (1 ≤ y.kind ∧ y.kind ≤ 9)) (hx : Bs w A n (recL y)) (hnc : n ≤ c) (hkb : ∀ k, blk A = some k → k < w.heap.size) (hn : n ≤ 20000000) :
    Calls Try.prog 20 #[.slice A n c] w (ReadE w) := by
  have hf : fl y.kind = [] := by
    unfold fl
    rw [if_neg (by omega), if_neg (by omega), if_neg (by omega), if_neg (by omega), if_neg (by omega)]
  have e : recL y = joinL [[y.kind % 256]] := by unfold recL parts; rw [hf]; rfl
  rw [e] at hx
  cases h : fl (y.kind % 256) with
  | nil => exact read_none A n c w _ hx hnc hkb hn h
  | cons ch fs => exact read_lone A n c w _ hx hnc hkb hn ch fs h
theorem read_more (y : Rc) (b : List Int) (hb : b ≠ []) (A : Option Addr) (n c : Nat) (w : World) (hx : Bs w A n (recL y ++ b)) (hnc : n ≤ c) (hkb : ∀ k, blk A = some k → k < w.heap.size) (hn : n ≤ 1073741824) :
    Calls Try.prog 20 #[.slice A n c] w (ReadE w) := by
  have hl := hx.len
  rw [List.length_append] at hl
  obtain ⟨h1, h2⟩ := joinL_bd (parts y)
  have h3 : (recL y).length = (joinL (parts y)).length := rfl
  exact read_split A n c w _ (splitL_behind (parts y) b hb (by omega) (fun xs hx => by have := h2 xs hx; omega)) hx hnc hkb hn
end Go.Proofs.Ytmjjbfcblmmipaa
