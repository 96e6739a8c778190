/- awake: a record's bytes, and back; records that are read. -/
import Derived.Test.YtmjjbfcblmmipaaReadEW
namespace Go.Proofs.Ytmjjbfcblmmipaa
set_option linter.unusedVariables false
set_option linter.unusedSimpArgs false
open Go.RowKit

abbrev y0 : Rc := ⟨2, 1, 2, 300, [], [], false, [], [], 0, []⟩
theorem y0_bytes : recL y0 = [2, 1, 2, 5, 1, 2, 249, 1, 44] := by decide
theorem y0_trim : trimR y0 = y0 := by rfl
theorem y0_ran : Ran (recL y0) := by rw [y0_bytes]; intro x hx; simp only [List.mem_cons, List.not_mem_nil, or_false] at hx; omega
theorem y0_R (w : World) : RcR w y0 ⟨none, 0, 0, none, 0, 0, none, 0, 0, none, 0, 0⟩ :=
  ⟨Trs.nil_, Trs.nil_, ⟨Rd.nil_, fun _ h => by cases h⟩, Bs.nil_, by simp, by decide, by decide, by decide, by decide, Ran.nil, by decide, by decide, by decide, by decide, by decide⟩
theorem y0_B : RcB y0 := ⟨by decide, by decide, by decide, by decide, fun _ h => by cases h⟩
set_option maxRecDepth 100000 in
set_option maxHeartbeats 4000000 in
theorem awake_any (w : World) : Calls Try.prog 13 #[] w fun e w' => e = .returned (.bool true) ∧ Below w.heap.size w w' := by
  have HBY := Lib.hid (fun W : World => bytes_any y0 ⟨none, 0, 0, none, 0, 0, none, 0, 0, none, 0, 0⟩ W (y0_R W) (by rw [y0_bytes]; decide))
  have HL : Hid ((recL y0).length = 9) := Lib.hid (by rw [y0_bytes]; rfl)
  have HCMP : Hid ((cmpL (recL y0) [2, 1, 2, 5, 1, 2, 249, 1, 44] == 0) = true) := Lib.hid (by rw [y0_bytes]; decide)
  have HRN := Lib.hid y0_ran
  go_enter Try.func13, Try.ntmps13
  go_wp2_with fail
  refine (HBY.out _).mono ?_
  rintro e w1 ⟨A1, n1, c1, rfl, hn1, ho1, _, hb1⟩
  have hn9 : n1 = 9 := hn1.trans HL.out
  subst hn9
  have HO1 := Lib.hid ho1
  clear hn1 ho1
  go_wp2_with fail
  refine (read_ok y0 A1 9 c1 w1 (by decide) (by decide) (HO1.out.bs HRN.out) HO1.out.cap (fun k hk => (HO1.out.lies k hk).2) (by decide) y0_B).mono ?_
  rintro e w2 ⟨s, rfl, hO, hb2⟩
  rw [y0_trim]
  have hs1 := hb1.size
  have hb02 := hb1.trans (hb2.mono hs1)
  have HO2 := Lib.hid (HO1.out.below hb2 (fun k hk => (HO1.out.lies k hk).2))
  clear hO hb1 hb2 HO1
  obtain ⟨AW, nW, cW, AR, nR, cR, AS, nS, cS, AP, nP, cP⟩ := s
  have hsz : (w2.alloc (.cells (rcV 2 1 2 300 AW nW cW AR nR cR false AS nS cS AP nP cP 0 (strOfNums [])) 32)).heap.size = w2.heap.size + 1 := by simp
  have bb1 := below_alloc w2 (.cells (rcV 2 1 2 300 AW nW cW AR nR cR false AS nS cS AP nP cP 0 (strOfNums [])) 32)
  have bb2 := below_alloc (w2.alloc (.cells (rcV 2 1 2 300 AW nW cW AR nR cR false AS nS cS AP nP cP 0 (strOfNums [])) 32)) (.cells #[.int .u8 2, .int .u8 1, .int .u8 2, .int .u8 5, .int .u8 1, .int .u8 2, .int .u8 249, .int .u8 1, .int .u8 44] 5)
  have hg1 := (bb2.block w2.heap.size (by omega)).trans (heap_alloc_new w2 (.cells (rcV 2 1 2 300 AW nW cW AR nR cR false AS nS cS AP nP cP 0 (strOfNums [])) 32))
  have hg2 := heap_alloc_new (w2.alloc (.cells (rcV 2 1 2 300 AW nW cW AR nR cR false AS nS cS AP nP cP 0 (strOfNums [])) 32)) (.cells #[.int .u8 2, .int .u8 1, .int .u8 2, .int .u8 5, .int .u8 1, .int .u8 2, .int .u8 249, .int .u8 1, .int .u8 44] 5)
  rw [hsz] at hg2
  have HBW := Lib.hid (bb1.trans (bb2.mono (by omega)))
  have HG1 := Lib.hid hg1
  have HB9 : Hid (Bs ((w2.alloc (.cells (rcV 2 1 2 300 AW nW cW AR nR cR false AS nS cS AP nP cP 0 (strOfNums [])) 32)).alloc (.cells #[.int .u8 2, .int .u8 1, .int .u8 2, .int .u8 5, .int .u8 1, .int .u8 2, .int .u8 249, .int .u8 1, .int .u8 44] 5)) (some ⟨w2.heap.size + 1, 0, none⟩) 9 [2, 1, 2, 5, 1, 2, 249, 1, 44]) := Lib.hid ((Own.of_block (n := 9) (base := 0) (vs := By [2, 1, 2, 5, 1, 2, 249, 1, 44]) hg2 (Nat.zero_le _) rfl (by unfold maxLen; omega)).bs (by rw [← y0_bytes]; exact HRN.out))
  clear bb1 bb2 hg1 hg2 hsz
  go_wp2_with fail
  generalize ((w2.alloc (.cells (rcV 2 1 2 300 AW nW cW AR nR cR false AS nS cS AP nP cP 0 (strOfNums [])) 32)).alloc (.cells #[.int .u8 2, .int .u8 1, .int .u8 2, .int .u8 5, .int .u8 1, .int .u8 2, .int .u8 249, .int .u8 1, .int .u8 44] 5)) = W at *
  refine (equal_is A1 _ 9 9 c1 9 (recL y0) [2, 1, 2, 5, 1, 2, 249, 1, 44] true HCMP.out W ((HO2.out.bs HRN.out).keep HBW.out) HB9.out (by unfold maxLen; omega) (by unfold maxLen; omega)).mono ?_
  rintro e w3 ⟨rfl, q, rfl⟩
  have hc3 : (W.drewN q).cell? ⟨w2.heap.size, 3, none⟩ = some (.int .u64 300) := rc_cell 3 _ HG1.out rfl
  have HBF := Lib.hid (hb02.trans (HBW.out.mono hb02.size))
  go_wp2
  go_ret
  exact ⟨rfl, below_n HBF.out q⟩
end Go.Proofs.Ytmjjbfcblmmipaa
