/- LeafKeeps: the walk. -/
import Derived.Test.YtmjjbfcblmmipaaKpsM
import Derived.StillTailTactics
namespace Go.Proofs.Ytmjjbfcblmmipaa
set_option linter.unusedVariables false
set_option linter.unusedSimpArgs false
open Go.RowKit
set_option maxRecDepth 100000 in
set_option maxHeartbeats 16000000 in
theorem lkeeps_walk (A B : Option Addr) (c d : Nat) (xs ys : List Int) (w : World) (hx : Bs w A xs.length xs) (hy : Bs w B ys.length ys) :
    Calls Try.prog 11 #[.slice A xs.length c, .slice B ys.length d] w fun e w' => e = .returned (.bool true) ∧ Below w.heap.size w w' := by
  have hxr := hx.2; have hyr := hy.2
  have HX := Lib.hid hx; have HY := Lib.hid hy; clear hx hy
  have HXR := Lib.hid hxr; have HYR := Lib.hid hyr; clear hxr hyr
  go_enter Try.func11, Try.ntmps11
  go_wp2_with fail
  refine (awakeL_any _).mono ?_
  rintro e w1 ⟨rfl, hb1⟩
  have hs1 := hb1.size
  by_cases h64 : 64 < xs.length
  · have d1 : decide ((64 : Int) < (xs.length : Int)) = true := by simp; omega
    go_wp2
    go_ret
    exact ⟨rfl, hb1⟩
  have d1 : decide ((64 : Int) < (xs.length : Int)) = false := by simp; omega
  by_cases h128 : 128 < ys.length
  · have d2 : decide ((128 : Int) < (ys.length : Int)) = true := by simp; omega
    go_wp2
    go_ret
    exact ⟨rfl, hb1⟩
  have d2 : decide ((128 : Int) < (ys.length : Int)) = false := by simp; omega
  go_wp2_with fail
  refine (spare_any A xs.length c xs _ (HX.out.keep hb1) (by omega)).mono ?_
  rintro e w2 ⟨rfl, hoX, hb2⟩
  clear d1 d2
  have hs2 := hb2.size
  have hb02 := hb1.trans (hb2.mono hs1)
  go_wp2_with fail
  refine (spare_any B ys.length d ys _ (HY.out.keep hb02) (by omega)).mono ?_
  rintro e w3 ⟨rfl, hoY, hb3⟩
  have hs3 := hb3.size
  have HR0 : Hid (∀ b, blk (some ⟨w1.heap.size, 0, none⟩) = some b → w1.heap.size ≤ b ∧ b < w2.heap.size) := Lib.hid (fun b hb => hoX.lies b hb)
  have HR1 : Hid (∀ b, blk (some ⟨w2.heap.size, 0, none⟩) = some b → w2.heap.size ≤ b ∧ b < w3.heap.size) := Lib.hid (fun b hb => hoY.lies b hb)
  replace hoX := K5.below hb3 _ _ _ _ hoX
  replace hoY := hoY.mono hs2
  have hb03 := hb02.trans (hb3.mono (Nat.le_trans hs1 hs2))
  have HPX : Hid (∀ (W : World), Own W w1.heap.size 5 (some ⟨w1.heap.size, 0, none⟩) (xs.length + 33) (xs.length + 33) (By (sp xs)) → Bs W (some ⟨w1.heap.size, 0, none⟩) xs.length xs) := Lib.hid (by
    intro W h
    have h' := h.pre (m := xs.length) (by omega)
    rw [By_take, sp_take] at h'
    exact h'.bs HXR.out)
  have HPY : Hid (∀ (W : World), Own W w1.heap.size 5 (some ⟨w2.heap.size, 0, none⟩) (ys.length + 33) (ys.length + 33) (By (sp ys)) → Bs W (some ⟨w2.heap.size, 0, none⟩) ys.length ys) := Lib.hid (by
    intro W h
    have h' := h.pre (m := ys.length) (by omega)
    rw [By_take, sp_take] at h'
    exact h'.bs HYR.out)
  clear hb1 hb2 hb02 hb3
  have a2 := alloc2 w3 #[.slice (some ⟨w1.heap.size, 0, none⟩) xs.length (xs.length + 33)] #[.slice (some ⟨w2.heap.size, 0, none⟩) ys.length (ys.length + 33)] 28
  have ha2 : ((w3.alloc (.cells #[.slice (some ⟨w1.heap.size, 0, none⟩) xs.length (xs.length + 33)] 28)).alloc (.cells #[.slice (some ⟨w2.heap.size, 0, none⟩) ys.length (ys.length + 33)] 28)).heap.size = w3.heap.size + 2 := by simp
  have a3 := heap_alloc_new ((w3.alloc (.cells #[.slice (some ⟨w1.heap.size, 0, none⟩) xs.length (xs.length + 33)] 28)).alloc (.cells #[.slice (some ⟨w2.heap.size, 0, none⟩) ys.length (ys.length + 33)] 28)) (.cells #[.bool true, .slice (some ⟨w3.heap.size, 0, none⟩) 1 1, .slice (some ⟨w3.heap.size + 1, 0, none⟩) 1 1, .slice none 0 0] 70)
  have hba := below_alloc ((w3.alloc (.cells #[.slice (some ⟨w1.heap.size, 0, none⟩) xs.length (xs.length + 33)] 28)).alloc (.cells #[.slice (some ⟨w2.heap.size, 0, none⟩) ys.length (ys.length + 33)] 28)) (.cells #[.bool true, .slice (some ⟨w3.heap.size, 0, none⟩) 1 1, .slice (some ⟨w3.heap.size + 1, 0, none⟩) 1 1, .slice none 0 0] 70)
  rw [ha2] at a3
  have ha3 : (((w3.alloc (.cells #[.slice (some ⟨w1.heap.size, 0, none⟩) xs.length (xs.length + 33)] 28)).alloc (.cells #[.slice (some ⟨w2.heap.size, 0, none⟩) ys.length (ys.length + 33)] 28)).alloc (.cells #[.bool true, .slice (some ⟨w3.heap.size, 0, none⟩) 1 1, .slice (some ⟨w3.heap.size + 1, 0, none⟩) 1 1, .slice none 0 0] 70)).heap.size = w3.heap.size + 3 := by simp
  have bK0 := (hba.block w3.heap.size (by omega)).trans a2.1
  have bV0 := (hba.block (w3.heap.size + 1) (by omega)).trans a2.2.1
  have hb3 := a2.2.2.trans (hba.mono (by omega))
  go_upto_region 8 with fail
  generalize (((w3.alloc (.cells #[.slice (some ⟨w1.heap.size, 0, none⟩) xs.length (xs.length + 33)] 28)).alloc (.cells #[.slice (some ⟨w2.heap.size, 0, none⟩) ys.length (ys.length + 33)] 28)).alloc (.cells #[.bool true, .slice (some ⟨w3.heap.size, 0, none⟩) 1 1, .slice (some ⟨w3.heap.size + 1, 0, none⟩) 1 1, .slice none 0 0] 70)) = y3 at *
  replace hoX := K5.below hb3 _ _ _ _ hoX
  replace hoY := K5.below hb3 _ _ _ _ hoY
  have BN := Lib.hid a3
  have BK := Lib.hid (Bss.at0 bK0 (HPX.out _ hoX) (by omega)); have BV := Lib.hid (Bss.at0 bV0 (HPY.out _ hoY) (by omega))
  have OX := Lib.hid hoX; have OY := Lib.hid hoY
  have HB := Lib.hid (hb03.trans (hb3.mono (by have := hb03.size; omega)))
  have hs4 : w3.heap.size + 3 = y3.heap.size := ha3.symm
  clear a2 ha2 a3 hba ha3 bK0 bV0 hb3 hoX hoY hb03
  have HC := Lib.hid (enc_one (xs := xs) (ys := ys) (by omega) (by omega))
  have HRR : Hid (Ran (encR true [xs] [ys] [])) := Lib.hid (encR_ran (by simp) BK.out.ran BV.out.ran)
  have q0 := rc_cell 0 (.bool true) BN.out rfl; have q1 := rc_cell 1 (.slice (some ⟨w3.heap.size, 0, none⟩) 1 1) BN.out rfl; have q2 := rc_cell 2 (.slice (some ⟨w3.heap.size + 1, 0, none⟩) 1 1) BN.out rfl; have q3 := rc_cell 3 (.slice none 0 0) BN.out rfl
  go_wp2_with fail
  clear q0 q1 q2 q3
  refine (encode_any true (some ⟨w3.heap.size, 0, none⟩) 1 1 (some ⟨w3.heap.size + 1, 0, none⟩) 1 1 none 0 0 [xs] [ys] [] y3 BK.out BV.out (ins_nil_ _) (by omega) (by omega) (by omega) (fun x hx => by obtain rfl := List.mem_singleton.1 hx; omega) (by simp [szW]; omega) (by simp [szW]; omega)).mono ?_
  rintro e w4 ⟨BP, cP, rfl, hoP, hb4⟩
  rw [show ((encC true [xs] [ys] [] : Nat) : Int) = 0 by rw [HC.out]; rfl]
  have hRL := encR_len HC.out; have hbk := back_node HC.out
  obtain ⟨R, HR⟩ : ∃ R, Hid (encR true [xs] [ys] [] = R) := ⟨_, rfl⟩
  rw [HR.out] at hRL hbk HRR hoP ⊢
  rw [hRL] at hoP ⊢
  have hs5 := hb4.size
  have BN4 := Lib.hid ((hb4.block _ (lt_of_heap BN.out)).trans BN.out); have BK4 := Lib.hid (BK.out.keep hb4); have BV4 := Lib.hid (BV.out.keep hb4)
  have HRP := Lib.hid (fun b hb => hoP.lies b hb : ∀ b, blk BP = some b → y3.heap.size ≤ b ∧ b < w4.heap.size)
  have S3 := Lib.hid hb4; have OP := Lib.hid hoP
  have bsP := hoP.bs HRR.out; have hcP := hoP.cap
  clear hb4 hoP BN BK BV
  go_wp2_with fail
  refine (decodeX_any BP cP R [xs] [ys] hbk.1 hbk.2.1 hbk.2.2.1 hbk.2.2.2 w4 bsP hcP HC.out HR.out).mono ?_
  rintro e w5 ⟨AK, nK, cK, AV, cV, rfl, p1, p2, xd, hb5⟩
  obtain rfl : 1 = nK := p1.1
  obtain ⟨gxk, P3, p3, rfl, lk3, c3, o3, r3, u3, ru3, hu3⟩ := p1.text (i := 0) (xs := xs) rfl
  obtain ⟨gxv, P4, p4, rfl, lk4, c4, o4, r4, u4, ru4, hu4⟩ := p2.text (i := 0) (xs := ys) rfl
  have D34 := Lib.hid (xd u3 u4 ru3 ru4 0 0 _ _ _ _ _ _ hu3 hu4)
  have O3 := Lib.hid o3; have O4 := Lib.hid o4; have C3 := Lib.hid (And.intro lk3 c3); have C4 := Lib.hid (And.intro lk4 c4)
  have hs6 := hb5.size
  have BN5 := Lib.hid ((hb5.block _ (lt_of_heap BN4.out)).trans BN4.out); have BK5 := Lib.hid (BK4.out.keep hb5); have BV5 := Lib.hid (BV4.out.keep hb5)
  have S4 := Lib.hid hb5
  have hba := below_alloc w5 (.cells (ndV true (some ⟨gxk, 0, none⟩) 1 cK (some ⟨gxv, 0, none⟩) 1 cV none 0 0) 70)
  have BX := Lib.hid (heap_alloc_new w5 (.cells (ndV true (some ⟨gxk, 0, none⟩) 1 cK (some ⟨gxv, 0, none⟩) 1 cV none 0 0) 70))
  have hsa : (w5.alloc (.cells (ndV true (some ⟨gxk, 0, none⟩) 1 cK (some ⟨gxv, 0, none⟩) 1 cV none 0 0) 70)).heap.size = w5.heap.size + 1 := by simp
  clear p1 p2 xd u3 ru3 hu3 u4 ru4 hu4 o3 o4 r3 r4 lk3 lk4 c3 c4 hb5 hbk bsP BN4 BK4 BV4
  go_upto_region 10 with fail
  generalize w5.alloc (.cells (ndV true (some ⟨gxk, 0, none⟩) 1 cK (some ⟨gxv, 0, none⟩) 1 cV none 0 0) 70) = y5 at *
  have BN6 := Lib.hid ((hba.block _ (lt_of_heap BN5.out)).trans BN5.out); have BK6 := Lib.hid (BK5.out.keep hba); have BV6 := Lib.hid (BV5.out.keep hba)
  have S5 := Lib.hid hba
  have hs7 : w5.heap.size + 1 = y5.heap.size := hsa.symm
  have TY : Hid (Bs y5 (some ⟨w2.heap.size, 0, none⟩) ys.length ys) := Lib.hid (HPY.out _ (K5.below hba _ _ _ _ (K5.below S4.out _ _ _ _ (K5.below S3.out _ _ _ _ OY.out))))
  clear hba hsa BN5 BK5 BV5
  have q0 := rc_cell 0 (.bool true) BN6.out rfl; have q1 := rc_cell 1 (.slice (some ⟨w3.heap.size, 0, none⟩) 1 1) BN6.out rfl; have q2 := rc_cell 2 (.slice (some ⟨w3.heap.size + 1, 0, none⟩) 1 1) BN6.out rfl; have q3 := rc_cell 3 (.slice none 0 0) BN6.out rfl
  go_wp2_with fail
  clear q0 q1 q2 q3
  refine (withOkX_any (some ⟨w3.heap.size, 0, none⟩) 1 1 (some ⟨w3.heap.size + 1, 0, none⟩) 1 1 none 0 0 [xs] [ys] [] 0 0 rfl none 0 [] (some ⟨w2.heap.size, 0, none⟩) (ys.length + 33) ys y5 BK6.out BV6.out (ins_nil_ _) (.inl ⟨rfl, rfl⟩) ⟨(Own.nil_ (base := 0) (e := 5)).rd, Ran.nil⟩ TY.out (by omega) rfl (by omega) (by omega) (by omega) (fun x hx => by obtain rfl := List.mem_singleton.1 hx; omega) (fun x hx => by obtain rfl := List.mem_singleton.1 hx; omega) (by simp) (by omega)).mono ?_
  rintro e w6 ⟨A1, c1', A2, c2', A3, c3', rfl, p1, p2, p3', hd, xd, hb6⟩
  obtain ⟨gak, P5, p5, rfl, lk5, c5, o5, r5, u5, ru5, hu5⟩ := p1.text (i := 1) (xs := xs) rfl
  obtain ⟨gav, P6, p6, rfl, lk6, c6, o6, r6, u6, ru6, hu6⟩ := p2.text (i := 0) (xs := ys) rfl
  obtain ⟨gav', P7, p7, eg, lk7, c7, o7, r7, u7, ru7, hu7⟩ := p2.text (i := 1) (xs := ys) rfl
  obtain rfl : gav = gav' := by injection eg with e1; injection e1
  have D56 := Lib.hid (xd u5 u6 ru5 ru6 1 0 _ _ _ _ _ _ hu5 hu6); have D57 := Lib.hid (xd u5 u7 ru5 ru7 1 1 _ _ _ _ _ _ hu5 hu7)
  have D67 := Lib.hid (p2.apart (show 0 ≠ 1 by decide) ru6 ru7 hu6 hu7)
  have O5 := Lib.hid o5; have O6 := Lib.hid o6; have O7 := Lib.hid o7; have C5 := Lib.hid (And.intro lk5 c5); have C6 := Lib.hid (And.intro lk6 c6); have C7 := Lib.hid (And.intro lk7 c7)
  have hs8 := hb6.size
  have BN7 := Lib.hid ((hb6.block _ (lt_of_heap BN6.out)).trans BN6.out); have BK7 := Lib.hid (BK6.out.keep hb6); have BV7 := Lib.hid (BV6.out.keep hb6)
  have S6 := Lib.hid hb6
  have hba := below_alloc w6 (.cells (ndV true (some ⟨gak, 0, none⟩) (1 + 1) c1' (some ⟨gav, 0, none⟩) (1 + 1) c2' A3 0 c3') 70)
  have BA := Lib.hid (heap_alloc_new w6 (.cells (ndV true (some ⟨gak, 0, none⟩) (1 + 1) c1' (some ⟨gav, 0, none⟩) (1 + 1) c2' A3 0 c3') 70))
  have hsa : (w6.alloc (.cells (ndV true (some ⟨gak, 0, none⟩) (1 + 1) c1' (some ⟨gav, 0, none⟩) (1 + 1) c2' A3 0 c3') 70)).heap.size = w6.heap.size + 1 := by simp
  clear p1 p2 p3' hd xd eg u5 ru5 hu5 u6 ru6 hu6 u7 ru7 hu7 o5 o6 o7 r5 r6 r7 lk5 lk6 lk7 c5 c6 c7 hb6 BN6 BK6 BV6
  go_upto_region 11 with fail
  generalize w6.alloc (.cells (ndV true (some ⟨gak, 0, none⟩) (1 + 1) c1' (some ⟨gav, 0, none⟩) (1 + 1) c2' A3 0 c3') 70) = y6 at *
  have BN8 := Lib.hid ((hba.block _ (lt_of_heap BN7.out)).trans BN7.out); have BK8 := Lib.hid (BK7.out.keep hba); have BV8 := Lib.hid (BV7.out.keep hba)
  have S7 := Lib.hid hba
  have hs9 : w6.heap.size + 1 = y6.heap.size := hsa.symm
  clear hba hsa BN7 BK7 BV7
  have q0 := rc_cell 0 (.bool true) BN8.out rfl; have q1 := rc_cell 1 (.slice (some ⟨w3.heap.size, 0, none⟩) 1 1) BN8.out rfl; have q2 := rc_cell 2 (.slice (some ⟨w3.heap.size + 1, 0, none⟩) 1 1) BN8.out rfl; have q3 := rc_cell 3 (.slice none 0 0) BN8.out rfl
  go_wp2_with fail
  clear q0 q1 q2 q3
  refine (withoutNoX_any true (some ⟨w3.heap.size, 0, none⟩) 1 1 (some ⟨w3.heap.size + 1, 0, none⟩) 1 1 none 0 0 [xs] [ys] [] 5 (.inr (.inr (by decide))) y6 BK8.out BV8.out (ins_nil_ _) (.inl ⟨rfl, rfl⟩) (by omega) (by omega) (by omega) (fun x hx => by obtain rfl := List.mem_singleton.1 hx; omega) (fun x hx => by obtain rfl := List.mem_singleton.1 hx; omega)).mono ?_
  rintro e w7 ⟨A1, c1b, A2, c2b, A3b, c3b, rfl, p1, p2, p3', hd, xd, hb7⟩
  obtain ⟨gbk, P8, p8, rfl, lk8, c8, o8, r8, u8, ru8, hu8⟩ := p1.text (i := 0) (xs := xs) rfl
  obtain ⟨gbv, P9, p9, rfl, lk9, c9, o9, r9, u9, ru9, hu9⟩ := p2.text (i := 0) (xs := ys) rfl
  have D89 := Lib.hid (xd u8 u9 ru8 ru9 0 0 _ _ _ _ _ _ hu8 hu9)
  have O8 := Lib.hid o8; have O9 := Lib.hid o9; have C8 := Lib.hid (And.intro lk8 c8); have C9 := Lib.hid (And.intro lk9 c9)
  have hs10 := hb7.size
  have BN9 := Lib.hid ((hb7.block _ (lt_of_heap BN8.out)).trans BN8.out); have BK9 := Lib.hid (BK8.out.keep hb7); have BV9 := Lib.hid (BV8.out.keep hb7)
  have S8 := Lib.hid hb7
  have hba := below_alloc w7 (.cells (ndV true (some ⟨gbk, 0, none⟩) 1 c1b (some ⟨gbv, 0, none⟩) 1 c2b A3b 0 c3b) 70)
  have BB := Lib.hid (heap_alloc_new w7 (.cells (ndV true (some ⟨gbk, 0, none⟩) 1 c1b (some ⟨gbv, 0, none⟩) 1 c2b A3b 0 c3b) 70))
  have hsa : (w7.alloc (.cells (ndV true (some ⟨gbk, 0, none⟩) 1 c1b (some ⟨gbv, 0, none⟩) 1 c2b A3b 0 c3b) 70)).heap.size = w7.heap.size + 1 := by simp
  clear p1 p2 p3' hd xd u8 ru8 hu8 u9 ru9 hu9 o8 o9 r8 r9 lk8 lk9 c8 c9 hb7 BN8 BK8 BV8
  go_upto_region 12 with fail
  generalize w7.alloc (.cells (ndV true (some ⟨gbk, 0, none⟩) 1 c1b (some ⟨gbv, 0, none⟩) 1 c2b A3b 0 c3b) 70) = y7 at *
  have BN10 := Lib.hid ((hba.block _ (lt_of_heap BN9.out)).trans BN9.out); have BK10 := Lib.hid (BK9.out.keep hba); have BV10 := Lib.hid (BV9.out.keep hba)
  have S9 := Lib.hid hba
  have hs11 : w7.heap.size + 1 = y7.heap.size := hsa.symm
  clear hba hsa BN9 BK9 BV9
  have hba := below_alloc y7 (.cells #[.bool true, .slice (some ⟨w3.heap.size, 0, none⟩) 1 1, .slice (some ⟨w3.heap.size + 1, 0, none⟩) 1 1, .slice none 0 0, .bool true, .slice (some ⟨w3.heap.size, 0, none⟩) 1 1, .slice (some ⟨w3.heap.size + 1, 0, none⟩) 1 1, .slice none 0 0] 70)
  have BR := heap_alloc_new y7 (.cells #[.bool true, .slice (some ⟨w3.heap.size, 0, none⟩) 1 1, .slice (some ⟨w3.heap.size + 1, 0, none⟩) 1 1, .slice none 0 0, .bool true, .slice (some ⟨w3.heap.size, 0, none⟩) 1 1, .slice (some ⟨w3.heap.size + 1, 0, none⟩) 1 1, .slice none 0 0] 70)
  have hsa : (y7.alloc (.cells #[.bool true, .slice (some ⟨w3.heap.size, 0, none⟩) 1 1, .slice (some ⟨w3.heap.size + 1, 0, none⟩) 1 1, .slice none 0 0, .bool true, .slice (some ⟨w3.heap.size, 0, none⟩) 1 1, .slice (some ⟨w3.heap.size + 1, 0, none⟩) 1 1, .slice none 0 0] 70)).heap.size = y7.heap.size + 1 := by simp
  have q0 := rc_cell 0 (.bool true) BN10.out rfl; have q1 := rc_cell 1 (.slice (some ⟨w3.heap.size, 0, none⟩) 1 1) BN10.out rfl; have q2 := rc_cell 2 (.slice (some ⟨w3.heap.size + 1, 0, none⟩) 1 1) BN10.out rfl; have q3 := rc_cell 3 (.slice none 0 0) BN10.out rfl
  go_wp2_with fail
  clear q0 q1 q2 q3
  generalize y7.alloc (.cells #[.bool true, .slice (some ⟨w3.heap.size, 0, none⟩) 1 1, .slice (some ⟨w3.heap.size + 1, 0, none⟩) 1 1, .slice none 0 0, .bool true, .slice (some ⟨w3.heap.size, 0, none⟩) 1 1, .slice (some ⟨w3.heap.size + 1, 0, none⟩) 1 1, .slice none 0 0] 70) = y8 at *
  have hs12 : y7.heap.size + 1 = y8.heap.size := hsa.symm
  have BN11 := Lib.hid ((hba.block _ (lt_of_heap BN10.out)).trans BN10.out); have BK11 := Lib.hid (BK10.out.keep hba); have BV11 := Lib.hid (BV10.out.keep hba)
  have S10 := Lib.hid hba
  have HNL : Hid (∀ (j : Nat) (x : Nde), [(⟨(some ⟨w3.heap.size, 0, none⟩), 1, 1, (some ⟨w3.heap.size + 1, 0, none⟩), 1, 1, none, 0, 0, [xs], [ys]⟩ : Nde), ⟨(some ⟨w3.heap.size, 0, none⟩), 1, 1, (some ⟨w3.heap.size + 1, 0, none⟩), 1, 1, none, 0, 0, [xs], [ys]⟩][j]? = some x → NdeR y8 y7.heap.size (j * 4) x) := Lib.hid (by
    intro j x hj
    match j, hj with
    | 0, hj =>
      simp only [List.getElem?_cons_zero, Option.some.injEq] at hj
      subst hj
      exact ⟨rc_cell 0 _ BR rfl, rc_cell 1 _ BR rfl, rc_cell 2 _ BR rfl, rc_cell 3 _ BR rfl, BK11.out, BV11.out, (show 1 ≤ 100000 by decide), (show 1 ≤ 100000 by decide), fun x hx => by obtain rfl := List.mem_singleton.1 hx; omega, fun x hx => by obtain rfl := List.mem_singleton.1 hx; omega⟩
    | 1, hj =>
      simp only [List.getElem?_cons_succ, List.getElem?_cons_zero, Option.some.injEq] at hj
      subst hj
      exact ⟨rc_cell 4 _ BR rfl, rc_cell 5 _ BR rfl, rc_cell 6 _ BR rfl, rc_cell 7 _ BR rfl, BK11.out, BV11.out, (show 1 ≤ 100000 by decide), (show 1 ≤ 100000 by decide), fun x hx => by obtain rfl := List.mem_singleton.1 hx; omega, fun x hx => by obtain rfl := List.mem_singleton.1 hx; omega⟩
    | (j + 2), hj => simp at hj)
  clear hba hsa BR BN10 BK10 BV10
  refine (joinX_any [(⟨(some ⟨w3.heap.size, 0, none⟩), 1, 1, (some ⟨w3.heap.size + 1, 0, none⟩), 1, 1, none, 0, 0, [xs], [ys]⟩ : Nde), ⟨(some ⟨w3.heap.size, 0, none⟩), 1, 1, (some ⟨w3.heap.size + 1, 0, none⟩), 1, 1, none, 0, 0, [xs], [ys]⟩] y7.heap.size 2 2 y8 rfl (by omega) HNL.out (by omega)).mono ?_
  rintro e w9 ⟨A1, n1, c1c, A2, n2, c2c, rfl, p1, p2, hd, xd, hb9⟩
  obtain rfl : 2 = n1 := p1.1
  obtain rfl : 2 = n2 := p2.1
  obtain ⟨gck, P10, p10, rfl, lk10, c10, o10, r10, u10, ru10, hu10⟩ := p1.text (i := 0) (xs := xs) rfl
  obtain ⟨gck', P11, p11, eg, lk11, c11, o11, r11, u11, ru11, hu11⟩ := p1.text (i := 1) (xs := xs) rfl
  obtain rfl : gck = gck' := by injection eg with e1; injection e1
  obtain ⟨gcv, P12, p12, rfl, lk12, c12, o12, r12, u12, ru12, hu12⟩ := p2.text (i := 0) (xs := ys) rfl
  obtain ⟨gcv', P13, p13, eg2, lk13, c13, o13, r13, u13, ru13, hu13⟩ := p2.text (i := 1) (xs := ys) rfl
  obtain rfl : gcv = gcv' := by injection eg2 with e1; injection e1
  have D1011 := Lib.hid (p1.apart (show 0 ≠ 1 by decide) ru10 ru11 hu10 hu11); have D1213 := Lib.hid (p2.apart (show 0 ≠ 1 by decide) ru12 ru13 hu12 hu13)
  have D1012 := Lib.hid (xd u10 u12 ru10 ru12 0 0 _ _ _ _ _ _ hu10 hu12); have D1013 := Lib.hid (xd u10 u13 ru10 ru13 0 1 _ _ _ _ _ _ hu10 hu13)
  have D1112 := Lib.hid (xd u11 u12 ru11 ru12 1 0 _ _ _ _ _ _ hu11 hu12); have D1113 := Lib.hid (xd u11 u13 ru11 ru13 1 1 _ _ _ _ _ _ hu11 hu13)
  have O10 := Lib.hid o10; have O11 := Lib.hid o11; have O12 := Lib.hid o12; have O13 := Lib.hid o13; have C10 := Lib.hid (And.intro lk10 c10); have C11 := Lib.hid (And.intro lk11 c11); have C12 := Lib.hid (And.intro lk12 c12); have C13 := Lib.hid (And.intro lk13 c13)
  have hs13 := hb9.size
  have S11 := Lib.hid hb9
  have hba := below_alloc w9 (.cells (ndV true (some ⟨gck, 0, none⟩) 2 c1c (some ⟨gcv, 0, none⟩) 2 c2c none 0 0) 70)
  have BC := Lib.hid (heap_alloc_new w9 (.cells (ndV true (some ⟨gck, 0, none⟩) 2 c1c (some ⟨gcv, 0, none⟩) 2 c2c none 0 0) 70))
  have hsa : (w9.alloc (.cells (ndV true (some ⟨gck, 0, none⟩) 2 c1c (some ⟨gcv, 0, none⟩) 2 c2c none 0 0) 70)).heap.size = w9.heap.size + 1 := by simp
  clear p1 p2 hd xd eg eg2 u10 ru10 hu10 u11 ru11 hu11 u12 ru12 hu12 u13 ru13 hu13 o10 o11 o12 o13 r10 r11 r12 r13 lk10 lk11 lk12 lk13 c10 c11 c12 c13 hb9 BN11 BK11 BV11 HNL
  go_upto_region 13 with fail
  generalize w9.alloc (.cells (ndV true (some ⟨gck, 0, none⟩) 2 c1c (some ⟨gcv, 0, none⟩) 2 c2c none 0 0) 70) = y9 at *
  have hs14 : w9.heap.size + 1 = y9.heap.size := hsa.symm
  have E12 := Lib.hid hba
  have E11 := Lib.hid (S11.out.trans (E12.out.mono (by omega)))
  have E10 := Lib.hid (S10.out.trans (E11.out.mono (by omega)))
  have E9 := Lib.hid (S9.out.trans (E10.out.mono (by omega)))
  have E8 := Lib.hid (S8.out.trans (E9.out.mono (by omega)))
  have E7 := Lib.hid (S7.out.trans (E8.out.mono (by omega)))
  have E6 := Lib.hid (S6.out.trans (E7.out.mono (by omega)))
  have E5 := Lib.hid (S5.out.trans (E6.out.mono (by omega)))
  have E4 := Lib.hid (S4.out.trans (E5.out.mono (by omega)))
  have E3 := Lib.hid (S3.out.trans (E4.out.mono (by omega)))
  have HBE := Lib.hid (HB.out.trans (E3.out.mono (by have := HB.out.size; omega)))
  clear hba hsa S3 S4 S5 S6 S7 S8 S9 S10 S11 HB
  have qX := Lib.hid ((K5.below E3.out _ _ _ _ OX.out).mono (b := w1.heap.size) (by omega))
  have qY := Lib.hid ((K5.below E3.out _ _ _ _ OY.out).mono (b := w1.heap.size) (by omega))
  have qP := Lib.hid ((K5.below E4.out _ _ _ _ OP.out).mono (b := w1.heap.size) (by omega))
  have q3 := Lib.hid ((K5.below E5.out _ _ _ _ O3.out).mono (b := w1.heap.size) (by omega))
  have q4 := Lib.hid ((K5.below E5.out _ _ _ _ O4.out).mono (b := w1.heap.size) (by omega))
  have q5 := Lib.hid ((K5.below E7.out _ _ _ _ O5.out).mono (b := w1.heap.size) (by omega))
  have q6 := Lib.hid ((K5.below E7.out _ _ _ _ O6.out).mono (b := w1.heap.size) (by omega))
  have q7 := Lib.hid ((K5.below E7.out _ _ _ _ O7.out).mono (b := w1.heap.size) (by omega))
  have q8 := Lib.hid ((K5.below E9.out _ _ _ _ O8.out).mono (b := w1.heap.size) (by omega))
  have q9 := Lib.hid ((K5.below E9.out _ _ _ _ O9.out).mono (b := w1.heap.size) (by omega))
  have q10 := Lib.hid ((K5.below E12.out _ _ _ _ O10.out).mono (b := w1.heap.size) (by omega))
  have q11 := Lib.hid ((K5.below E12.out _ _ _ _ O11.out).mono (b := w1.heap.size) (by omega))
  have q12 := Lib.hid ((K5.below E12.out _ _ _ _ O12.out).mono (b := w1.heap.size) (by omega))
  have q13 := Lib.hid ((K5.below E12.out _ _ _ _ O13.out).mono (b := w1.heap.size) (by omega))
  have k3 := (E5.out.cell (p := ⟨gxk, 0, none⟩) C3.out.1).trans C3.out.2
  have k4 := (E5.out.cell (p := ⟨gxv, 0, none⟩) C4.out.1).trans C4.out.2
  have k5 := (E7.out.cell (p := ⟨gak, 1, none⟩) C5.out.1).trans C5.out.2
  have k6 := (E7.out.cell (p := ⟨gav, 0, none⟩) C6.out.1).trans C6.out.2
  have k7 := (E7.out.cell (p := ⟨gav, 1, none⟩) C7.out.1).trans C7.out.2
  have k8 := (E9.out.cell (p := ⟨gbk, 0, none⟩) C8.out.1).trans C8.out.2
  have k9 := (E9.out.cell (p := ⟨gbv, 0, none⟩) C9.out.1).trans C9.out.2
  have k10 := (E12.out.cell (p := ⟨gck, 0, none⟩) C10.out.1).trans C10.out.2
  have k11 := (E12.out.cell (p := ⟨gck, 1, none⟩) C11.out.1).trans C11.out.2
  have k12 := (E12.out.cell (p := ⟨gcv, 0, none⟩) C12.out.1).trans C12.out.2
  have k13 := (E12.out.cell (p := ⟨gcv, 1, none⟩) C13.out.1).trans C13.out.2
  have mx1 := rc_cell 1 (.slice (some ⟨gxk, 0, none⟩) 1 cK) ((E6.out.block _ (lt_of_heap BX.out)).trans BX.out) rfl; have mx2 := rc_cell 2 (.slice (some ⟨gxv, 0, none⟩) 1 cV) ((E6.out.block _ (lt_of_heap BX.out)).trans BX.out) rfl
  have ma1 := rc_cell 1 (.slice (some ⟨gak, 0, none⟩) 2 c1') ((E8.out.block _ (lt_of_heap BA.out)).trans BA.out) rfl; have ma2 := rc_cell 2 (.slice (some ⟨gav, 0, none⟩) 2 c2') ((E8.out.block _ (lt_of_heap BA.out)).trans BA.out) rfl
  have mb1 := rc_cell 1 (.slice (some ⟨gbk, 0, none⟩) 1 c1b) ((E10.out.block _ (lt_of_heap BB.out)).trans BB.out) rfl; have mb2 := rc_cell 2 (.slice (some ⟨gbv, 0, none⟩) 1 c2b) ((E10.out.block _ (lt_of_heap BB.out)).trans BB.out) rfl
  have mc1 := rc_cell 1 (.slice (some ⟨gck, 0, none⟩) 2 c1c) BC.out rfl; have mc2 := rc_cell 2 (.slice (some ⟨gcv, 0, none⟩) 2 c2c) BC.out rfl
  have HDI : Hid (Dist [((some ⟨w1.heap.size, 0, none⟩ : Option Addr), xs.length + 33, xs.length + 33), ((some ⟨w2.heap.size, 0, none⟩ : Option Addr), ys.length + 33, ys.length + 33), (BP, 512, cP), (P3, xs.length, p3), (P4, ys.length, p4), (P5, xs.length, p5), (P6, ys.length, p6), (P7, ys.length, p7), (P8, xs.length, p8), (P9, ys.length, p9), (P10, xs.length, p10), (P11, xs.length, p11), (P12, ys.length, p12), (P13, ys.length, p13)]) := Lib.hid (by
    refine dist_grpL (thrL w1.heap.size w2.heap.size y3.heap.size w4.heap.size y5.heap.size y6.heap.size y8.heap.size w9.heap.size) grpL ?_ ?_ ?_
    · intro j
      match j with
      | 0 => simp only [thrL]; omega
      | 1 => simp only [thrL]; omega
      | 2 => simp only [thrL]; omega
      | 3 => simp only [thrL]; omega
      | 4 => simp only [thrL]; omega
      | 5 => simp only [thrL]; omega
      | 6 => simp only [thrL]; omega
      | (j + 7) => exact Nat.le_refl _
    · intro j B' m' d' he b hb
      match j, he with
      | 0, he =>
        simp only [List.getElem?_cons_zero, Option.some.injEq, Prod.mk.injEq] at he
        obtain ⟨rfl, rfl, rfl⟩ := he
        have := HR0.out b hb; simp only [thrL, grpL]; omega
      | 1, he =>
        simp only [List.getElem?_cons_succ, List.getElem?_cons_zero, Option.some.injEq, Prod.mk.injEq] at he
        obtain ⟨rfl, rfl, rfl⟩ := he
        have := HR1.out b hb; simp only [thrL, grpL]; omega
      | 2, he =>
        simp only [List.getElem?_cons_succ, List.getElem?_cons_zero, Option.some.injEq, Prod.mk.injEq] at he
        obtain ⟨rfl, rfl, rfl⟩ := he
        have := HRP.out b hb; simp only [thrL, grpL]; omega
      | 3, he =>
        simp only [List.getElem?_cons_succ, List.getElem?_cons_zero, Option.some.injEq, Prod.mk.injEq] at he
        obtain ⟨rfl, rfl, rfl⟩ := he
        have := O3.out.lies b hb; simp only [thrL, grpL]; omega
      | 4, he =>
        simp only [List.getElem?_cons_succ, List.getElem?_cons_zero, Option.some.injEq, Prod.mk.injEq] at he
        obtain ⟨rfl, rfl, rfl⟩ := he
        have := O4.out.lies b hb; simp only [thrL, grpL]; omega
      | 5, he =>
        simp only [List.getElem?_cons_succ, List.getElem?_cons_zero, Option.some.injEq, Prod.mk.injEq] at he
        obtain ⟨rfl, rfl, rfl⟩ := he
        have := O5.out.lies b hb; simp only [thrL, grpL]; omega
      | 6, he =>
        simp only [List.getElem?_cons_succ, List.getElem?_cons_zero, Option.some.injEq, Prod.mk.injEq] at he
        obtain ⟨rfl, rfl, rfl⟩ := he
        have := O6.out.lies b hb; simp only [thrL, grpL]; omega
      | 7, he =>
        simp only [List.getElem?_cons_succ, List.getElem?_cons_zero, Option.some.injEq, Prod.mk.injEq] at he
        obtain ⟨rfl, rfl, rfl⟩ := he
        have := O7.out.lies b hb; simp only [thrL, grpL]; omega
      | 8, he =>
        simp only [List.getElem?_cons_succ, List.getElem?_cons_zero, Option.some.injEq, Prod.mk.injEq] at he
        obtain ⟨rfl, rfl, rfl⟩ := he
        have := O8.out.lies b hb; simp only [thrL, grpL]; omega
      | 9, he =>
        simp only [List.getElem?_cons_succ, List.getElem?_cons_zero, Option.some.injEq, Prod.mk.injEq] at he
        obtain ⟨rfl, rfl, rfl⟩ := he
        have := O9.out.lies b hb; simp only [thrL, grpL]; omega
      | 10, he =>
        simp only [List.getElem?_cons_succ, List.getElem?_cons_zero, Option.some.injEq, Prod.mk.injEq] at he
        obtain ⟨rfl, rfl, rfl⟩ := he
        have := O10.out.lies b hb; simp only [thrL, grpL]; omega
      | 11, he =>
        simp only [List.getElem?_cons_succ, List.getElem?_cons_zero, Option.some.injEq, Prod.mk.injEq] at he
        obtain ⟨rfl, rfl, rfl⟩ := he
        have := O11.out.lies b hb; simp only [thrL, grpL]; omega
      | 12, he =>
        simp only [List.getElem?_cons_succ, List.getElem?_cons_zero, Option.some.injEq, Prod.mk.injEq] at he
        obtain ⟨rfl, rfl, rfl⟩ := he
        have := O12.out.lies b hb; simp only [thrL, grpL]; omega
      | 13, he =>
        simp only [List.getElem?_cons_succ, List.getElem?_cons_zero, Option.some.injEq, Prod.mk.injEq] at he
        obtain ⟨rfl, rfl, rfl⟩ := he
        have := O13.out.lies b hb; simp only [thrL, grpL]; omega
      | (j + 14), he => simp at he
    · intro i j X' n' c' Y' m' d' hi hj hne hg
      have hi14 : i < 14 := (List.getElem?_eq_some_iff.1 hi).1
      have hj14 : j < 14 := (List.getElem?_eq_some_iff.1 hj).1
      have hcase : (i = 3 ∧ j = 4) ∨ (i = 4 ∧ j = 3) ∨ (i = 5 ∧ j = 6) ∨ (i = 6 ∧ j = 5) ∨ (i = 5 ∧ j = 7) ∨ (i = 7 ∧ j = 5) ∨ (i = 6 ∧ j = 7) ∨ (i = 7 ∧ j = 6) ∨ (i = 8 ∧ j = 9) ∨ (i = 9 ∧ j = 8) ∨ (i = 10 ∧ j = 11) ∨ (i = 11 ∧ j = 10) ∨ (i = 12 ∧ j = 13) ∨ (i = 13 ∧ j = 12) ∨ (i = 10 ∧ j = 12) ∨ (i = 12 ∧ j = 10) ∨ (i = 10 ∧ j = 13) ∨ (i = 13 ∧ j = 10) ∨ (i = 11 ∧ j = 12) ∨ (i = 12 ∧ j = 11) ∨ (i = 11 ∧ j = 13) ∨ (i = 13 ∧ j = 11) := by
        have key : ∀ i j : Fin 14, i.1 ≠ j.1 → grpL i.1 = grpL j.1 → (i.1 = 3 ∧ j.1 = 4) ∨ (i.1 = 4 ∧ j.1 = 3) ∨ (i.1 = 5 ∧ j.1 = 6) ∨ (i.1 = 6 ∧ j.1 = 5) ∨ (i.1 = 5 ∧ j.1 = 7) ∨ (i.1 = 7 ∧ j.1 = 5) ∨ (i.1 = 6 ∧ j.1 = 7) ∨ (i.1 = 7 ∧ j.1 = 6) ∨ (i.1 = 8 ∧ j.1 = 9) ∨ (i.1 = 9 ∧ j.1 = 8) ∨ (i.1 = 10 ∧ j.1 = 11) ∨ (i.1 = 11 ∧ j.1 = 10) ∨ (i.1 = 12 ∧ j.1 = 13) ∨ (i.1 = 13 ∧ j.1 = 12) ∨ (i.1 = 10 ∧ j.1 = 12) ∨ (i.1 = 12 ∧ j.1 = 10) ∨ (i.1 = 10 ∧ j.1 = 13) ∨ (i.1 = 13 ∧ j.1 = 10) ∨ (i.1 = 11 ∧ j.1 = 12) ∨ (i.1 = 12 ∧ j.1 = 11) ∨ (i.1 = 11 ∧ j.1 = 13) ∨ (i.1 = 13 ∧ j.1 = 11) := by decide
        exact key ⟨i, hi14⟩ ⟨j, hj14⟩ hne hg
      rcases hcase with ⟨rfl, rfl⟩ | ⟨rfl, rfl⟩ | ⟨rfl, rfl⟩ | ⟨rfl, rfl⟩ | ⟨rfl, rfl⟩ | ⟨rfl, rfl⟩ | ⟨rfl, rfl⟩ | ⟨rfl, rfl⟩ | ⟨rfl, rfl⟩ | ⟨rfl, rfl⟩ | ⟨rfl, rfl⟩ | ⟨rfl, rfl⟩ | ⟨rfl, rfl⟩ | ⟨rfl, rfl⟩ | ⟨rfl, rfl⟩ | ⟨rfl, rfl⟩ | ⟨rfl, rfl⟩ | ⟨rfl, rfl⟩ | ⟨rfl, rfl⟩ | ⟨rfl, rfl⟩ | ⟨rfl, rfl⟩ | ⟨rfl, rfl⟩
      · simp only [List.getElem?_cons_succ, List.getElem?_cons_zero, Option.some.injEq, Prod.mk.injEq] at hi hj
        obtain ⟨rfl, rfl, rfl⟩ := hi
        obtain ⟨rfl, rfl, rfl⟩ := hj
        exact D34.out
      · simp only [List.getElem?_cons_succ, List.getElem?_cons_zero, Option.some.injEq, Prod.mk.injEq] at hi hj
        obtain ⟨rfl, rfl, rfl⟩ := hi
        obtain ⟨rfl, rfl, rfl⟩ := hj
        exact dist_symm D34.out
      · simp only [List.getElem?_cons_succ, List.getElem?_cons_zero, Option.some.injEq, Prod.mk.injEq] at hi hj
        obtain ⟨rfl, rfl, rfl⟩ := hi
        obtain ⟨rfl, rfl, rfl⟩ := hj
        exact D56.out
      · simp only [List.getElem?_cons_succ, List.getElem?_cons_zero, Option.some.injEq, Prod.mk.injEq] at hi hj
        obtain ⟨rfl, rfl, rfl⟩ := hi
        obtain ⟨rfl, rfl, rfl⟩ := hj
        exact dist_symm D56.out
      · simp only [List.getElem?_cons_succ, List.getElem?_cons_zero, Option.some.injEq, Prod.mk.injEq] at hi hj
        obtain ⟨rfl, rfl, rfl⟩ := hi
        obtain ⟨rfl, rfl, rfl⟩ := hj
        exact D57.out
      · simp only [List.getElem?_cons_succ, List.getElem?_cons_zero, Option.some.injEq, Prod.mk.injEq] at hi hj
        obtain ⟨rfl, rfl, rfl⟩ := hi
        obtain ⟨rfl, rfl, rfl⟩ := hj
        exact dist_symm D57.out
      · simp only [List.getElem?_cons_succ, List.getElem?_cons_zero, Option.some.injEq, Prod.mk.injEq] at hi hj
        obtain ⟨rfl, rfl, rfl⟩ := hi
        obtain ⟨rfl, rfl, rfl⟩ := hj
        exact D67.out
      · simp only [List.getElem?_cons_succ, List.getElem?_cons_zero, Option.some.injEq, Prod.mk.injEq] at hi hj
        obtain ⟨rfl, rfl, rfl⟩ := hi
        obtain ⟨rfl, rfl, rfl⟩ := hj
        exact dist_symm D67.out
      · simp only [List.getElem?_cons_succ, List.getElem?_cons_zero, Option.some.injEq, Prod.mk.injEq] at hi hj
        obtain ⟨rfl, rfl, rfl⟩ := hi
        obtain ⟨rfl, rfl, rfl⟩ := hj
        exact D89.out
      · simp only [List.getElem?_cons_succ, List.getElem?_cons_zero, Option.some.injEq, Prod.mk.injEq] at hi hj
        obtain ⟨rfl, rfl, rfl⟩ := hi
        obtain ⟨rfl, rfl, rfl⟩ := hj
        exact dist_symm D89.out
      · simp only [List.getElem?_cons_succ, List.getElem?_cons_zero, Option.some.injEq, Prod.mk.injEq] at hi hj
        obtain ⟨rfl, rfl, rfl⟩ := hi
        obtain ⟨rfl, rfl, rfl⟩ := hj
        exact D1011.out
      · simp only [List.getElem?_cons_succ, List.getElem?_cons_zero, Option.some.injEq, Prod.mk.injEq] at hi hj
        obtain ⟨rfl, rfl, rfl⟩ := hi
        obtain ⟨rfl, rfl, rfl⟩ := hj
        exact dist_symm D1011.out
      · simp only [List.getElem?_cons_succ, List.getElem?_cons_zero, Option.some.injEq, Prod.mk.injEq] at hi hj
        obtain ⟨rfl, rfl, rfl⟩ := hi
        obtain ⟨rfl, rfl, rfl⟩ := hj
        exact D1213.out
      · simp only [List.getElem?_cons_succ, List.getElem?_cons_zero, Option.some.injEq, Prod.mk.injEq] at hi hj
        obtain ⟨rfl, rfl, rfl⟩ := hi
        obtain ⟨rfl, rfl, rfl⟩ := hj
        exact dist_symm D1213.out
      · simp only [List.getElem?_cons_succ, List.getElem?_cons_zero, Option.some.injEq, Prod.mk.injEq] at hi hj
        obtain ⟨rfl, rfl, rfl⟩ := hi
        obtain ⟨rfl, rfl, rfl⟩ := hj
        exact D1012.out
      · simp only [List.getElem?_cons_succ, List.getElem?_cons_zero, Option.some.injEq, Prod.mk.injEq] at hi hj
        obtain ⟨rfl, rfl, rfl⟩ := hi
        obtain ⟨rfl, rfl, rfl⟩ := hj
        exact dist_symm D1012.out
      · simp only [List.getElem?_cons_succ, List.getElem?_cons_zero, Option.some.injEq, Prod.mk.injEq] at hi hj
        obtain ⟨rfl, rfl, rfl⟩ := hi
        obtain ⟨rfl, rfl, rfl⟩ := hj
        exact D1013.out
      · simp only [List.getElem?_cons_succ, List.getElem?_cons_zero, Option.some.injEq, Prod.mk.injEq] at hi hj
        obtain ⟨rfl, rfl, rfl⟩ := hi
        obtain ⟨rfl, rfl, rfl⟩ := hj
        exact dist_symm D1013.out
      · simp only [List.getElem?_cons_succ, List.getElem?_cons_zero, Option.some.injEq, Prod.mk.injEq] at hi hj
        obtain ⟨rfl, rfl, rfl⟩ := hi
        obtain ⟨rfl, rfl, rfl⟩ := hj
        exact D1112.out
      · simp only [List.getElem?_cons_succ, List.getElem?_cons_zero, Option.some.injEq, Prod.mk.injEq] at hi hj
        obtain ⟨rfl, rfl, rfl⟩ := hi
        obtain ⟨rfl, rfl, rfl⟩ := hj
        exact dist_symm D1112.out
      · simp only [List.getElem?_cons_succ, List.getElem?_cons_zero, Option.some.injEq, Prod.mk.injEq] at hi hj
        obtain ⟨rfl, rfl, rfl⟩ := hi
        obtain ⟨rfl, rfl, rfl⟩ := hj
        exact D1113.out
      · simp only [List.getElem?_cons_succ, List.getElem?_cons_zero, Option.some.injEq, Prod.mk.injEq] at hi hj
        obtain ⟨rfl, rfl, rfl⟩ := hi
        obtain ⟨rfl, rfl, rfl⟩ := hj
        exact dist_symm D1113.out)
  have HOW : Hid (∀ (W : World), Dr y9 W → ∀ (j : Nat) (B' : Option Addr) (m' d' : Nat), [((some ⟨w1.heap.size, 0, none⟩ : Option Addr), xs.length + 33, xs.length + 33), ((some ⟨w2.heap.size, 0, none⟩ : Option Addr), ys.length + 33, ys.length + 33), (BP, 512, cP), (P3, xs.length, p3), (P4, ys.length, p4), (P5, xs.length, p5), (P6, ys.length, p6), (P7, ys.length, p7), (P8, xs.length, p8), (P9, ys.length, p9), (P10, xs.length, p10), (P11, xs.length, p11), (P12, ys.length, p12), (P13, ys.length, p13)][j]? = some (B', m', d') → (∃ zs, Own (W.alloc (.cells #[.slice (some ⟨w1.heap.size, 0, none⟩) (xs.length + 33) (xs.length + 33), .slice (some ⟨w2.heap.size, 0, none⟩) (ys.length + 33) (ys.length + 33), .slice BP (512) (cP), .slice P3 (xs.length) (p3), .slice P4 (ys.length) (p4), .slice P5 (xs.length) (p5), .slice P6 (ys.length) (p6), .slice P7 (ys.length) (p7), .slice P8 (xs.length) (p8), .slice P9 (ys.length) (p9), .slice P10 (xs.length) (p10), .slice P11 (xs.length) (p11), .slice P12 (ys.length) (p12), .slice P13 (ys.length) (p13)] 28)) w1.heap.size 5 B' m' d' (By zs) ∧ Ran zs) ∧ m' ≤ 1000000000) := Lib.hid (by
    intro W hW j B' m' d' he
    match j, he with
      | 0, he =>
        simp only [List.getElem?_cons_zero, Option.some.injEq, Prod.mk.injEq] at he
        obtain ⟨rfl, rfl, rfl⟩ := he
        exact ⟨⟨_, ((qX.out).dr hW).alloc _, sp_ran HXR.out⟩, by omega⟩
      | 1, he =>
        simp only [List.getElem?_cons_succ, List.getElem?_cons_zero, Option.some.injEq, Prod.mk.injEq] at he
        obtain ⟨rfl, rfl, rfl⟩ := he
        exact ⟨⟨_, ((qY.out).dr hW).alloc _, sp_ran HYR.out⟩, by omega⟩
      | 2, he =>
        simp only [List.getElem?_cons_succ, List.getElem?_cons_zero, Option.some.injEq, Prod.mk.injEq] at he
        obtain ⟨rfl, rfl, rfl⟩ := he
        exact ⟨⟨_, ((qP.out).dr hW).alloc _, HRR.out⟩, by omega⟩
      | 3, he =>
        simp only [List.getElem?_cons_succ, List.getElem?_cons_zero, Option.some.injEq, Prod.mk.injEq] at he
        obtain ⟨rfl, rfl, rfl⟩ := he
        exact ⟨⟨_, ((q3.out).dr hW).alloc _, HXR.out⟩, by omega⟩
      | 4, he =>
        simp only [List.getElem?_cons_succ, List.getElem?_cons_zero, Option.some.injEq, Prod.mk.injEq] at he
        obtain ⟨rfl, rfl, rfl⟩ := he
        exact ⟨⟨_, ((q4.out).dr hW).alloc _, HYR.out⟩, by omega⟩
      | 5, he =>
        simp only [List.getElem?_cons_succ, List.getElem?_cons_zero, Option.some.injEq, Prod.mk.injEq] at he
        obtain ⟨rfl, rfl, rfl⟩ := he
        exact ⟨⟨_, ((q5.out).dr hW).alloc _, HXR.out⟩, by omega⟩
      | 6, he =>
        simp only [List.getElem?_cons_succ, List.getElem?_cons_zero, Option.some.injEq, Prod.mk.injEq] at he
        obtain ⟨rfl, rfl, rfl⟩ := he
        exact ⟨⟨_, ((q6.out).dr hW).alloc _, HYR.out⟩, by omega⟩
      | 7, he =>
        simp only [List.getElem?_cons_succ, List.getElem?_cons_zero, Option.some.injEq, Prod.mk.injEq] at he
        obtain ⟨rfl, rfl, rfl⟩ := he
        exact ⟨⟨_, ((q7.out).dr hW).alloc _, HYR.out⟩, by omega⟩
      | 8, he =>
        simp only [List.getElem?_cons_succ, List.getElem?_cons_zero, Option.some.injEq, Prod.mk.injEq] at he
        obtain ⟨rfl, rfl, rfl⟩ := he
        exact ⟨⟨_, ((q8.out).dr hW).alloc _, HXR.out⟩, by omega⟩
      | 9, he =>
        simp only [List.getElem?_cons_succ, List.getElem?_cons_zero, Option.some.injEq, Prod.mk.injEq] at he
        obtain ⟨rfl, rfl, rfl⟩ := he
        exact ⟨⟨_, ((q9.out).dr hW).alloc _, HYR.out⟩, by omega⟩
      | 10, he =>
        simp only [List.getElem?_cons_succ, List.getElem?_cons_zero, Option.some.injEq, Prod.mk.injEq] at he
        obtain ⟨rfl, rfl, rfl⟩ := he
        exact ⟨⟨_, ((q10.out).dr hW).alloc _, HXR.out⟩, by omega⟩
      | 11, he =>
        simp only [List.getElem?_cons_succ, List.getElem?_cons_zero, Option.some.injEq, Prod.mk.injEq] at he
        obtain ⟨rfl, rfl, rfl⟩ := he
        exact ⟨⟨_, ((q11.out).dr hW).alloc _, HXR.out⟩, by omega⟩
      | 12, he =>
        simp only [List.getElem?_cons_succ, List.getElem?_cons_zero, Option.some.injEq, Prod.mk.injEq] at he
        obtain ⟨rfl, rfl, rfl⟩ := he
        exact ⟨⟨_, ((q12.out).dr hW).alloc _, HYR.out⟩, by omega⟩
      | 13, he =>
        simp only [List.getElem?_cons_succ, List.getElem?_cons_zero, Option.some.injEq, Prod.mk.injEq] at he
        obtain ⟨rfl, rfl, rfl⟩ := he
        exact ⟨⟨_, ((q13.out).dr hW).alloc _, HYR.out⟩, by omega⟩
      | (j + 14), he => simp at he)
  have hsw := E3.out.size; have HS9 := Lib.hid (show w1.heap.size ≤ y9.heap.size by omega); have HS1 := Lib.hid hs1
  have bsX := (qX.out).bs (sp_ran HXR.out); have bsY := (qY.out).bs (sp_ran HYR.out); have hx9 := HX.out.keep HBE.out; have hy9 := HY.out.keep HBE.out
  clear qX qY qP q3 q4 q5 q6 q7 q8 q9 q10 q11 q12 q13 OX OY OP O3 C3 O4 C4 O5 C5 O6 C6 O7 C7 O8 C8 O9 C9 O10 C10 O11 C11 O12 C12 O13 C13 D34 D56 D57 D67 D89 D1011 D1213 D1012 D1013 D1112 D1113 BX BA BB BC E3 E4 E5 E6 E7 E8 E9 E10 E11 E12 HR0 HR1 HRP TY HPX HPY HC HRR HR
  clear hs1 hs2 hs3 hs4 hs5 hs6 hs7 hs8 hs9 hs10 hs11 hs12 hs13 hs14 hsw hRL hcP
  go_wp2_with fail
  refine (kept_any _ _ xs.length _ _ xs _ bsX hx9 (by omega)).mono ?_
  rintro e w10 ⟨rfl, hd10⟩
  go_wp2_with fail
  refine (kept_any _ _ ys.length _ _ ys _ (bsY.dr hd10) (hy9.dr hd10) (by omega)).mono ?_
  rintro e w11 ⟨rfl, hd11⟩
  replace hd11 := hd10.trans hd11
  replace k3 := (dr_cellL hd11 _).trans k3
  replace k4 := (dr_cellL hd11 _).trans k4
  replace k5 := (dr_cellL hd11 _).trans k5
  replace k6 := (dr_cellL hd11 _).trans k6
  replace k7 := (dr_cellL hd11 _).trans k7
  replace k8 := (dr_cellL hd11 _).trans k8
  replace k9 := (dr_cellL hd11 _).trans k9
  replace k10 := (dr_cellL hd11 _).trans k10
  replace k11 := (dr_cellL hd11 _).trans k11
  replace k12 := (dr_cellL hd11 _).trans k12
  replace k13 := (dr_cellL hd11 _).trans k13
  replace mx1 := (dr_cellL hd11 _).trans mx1
  replace mx2 := (dr_cellL hd11 _).trans mx2
  replace ma1 := (dr_cellL hd11 _).trans ma1
  replace ma2 := (dr_cellL hd11 _).trans ma2
  replace mb1 := (dr_cellL hd11 _).trans mb1
  replace mb2 := (dr_cellL hd11 _).trans mb2
  replace mc1 := (dr_cellL hd11 _).trans mc1
  replace mc2 := (dr_cellL hd11 _).trans mc2
  have HD := Lib.hid hd11
  clear hd10 hd11 bsX bsY hx9 hy9
  go_wp2_with fail
  replace k3 : w11.drew.cell? ⟨gxk, 0, none⟩ = some (.slice P3 xs.length p3) := k3
  replace k4 : w11.drew.cell? ⟨gxv, 0, none⟩ = some (.slice P4 ys.length p4) := k4
  replace k5 : w11.drew.cell? ⟨gak, 1, none⟩ = some (.slice P5 xs.length p5) := k5
  replace k6 : w11.drew.cell? ⟨gav, 0, none⟩ = some (.slice P6 ys.length p6) := k6
  replace k7 : w11.drew.cell? ⟨gav, 1, none⟩ = some (.slice P7 ys.length p7) := k7
  replace k8 : w11.drew.cell? ⟨gbk, 0, none⟩ = some (.slice P8 xs.length p8) := k8
  replace k9 : w11.drew.cell? ⟨gbv, 0, none⟩ = some (.slice P9 ys.length p9) := k9
  replace k10 : w11.drew.cell? ⟨gck, 0, none⟩ = some (.slice P10 xs.length p10) := k10
  replace k11 : w11.drew.cell? ⟨gck, 1, none⟩ = some (.slice P11 xs.length p11) := k11
  replace k12 : w11.drew.cell? ⟨gcv, 0, none⟩ = some (.slice P12 ys.length p12) := k12
  replace k13 : w11.drew.cell? ⟨gcv, 1, none⟩ = some (.slice P13 ys.length p13) := k13
  replace mx1 : w11.drew.cell? ⟨w5.heap.size, 1, none⟩ = some (.slice (some ⟨gxk, 0, none⟩) 1 cK) := mx1
  replace mx2 : w11.drew.cell? ⟨w5.heap.size, 2, none⟩ = some (.slice (some ⟨gxv, 0, none⟩) 1 cV) := mx2
  replace ma1 : w11.drew.cell? ⟨w6.heap.size, 1, none⟩ = some (.slice (some ⟨gak, 0, none⟩) 2 c1') := ma1
  replace ma2 : w11.drew.cell? ⟨w6.heap.size, 2, none⟩ = some (.slice (some ⟨gav, 0, none⟩) 2 c2') := ma2
  replace mb1 : w11.drew.cell? ⟨w7.heap.size, 1, none⟩ = some (.slice (some ⟨gbk, 0, none⟩) 1 c1b) := mb1
  replace mb2 : w11.drew.cell? ⟨w7.heap.size, 2, none⟩ = some (.slice (some ⟨gbv, 0, none⟩) 1 c2b) := mb2
  replace mc1 : w11.drew.cell? ⟨w9.heap.size, 1, none⟩ = some (.slice (some ⟨gck, 0, none⟩) 2 c1c) := mc1
  replace mc2 : w11.drew.cell? ⟨w9.heap.size, 2, none⟩ = some (.slice (some ⟨gcv, 0, none⟩) 2 c2c) := mc2
  go_still_tail 47, (by kernel_rfl)
  change wpList _ _ _ _ _ w11.drew
  have HD2 : Hid (Dr y9 w11.drew) := Lib.hid (HD.out.trans ⟨1, rfl⟩)
  clear HD
  generalize w11.drew = wd at *
  clear k3 k4 k5 k6 k7 k8 k9 k10 k11 k12 k13 mx1 mx2 ma1 ma2 mb1 mb2 mc1 mc2
  go_wp2_with fail
  have hsd := HD2.out.size; have h19 := HS9.out; have h01 := HS1.out
  refine (apart_any wd.heap.size 14 w1.heap.size [((some ⟨w1.heap.size, 0, none⟩ : Option Addr), xs.length + 33, xs.length + 33), ((some ⟨w2.heap.size, 0, none⟩ : Option Addr), ys.length + 33, ys.length + 33), (BP, 512, cP), (P3, xs.length, p3), (P4, ys.length, p4), (P5, xs.length, p5), (P6, ys.length, p6), (P7, ys.length, p7), (P8, xs.length, p8), (P9, ys.length, p9), (P10, xs.length, p10), (P11, xs.length, p11), (P12, ys.length, p12), (P13, ys.length, p13)] _ ⟨_, _, heap_alloc_new wd _, rfl⟩ rfl (by omega) (HOW.out wd HD2.out) HDI.out (Nat.le_trans (show w1.heap.size ≤ wd.heap.size by omega) (below_alloc wd _).size)).mono ?_
  rintro e w' ⟨rfl, hoth⟩
  have hbW : Below w.heap.size w (wd.alloc (.cells #[.slice (some ⟨w1.heap.size, 0, none⟩) (xs.length + 33) (xs.length + 33), .slice (some ⟨w2.heap.size, 0, none⟩) (ys.length + 33) (ys.length + 33), .slice BP (512) (cP), .slice P3 (xs.length) (p3), .slice P4 (ys.length) (p4), .slice P5 (xs.length) (p5), .slice P6 (ys.length) (p6), .slice P7 (ys.length) (p7), .slice P8 (xs.length) (p8), .slice P9 (ys.length) (p9), .slice P10 (xs.length) (p10), .slice P11 (xs.length) (p11), .slice P12 (ys.length) (p12), .slice P13 (ys.length) (p13)] 28)) := (HBE.out.trans (HD2.out.below _)).trans ((below_alloc wd _).mono (by omega))
  have hfin := hbW.trans (hoth.below (Nat.le_trans (show w.heap.size ≤ wd.heap.size by omega) (below_alloc wd _).size) (fun j B' m' d' he b hb => by
    obtain ⟨⟨zs, oz, _⟩, _⟩ := HOW.out wd HD2.out j B' m' d' he
    have := (oz.lies b hb).1
    omega))
  go_wp2
  go_ret
  exact ⟨rfl, hfin⟩
theorem lkeeps_any (A B : Option Addr) (n m c d : Nat) (xs ys : List Int) (w : World) (hx : Bs w A n xs) (hy : Bs w B m ys) :
    Calls Try.prog 11 #[.slice A n c, .slice B m d] w fun e w' => e = .returned (.bool true) ∧ Below w.heap.size w w' := by
  obtain rfl := hx.len
  obtain rfl := hy.len
  exact lkeeps_walk A B c d xs ys w hx hy
end Go.Proofs.Ytmjjbfcblmmipaa
