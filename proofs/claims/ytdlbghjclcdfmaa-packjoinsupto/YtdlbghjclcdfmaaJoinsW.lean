/- PackJoins: the walk. -/
import Derived.Test.YtdlbghjclcdfmaaAwake
import Derived.Test.YtdlbghjclcdfmaaRefSplit
namespace Go.Proofs.Ytdlbghjclcdfmaa
set_option linter.unusedVariables false
set_option linter.unusedSimpArgs false
open Go.RowKit

set_option maxRecDepth 100000 in
set_option maxHeartbeats 2000000 in
theorem joins_walk (L B : Option Addr) (n m c d : Nat) (xss : List (List Int)) (xs : List Int) (w : World) (hl : Bss w L n xss) (hx : Bs w B m xs) (hmd : m ≤ d)
    (hn : n ≤ 1048576) (hm : m ≤ 1048576) (hs : ∀ t ∈ xss, t.length ≤ 1048576) (hj : (joinL xss).length ≤ 1073741000) :
    Calls Try.prog 4 #[.slice L n c, .slice B m d] w fun e w' => e = .returned (.bool true) ∧ Below w.heap.size w w' := by
  have HL := Lib.hid hl.len
  have HS := Lib.hid hs
  have HJR := Lib.hid (joinL_ran hl)
  have HXR := Lib.hid hx.2
  have HXL := Lib.hid hx.len
  have HSJ := Lib.hid (splitL_join xss (by rw [HL.out]; omega) (fun t ht => by have := HS.out t ht; omega))
  have hnm : n ≤ maxLen := by unfold maxLen; omega
  have hms : ∀ t ∈ xss, t.length ≤ maxLen := fun t ht => by have := HS.out t ht; unfold maxLen; omega
  have HMS := Lib.hid hms; clear hms hs
  obtain ⟨ln, hln⟩ : ∃ ln, (joinL xss).length = ln := ⟨_, rfl⟩
  rw [hln] at hj
  have HLN := Lib.hid hln; clear hln
  have hlnm : ln ≤ maxLen := by unfold maxLen; omega
  go_enter Try.func4, Try.ntmps4
  go_wp2_with fail
  refine (awake_any _).mono ?_
  rintro e w1 ⟨rfl, hb1⟩
  have hl1 := Bss.keep hl hb1; have hx1 := hx.keep hb1
  clear hl hx
  go_wp2_with fail
  refine (copies_any L n c xss _ hl1 hn HS.out).mono ?_
  rintro e w2 ⟨A2, c2, rfl, hp2, hb2'⟩
  have hl2 := Bss.keep hl1 hb2'; have hx2 := hx1.keep hb2'
  have hsz1 := hb1.size
  have hb2 := hb1.trans (hb2'.mono hsz1)
  clear hl1 hx1 hb1 hb2' hsz1
  go_wp2_with fail
  refine (join_any A2 n c2 xss _ hp2.bss hnm (by rw [HLN.out]; omega)).mono ?_
  rintro e w3 ⟨A3, n3, c3, rfl, hn3, ho3, hb3'⟩
  obtain rfl : n3 = ln := hn3.trans HLN.out
  have hl3 := Bss.keep hl2 hb3'; have hx3 := hx2.keep hb3'
  have hsz2 := hb2.size
  have hb3 := hb2.trans (hb3'.mono hsz2)
  have hj3 := ho3.bs HJR.out
  have hcap := ho3.cap
  have hlies := ho3.lies
  clear hn3 hl2 hx2 hb2 hb3' hp2 ho3
  go_wp2_with fail
  refine (split_any A3 n3 c3 _ _ hj3 hcap (fun k hk => (hlies k hk).2) (by omega)).mono ?_
  rw [HSJ.out]
  rintro e w4 ⟨A4, n4, c4, rfl, hn4, hp4, hb4'⟩
  have hl4 := Bss.keep hl3 hb4'; have hx4 := hx3.keep hb4'; have hj4 := hj3.keep hb4'
  have hsz3 := hb3.size
  have hb4 := hb3.trans (hb4'.mono hsz3)
  obtain rfl : n4 = n := hn4.trans HL.out
  clear hn4 hl3 hx3 hj3 hb3 hb4' hlies
  go_wp2_with fail
  refine (rjoin_any L n4 c xss _ hl4 hnm (by rw [HLN.out]; omega)).mono ?_
  rintro e w5 ⟨A5, n5, c5, rfl, hn5, ho5, hb5'⟩
  obtain rfl : n5 = n3 := hn5.trans HLN.out
  have hl5 := Bss.keep hl4 hb5'; have hx5 := hx4.keep hb5'; have hj5 := hj4.keep hb5'; have hp5 := hp4.keep hb5'
  have hsz4 := hb4.size
  have hb5 := hb4.trans (hb5'.mono hsz4)
  have hr5 := ho5.bs HJR.out
  clear hn5 hl4 hx4 hj4 hp4 hb4 hb5' ho5
  go_wp2_with fail
  refine (equal_is A3 A5 n5 n5 c3 c5 _ _ true (by rw [cmpL_self]; rfl) _ hj5 hr5 hlnm hlnm).mono ?_
  rintro e w6 ⟨rfl, hd6⟩
  have hb6 := hb5.trans (hd6.below _)
  have hl6 := Bss.keep hl5 (hd6.below _); have hx6 := hx5.dr hd6; have hp6 := hp5.keep (hd6.below _)
  clear hl5 hx5 hj5 hr5 hp5 hb5 hd6
  go_wp2_with fail
  refine (equals_any A4 L n4 n4 c4 c xss xss _ hp6.bss hl6 hnm hnm HMS.out HMS.out).mono ?_
  rintro e w7 ⟨rfl, hd7⟩
  have hb7 := hb6.trans (hd7.below _)
  have hx7 := hx6.dr hd7
  rw [show decide (xss = xss) = true from decide_eq_true rfl]
  clear hl6 hp6 hb6 hx6 hd7
  go_wp2_with fail
  refine (copy_any B m d xs _ hx7 (by omega)).mono ?_
  rintro e w8 ⟨A8, c8, rfl, ho8, hb8'⟩
  have hx8 := hx7.keep hb8'
  have hsz7 := hb7.size
  have hb8 := hb7.trans (hb8'.mono hsz7)
  have hy8 := ho8.bs HXR.out
  have hcap8 := ho8.cap
  have hlies8 := ho8.lies
  clear hx7 hb7 hb8' ho8
  have hsp := splitL_size xs HXR.out
  rw [HXL.out] at hsp
  have HINV := Lib.hid (fun l h => splitL_inv xs l HXR.out h)
  obtain ⟨sl, se, hse⟩ : ∃ sl se, splitL xs = (sl, se) := ⟨_, _, rfl⟩
  have HSE := Lib.hid hse
  rw [hse] at hsp
  have HSP := Lib.hid hsp
  clear hse hsp
  go_wp2_with fail
  refine (split_any A8 m c8 xs _ hy8 hcap8 (fun k hk => (hlies8 k hk).2) (by omega)).mono ?_
  rw [HSE.out]
  rintro e w9 ⟨A9, n9, c9, rfl, hn9, hp9, hb9'⟩
  have hx9 := hx8.keep hb9'
  have hsz8 := hb8.size
  have hb9 := hb8.trans (hb9'.mono hsz8)
  have HN9 := Lib.hid (show n9 = sl.length from hn9)
  clear hx8 hy8 hb8 hb9' hlies8 hn9
  go_wp2_with fail
  refine (rsplit_any B m d xs _ hx9 hmd (by omega)).mono ?_
  rw [HSE.out]
  rintro e w10 ⟨A10, n10, c10, rfl, hn10, hp10, hb10'⟩
  have hx10 := hx9.keep hb10'; have hq10 := hp9.keep hb10'
  have hsz9 := hb9.size
  have hb10 := hb9.trans (hb10'.mono hsz9)
  obtain rfl : n10 = n9 := Eq.trans hn10 HN9.out.symm
  have hsm := HSP.out
  have hn9b : n10 ≤ 1048576 := by have := HN9.out; omega
  have hsb : ∀ t ∈ sl, t.length ≤ maxLen := fun t ht => by have := hsm.1 t ht; unfold maxLen; omega
  have HSB := Lib.hid hsb
  have hrb := hp10.bss (hb10'.size)
  clear hn10 hp9 hb9 hb10' hx9 hsm hsb hp10
  go_wp2_with fail
  refine (equals_any A9 A10 n10 n10 c9 c10 sl sl _ hq10.bss hrb (by unfold maxLen; omega) (by unfold maxLen; omega) HSB.out HSB.out).mono ?_
  rintro e w11 ⟨rfl, hd11⟩
  rw [show decide (sl = sl) = true from decide_eq_true rfl]
  have hb11 := hb10.trans (hd11.below _)
  have hx11 := hx10.dr hd11; have hq11 := hq10.keep (hd11.below _)
  clear hb10 hx10 hq10 hrb hd11
  by_cases he : se = 0
  · subst he
    have HJ := Lib.hid (HINV.out sl HSE.out)
    have hjl : (joinL sl).length = m := by rw [HJ.out]; exact HXL.out
    have HJL := Lib.hid hjl; clear hjl
    go_wp2_with fail
    refine (join_any A9 n10 c9 sl _ hq11.bss (by unfold maxLen; omega) (by rw [HJL.out]; omega)).mono ?_
    rw [HJ.out]
    rintro e w12 ⟨A12, n12, c12, rfl, hn12, ho12, hb12'⟩
    obtain rfl : n12 = m := hn12.trans HXL.out
    have hx12 := hx11.keep hb12'
    have hsz11 := hb11.size
    have hb12 := hb11.trans (hb12'.mono hsz11)
    have hy12 := ho12.bs HXR.out
    clear hn12 hb11 hx11 hq11 hb12' ho12
    go_wp2_with fail
    refine (equal_is A12 B n12 n12 c12 d xs xs true (by rw [cmpL_self]; rfl) _ hy12 hx12 (by unfold maxLen; omega) (by unfold maxLen; omega)).mono ?_
    rintro e w13 ⟨rfl, hd13⟩
    have hb13 := hb12.trans (hd13.below _)
    clear hx12 hy12 hd13 hb12
    go_wp2
    go_ret
    exact ⟨rfl, hb13⟩
  · have hne : (se != 0) = true := by simpa using he
    clear he hx11 hq11
    go_wp2
    go_ret
    exact ⟨rfl, hb11⟩
end Go.Proofs.Ytdlbghjclcdfmaa
