/- PackOrders: the walk. -/
import Derived.Test.YtdlbghjclcdfmaaAwake
namespace Go.Proofs.Ytdlbghjclcdfmaa
set_option linter.unusedVariables false
set_option linter.unusedSimpArgs false
open Go.RowKit

theorem ran_zero : Ran [0] := by unfold Ran; decide

set_option maxHeartbeats 1000000 in
theorem orders_walk (A B C : Option Addr) (n m l c d f : Nat) (xs ys zs : List Int) (w : World) (hx : Bs w A n xs) (hy : Bs w B m ys) (hz : Bs w C l zs)
    (hn : n ≤ 140737488351232) (hm : m ≤ 140737488351232) (hl : l ≤ 140737488351232) :
    Calls Try.prog 7 #[.slice A n c, .slice B m d, .slice C l f] w fun e w' => e = .returned (.bool true) ∧ Below w.heap.size w w' := by
  have hnm : n ≤ maxLen := by unfold maxLen; omega
  have hmm : m ≤ maxLen := by unfold maxLen; omega
  have hlm : l ≤ maxLen := by unfold maxLen; omega
  have hn1 : n + 1 ≤ maxLen := by unfold maxLen; omega
  have hr := cmpL_range xs ys
  have HS := Lib.hid (cmpL_swap xs ys)
  have HL := Lib.hid (fun h : cmpL xs ys < 0 => cmpL_least (xs := xs) hy.2 h)
  generalize hgx : cmpL xs ys = x at *
  have HX := Lib.hid hgx; clear hgx
  go_enter Try.func7, Try.ntmps7
  go_wp2_with fail
  refine (awake_any _).mono ?_
  rintro e w1 ⟨rfl, hb1⟩
  have hx1 := hx.keep hb1; have hy1 := hy.keep hb1; have hz1 := hz.keep hb1
  clear hx hy hz
  go_wp2_with fail
  refine (compare_any A B n m c d xs ys _ hx1 hy1 hnm hmm).mono ?_
  rintro e w2 ⟨rfl, hd2⟩
  rw [HX.out]
  have hb2 := hb1.trans (hd2.below _)
  have hx2 := hx1.dr hd2; have hy2 := hy1.dr hd2; have hz2 := hz1.dr hd2
  clear hx1 hy1 hz1 hd2 hb1
  go_wp2_with fail
  refine (cmp_any A B n m c d xs ys _ hx2 hy2 hnm hmm).mono ?_
  rintro e w3 ⟨rfl, hd3⟩
  rw [HX.out]
  have hb3 := hb2.trans (hd3.below _)
  have hx3 := hx2.dr hd3; have hy3 := hy2.dr hd3; have hz3 := hz2.dr hd3
  clear hx2 hy2 hz2 hd3 hb2
  go_wp2_with fail
  refine (compare_any B A m n d c ys xs _ hy3 hx3 hmm hnm).mono ?_
  rintro e w4 ⟨rfl, hd4⟩
  rw [HS.out]
  have hb4 := hb3.trans (hd4.below _)
  have hx4 := hx3.dr hd4; have hy4 := hy3.dr hd4; have hz4 := hz3.dr hd4
  clear hx3 hy3 hz3 hd4 hb3
  go_wp2_with fail
  refine (in_any A B C n m l c d f xs ys zs _ hx4 hy4 hz4 hnm hmm hlm).mono ?_
  rintro e w5 ⟨rfl, hd5⟩
  have hb5 := hb4.trans (hd5.below _)
  have hx5 := hx4.dr hd5; have hy5 := hy4.dr hd5; have hz5 := hz4.dr hd5
  clear hx4 hy4 hz4 hd5 hb4
  go_wp2_with fail
  refine (rin_any A B C n m l c d f xs ys zs _ hx5 hy5 hz5 hnm hmm hlm).mono ?_
  rintro e w6 ⟨rfl, hd6⟩
  have hb6 := hb5.trans (hd6.below _)
  have hx6 := hx5.dr hd6; have hy6 := hy5.dr hd6
  clear hx5 hy5 hz5 hd6 hb5
  generalize inL xs ys zs = bb
  go_wp2_with fail
  refine (after_any A n c xs _ hx6 (by omega)).mono ?_
  rintro e w7 ⟨A7, c7, rfl, ho7, hb7'⟩
  have hsz6 := hb6.size
  have hb7 := hb6.trans (hb7'.mono hsz6)
  have hx7 := hx6.keep hb7'; have hy7 := hy6.keep hb7'
  have hrx : Ran (xs ++ [0]) := hx6.2.append ran_zero
  have ha7 := ho7.bs hrx
  have HA := Lib.hid (cmpL_after xs)
  clear hx6 hy6 hb7' ho7 hb6 hsz6
  go_wp2_with fail
  refine (compare_any A A7 n (n + 1) c c7 xs (xs ++ [0]) _ hx7 ha7 hnm hn1).mono ?_
  rintro e w8 ⟨rfl, hd8⟩
  rw [HA.out]
  have hb8 := hb7.trans (hd8.below _)
  have hx8 := hx7.dr hd8; have hy8 := hy7.dr hd8; have ha8 := ha7.dr hd8
  clear hx7 hy7 ha7 hd8 hb7
  go_wp2_with fail
  refine (rafter_any A n c xs _ hx8 (by omega)).mono ?_
  rintro e w9 ⟨A9, c9, rfl, ho9, hb9'⟩
  have hsz8 := hb8.size
  have hb9 := hb8.trans (hb9'.mono hsz8)
  have hy9 := hy8.keep hb9'; have ha9 := ha8.keep hb9'
  have hr9 := ho9.bs hrx
  clear hx8 hy8 ha8 hb9' ho9 hb8 hsz8
  go_wp2_with fail
  refine (equal_any A7 A9 (n + 1) (n + 1) c7 c9 _ _ _ ha9 hr9 hn1 hn1).mono ?_
  rintro e w10 ⟨rfl, hd10⟩
  rw [cmpL_self]
  have hb10 := hb9.trans (hd10.below _)
  have hy10 := hy9.dr hd10; have ha10 := ha9.dr hd10
  clear hy9 ha9 hr9 hd10 hb9
  by_cases hx0 : 0 ≤ x
  · clear hy10 ha10
    go_wp2
    go_ret
    exact ⟨rfl, hb10⟩
  · have hle := HL.out (by omega)
    go_wp2_with fail
    refine (compare_any A7 B (n + 1) m c7 d (xs ++ [0]) ys _ ha10 hy10 hn1 hmm).mono ?_
    rintro e w11 ⟨rfl, hd11⟩
    have hb11 := hb10.trans (hd11.below _)
    clear hy10 ha10 hd11
    go_wp2
    go_ret
    exact ⟨rfl, hb11⟩
end Go.Proofs.Ytdlbghjclcdfmaa
