/- The reference's Unquote. -/
import Derived.Test.YtdlbghjclcdfmaaDoorUnqG
import Derived.Test.YtdlbghjclcdfmaaDoorRQuoteW
namespace Go.Proofs.YtdlbghjclcdfmaaDoor
set_option linter.unusedVariables false
set_option linter.unusedSimpArgs false
open Go.RowKit

def dg (c : Int) : Bool := decide (48 ≤ c ∧ c ≤ 57)
theorem digit_any (c : Int) (w : World) : Calls Tryd.prog 31 #[.int .u8 c] w fun e w' => e = .returned (.bool (dg c)) ∧ w = w' := by
  by_cases h1 : 48 ≤ c
  · by_cases h2 : c ≤ 57
    · have HR := Lib.hid (show dg c = true by simp [dg, h1, h2])
      go_enter Tryd.func31, Tryd.ntmps31
      go_wp2
      go_ret
      exact ⟨ret_bool HR.out.symm, rfl⟩
    · have HR := Lib.hid (show dg c = false by simp [dg]; omega)
      go_enter Tryd.func31, Tryd.ntmps31
      go_wp2
      go_ret
      exact ⟨ret_bool HR.out.symm, rfl⟩
  · have HR := Lib.hid (show dg c = false by simp [dg]; omega)
    go_enter Tryd.func31, Tryd.ntmps31
    go_wp2
    go_ret
    exact ⟨ret_bool HR.out.symm, rfl⟩
theorem hexOf_any (c : Int) (w : World) (h0 : 0 ≤ c) (h1 : c ≤ 255) : Calls Tryd.prog 46 #[.int .u8 c] w fun e w' => e = .returned (.int .i64 (hexV c)) ∧ w = w' := by
  by_cases hd : 48 ≤ c ∧ c ≤ 57
  · have HD : dg c = true := by simp [dg, hd]
    have HR := Lib.hid (show c - 48 = hexV c by unfold hexV; rw [if_pos hd])
    obtain ⟨g1, g2⟩ := hd
    go_enter Tryd.func46, Tryd.ntmps46
    go_wp2_with fail
    refine (digit_any _ _).mono ?_
    rintro e w1 ⟨rfl, rfl⟩
    go_wp2
    go_ret
    exact ⟨ret_int HR.out, rfl⟩
  · have HD : dg c = false := by simp [dg]; omega
    by_cases hx : 97 ≤ c ∧ c ≤ 102
    · have HR := Lib.hid (show c - 97 + 10 = hexV c by unfold hexV; rw [if_neg hd, if_pos hx]; omega)
      obtain ⟨g1, g2⟩ := hx
      clear hd
      go_enter Tryd.func46, Tryd.ntmps46
      go_wp2_with fail
      refine (digit_any _ _).mono ?_
      rintro e w1 ⟨rfl, rfl⟩
      go_wp2
      go_ret
      exact ⟨ret_int HR.out, rfl⟩
    · have HR := Lib.hid (show -1 = hexV c by unfold hexV; rw [if_neg hd, if_neg hx])
      clear hd
      by_cases h9 : 97 ≤ c
      · have h10 : 102 < c := by omega
        clear hx
        go_enter Tryd.func46, Tryd.ntmps46
        go_wp2_with fail
        refine (digit_any _ _).mono ?_
        rintro e w1 ⟨rfl, rfl⟩
        go_wp2
        go_ret
        exact ⟨ret_int HR.out, rfl⟩
      · clear hx
        go_enter Tryd.func46, Tryd.ntmps46
        go_wp2_with fail
        refine (digit_any _ _).mono ?_
        rintro e w1 ⟨rfl, rfl⟩
        go_wp2
        go_ret
        exact ⟨ret_int HR.out, rfl⟩

theorem str_at (l0 : List Int) (i j : Nat) (x : Int) (hx : l0[i + j]? = some x) (h0 : 0 ≤ x) (h1 : x ≤ 255) (W : World) :
    (Instr.index 9 (.string (strOfNums l0)) (.int .i64 ((i : Int) + (j : Int)))).run Tryd.prog W = .ok (.int .u8 x) W := by
  have := str_index (P := Tryd.prog) 9 Tryd.underlying9 l0 (i + j) x hx h0 h1 W
  rw [Int.natCast_add] at this
  exact this

set_option maxRecDepth 100000 in
set_option maxHeartbeats 8000000 in
theorem runquote_any (l0 : List Int) (w : World) (hr : Ran l0) (hn : l0.length ≤ 140737488355328) :
    Calls Tryd.prog 26 #[.string (strOfNums l0)] w fun e w' => ∃ A' n' c', e = .returned (.tuple #[.slice A' n' c', .int .i64 (uq l0).2]) ∧ n' = (uq l0).1.length ∧ Own w' w.heap.size 5 A' n' c' (By (uq l0).1) ∧ Below w.heap.size w w' := by
  obtain ⟨i0, hi, hz0, hz1, hz2⟩ := info_parts info5
  match l0, hr, hn with
  | [], hr, hn =>
    have hsz : (strOfNums []).size = 0 := by rw [strOfNums_size]; rfl
    generalize strOfNums [] = s at *
    go_enter Tryd.func26, Tryd.ntmps26
    go_wp2
    go_ret2
    exact ⟨none, 0, 0, rfl, rfl, Own.nil_, Below.refl _ _⟩
  | c0 :: r0, hr, hn =>
    obtain ⟨hc0, hc1⟩ := hr c0 (by simp)
    have hi0 : ∀ W, (Instr.index 9 (.string (strOfNums (c0 :: r0))) (.int .i64 0)).run Tryd.prog W = .ok (.int .u8 c0) W := str_index 9 Tryd.underlying9 _ 0 c0 rfl hc0 hc1
    have hsz0 : (strOfNums (c0 :: r0)).size = r0.length + 1 := by rw [strOfNums_size]; rfl
    by_cases h34 : c0 = 34
    · have HUQ := Lib.hid (show uqL (r0.length + 1) ((c0 :: r0).drop 1) [] = uq (c0 :: r0) by simp [uq, h34])
      have hi00 : ∀ W, (Instr.index 9 (.string (strOfNums (c0 :: r0))) (.int .i64 0)).run Tryd.prog W = .ok (.int .u8 34) W := fun W => (hi0 W).trans (by rw [h34])
      clear hi0
      have HIX0 : ∀ (i j : Nat) (x : Int), (c0 :: r0)[i + j]? = some x → 0 ≤ x → x ≤ 255 → ∀ W, (Instr.index 9 (.string (strOfNums (c0 :: r0))) (.int .i64 ((i : Int) + (j : Int)))).run Tryd.prog W = .ok (.int .u8 x) W := fun i j x hx h0 h1 W => str_at (c0 :: r0) i j x hx h0 h1 W
      have HIX := Lib.hid HIX0; clear HIX0
      have hnl : (c0 :: r0).length = r0.length + 1 := rfl
      rw [hnl] at hn
      generalize strOfNums (c0 :: r0) = s at *
      generalize hl0 : c0 :: r0 = l0 at *
      have HLL := Lib.hid hnl; clear hnl hl0 h34
      have hpos : 0 < r0.length + 1 := by omega
      generalize r0.length + 1 = NN at *
      have hne0 : ((NN : Int) == 0) = false := by simp; omega
      have hne1 : ¬ NN = 0 := by omega
      have HRR := Lib.hid hr; clear hr
      go_enter Tryd.func26, Tryd.ntmps26
      go_wp2
      go_loopw [4, 5] (fun o iv wr => ∃ (f k i c' : Nat) (A' : Option Addr) (x : List Int), o = .slice A' k c' ∧ iv = .int .i64 i ∧ i ≤ NN ∧ Hid (x.length = k) ∧ NN < i + f ∧ Hid (uqL f (l0.drop i) x = uq l0) ∧ k + 1 ≤ i ∧ Own wr w.heap.size 5 A' k c' (By x) ∧ Below w.heap.size w wr) (fun _ i _ => NN - (intOf i).toNat)
      case atStart => exact ⟨NN, 0, 1, 0, none, [], rfl, rfl, by omega, rfl, by omega, HUQ, by omega, Own.nil_, Below.refl _ _⟩
      case round =>
        clear HUQ hi00
        obtain ⟨f, k, i, c', A', x, rfl, rfl, hiN, HK, hfN, HE, hki, ho, hb⟩ := hrel
        have hsz := hb.size
        obtain ⟨f, rfl⟩ : ∃ f', f = f' + 1 := ⟨f - 1, by omega⟩
        by_cases hlt : i < NN
        · have hdl : (l0.drop i).length = NN - i := by rw [List.length_drop, HLL.out]
          obtain ⟨c, r, hdrop⟩ : ∃ c r, l0.drop i = c :: r := by
            cases hd : l0.drop i with
            | nil => rw [hd] at hdl; simp at hdl; omega
            | cons c r => exact ⟨c, r, rfl⟩
          rw [hdrop] at hdl HE
          simp only [List.length_cons] at hdl
          have hg : ∀ j, l0[i + j]? = (c :: r)[j]? := fun j => by rw [← hdrop, List.getElem?_drop]
          have hds : ∀ j, l0.drop (i + j) = (c :: r).drop j := fun j => by rw [← hdrop, List.drop_drop]
          have HRD : Ran (c :: r) := HRR.out.sub (fun y hy => List.mem_of_mem_drop (by rw [hdrop]; exact hy))
          obtain ⟨hc0', hc1'⟩ := HRD c (by simp)
          have j0 : ∀ W, (Instr.index 9 (.string s) (.int .i64 (i : Int))).run Tryd.prog W = .ok (.int .u8 c) W := fun W => by
            have := HIX.out i 0 c (by rw [hg]; rfl) hc0' hc1' W
            rw [show ((i : Int) + ((0 : Nat) : Int)) = i by omega] at this
            exact this
          have HG := Lib.hid hg
          have HDS := Lib.hid hds
          have HRDH := Lib.hid HRD
          clear hg hds HRD hdrop
          by_cases h34 : c = 34
          · subst h34
            cases r with
            | nil =>
              have hiN1 : i + 1 = NN := by simp at hdl; omega
              have HFIN := Lib.hid (HE.out.symm.trans (show uqL (f + 1) [34] x = (x, 0) by simp [uqL]))
              clear HE HG HDS HRDH hdl
              have hk := HK.out
              have hNi : (NN : Int) - 1 = (i : Int) := by omega
              go_wp2
              go_ret2
              rw [HFIN.out]
              exact ⟨A', k, c', rfl, hk.symm, ho, hb⟩
            | cons a t =>
              have hiN1 : i + 1 < NN := by simp at hdl; omega
              clear HG HDS HRDH hdl
              have HFIN := Lib.hid (HE.out.symm.trans (show uqL (f + 1) (34 :: a :: t) x = ([], 3) by simp [uqL]))
              clear HE
              go_wp2
              go_ret2
              rw [HFIN.out]
              exact ⟨none, 0, 0, rfl, rfl, Own.nil_, hb⟩
          · have n34 : (c == 34) = false := by simpa using h34
            by_cases hp : c < 32 ∨ 126 < c
            · have hpf := pr_false hp
              clear HG HDS HRDH hdl
              rcases hp with hp | hp
              · have HFIN := Lib.hid (HE.out.symm.trans (show uqL (f + 1) (c :: r) x = ([], 3) by simp [uqL, h34, uqb, hpf]))
                clear HE
                go_wp2
                go_ret2
                rw [HFIN.out]
                exact ⟨none, 0, 0, rfl, rfl, Own.nil_, hb⟩
              · have hp3 : 32 ≤ c := by omega
                have HFIN := Lib.hid (HE.out.symm.trans (show uqL (f + 1) (c :: r) x = ([], 3) by simp [uqL, h34, uqb, hpf]))
                clear HE
                go_wp2
                go_ret2
                rw [HFIN.out]
                exact ⟨none, 0, 0, rfl, rfl, Own.nil_, hb⟩
            · have hp1 : 32 ≤ c := by omega
              have hp2 : c ≤ 126 := by omega
              have hpt := pr_true hp1 hp2
              clear hp
              by_cases h92 : c = 92
              · subst h92
                cases r with
                | nil =>
                  have hiN1 : (i : Int) + 1 = (NN : Int) := by simp at hdl; omega
                  clear HG HDS HRDH hdl
                  have HFIN := Lib.hid (HE.out.symm.trans (show uqL (f + 1) ([92]) x = ([], 5) by simp [uqL, uqb, hpt]))
                  clear HE
                  go_wp2
                  go_ret2
                  rw [HFIN.out]
                  exact ⟨none, 0, 0, rfl, rfl, Own.nil_, hb⟩
                | cons d t =>
                  have hiN1 : (i : Int) + 1 < (NN : Int) := by simp at hdl; omega
                  obtain ⟨hd0, hd1⟩ := HRDH.out d (by simp)
                  have j1 : ∀ W, (Instr.index 9 (.string s) (.int .i64 ((i : Int) + 1))).run Tryd.prog W = .ok (.int .u8 d) W := fun W => HIX.out i 1 d (by rw [HG.out]; rfl) hd0 hd1 W
                  by_cases h1 : d = 34
                  · subst h1
                    clear HG HRDH hdl
                    have HE2 := Lib.hid ((show uqL (f + 1) (92 :: 34 :: t) x = uqL f (l0.drop (i + 2)) (x ++ [34]) by rw [HDS.out 2]; simp [uqL, uqb, hpt]).symm.trans HE.out)
                    clear HE
                    have ho2 := ho.alloc (.cells (By [34]).toArray 5)
                    have hr2 := rd_new wr [34]
                    have hbb := hb.alloc hsz (.cells (By [34]).toArray 5)
                    go_wp2_with (at_builtin; refine wpList_append_rd rfl _ _ 36 rfl i0 (.int .u8 0) 1 Tryd.underlying36 hi hz0 hz1 hz2 rfl rfl ho2 (some ⟨wr.heap.size, 0, none⟩) 1 1 (By [34]) rfl hr2 (By_one _) ?c1 ?c2 ?c3 ?_)
                    case c1 => unfold maxLen; omega
                    case c2 => omega
                    case c3 => first | omega | (simp; omega)
                    intro A2 c2 w2 ho3 hg
                    have hb2 := hbb.trans (hg.below (by simp; omega) (fun k hk => (ho.lies k hk).1))
                    rw [← By_append] at ho3
                    clear ho2 hr2 hbb hb ho hg
                    go_wp2
                    go_roundw
                    case rel => exact ⟨f, k + 1, i + 2, c2, A2, x ++ [34], rfl, by go_num, by omega, (by have := HK.out; show (x ++ [34]).length = k + 1; simp; omega), by omega, HE2, by omega, ho3, hb2⟩
                    case measure => simp [intOf]; omega
                  · have n1 : (d == 34) = false := by simpa using h1
                    by_cases h2 : d = 92
                    · subst h2
                      clear HG HRDH hdl
                      have HE2 := Lib.hid ((show uqL (f + 1) (92 :: 92 :: t) x = uqL f (l0.drop (i + 2)) (x ++ [92]) by rw [HDS.out 2]; simp [uqL, uqb, hpt]).symm.trans HE.out)
                      clear HE
                      have ho2 := ho.alloc (.cells (By [92]).toArray 5)
                      have hr2 := rd_new wr [92]
                      have hbb := hb.alloc hsz (.cells (By [92]).toArray 5)
                      go_wp2_with (at_builtin; refine wpList_append_rd rfl _ _ 36 rfl i0 (.int .u8 0) 1 Tryd.underlying36 hi hz0 hz1 hz2 rfl rfl ho2 (some ⟨wr.heap.size, 0, none⟩) 1 1 (By [92]) rfl hr2 (By_one _) ?c1 ?c2 ?c3 ?_)
                      case c1 => unfold maxLen; omega
                      case c2 => omega
                      case c3 => first | omega | (simp; omega)
                      intro A2 c2 w2 ho3 hg
                      have hb2 := hbb.trans (hg.below (by simp; omega) (fun k hk => (ho.lies k hk).1))
                      rw [← By_append] at ho3
                      clear ho2 hr2 hbb hb ho hg
                      go_wp2
                      go_roundw
                      case rel => exact ⟨f, k + 1, i + 2, c2, A2, x ++ [92], rfl, by go_num, by omega, (by have := HK.out; show (x ++ [92]).length = k + 1; simp; omega), by omega, HE2, by omega, ho3, hb2⟩
                      case measure => simp [intOf]; omega
                    · have n2 : (d == 92) = false := by simpa using h2
                      by_cases h3 : d = 120
                      · subst h3
                        cases t with
                        | nil =>
                          have hN2 : (NN : Int) ≤ (i : Int) + 2 := by simp at hdl; omega
                          clear HG HDS HRDH hdl
                          have HFIN := Lib.hid (HE.out.symm.trans (show uqL (f + 1) ([92, 120]) x = ([], 5) by simp [uqL, uqb, hpt, uhx]))
                          clear HE
                          go_wp2
                          refine wp_loop_rounds 3 ?_
                          rw [rounds_succ]
                          go_wp2
                          go_ret2
                          rw [HFIN.out]
                          exact ⟨none, 0, 0, rfl, rfl, Own.nil_, hb⟩
                        | cons a t =>
                          have hN2 : (i : Int) + 2 < (NN : Int) := by simp at hdl; omega
                          obtain ⟨ha0, ha1⟩ := HRDH.out a (by simp)
                          have j2 : ∀ W, (Instr.index 9 (.string s) (.int .i64 ((i : Int) + 2))).run Tryd.prog W = .ok (.int .u8 a) W := fun W => HIX.out i 2 a (by rw [HG.out]; rfl) ha0 ha1 W
                          have hva := hexV_le a
                          by_cases ga : hexV a < 0
                          · clear HG HDS HRDH hdl
                            have hux : uhx (a :: t) = (0, 3) := by cases t <;> simp [uhx, ga]
                            have HFIN := Lib.hid (HE.out.symm.trans (show uqL (f + 1) (92 :: 120 :: a :: t) x = ([], 3) by simp [uqL, uqb, hpt, hux]))
                            clear HE
                            clear hux
                            go_wp2
                            refine wp_loop_rounds 3 ?_
                            rw [rounds_succ]
                            go_wp2_with fail
                            refine (hexOf_any a _ ha0 ha1).mono ?_
                            rintro e w1 ⟨rfl, rfl⟩
                            go_wp2
                            go_ret2
                            rw [HFIN.out]
                            exact ⟨none, 0, 0, rfl, rfl, Own.nil_, hb⟩
                          · have ga2 : 0 ≤ hexV a := by omega
                            cases t with
                            | nil =>
                              have hN3 : (NN : Int) ≤ (i : Int) + 3 := by simp at hdl; omega
                              clear HG HDS HRDH hdl
                              have HFIN := Lib.hid (HE.out.symm.trans (show uqL (f + 1) ([92, 120, a]) x = ([], 5) by simp [uqL, uqb, hpt, uhx, ga]))
                              clear HE
                              go_wp2
                              refine wp_loop_rounds 3 ?_
                              rw [rounds_succ]
                              go_wp2_with fail
                              refine (hexOf_any a _ ha0 ha1).mono ?_
                              rintro e w1 ⟨rfl, rfl⟩
                              go_wp2
                              rw [rounds_succ]
                              go_wp2
                              go_ret2
                              rw [HFIN.out]
                              exact ⟨none, 0, 0, rfl, rfl, Own.nil_, hb⟩
                            | cons bb t =>
                              have hN3 : (i : Int) + 3 < (NN : Int) := by simp at hdl; omega
                              obtain ⟨hb0, hb1⟩ := HRDH.out bb (by simp)
                              have j3 : ∀ W, (Instr.index 9 (.string s) (.int .i64 ((i : Int) + 3))).run Tryd.prog W = .ok (.int .u8 bb) W := fun W => HIX.out i 3 bb (by rw [HG.out]; rfl) hb0 hb1 W
                              have hvb := hexV_le bb
                              by_cases gb : hexV bb < 0
                              · clear HG HDS HRDH hdl
                                have HFIN := Lib.hid (HE.out.symm.trans (show uqL (f + 1) (92 :: 120 :: a :: bb :: t) x = ([], 3) by simp [uqL, uqb, hpt, uhx, ga, gb]))
                                clear HE
                                go_wp2
                                refine wp_loop_rounds 3 ?_
                                rw [rounds_succ]
                                go_wp2_with fail
                                refine (hexOf_any a _ ha0 ha1).mono ?_
                                rintro e w1 ⟨rfl, rfl⟩
                                go_wp2
                                rw [rounds_succ]
                                go_wp2_with fail
                                refine (hexOf_any bb _ hb0 hb1).mono ?_
                                rintro e w1 ⟨rfl, rfl⟩
                                go_wp2
                                go_ret2
                                rw [HFIN.out]
                                exact ⟨none, 0, 0, rfl, rfl, Own.nil_, hb⟩
                              · have gb2 : 0 ≤ hexV bb := by omega
                                have hyy : hexV a * 16 + hexV bb = 16 * hexV a + hexV bb := by omega
                                have hwr : IntKind.u8.wrap (16 * hexV a + hexV bb) = 16 * hexV a + hexV bb := by rw [IntKind.wrap_u8]; omega
                                by_cases gp : 32 ≤ 16 * hexV a + hexV bb ∧ 16 * hexV a + hexV bb ≤ 126
                                · have hpp := pr_true gp.1 gp.2
                                  obtain ⟨gp1, gp2⟩ := gp
                                  have gp3 : 16 * hexV a + hexV bb < 127 := by omega
                                  clear HG HDS HRDH hdl
                                  have HFIN := Lib.hid (HE.out.symm.trans (show uqL (f + 1) (92 :: 120 :: a :: bb :: t) x = ([], 3) by simp [uqL, uqb, hpt, uhx, ga, gb, hyy, hpp]))
                                  clear HE
                                  clear hyy
                                  go_wp2
                                  refine wp_loop_rounds 3 ?_
                                  rw [rounds_succ]
                                  go_wp2_with fail
                                  refine (hexOf_any a _ ha0 ha1).mono ?_
                                  rintro e w1 ⟨rfl, rfl⟩
                                  go_wp2
                                  rw [rounds_succ]
                                  go_wp2_with fail
                                  refine (hexOf_any bb _ hb0 hb1).mono ?_
                                  rintro e w1 ⟨rfl, rfl⟩
                                  go_wp2
                                  rw [rounds_succ]
                                  go_wp2
                                  go_ret2
                                  rw [HFIN.out]
                                  exact ⟨none, 0, 0, rfl, rfl, Own.nil_, hb⟩
                                · have hpp := pr_false (c := 16 * hexV a + hexV bb) (by omega)
                                  have gp4 : 16 * hexV a + hexV bb < 32 ∨ (32 ≤ 16 * hexV a + hexV bb ∧ 127 ≤ 16 * hexV a + hexV bb) := by omega
                                  clear gp HG HRDH
                                  have hi4 : i + 4 ≤ NN := by omega
                                  clear hdl
                                  rcases gp4 with gp1 | ⟨gp1, gp2⟩
                                  · have HE2 := Lib.hid ((show uqL (f + 1) (92 :: 120 :: a :: bb :: t) x = uqL f (l0.drop (i + 4)) (x ++ [16 * hexV a + hexV bb]) by rw [HDS.out 4]; simp [uqL, uqb, hpt, uhx, ga, gb, hyy, hpp]).symm.trans HE.out)
                                    clear HE
                                    have ho2 := ho.alloc (.cells (By [16 * hexV a + hexV bb]).toArray 5)
                                    have hr2 := rd_new wr [16 * hexV a + hexV bb]
                                    have hbb := hb.alloc hsz (.cells (By [16 * hexV a + hexV bb]).toArray 5)
                                    clear hyy
                                    go_wp2
                                    refine wp_loop_rounds 3 ?_
                                    rw [rounds_succ]
                                    go_wp2_with fail
                                    refine (hexOf_any a _ ha0 ha1).mono ?_
                                    rintro e w1 ⟨rfl, rfl⟩
                                    go_wp2
                                    rw [rounds_succ]
                                    go_wp2_with fail
                                    refine (hexOf_any bb _ hb0 hb1).mono ?_
                                    rintro e w1 ⟨rfl, rfl⟩
                                    go_wp2
                                    rw [rounds_succ]
                                    go_wp2_with (at_builtin; refine wpList_append_rd rfl _ _ 36 rfl i0 (.int .u8 0) 1 Tryd.underlying36 hi hz0 hz1 hz2 rfl rfl ho2 (some ⟨wr.heap.size, 0, none⟩) 1 1 (By [16 * hexV a + hexV bb]) rfl hr2 (By_one _) ?c1 ?c2 ?c3 ?_)
                                    case c1 => unfold maxLen; omega
                                    case c2 => omega
                                    case c3 => first | omega | (simp; omega)
                                    intro A2 c2 w2 ho3 hg
                                    have hb2 := hbb.trans (hg.below (by simp; omega) (fun k hk => (ho.lies k hk).1))
                                    rw [← By_append] at ho3
                                    clear ho2 hr2 hbb hb ho hg
                                    go_wp2
                                    go_roundw
                                    case rel => exact ⟨f, k + 1, i + 4, c2, A2, x ++ [16 * hexV a + hexV bb], rfl, by go_num, by omega, (by have := HK.out; show (x ++ [16 * hexV a + hexV bb]).length = k + 1; simp; omega), by omega, HE2, by omega, ho3, hb2⟩
                                    case measure => simp [intOf]; omega
                                  · have HE2 := Lib.hid ((show uqL (f + 1) (92 :: 120 :: a :: bb :: t) x = uqL f (l0.drop (i + 4)) (x ++ [16 * hexV a + hexV bb]) by rw [HDS.out 4]; simp [uqL, uqb, hpt, uhx, ga, gb, hyy, hpp]).symm.trans HE.out)
                                    clear HE
                                    have ho2 := ho.alloc (.cells (By [16 * hexV a + hexV bb]).toArray 5)
                                    have hr2 := rd_new wr [16 * hexV a + hexV bb]
                                    have hbb := hb.alloc hsz (.cells (By [16 * hexV a + hexV bb]).toArray 5)
                                    clear hyy
                                    go_wp2
                                    refine wp_loop_rounds 3 ?_
                                    rw [rounds_succ]
                                    go_wp2_with fail
                                    refine (hexOf_any a _ ha0 ha1).mono ?_
                                    rintro e w1 ⟨rfl, rfl⟩
                                    go_wp2
                                    rw [rounds_succ]
                                    go_wp2_with fail
                                    refine (hexOf_any bb _ hb0 hb1).mono ?_
                                    rintro e w1 ⟨rfl, rfl⟩
                                    go_wp2
                                    rw [rounds_succ]
                                    go_wp2_with (at_builtin; refine wpList_append_rd rfl _ _ 36 rfl i0 (.int .u8 0) 1 Tryd.underlying36 hi hz0 hz1 hz2 rfl rfl ho2 (some ⟨wr.heap.size, 0, none⟩) 1 1 (By [16 * hexV a + hexV bb]) rfl hr2 (By_one _) ?c1 ?c2 ?c3 ?_)
                                    case c1 => unfold maxLen; omega
                                    case c2 => omega
                                    case c3 => first | omega | (simp; omega)
                                    intro A2 c2 w2 ho3 hg
                                    have hb2 := hbb.trans (hg.below (by simp; omega) (fun k hk => (ho.lies k hk).1))
                                    rw [← By_append] at ho3
                                    clear ho2 hr2 hbb hb ho hg
                                    go_wp2
                                    go_roundw
                                    case rel => exact ⟨f, k + 1, i + 4, c2, A2, x ++ [16 * hexV a + hexV bb], rfl, by go_num, by omega, (by have := HK.out; show (x ++ [16 * hexV a + hexV bb]).length = k + 1; simp; omega), by omega, HE2, by omega, ho3, hb2⟩
                                    case measure => simp [intOf]; omega
                      · have n3 : (d == 120) = false := by simpa using h3
                        have n4 : (d != 120) = true := by simpa using h3
                        clear HG HDS HRDH hdl
                        have HFIN := Lib.hid (HE.out.symm.trans (show uqL (f + 1) (92 :: d :: t) x = ([], 3) by simp [uqL, uqb, hpt, h1, h2, h3]))
                        clear HE
                        go_wp2
                        go_ret2
                        rw [HFIN.out]
                        exact ⟨none, 0, 0, rfl, rfl, Own.nil_, hb⟩
              · have n92 : (c == 92) = false := by simpa using h92
                have n93 : (c != 92) = true := by simpa using h92
                clear HG HRDH hdl
                have HE2 := Lib.hid ((show uqL (f + 1) (c :: r) x = uqL f (l0.drop (i + 1)) (x ++ [c]) by rw [HDS.out 1]; simp [uqL, uqb, hpt, h34, h92]).symm.trans HE.out)
                clear HE
                have ho2 := ho.alloc (.cells (By [c]).toArray 5)
                have hr2 := rd_new wr [c]
                have hbb := hb.alloc hsz (.cells (By [c]).toArray 5)
                go_wp2_with (at_builtin; refine wpList_append_rd rfl _ _ 36 rfl i0 (.int .u8 0) 1 Tryd.underlying36 hi hz0 hz1 hz2 rfl rfl ho2 (some ⟨wr.heap.size, 0, none⟩) 1 1 (By [c]) rfl hr2 (By_one _) ?c1 ?c2 ?c3 ?_)
                case c1 => unfold maxLen; omega
                case c2 => omega
                case c3 => first | omega | (simp; omega)
                intro A2 c2 w2 ho3 hg
                have hb2 := hbb.trans (hg.below (by simp; omega) (fun k hk => (ho.lies k hk).1))
                rw [← By_append] at ho3
                clear ho2 hr2 hbb hb ho hg
                go_wp2
                go_roundw
                case rel => exact ⟨f, k + 1, i + 1, c2, A2, x ++ [c], rfl, by go_num, by omega, (by have := HK.out; show (x ++ [c]).length = k + 1; simp; omega), by omega, HE2, by omega, ho3, hb2⟩
                case measure => simp [intOf]; omega
        · have hdn : l0.drop i = [] := List.drop_eq_nil_of_le (by rw [HLL.out]; omega)
          rw [hdn] at HE
          clear hdn
          have HFIN := Lib.hid (HE.out.symm.trans (show uqL (f + 1) [] x = ([], 5) by simp [uqL]))
          clear HE
          go_wp2
          go_ret2
          rw [HFIN.out]
          exact ⟨none, 0, 0, rfl, rfl, Own.nil_, hb⟩
    · have HUQ : uq (c0 :: r0) = ([], 3) := by simp [uq, h34]
      rw [HUQ]
      have n34 : (c0 == 34) = false := by simpa using h34
      have n34' : (c0 != 34) = true := by simpa using h34
      generalize strOfNums (c0 :: r0) = s at *
      go_enter Tryd.func26, Tryd.ntmps26
      go_wp2
      go_ret2
      exact ⟨none, 0, 0, rfl, rfl, Own.nil_, Below.refl _ _⟩
end Go.Proofs.YtdlbghjclcdfmaaDoor
