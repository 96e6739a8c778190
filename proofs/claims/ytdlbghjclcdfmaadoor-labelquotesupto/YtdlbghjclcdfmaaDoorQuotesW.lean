/- LabelQuotes: the walk. -/
import Derived.Test.YtdlbghjclcdfmaaDoorAwake3
import Derived.Test.YtdlbghjclcdfmaaDoorRUnq
namespace Go.Proofs.YtdlbghjclcdfmaaDoor
set_option linter.unusedVariables false
set_option linter.unusedSimpArgs false
open Go.RowKit

theorem equal_is (A B : Option Addr) (n m c d : Nat) (xs ys : List Int) (v : Bool) (hv : (cmpL xs ys == 0) = v) (w : World) (hx : Bs w A n xs) (hy : Bs w B m ys) (hn : n ≤ maxLen) (hm : m ≤ maxLen) :
    Calls Tryd.prog 25 #[.slice A n c, .slice B m d] w fun e w' => e = .returned (.bool v) ∧ Dr w w' :=
  (equal_any A B n m c d xs ys w hx hy hn hm).mono fun e w' hp => by rw [hv] at hp; exact hp
theorem uqL_len : ∀ (f : Nat) (l o : List Int), (uqL f l o).1.length ≤ o.length + f
  | 0, l, o => by simp [uqL]
  | f + 1, [], o => by simp [uqL]
  | f + 1, c :: r, o => by
    simp only [uqL]
    split
    · split <;> simp
    · split
      · simp
      · have := uqL_len f ((c :: r).drop (uqb (c :: r)).2.1.toNat) (o ++ [(uqb (c :: r)).1])
        simp only [List.length_append, List.length_cons, List.length_nil] at this
        omega
theorem uqL_ran : ∀ (f : Nat) (l o : List Int), Ran l → Ran o → Ran (uqL f l o).1
  | 0, l, o, _, _ => by simp only [uqL]; exact Ran.nil
  | f + 1, [], o, _, _ => by simp only [uqL]; exact Ran.nil
  | f + 1, c :: r, o, hr, ho => by
    simp only [uqL]
    split
    · split
      · exact ho
      · exact Ran.nil
    · rename_i h34
      split
      · exact Ran.nil
      · rename_i he
        have he : (uqb (c :: r)).2.2 = 0 := by simpa using he
        obtain ⟨h1, h2, h3, _⟩ := uqb_ok (l := c :: r) (x := (uqb (c :: r)).1) (sz := (uqb (c :: r)).2.1) hr (by simpa using h34) (by rw [← he])
        refine uqL_ran f _ _ (hr.sub fun y hy => List.mem_of_mem_drop hy) (ho.append fun y hy => ?_)
        have : y = (uqb (c :: r)).1 := by simpa using hy
        rw [this]; exact ⟨h2, h3⟩
theorem uq_len (l : List Int) : (uq l).1.length ≤ l.length := by
  match l with
  | [] => simp [uq]
  | c :: r =>
    simp only [uq]
    split
    · simp
    · have := uqL_len (r.length + 1) r []
      simp only [List.length_nil, List.length_cons] at this ⊢
      omega
theorem uq_ran {l : List Int} (h : Ran l) : Ran (uq l).1 := by
  match l, h with
  | [], _ => simp only [uq]; exact Ran.nil
  | c :: r, h =>
    simp only [uq]
    split
    · exact Ran.nil
    · exact uqL_ran _ _ _ (h.sub fun y hy => List.mem_cons_of_mem _ hy) Ran.nil

set_option maxRecDepth 100000 in
set_option maxHeartbeats 4000000 in
theorem quotes_walk (B : Option Addr) (n c : Nat) (xs l0 : List Int) (w : World) (hx : Bs w B n xs) (hr : Ran l0) (hn : n ≤ 1048576) (hl : l0.length ≤ 1048576) :
    Calls Tryd.prog 7 #[.slice B n c, .string (strOfNums l0)] w fun e w' => e = .returned (.bool true) ∧ Below w.heap.size w w' := by
  have hmx : ∀ {m : Nat}, m ≤ 1048577 → m ≤ maxLen := fun h => by unfold maxLen; omega
  have HXL := Lib.hid hx.len
  have hxr := hx.2
  have hul := uq_len l0
  have hur := uq_ran hr
  go_enter Tryd.func7, Tryd.ntmps7
  go_wp2_with fail
  refine (awake_any w).mono ?_
  rintro e w1 ⟨rfl, hb1⟩
  have hx1 := hx.keep hb1
  have hs1 := hb1.size
  go_wp2_with fail
  refine (copy_any B n c xs w1 hx1 (by omega)).mono ?_
  rintro e w2 ⟨A2, c2, rfl, ho2, hb2⟩
  have hy2 := ho2.bs hxr
  have hx2 := hx1.keep hb2
  have hbw2 := hb1.trans (hb2.mono hs1)
  have hs2 := hbw2.size
  clear hb1 hb2 ho2 hx1
  go_wp2_with fail
  refine (quote_any A2 n c2 xs w2 hy2 (by omega)).mono ?_
  rintro e w3 ⟨rfl, hb3⟩
  have hx3 := hx2.keep hb3
  have hbw3 := hbw2.trans (hb3.mono hs2)
  have hs3 := hbw3.size
  clear hb3 hx2 hbw2 hy2
  go_wp2_with fail
  refine (unquote_any xs w3 hxr (by rw [HXL.out]; omega)).mono ?_
  rintro e w4 ⟨A4, c4, rfl, ho4, hb4⟩
  rw [HXL.out] at ho4 ⊢
  have hy4 := ho4.bs hxr
  have hx4 := hx3.keep hb4
  have hbw4 := hbw3.trans (hb4.mono hs3)
  have hs4 := hbw4.size
  clear hb4 hx3 hbw3 ho4
  go_wp2_with fail
  refine (rquote_any B n c xs w4 hx4 (by omega)).mono ?_
  rintro e w5 ⟨rfl, hb5⟩
  have hy5 := hy4.keep hb5
  have hx5 := hx4.keep hb5
  have hbw5 := hbw4.trans (hb5.mono hs4)
  have hs5 := hbw5.size
  clear hb5 hx4 hbw4 hy4
  generalize strOfNums (quo xs) = sq at *
  go_wp2_with fail
  refine (equal_is A4 B n n c4 c xs xs true (by rw [cmpL_self]; rfl) w5 hy5 hx5 (hmx (by omega)) (hmx (by omega))).mono ?_
  rintro e w6 ⟨rfl, hd6⟩
  have hbw6 := hbw5.trans (hd6.below _)
  have hs6 := hbw6.size
  clear hy5 hx5 hbw5 hd6 hs1 hs2 hs3 hs4 hs5
  go_wp2_with fail
  refine (unquote_gen l0 w6 hr (by omega)).mono ?_
  rintro e w7 ⟨A7, n7, c7, rfl, hn7, ho7, hb7⟩
  have hy7 := ho7.bs hur
  have hbw7 := hbw6.trans (hb7.mono hs6)
  have hs7 := hbw7.size
  clear hb7 hbw6 ho7
  have hn7m : n7 ≤ 1048576 := by omega
  have HN7 := Lib.hid hn7; clear hn7
  go_wp2_with fail
  refine (runquote_any l0 w7 hr (by omega)).mono ?_
  rintro e w8 ⟨A8, n8, c8, rfl, hn8, ho8, hb8⟩
  have hy8 := hy7.keep hb8
  have hz8 := ho8.bs hur
  have hbw8 := hbw7.trans (hb8.mono hs7)
  have hs8 := hbw8.size
  clear hb8 hbw7 ho8 hy7
  have hn8m : n8 ≤ 1048576 := by omega
  have HN8 := Lib.hid hn8; clear hn8
  by_cases he : (uq l0).2 = 0
  · have hq := (uq_ok (x := (uq l0).1) hr (by rw [← he])).1
    have HQ := Lib.hid hq; clear hq
    rw [he]
    generalize (uq l0).1 = us at *
    clear he
    go_wp2_with fail
    refine (equal_is A7 A8 n7 n8 c7 c8 us us true (by rw [cmpL_self]; rfl) w8 hy8 hz8 (hmx (by omega)) (hmx (by omega))).mono ?_
    rintro e w9 ⟨rfl, hd9⟩
    have hy9 := hy8.dr hd9
    have hbw9 := hbw8.trans (hd9.below _)
    have hs9 := hbw9.size
    clear hy8 hz8 hbw8 hd9
    go_wp2_with fail
    refine (quote_any A7 n7 c7 us w9 hy9 (by omega)).mono ?_
    rintro e w10 ⟨rfl, hb10⟩
    have hbw10 := hbw9.trans (hb10.mono hs9)
    rw [HQ.out]
    generalize strOfNums l0 = sl at *
    clear hbw9 hb10 hy9
    go_wp2
    go_ret
    exact ⟨rfl, hbw10⟩
  · generalize (uq l0).1 = us at *
    generalize (uq l0).2 = er at *
    have ne : (er != 0) = true := by simpa using he
    have ne2 : (er == 0) = false := by simpa using he
    have ne3 : (er == er) = true := by simp
    go_wp2_with fail
    refine (equal_is A7 A8 n7 n8 c7 c8 us us true (by rw [cmpL_self]; rfl) w8 hy8 hz8 (hmx (by omega)) (hmx (by omega))).mono ?_
    rintro e w9 ⟨rfl, hd9⟩
    have hbw9 := hbw8.trans (hd9.below _)
    clear hy8 hz8 hbw8 hd9
    go_wp2
    go_ret
    exact ⟨rfl, hbw9⟩
end Go.Proofs.YtdlbghjclcdfmaaDoor
