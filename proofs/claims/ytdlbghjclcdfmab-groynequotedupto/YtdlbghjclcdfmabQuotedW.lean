/- GroyneQuoted: the walk. -/
import Derived.Test.YtdlbghjclcdfmabRQuoteW
import Derived.Test.YtdlbghjclcdfmabUnquW
import Derived.Test.YtdlbghjclcdfmabBssw
namespace Go.Proofs.Ytdlbghjclcdfmab
set_option linter.unusedVariables false
set_option linter.unusedSimpArgs false
open Go.RowKit

theorem cmpL_below : ∀ {ys xs : List Int}, cmpL ys xs ≤ 0 → cmpL ys (xs ++ [0]) < 0
  | [], [], _ => by simp [cmpL]
  | [], _ :: _, _ => by simp [cmpL]
  | _ :: _, [], h => by simp [cmpL] at h
  | b :: bs, a :: as', h => by
    simp only [List.cons_append, cmpL] at h ⊢
    by_cases h1 : b < a
    · simp [h1]
    · by_cases h2 : a < b
      · simp [h1, h2] at h
      · simp only [h1, h2, if_false] at h ⊢
        exact cmpL_below h
theorem in_after {xs ys : List Int} (hr : Ran ys) : inL ys (xs ++ [0]) [] = decide (cmpL xs ys < 0) := by
  unfold inL
  have hs := cmpL_swap xs ys
  have hs2 := cmpL_swap (xs ++ [0]) ys
  by_cases h : cmpL xs ys < 0
  · have := cmpL_least hr h
    have h2 : 0 ≤ cmpL ys (xs ++ [0]) := by omega
    simp [h, h2]
  · have := cmpL_below (ys := ys) (xs := xs) (by omega)
    have h2 : ¬ 0 ≤ cmpL ys (xs ++ [0]) := by omega
    simp [h, h2]
theorem ran_zero {xs : List Int} (h : Ran xs) : Ran (xs ++ [0]) := h.append (fun x hx => by
  have : x = 0 := by simpa using hx
  omega)
theorem equal_is (A B : Option Addr) (n m c d : Nat) (xs ys : List Int) (v : Bool) (hv : (cmpL xs ys == 0) = v) (w : World) (hx : Bs w A n xs) (hy : Bs w B m ys) (hn : n ≤ maxLen) (hm : m ≤ maxLen) :
    Calls Try.prog 6 #[.slice A n c, .slice B m d] w fun e w' => e = .returned (.bool v) ∧ Dr w w' :=
  (equal_any A B n m c d xs ys w hx hy hn hm).mono fun e w' hp => by rw [hv] at hp; exact hp
theorem in_is (A B C : Option Addr) (n m l c d f : Nat) (xs ys zs : List Int) (v : Bool) (hv : inL xs ys zs = v) (w : World) (hx : Bs w A n xs) (hy : Bs w B m ys) (hz : Bs w C l zs) (hn : n ≤ maxLen) (hm : m ≤ maxLen) (hl : l ≤ maxLen) :
    Calls Try.prog 8 #[.slice A n c, .slice B m d, .slice C l f] w fun e w' => e = .returned (.bool v) ∧ Dr w w' :=
  (in_any A B C n m l c d f xs ys zs w hx hy hz hn hm hl).mono fun e w' hp => by rw [hv] at hp; exact hp
theorem rin_is (A B C : Option Addr) (n m l c d f : Nat) (xs ys zs : List Int) (v : Bool) (hv : inL xs ys zs = v) (w : World) (hx : Bs w A n xs) (hy : Bs w B m ys) (hz : Bs w C l zs) (hn : n ≤ maxLen) (hm : m ≤ maxLen) (hl : l ≤ maxLen) :
    Calls Try.prog 9 #[.slice A n c, .slice B m d, .slice C l f] w fun e w' => e = .returned (.bool v) ∧ Dr w w' :=
  (rin_any A B C n m l c d f xs ys zs w hx hy hz hn hm hl).mono fun e w' hp => by rw [hv] at hp; exact hp
theorem compare_is (A B : Option Addr) (n m c d : Nat) (xs ys : List Int) (v : Int) (hv : cmpL xs ys = v) (w : World) (hx : Bs w A n xs) (hy : Bs w B m ys) (hn : n ≤ maxLen) (hm : m ≤ maxLen) :
    Calls Try.prog 10 #[.slice A n c, .slice B m d] w fun e w' => e = .returned (.int .i64 v) ∧ Dr w w' :=
  (compare_any A B n m c d xs ys w hx hy hn hm).mono fun e w' hp => by rw [hv] at hp; exact hp

set_option maxRecDepth 100000 in
set_option maxHeartbeats 4000000 in
theorem quoted_short (L F G : Option Addr) (n c nf cf ng cg : Nat) (xss0 : List (List Int)) (fs gs : List Int) (w : World) (hl0 : Bss w L n xss0) (hf : Bs w F nf fs) (hg : Bs w G ng gs) (hnc : n ≤ c)
    (hm0 : ∀ t ∈ xss0, t.length ≤ 1048576) (hnf : nf ≤ 1048576) (hng : ng ≤ 1048576) (h30 : n ≤ 30) :
    Calls Try.prog 3 #[.slice L n c, .slice F nf cf, .slice G ng cg] w fun e w' => e = .returned (.bool true) ∧ Below w.heap.size w w' := by
  have hl := hl0
  have hm := hm0
  generalize hys : xss0 = xss at *
  clear hys hl0 hm0
  have hd30 : decide ((30 : Int) < (n : Int)) = false := by simp; omega
  have hln : n ≤ 30 := by omega
  have hmx : ∀ {m : Nat}, m ≤ 1048577 → m ≤ maxLen := fun h => by unfold maxLen; omega
  go_enter Try.func3, Try.ntmps3
  go_wp2
  go_loopw [22] (fun i wr => ∃ (k : Nat), i = .int .i64 k ∧ k ≤ n ∧ Below w.heap.size w wr) (fun i _ => n - (intOf i).toNat)
  case atStart => exact ⟨0, rfl, Nat.zero_le _, Below.refl _ _⟩
  case round =>
    obtain ⟨k, rfl, hk, hb⟩ := hrel
    have hsz := hb.size
    by_cases hlt : k < n
    · obtain ⟨b, off, A2, n2, c2, xs, rfl, hbk, hcell, hxs, hn2, HX⟩ := (hl.keep hb).at_ hlt
      have hxr := hxs.2
      have HXL := Lib.hid hxs.len
      have hn2m : n2 ≤ 1048576 := by rw [← HXL.out]; exact hm _ (List.mem_of_getElem? HX.out)
      have hslk := slice22 (some ⟨b, off, none⟩) n c k (by omega)
      go_wp2_with fail
      refine (quote_any A2 n2 c2 xs wr hxs (by omega)).mono ?_
      rintro e w2 ⟨rfl, hb2⟩
      have hs2 := hb2.size
      go_wp2_with fail
      refine (unquote_any xs w2 hxr (by rw [HXL.out]; omega)).mono ?_
      rintro e w3 ⟨A3, c3, rfl, ho3, hb3⟩
      rw [HXL.out] at ho3 ⊢
      have hs3 := hb3.size
      have hxs3 := (hxs.keep hb2).keep hb3
      have hbs3 := ho3.bs hxr
      have hbw3 := (hb.trans (hb2.mono hsz)).trans (hb3.mono (by omega))
      clear hb2 hb3 ho3
      go_wp2_with fail
      refine (equal_is A3 A2 n2 n2 c3 c2 xs xs true (by rw [cmpL_self]; rfl) w3 hbs3 hxs3 (hmx (by omega)) (hmx (by omega))).mono ?_
      rintro e w4 ⟨rfl, hd4⟩
      have hxs4 := hxs3.dr hd4
      have hbs4 := hbs3.dr hd4
      have hbw4 := hbw3.trans (hd4.below _)
      have hs4 := hbw4.size
      clear hxs3 hbs3 hbw3 hd4
      go_wp2_with fail
      refine (rquote_any A2 n2 c2 xs w4 hxs4 (by omega)).mono ?_
      rintro e w5 ⟨rfl, hb5⟩
      have hxs5 := hxs4.keep hb5
      have hbs5 := hbs4.keep hb5
      have hbw5 := hbw4.trans (hb5.mono (by omega))
      have hs5 := hbw5.size
      have hf5 := hf.keep hbw5
      have hg5 := hg.keep hbw5
      clear hxs4 hbs4 hbw4 hb5
      generalize strOfNums (quo xs) = sq at *
      generalize hvi : inL xs fs gs = vi
      have HVI := Lib.hid hvi; clear hvi
      go_wp2_with fail
      refine (in_is A3 F G n2 nf ng c3 cf cg xs fs gs vi HVI.out w5 hbs5 hf5 hg5 (hmx (by omega)) (hmx (by omega)) (hmx (by omega))).mono ?_
      rintro e w6 ⟨rfl, hd6⟩
      have hxs6 := hxs5.dr hd6
      have hf6 := hf5.dr hd6
      have hg6 := hg5.dr hd6
      have hbw6 := hbw5.trans (hd6.below _)
      clear hxs5 hbs5 hbw5 hd6 hf5 hg5
      go_wp2_with fail
      refine (rin_is A2 F G n2 nf ng c2 cf cg xs fs gs vi HVI.out w6 hxs6 hf6 hg6 (hmx (by omega)) (hmx (by omega)) (hmx (by omega))).mono ?_
      rintro e w7 ⟨rfl, hd7⟩
      have hxs7 := hxs6.dr hd7
      have hbw7 := hbw6.trans (hd7.below _)
      clear hxs6 hf6 hg6 hbw6 hd7 hs4 hs5
      have hs7 := hbw7.size
      go_wp2
      go_loopw [61] (fun j wr => ∃ (q : Nat), j = .int .i64 q ∧ q ≤ k ∧ Below w7.heap.size w7 wr) (fun j _ => k - (intOf j).toNat)
      case atStart => exact ⟨0, rfl, Nat.zero_le _, Below.refl _ _⟩
      case round =>
        obtain ⟨q, rfl, hq, hbr⟩ := hrel
        have hszr := hbr.size
        by_cases hlt2 : q < k
        · obtain ⟨b', off', A5, n5, c5, ys, hbb', hbk5, hcell5, hys, hn5, HY⟩ := ((hl.keep hbw7).keep hbr).at_ (k := q) (by omega)
          injection hbb' with hbb'
          injection hbb' with e1 e2
          subst e1; subst e2
          have hyr := hys.2
          have HYL := Lib.hid hys.len
          have hn5m : n5 ≤ 1048576 := by rw [← HYL.out]; exact hm _ (List.mem_of_getElem? HY.out)
          have hxsr := hxs7.keep hbr
          generalize hcv : cmpL xs ys = v
          have HCV := Lib.hid hcv; clear hcv
          go_wp2_with fail
          refine (compare_is A2 A5 n2 n5 c2 c5 xs ys v HCV.out _ hxsr hys (hmx (by omega)) (hmx (by omega))).mono ?_
          rintro e w8 ⟨rfl, hd8⟩
          have hx8 := hxsr.dr hd8
          have hy8 := hys.dr hd8
          have hb8 := hbr.trans (hd8.below _)
          have hs8 := hb8.size
          clear hxsr hys hd8
          go_wp2_with fail
          refine (after_any A2 n2 c2 xs w8 hx8 (by omega)).mono ?_
          rintro e w9 ⟨A9, c9, rfl, ho9, hb9'⟩
          have hx9 := hx8.keep hb9'
          have hy9 := hy8.keep hb9'
          have hb9 := hb8.trans (hb9'.mono hs8)
          have ha9 := ho9.bs (ran_zero hxr)
          clear hx8 hy8 hb8 hb9' ho9
          have hs9 := hb9.size
          have HIA := Lib.hid (show inL ys (xs ++ [0]) [] = decide (v < 0) by rw [in_after hyr, HCV.out])
          generalize hvl : decide (v < 0) = vl at *
          have HVL := Lib.hid hvl; clear hvl
          go_wp2_with fail
          refine (in_is A5 A9 none n5 (n2 + 1) 0 c5 c9 0 ys (xs ++ [0]) [] vl HIA.out w9 hy9 ha9 Bs.nil_ (hmx (by omega)) (hmx (by omega)) (hmx (by omega))).mono ?_
          rintro e w10 ⟨rfl, hd10⟩
          have hx10 := hx9.dr hd10
          have hy10 := hy9.dr hd10
          have hb10 := hb9.trans (hd10.below _)
          clear hx9 hy9 hb9 hd10 ha9
          have hvl : decide (v < 0) = vl := HVL.out
          go_wp2_with fail
          refine (equal_is A2 A5 n2 n5 c2 c5 xs ys (v == 0) (by rw [HCV.out]) w10 hx10 hy10 (hmx (by omega)) (hmx (by omega))).mono ?_
          rintro e w11 ⟨rfl, hd11⟩
          have hb11 := hb10.trans (hd11.below _)
          clear hx10 hy10 hb10 hd11
          go_wp2
          go_roundw
          case rel => exact ⟨q + 1, by go_num, by omega, hb11⟩
          case measure => simp [intOf]; omega
        · have hbz := hbw7.trans (hbr.mono hs7)
          go_wp2
          go_roundw
          case rel => exact ⟨k + 1, by go_num, by omega, hbz⟩
          case measure => simp [intOf]; omega
    · go_wp2
      go_ret
      exact ⟨rfl, hb⟩
set_option maxRecDepth 100000 in
set_option maxHeartbeats 4000000 in
theorem quoted_long (L F G : Option Addr) (n c nf cf ng cg : Nat) (xss0 : List (List Int)) (fs gs : List Int) (w : World) (hl0 : Bss w L n xss0) (hf : Bs w F nf fs) (hg : Bs w G ng gs) (hnc : n ≤ c)
    (hm0 : ∀ t ∈ xss0, t.length ≤ 1048576) (hnf : nf ≤ 1048576) (hng : ng ≤ 1048576) (h30 : 30 < n) :
    Calls Try.prog 3 #[.slice L n c, .slice F nf cf, .slice G ng cg] w fun e w' => e = .returned (.bool true) ∧ Below w.heap.size w w' := by
  obtain ⟨N, hN⟩ : ∃ N : Nat, N = 30 := ⟨_, rfl⟩
  have hl := hl0.short (m := N) (by omega)
  have hm : ∀ t ∈ xss0.take N, t.length ≤ 1048576 := fun t ht => hm0 t (List.mem_of_mem_take ht)
  generalize hys : xss0.take N = xss at *
  clear hys hl0 hm0
  have hs30 : ∀ W, (Instr.slice 22 (.slice L n c) none (some (.int .i64 30)) none).run Try.prog W = .ok (.slice L N c) W := by
    rw [hN]; exact slice22 L n c 30 (by omega)
  have hd30 : decide ((30 : Int) < (n : Int)) = true := by simp; omega
  have hNc : N ≤ c := by omega
  have hln : N ≤ 30 := by omega
  have hmx : ∀ {m : Nat}, m ≤ 1048577 → m ≤ maxLen := fun h => by unfold maxLen; omega
  clear hN
  go_enter Try.func3, Try.ntmps3
  go_wp2
  clear hs30 hd30 h30
  go_loopw [22] (fun i wr => ∃ (k : Nat), i = .int .i64 k ∧ k ≤ N ∧ Below w.heap.size w wr) (fun i _ => N - (intOf i).toNat)
  case atStart => exact ⟨0, rfl, Nat.zero_le _, Below.refl _ _⟩
  case round =>
    obtain ⟨k, rfl, hk, hb⟩ := hrel
    have hsz := hb.size
    by_cases hlt : k < N
    · obtain ⟨b, off, A2, n2, c2, xs, rfl, hbk, hcell, hxs, hn2, HX⟩ := (hl.keep hb).at_ hlt
      have hxr := hxs.2
      have HXL := Lib.hid hxs.len
      have hn2m : n2 ≤ 1048576 := by rw [← HXL.out]; exact hm _ (List.mem_of_getElem? HX.out)
      have hslk := slice22 (some ⟨b, off, none⟩) N c k (by omega)
      go_wp2_with fail
      refine (quote_any A2 n2 c2 xs wr hxs (by omega)).mono ?_
      rintro e w2 ⟨rfl, hb2⟩
      have hs2 := hb2.size
      go_wp2_with fail
      refine (unquote_any xs w2 hxr (by rw [HXL.out]; omega)).mono ?_
      rintro e w3 ⟨A3, c3, rfl, ho3, hb3⟩
      rw [HXL.out] at ho3 ⊢
      have hs3 := hb3.size
      have hxs3 := (hxs.keep hb2).keep hb3
      have hbs3 := ho3.bs hxr
      have hbw3 := (hb.trans (hb2.mono hsz)).trans (hb3.mono (by omega))
      clear hb2 hb3 ho3
      go_wp2_with fail
      refine (equal_is A3 A2 n2 n2 c3 c2 xs xs true (by rw [cmpL_self]; rfl) w3 hbs3 hxs3 (hmx (by omega)) (hmx (by omega))).mono ?_
      rintro e w4 ⟨rfl, hd4⟩
      have hxs4 := hxs3.dr hd4
      have hbs4 := hbs3.dr hd4
      have hbw4 := hbw3.trans (hd4.below _)
      have hs4 := hbw4.size
      clear hxs3 hbs3 hbw3 hd4
      go_wp2_with fail
      refine (rquote_any A2 n2 c2 xs w4 hxs4 (by omega)).mono ?_
      rintro e w5 ⟨rfl, hb5⟩
      have hxs5 := hxs4.keep hb5
      have hbs5 := hbs4.keep hb5
      have hbw5 := hbw4.trans (hb5.mono (by omega))
      have hs5 := hbw5.size
      have hf5 := hf.keep hbw5
      have hg5 := hg.keep hbw5
      clear hxs4 hbs4 hbw4 hb5
      generalize strOfNums (quo xs) = sq at *
      generalize hvi : inL xs fs gs = vi
      have HVI := Lib.hid hvi; clear hvi
      go_wp2_with fail
      refine (in_is A3 F G n2 nf ng c3 cf cg xs fs gs vi HVI.out w5 hbs5 hf5 hg5 (hmx (by omega)) (hmx (by omega)) (hmx (by omega))).mono ?_
      rintro e w6 ⟨rfl, hd6⟩
      have hxs6 := hxs5.dr hd6
      have hf6 := hf5.dr hd6
      have hg6 := hg5.dr hd6
      have hbw6 := hbw5.trans (hd6.below _)
      clear hxs5 hbs5 hbw5 hd6 hf5 hg5
      go_wp2_with fail
      refine (rin_is A2 F G n2 nf ng c2 cf cg xs fs gs vi HVI.out w6 hxs6 hf6 hg6 (hmx (by omega)) (hmx (by omega)) (hmx (by omega))).mono ?_
      rintro e w7 ⟨rfl, hd7⟩
      have hxs7 := hxs6.dr hd7
      have hbw7 := hbw6.trans (hd7.below _)
      clear hxs6 hf6 hg6 hbw6 hd7 hs4 hs5
      have hs7 := hbw7.size
      go_wp2
      go_loopw [61] (fun j wr => ∃ (q : Nat), j = .int .i64 q ∧ q ≤ k ∧ Below w7.heap.size w7 wr) (fun j _ => k - (intOf j).toNat)
      case atStart => exact ⟨0, rfl, Nat.zero_le _, Below.refl _ _⟩
      case round =>
        obtain ⟨q, rfl, hq, hbr⟩ := hrel
        have hszr := hbr.size
        by_cases hlt2 : q < k
        · obtain ⟨b', off', A5, n5, c5, ys, hbb', hbk5, hcell5, hys, hn5, HY⟩ := ((hl.keep hbw7).keep hbr).at_ (k := q) (by omega)
          injection hbb' with hbb'
          injection hbb' with e1 e2
          subst e1; subst e2
          have hyr := hys.2
          have HYL := Lib.hid hys.len
          have hn5m : n5 ≤ 1048576 := by rw [← HYL.out]; exact hm _ (List.mem_of_getElem? HY.out)
          have hxsr := hxs7.keep hbr
          generalize hcv : cmpL xs ys = v
          have HCV := Lib.hid hcv; clear hcv
          go_wp2_with fail
          refine (compare_is A2 A5 n2 n5 c2 c5 xs ys v HCV.out _ hxsr hys (hmx (by omega)) (hmx (by omega))).mono ?_
          rintro e w8 ⟨rfl, hd8⟩
          have hx8 := hxsr.dr hd8
          have hy8 := hys.dr hd8
          have hb8 := hbr.trans (hd8.below _)
          have hs8 := hb8.size
          clear hxsr hys hd8
          go_wp2_with fail
          refine (after_any A2 n2 c2 xs w8 hx8 (by omega)).mono ?_
          rintro e w9 ⟨A9, c9, rfl, ho9, hb9'⟩
          have hx9 := hx8.keep hb9'
          have hy9 := hy8.keep hb9'
          have hb9 := hb8.trans (hb9'.mono hs8)
          have ha9 := ho9.bs (ran_zero hxr)
          clear hx8 hy8 hb8 hb9' ho9
          have hs9 := hb9.size
          have HIA := Lib.hid (show inL ys (xs ++ [0]) [] = decide (v < 0) by rw [in_after hyr, HCV.out])
          generalize hvl : decide (v < 0) = vl at *
          have HVL := Lib.hid hvl; clear hvl
          go_wp2_with fail
          refine (in_is A5 A9 none n5 (n2 + 1) 0 c5 c9 0 ys (xs ++ [0]) [] vl HIA.out w9 hy9 ha9 Bs.nil_ (hmx (by omega)) (hmx (by omega)) (hmx (by omega))).mono ?_
          rintro e w10 ⟨rfl, hd10⟩
          have hx10 := hx9.dr hd10
          have hy10 := hy9.dr hd10
          have hb10 := hb9.trans (hd10.below _)
          clear hx9 hy9 hb9 hd10 ha9
          have hvl : decide (v < 0) = vl := HVL.out
          go_wp2_with fail
          refine (equal_is A2 A5 n2 n5 c2 c5 xs ys (v == 0) (by rw [HCV.out]) w10 hx10 hy10 (hmx (by omega)) (hmx (by omega))).mono ?_
          rintro e w11 ⟨rfl, hd11⟩
          have hb11 := hb10.trans (hd11.below _)
          clear hx10 hy10 hb10 hd11
          go_wp2
          go_roundw
          case rel => exact ⟨q + 1, by go_num, by omega, hb11⟩
          case measure => simp [intOf]; omega
        · have hbz := hbw7.trans (hbr.mono hs7)
          go_wp2
          go_roundw
          case rel => exact ⟨k + 1, by go_num, by omega, hbz⟩
          case measure => simp [intOf]; omega
    · go_wp2
      go_ret
      exact ⟨rfl, hb⟩
theorem quoted_walk (L F G : Option Addr) (n c nf cf ng cg : Nat) (xss0 : List (List Int)) (fs gs : List Int) (w : World) (hl0 : Bss w L n xss0) (hf : Bs w F nf fs) (hg : Bs w G ng gs) (hnc : n ≤ c)
    (hm0 : ∀ t ∈ xss0, t.length ≤ 1048576) (hnf : nf ≤ 1048576) (hng : ng ≤ 1048576) :
    Calls Try.prog 3 #[.slice L n c, .slice F nf cf, .slice G ng cg] w fun e w' => e = .returned (.bool true) ∧ Below w.heap.size w w' := by
  by_cases h : n ≤ 30
  · exact quoted_short L F G n c nf cf ng cg xss0 fs gs w hl0 hf hg hnc hm0 hnf hng h
  · exact quoted_long L F G n c nf cf ng cg xss0 fs gs w hl0 hf hg hnc hm0 hnf hng (by omega)
end Go.Proofs.Ytdlbghjclcdfmab
