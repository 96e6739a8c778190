/- Readers whose bytes lie in blocks of a kind that is named. -/
import Derived.Test.YtdlbghjclcdfmabDoorRdr

namespace Go.Proofs.YtdlbghjclcdfmabDoor
set_option linter.unusedVariables false
set_option linter.unusedSimpArgs false
open Go.RowKit
variable {Q : Nat → Prop}

/-- A reader: its block, what it has left, its error. -/
def RdrQ (Q : Nat → Prop) (w : World) (g : Nat) (xs : List Int) (err : Int) : Prop :=
  ∃ (A : Option Addr) (n c : Nat), w.heap[g]? = some (.cells #[.slice A n c, .int .i64 err] 61 (0, 0)) ∧ Bs w A n xs ∧ n ≤ c ∧ ∀ k, blk A = some k → k < g ∧ Q k
theorem RdrQ.keep {w w' : World} {g B : Nat} {xs : List Int} {err : Int} (h : RdrQ Q w g xs err) (hb : Below B w w') (hg : g < B) : RdrQ Q w' g xs err := by
  obtain ⟨A, n, c, hh, hx, hnc, hk⟩ := h
  exact ⟨A, n, c, (hb.block g hg).trans hh, hx.keepB hb (fun k h => Nat.lt_trans (hk k h).1 hg), hnc, hk⟩
theorem RdrQ.lt {w : World} {g : Nat} {xs : List Int} {err : Int} (h : RdrQ Q w g xs err) : g < w.heap.size := by
  obtain ⟨A, n, c, hh, _⟩ := h
  exact lt_of_heap hh

set_option maxHeartbeats 1000000 in
theorem rnumQ (w : World) (g : Nat) (xs : List Int) (err : Int) (h : RdrQ Q w g xs err) (hn : xs.length ≤ 140737488355328) :
    Calls Tryd.prog 18 #[.pointer (some ⟨g, 0, none⟩)] w fun e w' => e = .returned (.int .u64 (numS xs err).1) ∧ RdrQ Q w' g (numS xs err).2.1 (numS xs err).2.2 ∧ Onl g w w' := by
  obtain ⟨A, n, c, hh, hx, hnc, hk⟩ := h
  have hc0 := two_cell0 hh; have hc1 := two_cell1 hh
  have hf0 := two_frozen (i := 0) hh; have hf1 := two_frozen (i := 1) hh
  have HH := Lib.hid hh; clear hh
  have hl := hx.len
  have hnn : n ≤ 140737488355328 := by omega
  clear hl hn
  by_cases he : err = 0
  · subst he
    have he1 : ((0 : Int) != 0) = false := by decide
    rcases tkN_cases xs hx.2 0 with ⟨e, ht, he5⟩ | ⟨v, k, ht, hv0, hv1, hk0, hk1⟩
    · have HS := Lib.hid (show numS xs 0 = (0, xs, e) by unfold numS; rw [ht]; rcases he5 with rfl | rfl <;> simp)
      have HT := Lib.hid (show tk xs 0 = (0, 0, e) by rw [tk_zero]; exact ht)
      have hne : (e != 0) = true := by rcases he5 with rfl | rfl <;> decide
      clear ht he5
      go_enter Tryd.func18, Tryd.ntmps18
      go_wp2_with (go_at_call 33; refine (take_any A n c 0 xs _ hx (by omega)).mono ?_; rintro e' w' ⟨he', rfl⟩; rw [HT.out] at he'; unfold Tk3 at he'; subst he')
      go_ret
      rw [HS.out]
      refine ⟨rfl, ⟨A, n, c, two_set1 HH.out, hx.keepB (below_set _ _ _ _) (fun k h => (hk k h).1), hnc, hk⟩, onl_set _ _ _ _⟩
    · have HS := Lib.hid (show numS xs 0 = (v, xs.drop k, 0) by unfold numS; rw [ht]; simp)
      have HT := Lib.hid (show tk xs 0 = (v, (k : Int), 0) by rw [tk_zero]; exact ht)
      have hkn : k ≤ n := by rw [← hx.len]; exact hk1
      clear ht hk1
      have hsl := slice_lo A n c k hkn
      go_enter Tryd.func18, Tryd.ntmps18
      go_wp2_with (go_at_call 33; refine (take_any A n c 0 xs _ hx (by omega)).mono ?_; rintro e' w' ⟨he', rfl⟩; rw [HT.out] at he'; unfold Tk3 at he'; subst he')
      go_ret
      rw [HS.out]
      refine ⟨rfl, ⟨_, _, _, two_set0 HH.out, (hx.cutTail hkn hnc).keepB (below_set _ _ _ _) ?_, by omega, ?_⟩, onl_set _ _ _ _⟩
      · rw [blk_cutA]; exact fun k h => (hk k h).1
      · rw [blk_cutA]; exact hk
  · have HS := Lib.hid (show numS xs err = (0, xs, err) by unfold numS; rw [if_pos he])
    have he1 : (err != 0) = true := by simpa using he
    clear he
    go_enter Tryd.func18, Tryd.ntmps18
    go_wp2
    go_ret
    rw [HS.out]
    exact ⟨rfl, ⟨A, n, c, HH.out, hx, hnc, hk⟩, Onl.refl _ _⟩

theorem readQ (A : Option Addr) (n c : Nat) (xs : List Int) (w : World) (hx : Bs w A n xs) (hn : n ≤ 140737488355328) :
    Calls Tryd.prog 17 #[.slice A n c] w fun e w' => ∃ g, e = .returned (.pointer (some ⟨g, 0, none⟩)) ∧ RdrQ (w.heap.size ≤ ·) w' g xs 0 ∧ w.heap.size ≤ g ∧ Below w.heap.size w w' := by
  go_enter Tryd.func17, Tryd.ntmps17
  go_wp2_with fail
  refine (clone_any A n c xs _ hx hn).mono ?_
  rintro e w1 ⟨A1, c1, rfl, ho1, hb1⟩
  have hsz := hb1.size
  have HO := Lib.hid ho1; clear ho1
  go_wp2
  go_ret
  have ho1 := HO.out
  have hl := ho1.lies
  have hnc : n ≤ c1 := by
    rcases ho1.2 with ⟨hv, h0⟩ | ⟨g, cap, cur, hv, _, _, h, _⟩
    · omega
    · have : c1 = cap := by injection hv
      omega
  refine ⟨w1.heap.size, rfl, ⟨A1, n, c1, heap_alloc_new w1 _, (ho1.bs hx.2).keep (below_alloc w1 _), hnc, fun k hk => ⟨(hl k hk).2, (hl k hk).1⟩⟩, hsz, hb1.alloc hsz _⟩

theorem rerrQ (w : World) (g : Nat) (xs : List Int) (err : Int) (h : RdrQ Q w g xs err) :
    Calls Tryd.prog 19 #[.pointer (some ⟨g, 0, none⟩)] w fun e w' => e = .returned (.int .i64 err) ∧ w = w' := by
  obtain ⟨A, n, c, hh, hx, hnc, hk⟩ := h
  have hc1 := two_cell1 hh
  clear hh
  go_enter Tryd.func19, Tryd.ntmps19
  go_wp2
  go_ret
  exact ⟨rfl, rfl⟩

theorem rcloseQ (w : World) (g : Nat) (xs : List Int) (err : Int) (h : RdrQ Q w g xs err) :
    Calls Tryd.prog 21 #[.pointer (some ⟨g, 0, none⟩)] w fun e w' => e = .returned (.int .i64 (closeV xs err)) ∧ w = w' := by
  obtain ⟨A, n, c, hh, hx, hnc, hk⟩ := h
  have hc0 := two_cell0 hh; have hc1 := two_cell1 hh
  have hl := hx.len
  clear hh
  by_cases he : err = 0
  · by_cases hn : 0 < n
    · have HV := Lib.hid (show closeV xs err = 3 by
        unfold closeV; rw [if_pos]
        refine ⟨he, ?_⟩
        intro e; rw [e] at hl; simp at hl; omega)
      have he1 : (err == 0) = true := by simp [he]
      clear he hl
      go_enter Tryd.func21, Tryd.ntmps21
      go_wp2
      go_ret
      exact ⟨by rw [HV.out]; rfl, rfl⟩
    · have HV := Lib.hid (show closeV xs err = err by
        unfold closeV; rw [if_neg]
        intro h
        exact h.2 (List.eq_nil_of_length_eq_zero (by omega)))
      have he1 : (err == 0) = true := by simp [he]
      clear he hl
      go_enter Tryd.func21, Tryd.ntmps21
      go_wp2
      go_ret
      exact ⟨by rw [HV.out]; rfl, rfl⟩
  · have HV := Lib.hid (show closeV xs err = err by
      unfold closeV; rw [if_neg]
      intro h
      exact he h.1)
    have he1 : (err == 0) = false := by simpa using he
    clear he hl
    go_enter Tryd.func21, Tryd.ntmps21
    go_wp2
    go_ret
    exact ⟨by rw [HV.out]; rfl, rfl⟩

/-- What Text leaves. -/
def TextPostQ (Q : Nat → Prop) (w : World) (g : Nat) (r : List Int × List Int × Int) (e : Ending) (w' : World) : Prop :=
  ∃ A' c' n', e = .returned (.slice A' n' c') ∧ n' = r.1.length ∧ Own w' w.heap.size 5 A' n' c' (By r.1) ∧ Ran r.1 ∧ RdrQ Q w' g r.2.1 r.2.2 ∧ Onl g w w'

set_option maxHeartbeats 1000000 in
theorem rtextQ (w : World) (g : Nat) (xs : List Int) (err : Int) (h : RdrQ Q w g xs err) (hn : xs.length ≤ 140737488355328) :
    Calls Tryd.prog 20 #[.pointer (some ⟨g, 0, none⟩)] w (TextPostQ Q w g (textS xs err)) := by
  have hgl := h.lt
  obtain ⟨A, n, c, hh, hx, hnc, hk⟩ := h
  have hc0 := two_cell0 hh; have hc1 := two_cell1 hh
  have hf0 := two_frozen (i := 0) hh; have hf1 := two_frozen (i := 1) hh
  have HH := Lib.hid hh; clear hh
  have HL := Lib.hid hx.len
  have hnn : n ≤ 140737488355328 := by rw [← HL.out]; exact hn
  clear hn
  by_cases he : err = 0
  · subst he
    have he1 : ((0 : Int) != 0) = false := by decide
    rcases tkN_cases xs hx.2 0 with ⟨e, ht, he5⟩ | ⟨v, k, ht, hv0, hv1, hk0, hk1⟩
    · have HS := Lib.hid (show textS xs 0 = ([], xs, e) by unfold textS; rw [ht]; rcases he5 with rfl | rfl <;> simp)
      have HT := Lib.hid (show tk xs 0 = (0, 0, e) by rw [tk_zero]; exact ht)
      have hne : (e != 0) = true := by rcases he5 with rfl | rfl <;> decide
      have hne' : (e == 0) = false := by rcases he5 with rfl | rfl <;> decide
      clear ht he5
      go_enter Tryd.func20, Tryd.ntmps20
      go_wp2_with (go_at_call 33; refine (take_any A n c 0 xs _ hx (by omega)).mono ?_; rintro e' w' ⟨he', rfl⟩; rw [HT.out] at he'; unfold Tk3 at he'; subst he')
      go_ret
      rw [HS.out]
      exact ⟨none, 0, 0, rfl, rfl, Own.nil_, Ran.nil, ⟨A, n, c, two_set1 HH.out, hx.keepB (below_set _ _ _ _) (fun k h => (hk k h).1), hnc, hk⟩, onl_set _ _ _ _⟩
    · have HT := Lib.hid (show tk xs 0 = (v, (k : Int), 0) by rw [tk_zero]; exact ht)
      have hkn : k ≤ n := by rw [← hx.len]; exact hk1
      obtain ⟨vn, rfl⟩ := Int.eq_ofNat_of_zero_le hv0
      by_cases hend : (n : Int) - (k : Int) < (vn : Int)
      · have HS := Lib.hid (show textS xs 0 = ([], xs, 5) by unfold textS; rw [ht, HL.out]; simp; omega)
        clear ht hk1
        go_enter Tryd.func20, Tryd.ntmps20
        go_wp2_with (go_at_call 33; refine (take_any A n c 0 xs _ hx (by omega)).mono ?_; rintro e' w' ⟨he', rfl⟩; rw [HT.out] at he'; unfold Tk3 at he'; subst he')
        go_ret
        rw [HS.out]
        exact ⟨none, 0, 0, rfl, rfl, Own.nil_, Ran.nil, ⟨A, n, c, two_set1 HH.out, hx.keepB (below_set _ _ _ _) (fun k h => (hk k h).1), hnc, hk⟩, onl_set _ _ _ _⟩
      · have hfit : k + vn ≤ n := by omega
        have hadd : ((k : Int) + (vn : Int)).toNat = k + vn := by omega
        have HS := Lib.hid (show textS xs 0 = ((xs.drop k).take vn, xs.drop (k + vn), 0) by
          unfold textS; rw [ht, HL.out]; simp only [Int.toNat_natCast, hadd]; simp; omega)
        clear ht hk1 hadd
        have hsl1 := slice_lohi A n c k (k + vn) (by omega) (by omega)
        have hsl2 := slice_lo A n c (k + vn) hfit
        have ec : ((k + vn : Nat) : Int) = (k : Int) + (vn : Int) := by omega
        rw [ec] at hsl1 hsl2
        have eb : k + vn - k = vn := by omega
        rw [eb] at hsl1
        have hcl := hx.cut (lo := k) (hi := k + vn) (by omega) hfit hnc
        rw [eb] at hcl
        clear ec eb
        go_enter Tryd.func20, Tryd.ntmps20
        go_wp2_with (go_at_call 33; refine (take_any A n c 0 xs _ hx (by omega)).mono ?_; rintro e' w' ⟨he', rfl⟩; rw [HT.out] at he'; unfold Tk3 at he'; subst he')
        refine (clone_any (cutA A c k) vn (c - k) _ _ hcl (by omega)).mono ?_
        rintro e w1 ⟨A1, c1, rfl, ho1, hb1⟩
        have hh1 : w1.heap[g]? = some (.cells #[.slice A n c, .int .i64 0] 61 (0, 0)) := (hb1.block g hgl).trans HH.out
        have hd0 := two_cell0 hh1
        have hg0 := two_frozen (i := 0) hh1
        have HH1 := Lib.hid hh1; clear hh1
        have hlies := ho1.lies
        go_wp2
        go_ret
        rw [HS.out]
        have hlen : vn = ((xs.drop k).take vn).length := by rw [List.length_take, List.length_drop, HL.out]; omega
        refine ⟨A1, c1, vn, rfl, hlen, ho1.onl (onl_set _ g _ _) (fun e => ?_), hcl.2, ⟨_, _, _, two_set0 HH1.out, (hx.cutTail hfit hnc).keepB ((hb1.mono (by omega)).trans (below_set _ _ _ _)) ?_, by omega, ?_⟩, (Onl.of_below hb1).trans (onl_set _ _ _ _)⟩
        · have := (hlies g e).1; omega
        · rw [blk_cutA]; exact fun k h => (hk k h).1
        · rw [blk_cutA]; exact hk
  · have HS := Lib.hid (show textS xs err = ([], xs, err) by unfold textS; rw [if_pos he])
    have he1 : (err != 0) = true := by simpa using he
    clear he
    go_enter Tryd.func20, Tryd.ntmps20
    go_wp2
    go_ret
    rw [HS.out]
    exact ⟨none, 0, 0, rfl, rfl, Own.nil_, Ran.nil, ⟨A, n, c, HH.out, hx, hnc, hk⟩, Onl.refl _ _⟩
end Go.Proofs.YtdlbghjclcdfmabDoor
