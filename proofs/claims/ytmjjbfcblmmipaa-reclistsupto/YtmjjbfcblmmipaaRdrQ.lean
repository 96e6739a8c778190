/- Readers whose bytes lie in blocks of a kind that is named. -/
import Derived.Test.YtmjjbfcblmmipaaRdr

namespace Go.Proofs.Ytmjjbfcblmmipaa
set_option linter.unusedVariables false
set_option linter.unusedSimpArgs false
open Go.RowKit
variable {Q : Nat → Prop}

/-- A reader: its block, what it has left, its error. -/
def RdrQ (Q : Nat → Prop) (w : World) (g : Nat) (xs : List Int) (err : Int) : Prop :=
  ∃ (A : Option Addr) (n c : Nat), w.heap[g]? = some (.cells #[.slice A n c, .int .i64 err] 151 (0, 0)) ∧ Bs w A n xs ∧ n ≤ c ∧ ∀ k, blk A = some k → k < g ∧ Q k
theorem RdrQ.keep {w w' : World} {g B : Nat} {xs : List Int} {err : Int} (h : RdrQ Q w g xs err) (hb : Below B w w') (hg : g < B) : RdrQ Q w' g xs err := by
  obtain ⟨A, n, c, hh, hx, hnc, hk⟩ := h
  exact ⟨A, n, c, (hb.block g hg).trans hh, hx.keepB hb (fun k h => Nat.lt_trans (hk k h).1 hg), hnc, hk⟩
theorem RdrQ.lt {w : World} {g : Nat} {xs : List Int} {err : Int} (h : RdrQ Q w g xs err) : g < w.heap.size := by
  obtain ⟨A, n, c, hh, _⟩ := h
  exact lt_of_heap hh

theorem RdrQ.onl {w w' : World} {g r : Nat} {xs : List Int} {err : Int} (h : RdrQ Q w r xs err) (ho : Onl g w w') (hr : r ≠ g) (hQ : ¬ Q g) : RdrQ Q w' r xs err := by
  obtain ⟨A, n, c, hh, hx, hnc, hk⟩ := h
  exact ⟨A, n, c, (ho.block r (lt_of_heap hh) (fun e => hr (by injection e))).trans hh, hx.onl ho (fun e => hQ (hk g e).2), hnc, hk⟩
set_option maxHeartbeats 1000000 in
theorem rnumQ (w : World) (g : Nat) (xs : List Int) (err : Int) (h : RdrQ Q w g xs err) (hn : xs.length ≤ 140737488355328) :
    Calls Try.prog 108 #[.pointer (some ⟨g, 0, none⟩)] w fun e w' => e = .returned (.int .u64 (numS xs err).1) ∧ RdrQ Q w' g (numS xs err).2.1 (numS xs err).2.2 ∧ Onl g w w' := by
  obtain ⟨A, n, c, hh, hx, hnc, hk⟩ := h
  have hc0 := two_cell0 hh; have hc1 := two_cell1 hh
  have hf0 := two_frozen (i := 0) hh; have hf1 := two_frozen (i := 1) hh
  have HH := Lib.hid hh; clear hh
  have hl := hx.len
  have hnn : n ≤ 140737488355328 := by omega
  clear hl hn
  by_cases he : err = 0
  · subst he
    have he1 : ((0 : Int) != 0) = false := by decide
    rcases tkN_cases xs hx.2 0 with ⟨e, ht, he5⟩ | ⟨v, k, ht, hv0, hv1, hk0, hk1⟩
    · have HS := Lib.hid (show numS xs 0 = (0, xs, e) by unfold numS; rw [ht]; rcases he5 with rfl | rfl <;> simp)
      have HT := Lib.hid (show tk xs 0 = (0, 0, e) by rw [tk_zero]; exact ht)
      have hne : (e != 0) = true := by rcases he5 with rfl | rfl <;> decide
      clear ht he5
      go_enter Try.func108, Try.ntmps108
      go_wp2_with (go_at_call 136; refine (take_any A n c 0 xs _ hx (by omega)).mono ?_; rintro e' w' ⟨he', rfl⟩; rw [HT.out] at he'; unfold Tk3 at he'; subst he')
      go_ret
      rw [HS.out]
      refine ⟨rfl, ⟨A, n, c, two_set1 HH.out, hx.keepB (below_set _ _ _ _) (fun k h => (hk k h).1), hnc, hk⟩, onl_set _ _ _ _⟩
    · have HS := Lib.hid (show numS xs 0 = (v, xs.drop k, 0) by unfold numS; rw [ht]; simp)
      have HT := Lib.hid (show tk xs 0 = (v, (k : Int), 0) by rw [tk_zero]; exact ht)
      have hkn : k ≤ n := by rw [← hx.len]; exact hk1
      clear ht hk1
      have hsl := slice_lo A n c k hkn
      go_enter Try.func108, Try.ntmps108
      go_wp2_with (go_at_call 136; refine (take_any A n c 0 xs _ hx (by omega)).mono ?_; rintro e' w' ⟨he', rfl⟩; rw [HT.out] at he'; unfold Tk3 at he'; subst he')
      go_ret
      rw [HS.out]
      refine ⟨rfl, ⟨_, _, _, two_set0 HH.out, (hx.cutTail hkn hnc).keepB (below_set _ _ _ _) ?_, by omega, ?_⟩, onl_set _ _ _ _⟩
      · rw [blk_cutA]; exact fun k h => (hk k h).1
      · rw [blk_cutA]; exact hk
  · have HS := Lib.hid (show numS xs err = (0, xs, err) by unfold numS; rw [if_pos he])
    have he1 : (err != 0) = true := by simpa using he
    clear he
    go_enter Try.func108, Try.ntmps108
    go_wp2
    go_ret
    rw [HS.out]
    exact ⟨rfl, ⟨A, n, c, HH.out, hx, hnc, hk⟩, Onl.refl _ _⟩
set_option maxHeartbeats 1000000 in
theorem rerrQ (w : World) (g : Nat) (xs : List Int) (err : Int) (h : RdrQ Q w g xs err) :
    Calls Try.prog 117 #[.pointer (some ⟨g, 0, none⟩)] w fun e w' => e = .returned (.int .i64 err) ∧ w = w' := by
  obtain ⟨A, n, c, hh, hx, hnc, hk⟩ := h
  have hc1 := two_cell1 hh
  clear hh
  go_enter Try.func117, Try.ntmps117
  go_wp2
  go_ret
  exact ⟨rfl, rfl⟩
set_option maxHeartbeats 1000000 in
theorem rleftQ (w : World) (g : Nat) (xs : List Int) (err : Int) (h : RdrQ Q w g xs err) :
    Calls Try.prog 116 #[.pointer (some ⟨g, 0, none⟩)] w fun e w' => e = .returned (.int .i64 xs.length) ∧ w = w' := by
  obtain ⟨A, n, c, hh, hx, hnc, hk⟩ := h
  have hc0 := two_cell0 hh
  have HL := Lib.hid hx.len
  clear hh
  go_enter Try.func116, Try.ntmps116
  go_wp2
  go_ret
  exact ⟨by rw [HL.out]; rfl, rfl⟩
set_option maxHeartbeats 1000000 in
theorem rcloseQ (w : World) (g : Nat) (xs : List Int) (err : Int) (h : RdrQ Q w g xs err) :
    Calls Try.prog 110 #[.pointer (some ⟨g, 0, none⟩)] w fun e w' => e = .returned (.int .i64 (closeV xs err)) ∧ w = w' := by
  obtain ⟨A, n, c, hh, hx, hnc, hk⟩ := h
  have hc0 := two_cell0 hh; have hc1 := two_cell1 hh
  have hl := hx.len
  clear hh
  by_cases he : err = 0
  · by_cases hn : 0 < n
    · have HV := Lib.hid (show closeV xs err = 3 by
        unfold closeV; rw [if_pos]
        refine ⟨he, ?_⟩
        intro e; rw [e] at hl; simp at hl; omega)
      have he1 : (err == 0) = true := by simp [he]
      clear he hl
      go_enter Try.func110, Try.ntmps110
      go_wp2
      go_ret
      exact ⟨by rw [HV.out]; rfl, rfl⟩
    · have HV := Lib.hid (show closeV xs err = err by
        unfold closeV; rw [if_neg]
        intro h
        exact h.2 (List.eq_nil_of_length_eq_zero (by omega)))
      have he1 : (err == 0) = true := by simp [he]
      clear he hl
      go_enter Try.func110, Try.ntmps110
      go_wp2
      go_ret
      exact ⟨by rw [HV.out]; rfl, rfl⟩
  · have HV := Lib.hid (show closeV xs err = err by
      unfold closeV; rw [if_neg]
      intro h
      exact he h.1)
    have he1 : (err == 0) = false := by simpa using he
    clear he hl
    go_enter Try.func110, Try.ntmps110
    go_wp2
    go_ret
    exact ⟨by rw [HV.out]; rfl, rfl⟩
set_option maxHeartbeats 1000000 in
theorem rflagQ (w : World) (g : Nat) (xs : List Int) (err : Int) (h : RdrQ Q w g xs err) :
    Calls Try.prog 115 #[.pointer (some ⟨g, 0, none⟩)] w fun e w' => e = .returned (.bool (flagS xs err).1) ∧ RdrQ Q w' g (flagS xs err).2.1 (flagS xs err).2.2 ∧ Onl g w w' := by
  obtain ⟨A, n, c, hh, hx, hnc, hk⟩ := h
  have hc0 := two_cell0 hh; have hc1 := two_cell1 hh
  have hf0 := two_frozen (i := 0) hh; have hf1 := two_frozen (i := 1) hh
  have HH := Lib.hid hh; clear hh
  have hl := hx.len
  by_cases he : err = 0
  · subst he
    have he1 : ((0 : Int) != 0) = false := by decide
    cases xs with
    | nil =>
      have hn : n = 0 := by simpa using hl.symm
      subst hn
      have HS := Lib.hid (show flagS [] 0 = (false, [], 5) by decide)
      clear hl
      go_enter Try.func115, Try.ntmps115
      go_wp2
      go_ret
      rw [HS.out]
      exact ⟨rfl, ⟨A, 0, c, two_set1 HH.out, hx.keepB (below_set _ _ _ _) (fun k h => (hk k h).1), hnc, hk⟩, onl_set _ _ _ _⟩
    | cons b r =>
      have hn : 0 < n := by rw [← hl]; simp
      have hn0 : ((n : Int) == 0) = false := by simp; omega
      obtain ⟨bb, off, x, rfl, hbb, hx0, hx1, hcx, HX⟩ := hx.at_ hn
      have hxb : x = b := by have := HX.out; simpa using this.symm
      subst hxb
      have hcx0 : w.cell? ⟨bb, off, none⟩ = some (.int .u8 x) := by simpa using hcx
      clear hl hcx
      by_cases h1 : 1 < x
      · have HS := Lib.hid (show flagS (x :: r) 0 = (false, x :: r, 3) by simp [flagS, h1])
        go_enter Try.func115, Try.ntmps115
        go_wp2
        go_ret
        rw [HS.out]
        exact ⟨rfl, ⟨_, n, c, two_set1 HH.out, hx.keepB (below_set _ _ _ _) (fun k h => (hk k h).1), hnc, hk⟩, onl_set _ _ _ _⟩
      · have HS := Lib.hid (show flagS (x :: r) 0 = (x == 1, r, 0) by simp [flagS, h1])
        have hsl := slice_lo (some ⟨bb, off, none⟩) n c 1 (by omega)
        have hsl' : ∀ W, (Instr.slice 28 (.slice (some ⟨bb, off, none⟩) n c) (some (.int .i64 1)) none none).run Try.prog W = .ok (.slice (cutA (some ⟨bb, off, none⟩) c 1) (n - 1) (c - 1)) W := hsl
        clear hsl
        go_enter Try.func115, Try.ntmps115
        go_wp2
        go_ret
        rw [HS.out]
        refine ⟨rfl, ⟨_, _, _, two_set0 HH.out, ?_, by omega, ?_⟩, onl_set _ _ _ _⟩
        · have := (hx.cutTail (lo := 1) (by omega) hnc).keepB (below_set w g 0 (.slice (cutA (some ⟨bb, off, none⟩) c 1) (n - 1) (c - 1))) (by rw [blk_cutA]; exact fun k h => (hk k h).1)
          exact this
        · rw [blk_cutA]; exact hk
  · have HS := Lib.hid (show flagS xs err = (false, xs, err) by unfold flagS; rw [if_pos he])
    have he1 : (err != 0) = true := by simpa using he
    clear he hl
    go_enter Try.func115, Try.ntmps115
    go_wp2
    go_ret
    rw [HS.out]
    exact ⟨rfl, ⟨A, n, c, HH.out, hx, hnc, hk⟩, Onl.refl _ _⟩
theorem readQ (A : Option Addr) (n c : Nat) (xs : List Int) (w : World) (hx : Bs w A n xs) (hn : n ≤ 140737488355328) :
    Calls Try.prog 114 #[.slice A n c] w fun e w' => ∃ g, e = .returned (.pointer (some ⟨g, 0, none⟩)) ∧ RdrQ (w.heap.size ≤ ·) w' g xs 0 ∧ w.heap.size ≤ g ∧ Below w.heap.size w w' := by
  go_enter Try.func114, Try.ntmps114
  go_wp2_with fail
  refine (clone_any A n c xs _ hx hn).mono ?_
  rintro e w1 ⟨A1, c1, rfl, ho1, hb1⟩
  have hsz := hb1.size
  have HO := Lib.hid ho1; clear ho1
  go_wp2
  go_ret
  have ho1 := HO.out
  have hl := ho1.lies
  have hnc : n ≤ c1 := by
    rcases ho1.2 with ⟨hv, h0⟩ | ⟨g, cap, cur, hv, _, _, h, _⟩
    · omega
    · have : c1 = cap := by injection hv
      omega
  refine ⟨w1.heap.size, rfl, ⟨A1, n, c1, heap_alloc_new w1 _, (ho1.bs hx.2).keep (below_alloc w1 _), hnc, fun k hk => ⟨(hl k hk).2, (hl k hk).1⟩⟩, hsz, hb1.alloc hsz _⟩
end Go.Proofs.Ytmjjbfcblmmipaa
