/- Unwrap and the reference's Unwrap. -/
import Derived.Test.YtmckgdjipkkklaaDoorROpenW
import Derived.Test.YtmckgdjipkkklaaDoorWraps
namespace Go.Proofs.YtmckgdjipkkklaaDoor
set_option linter.unusedVariables false
set_option linter.unusedSimpArgs false
open Go.RowKit

/-- What Unwrap returns. -/
def UnwPost (r : Nat × List Nat) (w : World) (e : Ending) (w' : World) : Prop :=
  (r.1 = 0 ∧ ∃ A' c', e = .returned (.tuple #[.slice A' r.2.length c', .int .i64 0]) ∧ Own w' w.heap.size 5 A' r.2.length c' (By (il r.2)) ∧ Below w.heap.size w w') ∨
  (r.1 ≠ 0 ∧ e = .returned (.tuple #[.slice none 0 0, .int .i64 (r.1 : Int)]) ∧ Below w.heap.size w w')

set_option maxRecDepth 100000 in
set_option maxHeartbeats 2000000 in
theorem unwrap_any (A : Option Addr) (n c : Nat) (xs : List Int) (w : World) (hx : Bs w A n xs) (hn : n ≤ 1000000) (hc : n ≤ c) (ht : Tabs w) :
    Calls Tryd.prog 35 #[.slice A n c] w (UnwPost (unw (n + 1) (nl xs) 0 []) w) := by
  obtain ⟨i0, hi, hz0, hz1, hz2⟩ := info_parts info5
  have HLN : Hid ((nl xs).length = n) := by show _ = _; rw [nl_length]; exact hx.len
  have HRX := Lib.hid (nl_rn hx.2)
  obtain ⟨RES, hRES⟩ : ∃ R, R = unw (n + 1) (nl xs) 0 [] := ⟨_, rfl⟩
  rw [← hRES]
  have HRES := Lib.hid hRES; clear hRES
  go_enter Tryd.func35, Tryd.ntmps35
  go_wp2
  go_loopw [4, 5] (fun va vp wr => ∃ (a1 n1 c1 f : Nat) (A1 : Option Addr) (dn : List Nat), va = .slice A1 n1 c1 ∧ vp = .int .i64 a1 ∧ a1 ≤ n ∧ n1 ≤ 131072 * a1 ∧ n - a1 < f ∧ Own wr w.heap.size 5 A1 n1 c1 (By (il dn)) ∧ Hid (RES = unw f (nl xs) a1 dn) ∧ Below w.heap.size w wr) (fun _ vp _ => n - (intOf vp).toNat)
  case atStart => exact ⟨0, 0, 0, n + 1, none, [], rfl, rfl, Nat.zero_le _, Nat.zero_le _, by omega, by simpa [il, By] using Own.nil_, HRES, Below.refl _ _⟩
  case round =>
    obtain ⟨a1, n1, c1, f, A1, dn, rfl, rfl, ha1, hn1, hf, hoA, HINV, hbr⟩ := hrel
    have hsr := hbr.size
    have hxr := hx.keep hbr
    have htr := ht.below hbr
    obtain ⟨f', rfl⟩ : ∃ f', f = f' + 1 := ⟨f - 1, by omega⟩
    obtain ⟨r, hr⟩ : ∃ r, r = openL (nl xs) a1 := ⟨_, rfl⟩
    have HRR := Lib.hid hr
    have HST : Hid (RES = if r.1 ≠ 0 then (r.1, []) else if r.2.1.length < 4096 then (if r.2.2 < n then (3, []) else (0, dn ++ r.2.1)) else unw f' (nl xs) r.2.2 (dn ++ r.2.1)) := by
      show _ = _
      rw [HINV.out, hr, ← HLN.out]; rfl
    clear hr HINV
    go_wp2_with fail
    refine (open_any A n c a1 xs _ hxr (by omega) hc ha1 htr).mono ?_
    rintro e w3 hpost
    rw [← HRR.out] at hpost
    rcases hpost with ⟨hr0, A2, c2, rfl, ho2, hb2⟩ | ⟨hr0, rfl, hb2⟩
    · have hnx : a1 + 8 ≤ r.2.2 ∧ r.2.2 ≤ n ∧ r.2.1.length ≤ 1048576 := by
        have h0 : (openL (nl xs) a1).1 = 0 := by rw [← HRR.out]; exact hr0
        have := openL_next h0
        rw [← HRR.out, HLN.out] at this
        exact this
      have HST2 : Hid (RES = if r.2.1.length < 4096 then (if r.2.2 < n then (3, []) else (0, dn ++ r.2.1)) else unw f' (nl xs) r.2.2 (dn ++ r.2.1)) := by
        show _ = _
        rw [HST.out, hr0]; rfl
      have hoA3 : Own w3 w.heap.size 5 A1 n1 c1 (By (il dn)) := hoA.below hb2 (fun k hk => (hoA.lies k hk).2)
      have hbr3 := hbr.trans (hb2.mono hsr)
      have hs3 := hbr3.size
      have hr3 := ho2.rd
      clear HST hr0 HRR
      generalize r.2.1 = X at *
      generalize r.2.2 = nx at *
      obtain ⟨ln, hln⟩ : ∃ z, z = X.length := ⟨_, rfl⟩
      rw [← hln] at hnx ho2 hr3 HST2 ⊢
      have HLNX := Lib.hid hln; clear hln
      obtain ⟨hnx1, hnx2, hln3⟩ := hnx
      clear hoA ho2 hb2 hxr htr hbr
      have hlt : ln < 4096 ∨ ¬ ln < 4096 := by omega
      rcases hlt with hlt | hlt
      · have hlt2 : nx < n ∨ ¬ nx < n := by omega
        have hd1 : decide ((ln : Int) < 4096) = true := by simp; omega
        rcases hlt2 with hlt2 | hlt2
        · have HF := Lib.hid (show RES = (3, []) by rw [HST2.out, if_pos hlt, if_pos hlt2])
          have hd2 : decide ((nx : Int) < (n : Int)) = true := by simp; omega
          clear HST2
          go_wp2_with (at_builtin; refine wpList_append_rd rfl _ _ 28 rfl i0 (.int .u8 0) 1 Tryd.underlying28 hi hz0 hz1 hz2 rfl rfl hoA3 A2 ln c2 _ rfl hr3 (By_one _) ?c1 ?c2 ?c3 ?_)
          case c1 => unfold maxLen; omega
          case c2 => omega
          case c3 => exact hs3
          intro A4 c4 w4' ho4 hg4
          have hbr4 := hbr3.trans (hg4.below hs3 (fun k hk => (hoA3.lies k hk).1))
          clear ho4 hg4 hoA3 hr3 hbr3
          go_wp2
          go_ret2
          refine .inr ?_
          rw [HF.out]
          exact ⟨by simp, rfl, hbr4⟩
        · have HF := Lib.hid (show RES = (0, dn ++ X) by rw [HST2.out, if_pos hlt, if_neg hlt2])
          have hd2 : decide ((nx : Int) < (n : Int)) = false := by simp; omega
          clear HST2
          go_wp2_with (at_builtin; refine wpList_append_rd rfl _ _ 28 rfl i0 (.int .u8 0) 1 Tryd.underlying28 hi hz0 hz1 hz2 rfl rfl hoA3 A2 ln c2 _ rfl hr3 (By_one _) ?c1 ?c2 ?c3 ?_)
          case c1 => unfold maxLen; omega
          case c2 => omega
          case c3 => exact hs3
          intro A4 c4 w4' ho4 hg4
          have hbr4 := hbr3.trans (hg4.below hs3 (fun k hk => (hoA3.lies k hk).1))
          have HLL : Hid ((dn ++ X).length = n1 + ln) := by
            have := hoA3.len
            rw [By_length, il_length] at this
            show _ = _
            rw [List.length_append, this, HLNX.out]
          rw [← By_append, ← il_append] at ho4
          clear hg4 hoA3 hr3 hbr3
          go_wp2
          go_ret2
          refine .inl ?_
          rw [HF.out]
          refine ⟨rfl, A4, c4, ?_, ?_, hbr4⟩
          · rw [HLL.out]; rfl
          · rw [HLL.out]; exact ho4
      · have HF := Lib.hid (show RES = unw f' (nl xs) nx (dn ++ X) by rw [HST2.out, if_neg hlt])
        have hd1 : decide ((ln : Int) < 4096) = false := by simp; omega
        clear HST2
        go_wp2_with (at_builtin; refine wpList_append_rd rfl _ _ 28 rfl i0 (.int .u8 0) 1 Tryd.underlying28 hi hz0 hz1 hz2 rfl rfl hoA3 A2 ln c2 _ rfl hr3 (By_one _) ?c1 ?c2 ?c3 ?_)
        case c1 => unfold maxLen; omega
        case c2 => omega
        case c3 => exact hs3
        intro A4 c4 w4' ho4 hg4
        have hbr4 := hbr3.trans (hg4.below hs3 (fun k hk => (hoA3.lies k hk).1))
        rw [← By_append, ← il_append] at ho4
        clear hg4 hoA3 hr3 hbr3
        go_wp2
        go_roundw
        case rel => exact ⟨nx, n1 + ln, c4, f', A4, dn ++ X, rfl, rfl, hnx2, by omega, by omega, ho4, HF, hbr4⟩
        case measure => simp [intOf]; omega
    · have HF := Lib.hid (show RES = (r.1, []) by rw [HST.out, if_pos hr0])
      have hbr3 := hbr.trans (hb2.mono hsr)
      clear HST HRR hoA hxr htr hb2 hbr
      generalize r.1 = r1 at *
      have hne : (((r1 : Nat) : Int) != 0) = true := by simpa using hr0
      go_wp2
      go_ret2
      refine .inr ?_
      rw [HF.out]
      exact ⟨hr0, rfl, hbr3⟩

set_option maxRecDepth 100000 in
set_option maxHeartbeats 2000000 in
theorem runwrap_any (A : Option Addr) (n c : Nat) (xs : List Int) (w : World) (hx : Bs w A n xs) (hn : n ≤ 1000000) (hc : n ≤ c) (ht : Tabs w) :
    Calls Tryd.prog 36 #[.slice A n c] w (UnwPost (unw (n + 1) (nl xs) 0 []) w) := by
  obtain ⟨i0, hi, hz0, hz1, hz2⟩ := info_parts info5
  have HLN : Hid ((nl xs).length = n) := by show _ = _; rw [nl_length]; exact hx.len
  have HRX := Lib.hid (nl_rn hx.2)
  obtain ⟨RES, hRES⟩ : ∃ R, R = unw (n + 1) (nl xs) 0 [] := ⟨_, rfl⟩
  rw [← hRES]
  have HRES := Lib.hid hRES; clear hRES
  go_enter Tryd.func36, Tryd.ntmps36
  go_wp2
  go_loopw [4, 5] (fun va vp wr => ∃ (a1 n1 c1 f : Nat) (A1 : Option Addr) (dn : List Nat), va = .slice A1 n1 c1 ∧ vp = .int .i64 a1 ∧ a1 ≤ n ∧ n1 ≤ 131072 * a1 ∧ n - a1 < f ∧ Own wr w.heap.size 5 A1 n1 c1 (By (il dn)) ∧ Hid (RES = unw f (nl xs) a1 dn) ∧ Below w.heap.size w wr) (fun _ vp _ => n - (intOf vp).toNat)
  case atStart => exact ⟨0, 0, 0, n + 1, none, [], rfl, rfl, Nat.zero_le _, Nat.zero_le _, by omega, by simpa [il, By] using Own.nil_, HRES, Below.refl _ _⟩
  case round =>
    obtain ⟨a1, n1, c1, f, A1, dn, rfl, rfl, ha1, hn1, hf, hoA, HINV, hbr⟩ := hrel
    have hsr := hbr.size
    have hxr := hx.keep hbr
    have htr := ht.below hbr
    obtain ⟨f', rfl⟩ : ∃ f', f = f' + 1 := ⟨f - 1, by omega⟩
    obtain ⟨r, hr⟩ : ∃ r, r = openL (nl xs) a1 := ⟨_, rfl⟩
    have HRR := Lib.hid hr
    have HST : Hid (RES = if r.1 ≠ 0 then (r.1, []) else if r.2.1.length < 4096 then (if r.2.2 < n then (3, []) else (0, dn ++ r.2.1)) else unw f' (nl xs) r.2.2 (dn ++ r.2.1)) := by
      show _ = _
      rw [HINV.out, hr, ← HLN.out]; rfl
    clear hr HINV
    go_wp2_with fail
    refine (ropen_any A n c a1 xs _ hxr (by omega) hc ha1).mono ?_
    rintro e w3 hpost
    rw [← HRR.out] at hpost
    rcases hpost with ⟨hr0, A2, c2, rfl, ho2, hb2⟩ | ⟨hr0, rfl, hb2⟩
    · have hnx : a1 + 8 ≤ r.2.2 ∧ r.2.2 ≤ n ∧ r.2.1.length ≤ 1048576 := by
        have h0 : (openL (nl xs) a1).1 = 0 := by rw [← HRR.out]; exact hr0
        have := openL_next h0
        rw [← HRR.out, HLN.out] at this
        exact this
      have HST2 : Hid (RES = if r.2.1.length < 4096 then (if r.2.2 < n then (3, []) else (0, dn ++ r.2.1)) else unw f' (nl xs) r.2.2 (dn ++ r.2.1)) := by
        show _ = _
        rw [HST.out, hr0]; rfl
      have hoA3 : Own w3 w.heap.size 5 A1 n1 c1 (By (il dn)) := hoA.below hb2 (fun k hk => (hoA.lies k hk).2)
      have hbr3 := hbr.trans (hb2.mono hsr)
      have hs3 := hbr3.size
      have hr3 := ho2.rd
      clear HST hr0 HRR
      generalize r.2.1 = X at *
      generalize r.2.2 = nx at *
      obtain ⟨ln, hln⟩ : ∃ z, z = X.length := ⟨_, rfl⟩
      rw [← hln] at hnx ho2 hr3 HST2 ⊢
      have HLNX := Lib.hid hln; clear hln
      obtain ⟨hnx1, hnx2, hln3⟩ := hnx
      clear hoA ho2 hb2 hxr htr hbr
      have hlt : ln < 4096 ∨ ¬ ln < 4096 := by omega
      rcases hlt with hlt | hlt
      · have hlt2 : nx < n ∨ ¬ nx < n := by omega
        have hd1 : decide ((ln : Int) < 4096) = true := by simp; omega
        rcases hlt2 with hlt2 | hlt2
        · have HF := Lib.hid (show RES = (3, []) by rw [HST2.out, if_pos hlt, if_pos hlt2])
          have hd2 : decide ((nx : Int) < (n : Int)) = true := by simp; omega
          clear HST2
          go_wp2_with (at_builtin; refine wpList_append_rd rfl _ _ 28 rfl i0 (.int .u8 0) 1 Tryd.underlying28 hi hz0 hz1 hz2 rfl rfl hoA3 A2 ln c2 _ rfl hr3 (By_one _) ?c1 ?c2 ?c3 ?_)
          case c1 => unfold maxLen; omega
          case c2 => omega
          case c3 => exact hs3
          intro A4 c4 w4' ho4 hg4
          have hbr4 := hbr3.trans (hg4.below hs3 (fun k hk => (hoA3.lies k hk).1))
          clear ho4 hg4 hoA3 hr3 hbr3
          go_wp2
          go_ret2
          refine .inr ?_
          rw [HF.out]
          exact ⟨by simp, rfl, hbr4⟩
        · have HF := Lib.hid (show RES = (0, dn ++ X) by rw [HST2.out, if_pos hlt, if_neg hlt2])
          have hd2 : decide ((nx : Int) < (n : Int)) = false := by simp; omega
          clear HST2
          go_wp2_with (at_builtin; refine wpList_append_rd rfl _ _ 28 rfl i0 (.int .u8 0) 1 Tryd.underlying28 hi hz0 hz1 hz2 rfl rfl hoA3 A2 ln c2 _ rfl hr3 (By_one _) ?c1 ?c2 ?c3 ?_)
          case c1 => unfold maxLen; omega
          case c2 => omega
          case c3 => exact hs3
          intro A4 c4 w4' ho4 hg4
          have hbr4 := hbr3.trans (hg4.below hs3 (fun k hk => (hoA3.lies k hk).1))
          have HLL : Hid ((dn ++ X).length = n1 + ln) := by
            have := hoA3.len
            rw [By_length, il_length] at this
            show _ = _
            rw [List.length_append, this, HLNX.out]
          rw [← By_append, ← il_append] at ho4
          clear hg4 hoA3 hr3 hbr3
          go_wp2
          go_ret2
          refine .inl ?_
          rw [HF.out]
          refine ⟨rfl, A4, c4, ?_, ?_, hbr4⟩
          · rw [HLL.out]; rfl
          · rw [HLL.out]; exact ho4
      · have HF := Lib.hid (show RES = unw f' (nl xs) nx (dn ++ X) by rw [HST2.out, if_neg hlt])
        have hd1 : decide ((ln : Int) < 4096) = false := by simp; omega
        clear HST2
        go_wp2_with (at_builtin; refine wpList_append_rd rfl _ _ 28 rfl i0 (.int .u8 0) 1 Tryd.underlying28 hi hz0 hz1 hz2 rfl rfl hoA3 A2 ln c2 _ rfl hr3 (By_one _) ?c1 ?c2 ?c3 ?_)
        case c1 => unfold maxLen; omega
        case c2 => omega
        case c3 => exact hs3
        intro A4 c4 w4' ho4 hg4
        have hbr4 := hbr3.trans (hg4.below hs3 (fun k hk => (hoA3.lies k hk).1))
        rw [← By_append, ← il_append] at ho4
        clear hg4 hoA3 hr3 hbr3
        go_wp2
        go_roundw
        case rel => exact ⟨nx, n1 + ln, c4, f', A4, dn ++ X, rfl, rfl, hnx2, by omega, by omega, ho4, HF, hbr4⟩
        case measure => simp [intOf]; omega
    · have HF := Lib.hid (show RES = (r.1, []) by rw [HST.out, if_pos hr0])
      have hbr3 := hbr.trans (hb2.mono hsr)
      clear HST HRR hoA hxr htr hb2 hbr
      generalize r.1 = r1 at *
      have hne : (((r1 : Nat) : Int) != 0) = true := by simpa using hr0
      go_wp2
      go_ret2
      refine .inr ?_
      rw [HF.out]
      exact ⟨hr0, rfl, hbr3⟩
end Go.Proofs.YtmckgdjipkkklaaDoor
