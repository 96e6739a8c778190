/- Opening records in the program: Open. -/
import Derived.Test.YtmckgdjipkkklaaDoorOpenW
namespace Go.Proofs.YtmckgdjipkkklaaDoor
set_option linter.unusedVariables false
set_option linter.unusedSimpArgs false
open Go.RowKit

theorem openC_fuel : ∀ (f g : Nat) (l : List Nat) (a left : Nat), left ≤ f → left ≤ g → openC f l a left = openC g l a left
  | 0, g, l, a, left, h, _ => by
    obtain rfl : left = 0 := by omega
    rw [openC_zero, openC_zero]
  | f + 1, 0, l, a, left, _, h => by
    obtain rfl : left = 0 := by omega
    rw [openC_zero, openC_zero]
  | f + 1, g + 1, l, a, left, h1, h2 => by
    simp only [openC]
    by_cases h : left = 0
    · simp [h]
    · rw [if_neg h, if_neg h, openC_fuel f g l _ (left - min left 251) (by omega) (by omega)]
/-- What Open returns: the bytes in memory of their own and the place behind, or an error. -/
def OpenPost (r : Nat × List Nat × Nat) (w : World) (e : Ending) (w' : World) : Prop :=
  (r.1 = 0 ∧ ∃ A' c', e = .returned (.tuple #[.slice A' r.2.1.length c', .int .i64 (r.2.2 : Int), .int .i64 0]) ∧ Own w' w.heap.size 5 A' r.2.1.length c' (By (il r.2.1)) ∧ Below w.heap.size w w') ∨
  (r.1 ≠ 0 ∧ e = .returned (.tuple #[.slice none 0 0, .int .i64 0, .int .i64 (r.1 : Int)]) ∧ Below w.heap.size w w')

theorem open_arg (A : Option Addr) (n c : Nat) (a : Int) (xs : List Int) (w : World) (hx : Bs w A n xs) (hn : n ≤ 1000000000000) (ha : a < 0 ∨ (n : Int) < a) :
    Calls Tryd.prog 27 #[.slice A n c, .int .i64 a] w fun e w' => e = .returned (.tuple #[.slice none 0 0, .int .i64 0, .int .i64 1]) ∧ w = w' := by
  rcases ha with h | h
  · have hd : decide (a < 0) = true := by simpa using h
    go_enter Tryd.func27, Tryd.ntmps27
    go_wp2
    go_ret3
    exact ⟨rfl, rfl⟩
  · have hd : decide (a < 0) = false := by simp; omega
    have hd2 : decide ((n : Int) < a) = true := by simpa using h
    go_enter Tryd.func27, Tryd.ntmps27
    go_wp2
    go_ret3
    exact ⟨rfl, rfl⟩

set_option maxRecDepth 100000 in
set_option maxHeartbeats 4000000 in
theorem open_any (A : Option Addr) (n c a : Nat) (xs : List Int) (w : World) (hx : Bs w A n xs) (hn : n ≤ 1000000000000) (hc : n ≤ c) (ha : a ≤ n) (ht : Tabs w) :
    Calls Tryd.prog 27 #[.slice A n c, .int .i64 (a : Int)] w (OpenPost (openL (nl xs) a) w) := by
  obtain ⟨i0, hi, hz0, hz1, hz2⟩ := info_parts info5
  have hd : decide ((a : Int) < 0) = false := by simp
  have hd2 : decide ((n : Int) < (a : Int)) = false := by simp; omega
  by_cases hE : cellE (nl xs) a 4 = 0
  · have hl : (nl xs).length = n := by rw [nl_length]; exact hx.len
    have hs : a + 8 ≤ n := by
      unfold cellE at hE
      rw [hl] at hE
      split at hE
      · omega
      · omega
    obtain ⟨b, off, rfl, _, _⟩ := hx.1.2 (by omega)
    obtain ⟨y0, h0, l0, HY0⟩ := hx.nat_at (k := a) (by omega)
    obtain ⟨y1, h1, l1, HY1⟩ := hx.nat_at (k := a + 1) (by omega)
    obtain ⟨y2, h2, l2, HY2⟩ := hx.nat_at (k := a + 2) (by omega)
    obtain ⟨y3, h3, l3, HY3⟩ := hx.nat_at (k := a + 3) (by omega)
    have hblt := hx.blt (by omega)
    have hx0 := hx
    have HB4 := Lib.hid (show be4 (sub (nl xs) a 4) = y0 * 16777216 + y1 * 65536 + y2 * 256 + y3 by
      have hd4 : sub (nl xs) a 4 = [y0, y1, y2, y3] := by
        unfold sub
        rw [nl_drop HY0.out, nl_drop HY1.out, nl_drop HY2.out, nl_drop HY3.out]
        rfl
      rw [hd4]; rfl)
    obtain ⟨q1, hq1⟩ : ∃ q : Nat, q = y0 * 16777216 + y1 * 65536 := ⟨_, rfl⟩
    obtain ⟨q2, hq2⟩ : ∃ q : Nat, q = y0 * 16777216 + y1 * 65536 + y2 * 256 := ⟨_, rfl⟩
    obtain ⟨L, hL⟩ : ∃ q : Nat, q = y0 * 16777216 + y1 * 65536 + y2 * 256 + y3 := ⟨_, rfl⟩
    have o1 : bits .or .u32 ((y0 : Int) * 16777216) ((y1 : Int) * 65536) = (q1 : Int) := by
      rw [or_sym, u32_or24 ((y1 : Int) * 65536) ((y0 : Int) * 16777216) (by omega) (by omega) (by omega) (by omega) (by omega)]; omega
    have o2 : bits .or .u32 (q1 : Int) ((y2 : Int) * 256) = (q2 : Int) := by
      rw [or_sym, u32_or16 ((y2 : Int) * 256) (q1 : Int) (by omega) (by omega) (by omega) (by omega) (by omega)]; omega
    have o3 : bits .or .u32 (q2 : Int) (y3 : Int) = (L : Int) := by
      rw [or_sym, u32_or8 (y3 : Int) (q2 : Int) (by omega) (by omega) (by omega) (by omega) (by omega)]; omega
    have hu32 : ∀ z : Int, 0 ≤ z → z < 4294967296 → IntKind.u32.wrap z = z := by
      intro z z0 z1
      have : IntKind.u32.wrap z = z % 4294967296 := by simp [IntKind.wrap, IntKind.bits, IntKind.signed]
      rw [this]; omega
    have w0 := hu32 (y0 : Int) (by omega) (by omega)
    have w1' := hu32 (y1 : Int) (by omega) (by omega)
    have w2' := hu32 (y2 : Int) (by omega) (by omega)
    have w3' := hu32 (y3 : Int) (by omega) (by omega)
    have x0 := hu32 ((y0 : Int) * 16777216) (by omega) (by omega)
    have x1 := hu32 ((y1 : Int) * 65536) (by omega) (by omega)
    have x2 := hu32 ((y2 : Int) * 256) (by omega) (by omega)
    have hLl : L < 4294967296 := by omega
    have HLE := Lib.hid (show be4 (sub (nl xs) a 4) = L by rw [HB4.out, hL])
    clear hq1 hq2 hL hu32 HB4 HY0 HY1 HY2 HY3
    go_enter Tryd.func27, Tryd.ntmps27
    go_wp2_with fail
    refine (cellAt_ok b off n c a 4 xs _ hx hn hc (by omega) hE ht).mono ?_
    rintro e w1 ⟨rfl, hb1⟩
    have c0 : w1.cell? ⟨b, off + a, none⟩ = some (.int .u8 (y0 : Int)) := (hb1.cell (p := ⟨b, off + a, none⟩) hblt).trans h0
    have c1 : w1.cell? ⟨b, off + a + 1, none⟩ = some (.int .u8 (y1 : Int)) := (hb1.cell (p := ⟨b, off + a + 1, none⟩) hblt).trans h1
    have c2 : w1.cell? ⟨b, off + a + 2, none⟩ = some (.int .u8 (y2 : Int)) := (hb1.cell (p := ⟨b, off + a + 2, none⟩) hblt).trans h2
    have c3 : w1.cell? ⟨b, off + a + 3, none⟩ = some (.int .u8 (y3 : Int)) := (hb1.cell (p := ⟨b, off + a + 3, none⟩) hblt).trans h3
    have hx1 := hx.keep hb1
    have ht1 := ht.below hb1
    have hs1 := hb1.size
    clear hx h0 h1 h2 h3
    go_wp2
    go_quiet (fail)
    by_cases hbig : 1048576 < L
    · have hdb : decide ((1048576 : Int) < (L : Int)) = true := by simp; omega
      have HR := Lib.hid (show openL (nl xs) a = (2, [], 0) by unfold openL; rw [hE, HLE.out]; simp [hbig])
      go_wp2
      go_ret3
      refine .inr ?_
      rw [HR.out]
      exact ⟨by simp, rfl, below_n hb1 _⟩
    · have hdb : decide ((1048576 : Int) < (L : Int)) = false := by simp; omega
      have HR := Lib.hid (show openL (nl xs) a = openC L (nl xs) (a + 8) L by unfold openL; rw [hE, HLE.out]; simp [hbig])
      have HX0 := Lib.hid hx0
      have hcm : (L < n - (a + 8)) ∨ (L = n - (a + 8)) ∨ (n - (a + 8) < L) := by omega
      rcases hcm with hm | hm | hm
      · obtain ⟨S, hS⟩ : ∃ S, S = L := ⟨_, rfl⟩
        -- LOOP
        have hSL : S ≤ 1048576 := by omega
        have hmk : ∀ W, (Instr.makeSlice 28 (.int .i64 0) (.int .i64 (L : Int))).run Tryd.prog W = .ok (.slice (some ⟨W.heap.size, 0, none⟩) 0 S) (W.alloc (.cells (zerA S) 5)) := fun W => by have := run_make_room i0 hi hz0 hz1 hz2 S (by omega) W; rwa [show ((S : Nat) : Int) = (L : Int) by omega] at this
        have hdm1 : (L : Int) < (n : Int) - ((a : Int) + 8) := by omega
        have hdm2 : ¬ (n : Int) - ((a : Int) + 8) < (L : Int) := by omega
        clear hm hS
        go_wp2
        clear hmk hdm1 hdm2
        have hoS : Own ((w1.drewN nq).alloc (.cells (zerA S) 5)) w.heap.size 5 (some ⟨w1.heap.size, 0, none⟩) 0 S (By (il [])) := Own.room (heap_alloc_new (w1.drewN nq) _) hs1 (by simp [zerA, zer]) (by unfold maxLen; omega)
        have hbS : Below w.heap.size w ((w1.drewN nq).alloc (.cells (zerA S) 5)) := (below_n hb1 nq).alloc hs1 _
        have hxS : Bs ((w1.drewN nq).alloc (.cells (zerA S) 5)) (some ⟨b, off, none⟩) n xs := (hx1.dr ((Dr.refl _).n nq)).keep (below_alloc _ _)
        generalize (w1.drewN nq).alloc (.cells (zerA S) 5) = wS at *
        go_loopw [1, 10, 11] (fun va vs vl wr => ∃ (a1 left n1 c1 f : Nat) (A1 : Option Addr) (dn : List Nat), va = .int .i64 a1 ∧ vs = .slice A1 n1 c1 ∧ vl = .int .i64 left ∧ a1 ≤ n ∧ left ≤ f ∧ left ≤ L ∧ n1 + left ≤ L ∧ Own wr w.heap.size 5 A1 n1 c1 (By (il dn)) ∧ Hid (openL (nl xs) a = cmb dn (openC f (nl xs) a1 left)) ∧ Below w.heap.size w wr) (fun _ _ vl _ => (intOf vl).toNat)
        case atStart => exact ⟨a + 8, L, 0, S, L, _, [], by first | rfl | (refine int_i64 ?_; omega), rfl, rfl, by omega, Nat.le_refl _, Nat.le_refl _, by omega, hoS, by rw [cmb_nil]; exact HR, hbS⟩
        case round =>
          obtain ⟨a1, left, n1, c1, f, A1, dn, rfl, rfl, rfl, ha1, hlf, hlL, hnl, ho2, HINV, hb2⟩ := hrel
          have hs2' := hb2.size
          by_cases hleft : 0 < left
          · have hx2 : Bs wr (some ⟨b, off, none⟩) n xs := HX0.out.keep hb2
            have ht2 := ht.below hb2
            have hc3 : left < 251 ∨ left = 251 ∨ 251 < left := by omega
            rcases hc3 with hq | hq | hq
            · have hK : min left 251 = left := by omega
              have hq1 : (left : Int) < 251 := by omega
              have hq2 : ¬ (251 : Int) < (left : Int) := by omega
              have hK0 : 0 < left := by omega
              have hK1 : left ≤ 251 := by omega
              have hK2 : left ≤ left := by omega
              clear hq
              by_cases hE2 : cellE (nl xs) a1 left = 0
              · have hs2 : a1 + (left + 4) ≤ n := by
                  have hl : (nl xs).length = n := by rw [nl_length]; exact hx2.len
                  unfold cellE at hE2
                  rw [hl] at hE2
                  split at hE2
                  · omega
                  · omega
                have HSTEP := Lib.hid (show openL (nl xs) a = cmb (dn ++ sub (nl xs) a1 left) (openC (left - 1) (nl xs) (a1 + (left + 4)) (left - left)) by
                  have hf : f = (f - 1) + 1 := by omega
                  have hst := cmb_step (f := f - 1) dn (l := nl xs) (a := a1) hleft (by rw [hK]; exact hE2)
                  rw [hK] at hst
                  rw [HINV.out, hf, hst, openC_fuel (f - 1) (left - 1) _ _ _ (by omega) (by omega)])
                clear HINV hK
                have HE2 := Lib.hid hE2; clear hE2
                go_wp2_with fail
                refine (cellAt_ok b off n c a1 left xs _ hx2 hn hc hK1 HE2.out ht2).mono ?_
                rintro e w3 ⟨rfl, hb3⟩
                have ho3 : Own w3 w.heap.size 5 A1 n1 c1 (By (il dn)) := ho2.below hb3 (fun k hk => (ho2.lies k hk).2)
                have hx3 := hx2.keep hb3
                have hb03 := hb2.trans (hb3.mono hs2')
                have hs3 := hb03.size
                have hcell : Bs w3 (some ⟨b, off + a1, none⟩) left ((xs.drop a1).take left) := (hx3.rest (m := a1) (by omega)).first (m := left) (by omega)
                have HCL : Hid (By (il dn) ++ By ((xs.drop a1).take left) = By (il (dn ++ sub (nl xs) a1 left))) := by
                  show _ = _
                  rw [← By_append, il_append, ← nl_sub, il_nl hcell.2]
                clear ho2 hx2 hb2 hb3
                go_wp2_with (at_builtin; refine wpList_append_rd rfl _ _ 28 rfl i0 (.int .u8 0) 1 Tryd.underlying28 hi hz0 hz1 hz2 rfl rfl ho3 (some ⟨b, off + a1, none⟩) left (c - a1) (By ((xs.drop a1).take left)) rfl hcell.1 (By_one _) ?c1 ?c2 ?c3 ?_)
                case c1 => unfold maxLen; omega
                case c2 => omega
                case c3 => exact hs3
                intro A4 c4 v4 ho4 hg4
                rw [HCL.out] at ho4
                have hb04 := hb03.trans (hg4.below hs3 (fun k hk => (ho3.lies k hk).1))
                clear ho3 hx3 hcell HCL hg4 hb03
                go_wp2
                go_roundw
                case rel => exact ⟨a1 + (left + 4), left - left, n1 + left, c4, left - 1, A4, dn ++ sub (nl xs) a1 left, by refine int_i64 ?_; omega, rfl, by refine int_i64 ?_; omega, by omega, by omega, by omega, by omega, ho4, HSTEP, hb04⟩
                case measure => (simp [intOf]) <;> omega
              · have HERR := Lib.hid (show openL (nl xs) a = (cellE (nl xs) a1 left, [], 0) by
                  have her := cmb_err (f := f) dn (l := nl xs) (a := a1) hleft hlf (by rw [hK]; exact hE2)
                  rw [hK] at her
                  rw [HINV.out]; exact her)
                have hne2 : (((cellE (nl xs) a1 left : Nat) : Int) != 0) = true := by simpa using hE2
                have HE2 := Lib.hid hE2
                clear HINV hK
                go_wp2_with fail
                refine (cellAt_err _ n c a1 left _ xs _ hx2 hn hc (by omega) hK1 rfl hE2 ht2).mono ?_
                rintro e w3 ⟨rfl, hb3⟩
                have hb03 := hb2.trans (hb3.mono hs2')
                generalize cellE (nl xs) a1 left = E at *
                clear hE2 ho2 hx2 hb2 hb3
                go_wp2
                go_ret3
                refine .inr ?_
                rw [HERR.out]
                exact ⟨HE2.out, rfl, hb03⟩
            · have hK : min left 251 = left := by omega
              have hq1 : ¬ (left : Int) < 251 := by omega
              have hq2 : ¬ (251 : Int) < (left : Int) := by omega
              have hK0 : 0 < left := by omega
              have hK1 : left ≤ 251 := by omega
              have hK2 : left ≤ left := by omega
              clear hq
              by_cases hE2 : cellE (nl xs) a1 left = 0
              · have hs2 : a1 + (left + 4) ≤ n := by
                  have hl : (nl xs).length = n := by rw [nl_length]; exact hx2.len
                  unfold cellE at hE2
                  rw [hl] at hE2
                  split at hE2
                  · omega
                  · omega
                have HSTEP := Lib.hid (show openL (nl xs) a = cmb (dn ++ sub (nl xs) a1 left) (openC (left - 1) (nl xs) (a1 + (left + 4)) (left - left)) by
                  have hf : f = (f - 1) + 1 := by omega
                  have hst := cmb_step (f := f - 1) dn (l := nl xs) (a := a1) hleft (by rw [hK]; exact hE2)
                  rw [hK] at hst
                  rw [HINV.out, hf, hst, openC_fuel (f - 1) (left - 1) _ _ _ (by omega) (by omega)])
                clear HINV hK
                have HE2 := Lib.hid hE2; clear hE2
                go_wp2_with fail
                refine (cellAt_ok b off n c a1 left xs _ hx2 hn hc hK1 HE2.out ht2).mono ?_
                rintro e w3 ⟨rfl, hb3⟩
                have ho3 : Own w3 w.heap.size 5 A1 n1 c1 (By (il dn)) := ho2.below hb3 (fun k hk => (ho2.lies k hk).2)
                have hx3 := hx2.keep hb3
                have hb03 := hb2.trans (hb3.mono hs2')
                have hs3 := hb03.size
                have hcell : Bs w3 (some ⟨b, off + a1, none⟩) left ((xs.drop a1).take left) := (hx3.rest (m := a1) (by omega)).first (m := left) (by omega)
                have HCL : Hid (By (il dn) ++ By ((xs.drop a1).take left) = By (il (dn ++ sub (nl xs) a1 left))) := by
                  show _ = _
                  rw [← By_append, il_append, ← nl_sub, il_nl hcell.2]
                clear ho2 hx2 hb2 hb3
                go_wp2_with (at_builtin; refine wpList_append_rd rfl _ _ 28 rfl i0 (.int .u8 0) 1 Tryd.underlying28 hi hz0 hz1 hz2 rfl rfl ho3 (some ⟨b, off + a1, none⟩) left (c - a1) (By ((xs.drop a1).take left)) rfl hcell.1 (By_one _) ?c1 ?c2 ?c3 ?_)
                case c1 => unfold maxLen; omega
                case c2 => omega
                case c3 => exact hs3
                intro A4 c4 v4 ho4 hg4
                rw [HCL.out] at ho4
                have hb04 := hb03.trans (hg4.below hs3 (fun k hk => (ho3.lies k hk).1))
                clear ho3 hx3 hcell HCL hg4 hb03
                go_wp2
                go_roundw
                case rel => exact ⟨a1 + (left + 4), left - left, n1 + left, c4, left - 1, A4, dn ++ sub (nl xs) a1 left, by refine int_i64 ?_; omega, rfl, by refine int_i64 ?_; omega, by omega, by omega, by omega, by omega, ho4, HSTEP, hb04⟩
                case measure => (simp [intOf]) <;> omega
              · have HERR := Lib.hid (show openL (nl xs) a = (cellE (nl xs) a1 left, [], 0) by
                  have her := cmb_err (f := f) dn (l := nl xs) (a := a1) hleft hlf (by rw [hK]; exact hE2)
                  rw [hK] at her
                  rw [HINV.out]; exact her)
                have hne2 : (((cellE (nl xs) a1 left : Nat) : Int) != 0) = true := by simpa using hE2
                have HE2 := Lib.hid hE2
                clear HINV hK
                go_wp2_with fail
                refine (cellAt_err _ n c a1 left _ xs _ hx2 hn hc (by omega) hK1 rfl hE2 ht2).mono ?_
                rintro e w3 ⟨rfl, hb3⟩
                have hb03 := hb2.trans (hb3.mono hs2')
                generalize cellE (nl xs) a1 left = E at *
                clear hE2 ho2 hx2 hb2 hb3
                go_wp2
                go_ret3
                refine .inr ?_
                rw [HERR.out]
                exact ⟨HE2.out, rfl, hb03⟩
            · have hK : min left 251 = 251 := by omega
              have hq1 : ¬ (left : Int) < 251 := by omega
              have hq2 : (251 : Int) < (left : Int) := by omega
              have hK0 : 0 < 251 := by omega
              have hK1 : 251 ≤ 251 := by omega
              have hK2 : 251 ≤ left := by omega
              clear hq
              by_cases hE2 : cellE (nl xs) a1 251 = 0
              · have hs2 : a1 + (251 + 4) ≤ n := by
                  have hl : (nl xs).length = n := by rw [nl_length]; exact hx2.len
                  unfold cellE at hE2
                  rw [hl] at hE2
                  split at hE2
                  · omega
                  · omega
                have HSTEP := Lib.hid (show openL (nl xs) a = cmb (dn ++ sub (nl xs) a1 251) (openC (left - 1) (nl xs) (a1 + (251 + 4)) (left - 251)) by
                  have hf : f = (f - 1) + 1 := by omega
                  have hst := cmb_step (f := f - 1) dn (l := nl xs) (a := a1) hleft (by rw [hK]; exact hE2)
                  rw [hK] at hst
                  rw [HINV.out, hf, hst, openC_fuel (f - 1) (left - 1) _ _ _ (by omega) (by omega)])
                clear HINV hK
                have HE2 := Lib.hid hE2; clear hE2
                go_wp2_with fail
                refine (cellAt_ok b off n c a1 251 xs _ hx2 hn hc hK1 HE2.out ht2).mono ?_
                rintro e w3 ⟨rfl, hb3⟩
                have ho3 : Own w3 w.heap.size 5 A1 n1 c1 (By (il dn)) := ho2.below hb3 (fun k hk => (ho2.lies k hk).2)
                have hx3 := hx2.keep hb3
                have hb03 := hb2.trans (hb3.mono hs2')
                have hs3 := hb03.size
                have hcell : Bs w3 (some ⟨b, off + a1, none⟩) 251 ((xs.drop a1).take 251) := (hx3.rest (m := a1) (by omega)).first (m := 251) (by omega)
                have HCL : Hid (By (il dn) ++ By ((xs.drop a1).take 251) = By (il (dn ++ sub (nl xs) a1 251))) := by
                  show _ = _
                  rw [← By_append, il_append, ← nl_sub, il_nl hcell.2]
                clear ho2 hx2 hb2 hb3
                go_wp2_with (at_builtin; refine wpList_append_rd rfl _ _ 28 rfl i0 (.int .u8 0) 1 Tryd.underlying28 hi hz0 hz1 hz2 rfl rfl ho3 (some ⟨b, off + a1, none⟩) 251 (c - a1) (By ((xs.drop a1).take 251)) rfl hcell.1 (By_one _) ?c1 ?c2 ?c3 ?_)
                case c1 => unfold maxLen; omega
                case c2 => omega
                case c3 => exact hs3
                intro A4 c4 v4 ho4 hg4
                rw [HCL.out] at ho4
                have hb04 := hb03.trans (hg4.below hs3 (fun k hk => (ho3.lies k hk).1))
                clear ho3 hx3 hcell HCL hg4 hb03
                go_wp2
                go_roundw
                case rel => exact ⟨a1 + (251 + 4), left - 251, n1 + 251, c4, left - 1, A4, dn ++ sub (nl xs) a1 251, by refine int_i64 ?_; omega, rfl, by refine int_i64 ?_; omega, by omega, by omega, by omega, by omega, ho4, HSTEP, hb04⟩
                case measure => (simp [intOf]) <;> omega
              · have HERR := Lib.hid (show openL (nl xs) a = (cellE (nl xs) a1 251, [], 0) by
                  have her := cmb_err (f := f) dn (l := nl xs) (a := a1) hleft hlf (by rw [hK]; exact hE2)
                  rw [hK] at her
                  rw [HINV.out]; exact her)
                have hne2 : (((cellE (nl xs) a1 251 : Nat) : Int) != 0) = true := by simpa using hE2
                have HE2 := Lib.hid hE2
                clear HINV hK
                go_wp2_with fail
                refine (cellAt_err _ n c a1 251 _ xs _ hx2 hn hc (by omega) hK1 rfl hE2 ht2).mono ?_
                rintro e w3 ⟨rfl, hb3⟩
                have hb03 := hb2.trans (hb3.mono hs2')
                generalize cellE (nl xs) a1 251 = E at *
                clear hE2 ho2 hx2 hb2 hb3
                go_wp2
                go_ret3
                refine .inr ?_
                rw [HERR.out]
                exact ⟨HE2.out, rfl, hb03⟩
          · obtain rfl : left = 0 := by omega
            have HEND := Lib.hid (show openL (nl xs) a = (0, dn, a1) by rw [HINV.out]; exact cmb_end dn f _ _)
            have hl2 := ho2.len
            rw [By_length, il_length] at hl2
            subst hl2
            clear HINV
            go_wp2
            go_ret3
            refine .inl ?_
            rw [HEND.out]
            exact ⟨rfl, A1, c1, rfl, ho2, hb2⟩
      · obtain ⟨S, hS⟩ : ∃ S, S = L := ⟨_, rfl⟩
        -- LOOP
        have hSL : S ≤ 1048576 := by omega
        have hmk : ∀ W, (Instr.makeSlice 28 (.int .i64 0) (.int .i64 (L : Int))).run Tryd.prog W = .ok (.slice (some ⟨W.heap.size, 0, none⟩) 0 S) (W.alloc (.cells (zerA S) 5)) := fun W => by have := run_make_room i0 hi hz0 hz1 hz2 S (by omega) W; rwa [show ((S : Nat) : Int) = (L : Int) by omega] at this
        have hmk2 : ∀ W, (Instr.makeSlice 28 (.int .i64 0) (.int .i64 ((n : Int) - ((a : Int) + 8)))).run Tryd.prog W = .ok (.slice (some ⟨W.heap.size, 0, none⟩) 0 S) (W.alloc (.cells (zerA S) 5)) := fun W => by have := run_make_room i0 hi hz0 hz1 hz2 S (by omega) W; rwa [show ((S : Nat) : Int) = (n : Int) - ((a : Int) + 8) by omega] at this
        have hdm1 : ¬ (L : Int) < (n : Int) - ((a : Int) + 8) := by omega
        have hdm2 : ¬ (n : Int) - ((a : Int) + 8) < (L : Int) := by omega
        clear hm hS
        go_wp2
        clear hmk hdm1 hdm2
        have hoS : Own ((w1.drewN nq).alloc (.cells (zerA S) 5)) w.heap.size 5 (some ⟨w1.heap.size, 0, none⟩) 0 S (By (il [])) := Own.room (heap_alloc_new (w1.drewN nq) _) hs1 (by simp [zerA, zer]) (by unfold maxLen; omega)
        have hbS : Below w.heap.size w ((w1.drewN nq).alloc (.cells (zerA S) 5)) := (below_n hb1 nq).alloc hs1 _
        have hxS : Bs ((w1.drewN nq).alloc (.cells (zerA S) 5)) (some ⟨b, off, none⟩) n xs := (hx1.dr ((Dr.refl _).n nq)).keep (below_alloc _ _)
        generalize (w1.drewN nq).alloc (.cells (zerA S) 5) = wS at *
        go_loopw [1, 10, 11] (fun va vs vl wr => ∃ (a1 left n1 c1 f : Nat) (A1 : Option Addr) (dn : List Nat), va = .int .i64 a1 ∧ vs = .slice A1 n1 c1 ∧ vl = .int .i64 left ∧ a1 ≤ n ∧ left ≤ f ∧ left ≤ L ∧ n1 + left ≤ L ∧ Own wr w.heap.size 5 A1 n1 c1 (By (il dn)) ∧ Hid (openL (nl xs) a = cmb dn (openC f (nl xs) a1 left)) ∧ Below w.heap.size w wr) (fun _ _ vl _ => (intOf vl).toNat)
        case atStart => exact ⟨a + 8, L, 0, S, L, _, [], by first | rfl | (refine int_i64 ?_; omega), rfl, rfl, by omega, Nat.le_refl _, Nat.le_refl _, by omega, hoS, by rw [cmb_nil]; exact HR, hbS⟩
        case round =>
          obtain ⟨a1, left, n1, c1, f, A1, dn, rfl, rfl, rfl, ha1, hlf, hlL, hnl, ho2, HINV, hb2⟩ := hrel
          have hs2' := hb2.size
          by_cases hleft : 0 < left
          · have hx2 : Bs wr (some ⟨b, off, none⟩) n xs := HX0.out.keep hb2
            have ht2 := ht.below hb2
            have hc3 : left < 251 ∨ left = 251 ∨ 251 < left := by omega
            rcases hc3 with hq | hq | hq
            · have hK : min left 251 = left := by omega
              have hq1 : (left : Int) < 251 := by omega
              have hq2 : ¬ (251 : Int) < (left : Int) := by omega
              have hK0 : 0 < left := by omega
              have hK1 : left ≤ 251 := by omega
              have hK2 : left ≤ left := by omega
              clear hq
              by_cases hE2 : cellE (nl xs) a1 left = 0
              · have hs2 : a1 + (left + 4) ≤ n := by
                  have hl : (nl xs).length = n := by rw [nl_length]; exact hx2.len
                  unfold cellE at hE2
                  rw [hl] at hE2
                  split at hE2
                  · omega
                  · omega
                have HSTEP := Lib.hid (show openL (nl xs) a = cmb (dn ++ sub (nl xs) a1 left) (openC (left - 1) (nl xs) (a1 + (left + 4)) (left - left)) by
                  have hf : f = (f - 1) + 1 := by omega
                  have hst := cmb_step (f := f - 1) dn (l := nl xs) (a := a1) hleft (by rw [hK]; exact hE2)
                  rw [hK] at hst
                  rw [HINV.out, hf, hst, openC_fuel (f - 1) (left - 1) _ _ _ (by omega) (by omega)])
                clear HINV hK
                have HE2 := Lib.hid hE2; clear hE2
                go_wp2_with fail
                refine (cellAt_ok b off n c a1 left xs _ hx2 hn hc hK1 HE2.out ht2).mono ?_
                rintro e w3 ⟨rfl, hb3⟩
                have ho3 : Own w3 w.heap.size 5 A1 n1 c1 (By (il dn)) := ho2.below hb3 (fun k hk => (ho2.lies k hk).2)
                have hx3 := hx2.keep hb3
                have hb03 := hb2.trans (hb3.mono hs2')
                have hs3 := hb03.size
                have hcell : Bs w3 (some ⟨b, off + a1, none⟩) left ((xs.drop a1).take left) := (hx3.rest (m := a1) (by omega)).first (m := left) (by omega)
                have HCL : Hid (By (il dn) ++ By ((xs.drop a1).take left) = By (il (dn ++ sub (nl xs) a1 left))) := by
                  show _ = _
                  rw [← By_append, il_append, ← nl_sub, il_nl hcell.2]
                clear ho2 hx2 hb2 hb3
                go_wp2_with (at_builtin; refine wpList_append_rd rfl _ _ 28 rfl i0 (.int .u8 0) 1 Tryd.underlying28 hi hz0 hz1 hz2 rfl rfl ho3 (some ⟨b, off + a1, none⟩) left (c - a1) (By ((xs.drop a1).take left)) rfl hcell.1 (By_one _) ?c1 ?c2 ?c3 ?_)
                case c1 => unfold maxLen; omega
                case c2 => omega
                case c3 => exact hs3
                intro A4 c4 v4 ho4 hg4
                rw [HCL.out] at ho4
                have hb04 := hb03.trans (hg4.below hs3 (fun k hk => (ho3.lies k hk).1))
                clear ho3 hx3 hcell HCL hg4 hb03
                go_wp2
                go_roundw
                case rel => exact ⟨a1 + (left + 4), left - left, n1 + left, c4, left - 1, A4, dn ++ sub (nl xs) a1 left, by refine int_i64 ?_; omega, rfl, by refine int_i64 ?_; omega, by omega, by omega, by omega, by omega, ho4, HSTEP, hb04⟩
                case measure => (simp [intOf]) <;> omega
              · have HERR := Lib.hid (show openL (nl xs) a = (cellE (nl xs) a1 left, [], 0) by
                  have her := cmb_err (f := f) dn (l := nl xs) (a := a1) hleft hlf (by rw [hK]; exact hE2)
                  rw [hK] at her
                  rw [HINV.out]; exact her)
                have hne2 : (((cellE (nl xs) a1 left : Nat) : Int) != 0) = true := by simpa using hE2
                have HE2 := Lib.hid hE2
                clear HINV hK
                go_wp2_with fail
                refine (cellAt_err _ n c a1 left _ xs _ hx2 hn hc (by omega) hK1 rfl hE2 ht2).mono ?_
                rintro e w3 ⟨rfl, hb3⟩
                have hb03 := hb2.trans (hb3.mono hs2')
                generalize cellE (nl xs) a1 left = E at *
                clear hE2 ho2 hx2 hb2 hb3
                go_wp2
                go_ret3
                refine .inr ?_
                rw [HERR.out]
                exact ⟨HE2.out, rfl, hb03⟩
            · have hK : min left 251 = left := by omega
              have hq1 : ¬ (left : Int) < 251 := by omega
              have hq2 : ¬ (251 : Int) < (left : Int) := by omega
              have hK0 : 0 < left := by omega
              have hK1 : left ≤ 251 := by omega
              have hK2 : left ≤ left := by omega
              clear hq
              by_cases hE2 : cellE (nl xs) a1 left = 0
              · have hs2 : a1 + (left + 4) ≤ n := by
                  have hl : (nl xs).length = n := by rw [nl_length]; exact hx2.len
                  unfold cellE at hE2
                  rw [hl] at hE2
                  split at hE2
                  · omega
                  · omega
                have HSTEP := Lib.hid (show openL (nl xs) a = cmb (dn ++ sub (nl xs) a1 left) (openC (left - 1) (nl xs) (a1 + (left + 4)) (left - left)) by
                  have hf : f = (f - 1) + 1 := by omega
                  have hst := cmb_step (f := f - 1) dn (l := nl xs) (a := a1) hleft (by rw [hK]; exact hE2)
                  rw [hK] at hst
                  rw [HINV.out, hf, hst, openC_fuel (f - 1) (left - 1) _ _ _ (by omega) (by omega)])
                clear HINV hK
                have HE2 := Lib.hid hE2; clear hE2
                go_wp2_with fail
                refine (cellAt_ok b off n c a1 left xs _ hx2 hn hc hK1 HE2.out ht2).mono ?_
                rintro e w3 ⟨rfl, hb3⟩
                have ho3 : Own w3 w.heap.size 5 A1 n1 c1 (By (il dn)) := ho2.below hb3 (fun k hk => (ho2.lies k hk).2)
                have hx3 := hx2.keep hb3
                have hb03 := hb2.trans (hb3.mono hs2')
                have hs3 := hb03.size
                have hcell : Bs w3 (some ⟨b, off + a1, none⟩) left ((xs.drop a1).take left) := (hx3.rest (m := a1) (by omega)).first (m := left) (by omega)
                have HCL : Hid (By (il dn) ++ By ((xs.drop a1).take left) = By (il (dn ++ sub (nl xs) a1 left))) := by
                  show _ = _
                  rw [← By_append, il_append, ← nl_sub, il_nl hcell.2]
                clear ho2 hx2 hb2 hb3
                go_wp2_with (at_builtin; refine wpList_append_rd rfl _ _ 28 rfl i0 (.int .u8 0) 1 Tryd.underlying28 hi hz0 hz1 hz2 rfl rfl ho3 (some ⟨b, off + a1, none⟩) left (c - a1) (By ((xs.drop a1).take left)) rfl hcell.1 (By_one _) ?c1 ?c2 ?c3 ?_)
                case c1 => unfold maxLen; omega
                case c2 => omega
                case c3 => exact hs3
                intro A4 c4 v4 ho4 hg4
                rw [HCL.out] at ho4
                have hb04 := hb03.trans (hg4.below hs3 (fun k hk => (ho3.lies k hk).1))
                clear ho3 hx3 hcell HCL hg4 hb03
                go_wp2
                go_roundw
                case rel => exact ⟨a1 + (left + 4), left - left, n1 + left, c4, left - 1, A4, dn ++ sub (nl xs) a1 left, by refine int_i64 ?_; omega, rfl, by refine int_i64 ?_; omega, by omega, by omega, by omega, by omega, ho4, HSTEP, hb04⟩
                case measure => (simp [intOf]) <;> omega
              · have HERR := Lib.hid (show openL (nl xs) a = (cellE (nl xs) a1 left, [], 0) by
                  have her := cmb_err (f := f) dn (l := nl xs) (a := a1) hleft hlf (by rw [hK]; exact hE2)
                  rw [hK] at her
                  rw [HINV.out]; exact her)
                have hne2 : (((cellE (nl xs) a1 left : Nat) : Int) != 0) = true := by simpa using hE2
                have HE2 := Lib.hid hE2
                clear HINV hK
                go_wp2_with fail
                refine (cellAt_err _ n c a1 left _ xs _ hx2 hn hc (by omega) hK1 rfl hE2 ht2).mono ?_
                rintro e w3 ⟨rfl, hb3⟩
                have hb03 := hb2.trans (hb3.mono hs2')
                generalize cellE (nl xs) a1 left = E at *
                clear hE2 ho2 hx2 hb2 hb3
                go_wp2
                go_ret3
                refine .inr ?_
                rw [HERR.out]
                exact ⟨HE2.out, rfl, hb03⟩
            · have hK : min left 251 = 251 := by omega
              have hq1 : ¬ (left : Int) < 251 := by omega
              have hq2 : (251 : Int) < (left : Int) := by omega
              have hK0 : 0 < 251 := by omega
              have hK1 : 251 ≤ 251 := by omega
              have hK2 : 251 ≤ left := by omega
              clear hq
              by_cases hE2 : cellE (nl xs) a1 251 = 0
              · have hs2 : a1 + (251 + 4) ≤ n := by
                  have hl : (nl xs).length = n := by rw [nl_length]; exact hx2.len
                  unfold cellE at hE2
                  rw [hl] at hE2
                  split at hE2
                  · omega
                  · omega
                have HSTEP := Lib.hid (show openL (nl xs) a = cmb (dn ++ sub (nl xs) a1 251) (openC (left - 1) (nl xs) (a1 + (251 + 4)) (left - 251)) by
                  have hf : f = (f - 1) + 1 := by omega
                  have hst := cmb_step (f := f - 1) dn (l := nl xs) (a := a1) hleft (by rw [hK]; exact hE2)
                  rw [hK] at hst
                  rw [HINV.out, hf, hst, openC_fuel (f - 1) (left - 1) _ _ _ (by omega) (by omega)])
                clear HINV hK
                have HE2 := Lib.hid hE2; clear hE2
                go_wp2_with fail
                refine (cellAt_ok b off n c a1 251 xs _ hx2 hn hc hK1 HE2.out ht2).mono ?_
                rintro e w3 ⟨rfl, hb3⟩
                have ho3 : Own w3 w.heap.size 5 A1 n1 c1 (By (il dn)) := ho2.below hb3 (fun k hk => (ho2.lies k hk).2)
                have hx3 := hx2.keep hb3
                have hb03 := hb2.trans (hb3.mono hs2')
                have hs3 := hb03.size
                have hcell : Bs w3 (some ⟨b, off + a1, none⟩) 251 ((xs.drop a1).take 251) := (hx3.rest (m := a1) (by omega)).first (m := 251) (by omega)
                have HCL : Hid (By (il dn) ++ By ((xs.drop a1).take 251) = By (il (dn ++ sub (nl xs) a1 251))) := by
                  show _ = _
                  rw [← By_append, il_append, ← nl_sub, il_nl hcell.2]
                clear ho2 hx2 hb2 hb3
                go_wp2_with (at_builtin; refine wpList_append_rd rfl _ _ 28 rfl i0 (.int .u8 0) 1 Tryd.underlying28 hi hz0 hz1 hz2 rfl rfl ho3 (some ⟨b, off + a1, none⟩) 251 (c - a1) (By ((xs.drop a1).take 251)) rfl hcell.1 (By_one _) ?c1 ?c2 ?c3 ?_)
                case c1 => unfold maxLen; omega
                case c2 => omega
                case c3 => exact hs3
                intro A4 c4 v4 ho4 hg4
                rw [HCL.out] at ho4
                have hb04 := hb03.trans (hg4.below hs3 (fun k hk => (ho3.lies k hk).1))
                clear ho3 hx3 hcell HCL hg4 hb03
                go_wp2
                go_roundw
                case rel => exact ⟨a1 + (251 + 4), left - 251, n1 + 251, c4, left - 1, A4, dn ++ sub (nl xs) a1 251, by refine int_i64 ?_; omega, rfl, by refine int_i64 ?_; omega, by omega, by omega, by omega, by omega, ho4, HSTEP, hb04⟩
                case measure => (simp [intOf]) <;> omega
              · have HERR := Lib.hid (show openL (nl xs) a = (cellE (nl xs) a1 251, [], 0) by
                  have her := cmb_err (f := f) dn (l := nl xs) (a := a1) hleft hlf (by rw [hK]; exact hE2)
                  rw [hK] at her
                  rw [HINV.out]; exact her)
                have hne2 : (((cellE (nl xs) a1 251 : Nat) : Int) != 0) = true := by simpa using hE2
                have HE2 := Lib.hid hE2
                clear HINV hK
                go_wp2_with fail
                refine (cellAt_err _ n c a1 251 _ xs _ hx2 hn hc (by omega) hK1 rfl hE2 ht2).mono ?_
                rintro e w3 ⟨rfl, hb3⟩
                have hb03 := hb2.trans (hb3.mono hs2')
                generalize cellE (nl xs) a1 251 = E at *
                clear hE2 ho2 hx2 hb2 hb3
                go_wp2
                go_ret3
                refine .inr ?_
                rw [HERR.out]
                exact ⟨HE2.out, rfl, hb03⟩
          · obtain rfl : left = 0 := by omega
            have HEND := Lib.hid (show openL (nl xs) a = (0, dn, a1) by rw [HINV.out]; exact cmb_end dn f _ _)
            have hl2 := ho2.len
            rw [By_length, il_length] at hl2
            subst hl2
            clear HINV
            go_wp2
            go_ret3
            refine .inl ?_
            rw [HEND.out]
            exact ⟨rfl, A1, c1, rfl, ho2, hb2⟩
      · obtain ⟨S, hS⟩ : ∃ S, S = n - (a + 8) := ⟨_, rfl⟩
        -- LOOP
        have hSL : S ≤ 1048576 := by omega
        have hmk : ∀ W, (Instr.makeSlice 28 (.int .i64 0) (.int .i64 ((n : Int) - ((a : Int) + 8)))).run Tryd.prog W = .ok (.slice (some ⟨W.heap.size, 0, none⟩) 0 S) (W.alloc (.cells (zerA S) 5)) := fun W => by have := run_make_room i0 hi hz0 hz1 hz2 S (by omega) W; rwa [show ((S : Nat) : Int) = (n : Int) - ((a : Int) + 8) by omega] at this
        have hdm1 : ¬ (L : Int) < (n : Int) - ((a : Int) + 8) := by omega
        have hdm2 : (n : Int) - ((a : Int) + 8) < (L : Int) := by omega
        clear hm hS
        go_wp2
        clear hmk hdm1 hdm2
        have hoS : Own ((w1.drewN nq).alloc (.cells (zerA S) 5)) w.heap.size 5 (some ⟨w1.heap.size, 0, none⟩) 0 S (By (il [])) := Own.room (heap_alloc_new (w1.drewN nq) _) hs1 (by simp [zerA, zer]) (by unfold maxLen; omega)
        have hbS : Below w.heap.size w ((w1.drewN nq).alloc (.cells (zerA S) 5)) := (below_n hb1 nq).alloc hs1 _
        have hxS : Bs ((w1.drewN nq).alloc (.cells (zerA S) 5)) (some ⟨b, off, none⟩) n xs := (hx1.dr ((Dr.refl _).n nq)).keep (below_alloc _ _)
        generalize (w1.drewN nq).alloc (.cells (zerA S) 5) = wS at *
        go_loopw [1, 10, 11] (fun va vs vl wr => ∃ (a1 left n1 c1 f : Nat) (A1 : Option Addr) (dn : List Nat), va = .int .i64 a1 ∧ vs = .slice A1 n1 c1 ∧ vl = .int .i64 left ∧ a1 ≤ n ∧ left ≤ f ∧ left ≤ L ∧ n1 + left ≤ L ∧ Own wr w.heap.size 5 A1 n1 c1 (By (il dn)) ∧ Hid (openL (nl xs) a = cmb dn (openC f (nl xs) a1 left)) ∧ Below w.heap.size w wr) (fun _ _ vl _ => (intOf vl).toNat)
        case atStart => exact ⟨a + 8, L, 0, S, L, _, [], by first | rfl | (refine int_i64 ?_; omega), rfl, rfl, by omega, Nat.le_refl _, Nat.le_refl _, by omega, hoS, by rw [cmb_nil]; exact HR, hbS⟩
        case round =>
          obtain ⟨a1, left, n1, c1, f, A1, dn, rfl, rfl, rfl, ha1, hlf, hlL, hnl, ho2, HINV, hb2⟩ := hrel
          have hs2' := hb2.size
          by_cases hleft : 0 < left
          · have hx2 : Bs wr (some ⟨b, off, none⟩) n xs := HX0.out.keep hb2
            have ht2 := ht.below hb2
            have hc3 : left < 251 ∨ left = 251 ∨ 251 < left := by omega
            rcases hc3 with hq | hq | hq
            · have hK : min left 251 = left := by omega
              have hq1 : (left : Int) < 251 := by omega
              have hq2 : ¬ (251 : Int) < (left : Int) := by omega
              have hK0 : 0 < left := by omega
              have hK1 : left ≤ 251 := by omega
              have hK2 : left ≤ left := by omega
              clear hq
              by_cases hE2 : cellE (nl xs) a1 left = 0
              · have hs2 : a1 + (left + 4) ≤ n := by
                  have hl : (nl xs).length = n := by rw [nl_length]; exact hx2.len
                  unfold cellE at hE2
                  rw [hl] at hE2
                  split at hE2
                  · omega
                  · omega
                have HSTEP := Lib.hid (show openL (nl xs) a = cmb (dn ++ sub (nl xs) a1 left) (openC (left - 1) (nl xs) (a1 + (left + 4)) (left - left)) by
                  have hf : f = (f - 1) + 1 := by omega
                  have hst := cmb_step (f := f - 1) dn (l := nl xs) (a := a1) hleft (by rw [hK]; exact hE2)
                  rw [hK] at hst
                  rw [HINV.out, hf, hst, openC_fuel (f - 1) (left - 1) _ _ _ (by omega) (by omega)])
                clear HINV hK
                have HE2 := Lib.hid hE2; clear hE2
                go_wp2_with fail
                refine (cellAt_ok b off n c a1 left xs _ hx2 hn hc hK1 HE2.out ht2).mono ?_
                rintro e w3 ⟨rfl, hb3⟩
                have ho3 : Own w3 w.heap.size 5 A1 n1 c1 (By (il dn)) := ho2.below hb3 (fun k hk => (ho2.lies k hk).2)
                have hx3 := hx2.keep hb3
                have hb03 := hb2.trans (hb3.mono hs2')
                have hs3 := hb03.size
                have hcell : Bs w3 (some ⟨b, off + a1, none⟩) left ((xs.drop a1).take left) := (hx3.rest (m := a1) (by omega)).first (m := left) (by omega)
                have HCL : Hid (By (il dn) ++ By ((xs.drop a1).take left) = By (il (dn ++ sub (nl xs) a1 left))) := by
                  show _ = _
                  rw [← By_append, il_append, ← nl_sub, il_nl hcell.2]
                clear ho2 hx2 hb2 hb3
                go_wp2_with (at_builtin; refine wpList_append_rd rfl _ _ 28 rfl i0 (.int .u8 0) 1 Tryd.underlying28 hi hz0 hz1 hz2 rfl rfl ho3 (some ⟨b, off + a1, none⟩) left (c - a1) (By ((xs.drop a1).take left)) rfl hcell.1 (By_one _) ?c1 ?c2 ?c3 ?_)
                case c1 => unfold maxLen; omega
                case c2 => omega
                case c3 => exact hs3
                intro A4 c4 v4 ho4 hg4
                rw [HCL.out] at ho4
                have hb04 := hb03.trans (hg4.below hs3 (fun k hk => (ho3.lies k hk).1))
                clear ho3 hx3 hcell HCL hg4 hb03
                go_wp2
                go_roundw
                case rel => exact ⟨a1 + (left + 4), left - left, n1 + left, c4, left - 1, A4, dn ++ sub (nl xs) a1 left, by refine int_i64 ?_; omega, rfl, by refine int_i64 ?_; omega, by omega, by omega, by omega, by omega, ho4, HSTEP, hb04⟩
                case measure => (simp [intOf]) <;> omega
              · have HERR := Lib.hid (show openL (nl xs) a = (cellE (nl xs) a1 left, [], 0) by
                  have her := cmb_err (f := f) dn (l := nl xs) (a := a1) hleft hlf (by rw [hK]; exact hE2)
                  rw [hK] at her
                  rw [HINV.out]; exact her)
                have hne2 : (((cellE (nl xs) a1 left : Nat) : Int) != 0) = true := by simpa using hE2
                have HE2 := Lib.hid hE2
                clear HINV hK
                go_wp2_with fail
                refine (cellAt_err _ n c a1 left _ xs _ hx2 hn hc (by omega) hK1 rfl hE2 ht2).mono ?_
                rintro e w3 ⟨rfl, hb3⟩
                have hb03 := hb2.trans (hb3.mono hs2')
                generalize cellE (nl xs) a1 left = E at *
                clear hE2 ho2 hx2 hb2 hb3
                go_wp2
                go_ret3
                refine .inr ?_
                rw [HERR.out]
                exact ⟨HE2.out, rfl, hb03⟩
            · have hK : min left 251 = left := by omega
              have hq1 : ¬ (left : Int) < 251 := by omega
              have hq2 : ¬ (251 : Int) < (left : Int) := by omega
              have hK0 : 0 < left := by omega
              have hK1 : left ≤ 251 := by omega
              have hK2 : left ≤ left := by omega
              clear hq
              by_cases hE2 : cellE (nl xs) a1 left = 0
              · have hs2 : a1 + (left + 4) ≤ n := by
                  have hl : (nl xs).length = n := by rw [nl_length]; exact hx2.len
                  unfold cellE at hE2
                  rw [hl] at hE2
                  split at hE2
                  · omega
                  · omega
                have HSTEP := Lib.hid (show openL (nl xs) a = cmb (dn ++ sub (nl xs) a1 left) (openC (left - 1) (nl xs) (a1 + (left + 4)) (left - left)) by
                  have hf : f = (f - 1) + 1 := by omega
                  have hst := cmb_step (f := f - 1) dn (l := nl xs) (a := a1) hleft (by rw [hK]; exact hE2)
                  rw [hK] at hst
                  rw [HINV.out, hf, hst, openC_fuel (f - 1) (left - 1) _ _ _ (by omega) (by omega)])
                clear HINV hK
                have HE2 := Lib.hid hE2; clear hE2
                go_wp2_with fail
                refine (cellAt_ok b off n c a1 left xs _ hx2 hn hc hK1 HE2.out ht2).mono ?_
                rintro e w3 ⟨rfl, hb3⟩
                have ho3 : Own w3 w.heap.size 5 A1 n1 c1 (By (il dn)) := ho2.below hb3 (fun k hk => (ho2.lies k hk).2)
                have hx3 := hx2.keep hb3
                have hb03 := hb2.trans (hb3.mono hs2')
                have hs3 := hb03.size
                have hcell : Bs w3 (some ⟨b, off + a1, none⟩) left ((xs.drop a1).take left) := (hx3.rest (m := a1) (by omega)).first (m := left) (by omega)
                have HCL : Hid (By (il dn) ++ By ((xs.drop a1).take left) = By (il (dn ++ sub (nl xs) a1 left))) := by
                  show _ = _
                  rw [← By_append, il_append, ← nl_sub, il_nl hcell.2]
                clear ho2 hx2 hb2 hb3
                go_wp2_with (at_builtin; refine wpList_append_rd rfl _ _ 28 rfl i0 (.int .u8 0) 1 Tryd.underlying28 hi hz0 hz1 hz2 rfl rfl ho3 (some ⟨b, off + a1, none⟩) left (c - a1) (By ((xs.drop a1).take left)) rfl hcell.1 (By_one _) ?c1 ?c2 ?c3 ?_)
                case c1 => unfold maxLen; omega
                case c2 => omega
                case c3 => exact hs3
                intro A4 c4 v4 ho4 hg4
                rw [HCL.out] at ho4
                have hb04 := hb03.trans (hg4.below hs3 (fun k hk => (ho3.lies k hk).1))
                clear ho3 hx3 hcell HCL hg4 hb03
                go_wp2
                go_roundw
                case rel => exact ⟨a1 + (left + 4), left - left, n1 + left, c4, left - 1, A4, dn ++ sub (nl xs) a1 left, by refine int_i64 ?_; omega, rfl, by refine int_i64 ?_; omega, by omega, by omega, by omega, by omega, ho4, HSTEP, hb04⟩
                case measure => (simp [intOf]) <;> omega
              · have HERR := Lib.hid (show openL (nl xs) a = (cellE (nl xs) a1 left, [], 0) by
                  have her := cmb_err (f := f) dn (l := nl xs) (a := a1) hleft hlf (by rw [hK]; exact hE2)
                  rw [hK] at her
                  rw [HINV.out]; exact her)
                have hne2 : (((cellE (nl xs) a1 left : Nat) : Int) != 0) = true := by simpa using hE2
                have HE2 := Lib.hid hE2
                clear HINV hK
                go_wp2_with fail
                refine (cellAt_err _ n c a1 left _ xs _ hx2 hn hc (by omega) hK1 rfl hE2 ht2).mono ?_
                rintro e w3 ⟨rfl, hb3⟩
                have hb03 := hb2.trans (hb3.mono hs2')
                generalize cellE (nl xs) a1 left = E at *
                clear hE2 ho2 hx2 hb2 hb3
                go_wp2
                go_ret3
                refine .inr ?_
                rw [HERR.out]
                exact ⟨HE2.out, rfl, hb03⟩
            · have hK : min left 251 = 251 := by omega
              have hq1 : ¬ (left : Int) < 251 := by omega
              have hq2 : (251 : Int) < (left : Int) := by omega
              have hK0 : 0 < 251 := by omega
              have hK1 : 251 ≤ 251 := by omega
              have hK2 : 251 ≤ left := by omega
              clear hq
              by_cases hE2 : cellE (nl xs) a1 251 = 0
              · have hs2 : a1 + (251 + 4) ≤ n := by
                  have hl : (nl xs).length = n := by rw [nl_length]; exact hx2.len
                  unfold cellE at hE2
                  rw [hl] at hE2
                  split at hE2
                  · omega
                  · omega
                have HSTEP := Lib.hid (show openL (nl xs) a = cmb (dn ++ sub (nl xs) a1 251) (openC (left - 1) (nl xs) (a1 + (251 + 4)) (left - 251)) by
                  have hf : f = (f - 1) + 1 := by omega
                  have hst := cmb_step (f := f - 1) dn (l := nl xs) (a := a1) hleft (by rw [hK]; exact hE2)
                  rw [hK] at hst
                  rw [HINV.out, hf, hst, openC_fuel (f - 1) (left - 1) _ _ _ (by omega) (by omega)])
                clear HINV hK
                have HE2 := Lib.hid hE2; clear hE2
                go_wp2_with fail
                refine (cellAt_ok b off n c a1 251 xs _ hx2 hn hc hK1 HE2.out ht2).mono ?_
                rintro e w3 ⟨rfl, hb3⟩
                have ho3 : Own w3 w.heap.size 5 A1 n1 c1 (By (il dn)) := ho2.below hb3 (fun k hk => (ho2.lies k hk).2)
                have hx3 := hx2.keep hb3
                have hb03 := hb2.trans (hb3.mono hs2')
                have hs3 := hb03.size
                have hcell : Bs w3 (some ⟨b, off + a1, none⟩) 251 ((xs.drop a1).take 251) := (hx3.rest (m := a1) (by omega)).first (m := 251) (by omega)
                have HCL : Hid (By (il dn) ++ By ((xs.drop a1).take 251) = By (il (dn ++ sub (nl xs) a1 251))) := by
                  show _ = _
                  rw [← By_append, il_append, ← nl_sub, il_nl hcell.2]
                clear ho2 hx2 hb2 hb3
                go_wp2_with (at_builtin; refine wpList_append_rd rfl _ _ 28 rfl i0 (.int .u8 0) 1 Tryd.underlying28 hi hz0 hz1 hz2 rfl rfl ho3 (some ⟨b, off + a1, none⟩) 251 (c - a1) (By ((xs.drop a1).take 251)) rfl hcell.1 (By_one _) ?c1 ?c2 ?c3 ?_)
                case c1 => unfold maxLen; omega
                case c2 => omega
                case c3 => exact hs3
                intro A4 c4 v4 ho4 hg4
                rw [HCL.out] at ho4
                have hb04 := hb03.trans (hg4.below hs3 (fun k hk => (ho3.lies k hk).1))
                clear ho3 hx3 hcell HCL hg4 hb03
                go_wp2
                go_roundw
                case rel => exact ⟨a1 + (251 + 4), left - 251, n1 + 251, c4, left - 1, A4, dn ++ sub (nl xs) a1 251, by refine int_i64 ?_; omega, rfl, by refine int_i64 ?_; omega, by omega, by omega, by omega, by omega, ho4, HSTEP, hb04⟩
                case measure => (simp [intOf]) <;> omega
              · have HERR := Lib.hid (show openL (nl xs) a = (cellE (nl xs) a1 251, [], 0) by
                  have her := cmb_err (f := f) dn (l := nl xs) (a := a1) hleft hlf (by rw [hK]; exact hE2)
                  rw [hK] at her
                  rw [HINV.out]; exact her)
                have hne2 : (((cellE (nl xs) a1 251 : Nat) : Int) != 0) = true := by simpa using hE2
                have HE2 := Lib.hid hE2
                clear HINV hK
                go_wp2_with fail
                refine (cellAt_err _ n c a1 251 _ xs _ hx2 hn hc (by omega) hK1 rfl hE2 ht2).mono ?_
                rintro e w3 ⟨rfl, hb3⟩
                have hb03 := hb2.trans (hb3.mono hs2')
                generalize cellE (nl xs) a1 251 = E at *
                clear hE2 ho2 hx2 hb2 hb3
                go_wp2
                go_ret3
                refine .inr ?_
                rw [HERR.out]
                exact ⟨HE2.out, rfl, hb03⟩
          · obtain rfl : left = 0 := by omega
            have HEND := Lib.hid (show openL (nl xs) a = (0, dn, a1) by rw [HINV.out]; exact cmb_end dn f _ _)
            have hl2 := ho2.len
            rw [By_length, il_length] at hl2
            subst hl2
            clear HINV
            go_wp2
            go_ret3
            refine .inl ?_
            rw [HEND.out]
            exact ⟨rfl, A1, c1, rfl, ho2, hb2⟩
  · have HR := Lib.hid (show openL (nl xs) a = (cellE (nl xs) a 4, [], 0) by unfold openL; rw [if_pos hE])
    have hne : ((cellE (nl xs) a 4 : Nat) : Int) ≠ 0 := by simpa using hE
    have hne2 : (((cellE (nl xs) a 4 : Nat) : Int) != 0) = true := by simpa using hE
    have HE := Lib.hid hE
    go_enter Tryd.func27, Tryd.ntmps27
    go_wp2_with fail
    refine (cellAt_err A n c a 4 _ xs _ hx hn hc ha (by omega) rfl hE ht).mono ?_
    rintro e w1 ⟨rfl, hb1⟩
    generalize cellE (nl xs) a 4 = E at *
    clear hE hne
    go_wp2
    go_ret3
    refine .inr ?_
    rw [HR.out]
    exact ⟨HE.out, rfl, hb1⟩
end Go.Proofs.YtmckgdjipkkklaaDoor
