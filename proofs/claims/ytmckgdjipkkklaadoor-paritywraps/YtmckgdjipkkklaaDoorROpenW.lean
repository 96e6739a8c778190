/- The reference's Open. -/
import Derived.Test.YtmckgdjipkkklaaDoorRSealW
import Derived.Test.YtmckgdjipkkklaaDoorAllW
namespace Go.Proofs.YtmckgdjipkkklaaDoor
set_option linter.unusedVariables false
set_option linter.unusedSimpArgs false
open Go.RowKit
theorem ropen_arg (A : Option Addr) (n c : Nat) (a : Int) (xs : List Int) (w : World) (hx : Bs w A n xs) (hn : n ≤ 1000000000000) (ha : a < 0 ∨ (n : Int) < a) :
    Calls Tryd.prog 29 #[.slice A n c, .int .i64 a] w fun e w' => e = .returned (.tuple #[.slice none 0 0, .int .i64 0, .int .i64 1]) ∧ w = w' := by
  rcases ha with h | h
  · have hd : decide (a < 0) = true := by simpa using h
    go_enter Tryd.func29, Tryd.ntmps29
    go_wp2
    go_ret3
    exact ⟨rfl, rfl⟩
  · have hd : decide (a < 0) = false := by simp; omega
    have hd2 : decide ((n : Int) < a) = true := by simpa using h
    go_enter Tryd.func29, Tryd.ntmps29
    go_wp2
    go_ret3
    exact ⟨rfl, rfl⟩

set_option maxRecDepth 100000 in
set_option maxHeartbeats 4000000 in
theorem ropen_any (A : Option Addr) (n c a : Nat) (xs : List Int) (w : World) (hx : Bs w A n xs) (hn : n ≤ 1000000000000) (hc : n ≤ c) (ha : a ≤ n) :
    Calls Tryd.prog 29 #[.slice A n c, .int .i64 (a : Int)] w (OpenPost (openL (nl xs) a) w) := by
  obtain ⟨i0, hi, hz0, hz1, hz2⟩ := info_parts info5
  have hd : decide ((a : Int) < 0) = false := by simp
  have hd2 : decide ((n : Int) < (a : Int)) = false := by simp; omega
  have HLN : Hid ((nl xs).length = n) := by show _ = _; rw [nl_length]; exact hx.len
  by_cases hs0 : n < a + 8
  · have hE : cellE (nl xs) a 4 = 5 := by unfold cellE; rw [HLN.out, if_pos (by omega)]
    have HR := Lib.hid (show openL (nl xs) a = (5, [], 0) by unfold openL; rw [hE]; simp)
    have hds : decide ((n : Int) - (a : Int) < 8) = true := by simp; omega
    clear hE hs0
    go_enter Tryd.func29, Tryd.ntmps29
    go_wp2
    go_ret3
    refine .inr ?_
    rw [HR.out]
    exact ⟨by simp, rfl, Below.refl _ _⟩
  have hds : decide ((n : Int) - (a : Int) < 8) = false := by simp; omega
  have hs : a + 8 ≤ n := by omega
  obtain ⟨b, off, rfl, _, _⟩ := hx.1.2 (by omega)
  have hsl := fun W => slice_lh28 b off n c a (a + 8) (by omega) (by omega) (by omega) W
  rw [show a + 8 - a = 8 by omega] at hsl
  have hbs : Bs w (some ⟨b, off + a, none⟩) 8 ((xs.drop a).take 8) := (hx.rest (m := a) (by omega)).first (m := 8) (by omega)
  clear hs0
  by_cases hgd : goodL (sub (nl xs) a 8) = true
  · have hE : cellE (nl xs) a 4 = 0 := by unfold cellE; rw [HLN.out, if_neg (by omega), if_pos hgd]
    have HG := Lib.hid (show goodL (nl ((xs.drop a).take 8)) = true by rw [nl_sub]; exact hgd)
    obtain ⟨y0, h0, l0, HY0⟩ := hx.nat_at (k := a) (by omega)
    obtain ⟨y1, h1, l1, HY1⟩ := hx.nat_at (k := a + 1) (by omega)
    obtain ⟨y2, h2, l2, HY2⟩ := hx.nat_at (k := a + 2) (by omega)
    obtain ⟨y3, h3, l3, HY3⟩ := hx.nat_at (k := a + 3) (by omega)
    have hblt := hx.blt (by omega)
    have HX0 := Lib.hid hx
    have HB4 := Lib.hid (show be4 (sub (nl xs) a 4) = y0 * 16777216 + y1 * 65536 + y2 * 256 + y3 by
      have hd4 : sub (nl xs) a 4 = [y0, y1, y2, y3] := by
        unfold sub
        rw [nl_drop HY0.out, nl_drop HY1.out, nl_drop HY2.out, nl_drop HY3.out]
        rfl
      rw [hd4]; rfl)
    obtain ⟨L, hL⟩ : ∃ q : Nat, q = y0 * 16777216 + y1 * 65536 + y2 * 256 + y3 := ⟨_, rfl⟩
    have hLi : (y0 : Int) * 16777216 + (y1 : Int) * 65536 + (y2 : Int) * 256 + (y3 : Int) = (L : Int) := by omega
    have hLl : L < 4294967296 := by omega
    have HLE := Lib.hid (show be4 (sub (nl xs) a 4) = L by rw [HB4.out, hL])
    have HE := Lib.hid hE
    clear hL HB4 HY0 HY1 HY2 HY3 hgd hE
    go_enter Tryd.func29, Tryd.ntmps29
    go_wp2_with fail
    refine (rgood_any _ _ _ _ _ hbs (by unfold maxLen; omega)).mono ?_
    rintro e w1 ⟨rfl, hd3⟩
    rw [HG.out]
    have hb1 : Below w.heap.size w w1 := hd3.below _
    have c0 : w1.cell? ⟨b, off + a, none⟩ = some (.int .u8 (y0 : Int)) := (hb1.cell (p := ⟨b, off + a, none⟩) hblt).trans h0
    have c1 : w1.cell? ⟨b, off + (a + 1), none⟩ = some (.int .u8 (y1 : Int)) := (hb1.cell (p := ⟨b, off + (a + 1), none⟩) hblt).trans h1
    have c2 : w1.cell? ⟨b, off + (a + 2), none⟩ = some (.int .u8 (y2 : Int)) := (hb1.cell (p := ⟨b, off + (a + 2), none⟩) hblt).trans h2
    have c3 : w1.cell? ⟨b, off + (a + 3), none⟩ = some (.int .u8 (y3 : Int)) := (hb1.cell (p := ⟨b, off + (a + 3), none⟩) hblt).trans h3
    have hs1 := hb1.size
    clear hx h0 h1 h2 h3 hbs hd3 hsl
    go_wp2
    go_quiet (fail)
    by_cases hbig : 1048576 < L
    · have hdb : decide ((1048576 : Int) < (L : Int)) = true := by simp; omega
      have HR := Lib.hid (show openL (nl xs) a = (2, [], 0) by unfold openL; rw [HE.out, HLE.out]; simp [hbig])
      go_wp2
      go_ret3
      refine .inr ?_
      rw [HR.out]
      exact ⟨by simp, rfl, below_n hb1 _⟩
    · have hdb : decide ((1048576 : Int) < (L : Int)) = false := by simp; omega
      have HR := Lib.hid (show openL (nl xs) a = openC L (nl xs) (a + 8) L by unfold openL; rw [HE.out, HLE.out]; simp [hbig])
      go_wp2
      have hbS : Below w.heap.size w (w1.drewN nq) := below_n hb1 nq
      generalize w1.drewN nq = wS at *
      go_loopw [1, 7, 8] (fun va vl vs wr => ∃ (a1 left n1 c1 f : Nat) (A1 : Option Addr) (dn : List Nat), va = .int .i64 a1 ∧ vl = .int .i64 left ∧ vs = .slice A1 n1 c1 ∧ a1 ≤ n ∧ left ≤ f ∧ left ≤ L ∧ n1 + left ≤ L ∧ Own wr w.heap.size 5 A1 n1 c1 (By (il dn)) ∧ Hid (openL (nl xs) a = cmb dn (openC f (nl xs) a1 left)) ∧ Below w.heap.size w wr) (fun _ vl _ _ => (intOf vl).toNat)
      case atStart => exact ⟨a + 8, L, 0, 0, L, none, [], by first | rfl | (refine int_i64 ?_; omega), by first | rfl | (refine int_i64 ?_; omega), rfl, by omega, Nat.le_refl _, Nat.le_refl _, by omega, by simpa [il, By] using Own.nil_, by rw [cmb_nil]; exact HR, hbS⟩
      case round =>
        obtain ⟨a1, left, n1, c1', f, A1, dn, rfl, rfl, rfl, ha1, hlf, hlL, hnl, ho2, HINV, hb2⟩ := hrel
        have hs2' := hb2.size
        by_cases hleft : 0 < left
        · have hx2 : Bs wr (some ⟨b, off, none⟩) n xs := HX0.out.keep hb2
          have hq : left ≤ 251 ∨ 251 < left := by omega
          rcases hq with hq | hq
          · have hK : min left 251 = left := by omega
            have hK0 : 0 < left := by omega
            have hK1 : left ≤ 251 := by omega
            have hK2 : left ≤ left := by omega
            have hdq : decide ((251 : Int) < (left : Int)) = false := by simp; omega
            clear hq
            by_cases hsh : n < a1 + (left + 4)
            · have hE2 : cellE (nl xs) a1 left = 5 := by unfold cellE; rw [HLN.out, if_pos hsh]
              have HERR := Lib.hid (show openL (nl xs) a = (5, [], 0) by
                have her := cmb_err (f := f) dn (l := nl xs) (a := a1) hleft hlf (by rw [hK, hE2]; omega)
                rw [hK, hE2] at her
                rw [HINV.out]; exact her)
              have hds : decide ((n : Int) - (a1 : Int) < (left : Int) + 4) = true := by simp; omega
              clear HINV hK hE2 hsh ho2 hx2
              go_wp2
              go_ret3
              refine .inr ?_
              rw [HERR.out]
              exact ⟨by simp, rfl, hb2⟩
            · have hds : decide ((n : Int) - (a1 : Int) < (left : Int) + 4) = false := by simp; omega
              have hs2 : a1 + (left + 4) ≤ n := by omega
              have hbsm : ∀ m, m = left + 4 → Bs wr (some ⟨b, off + a1, none⟩) m ((xs.drop a1).take (left + 4)) := fun m h => by rw [h]; exact (hx2.rest (m := a1) (by omega)).first (m := left + 4) (by omega)
              have HBS := Lib.hid hbsm; clear hbsm
              clear hsh
              by_cases hgd : goodL (sub (nl xs) a1 (left + 4)) = true
              · have hE2 : cellE (nl xs) a1 left = 0 := by unfold cellE; rw [HLN.out, if_neg (by omega), if_pos hgd]
                have HSTEP := Lib.hid (show openL (nl xs) a = cmb (dn ++ sub (nl xs) a1 left) (openC (left - 1) (nl xs) (a1 + (left + 4)) (left - left)) by
                  have hf : f = (f - 1) + 1 := by omega
                  have hst := cmb_step (f := f - 1) dn (l := nl xs) (a := a1) hleft (by rw [hK]; exact hE2)
                  rw [hK] at hst
                  rw [HINV.out, hf, hst, openC_fuel (f - 1) (left - 1) _ _ _ (by omega) (by omega)])
                have HG := Lib.hid (show goodL (nl ((xs.drop a1).take (left + 4))) = true by rw [nl_sub]; exact hgd)
                clear HINV hK hE2 hgd
                go_wp2_with fail
                refine (rgood_any _ _ _ ((xs.drop a1).take (left + 4)) _ ?hb ?hm).mono ?_
                case hb => exact HBS.out _ (by omega)
                case hm => unfold maxLen; omega
                rintro e w3 ⟨rfl, hd3⟩
                rw [HG.out]
                have hb3 : Below wr.heap.size wr w3 := hd3.below _
                have ho3 : Own w3 w.heap.size 5 A1 n1 c1' (By (il dn)) := ho2.below hb3 (fun k hk => (ho2.lies k hk).2)
                have hx3 := hx2.keep hb3
                have hb03 := hb2.trans (hb3.mono hs2')
                have hs3 := hb03.size
                have hcell : Bs w3 (some ⟨b, off + a1, none⟩) left ((xs.drop a1).take left) := (hx3.rest (m := a1) (by omega)).first (m := left) (by omega)
                have HCL : Hid (By (il dn) ++ By ((xs.drop a1).take left) = By (il (dn ++ sub (nl xs) a1 left))) := by
                  show _ = _
                  rw [← By_append, il_append, ← nl_sub, il_nl hcell.2]
                have HRD : Hid (∀ m, m = left → Rd w3 (some ⟨b, off + a1, none⟩) m (By ((xs.drop a1).take left))) := fun m h => by rw [h]; exact hcell.1
                clear ho2 hx2 hb2 hb3 hd3 HBS
                go_wp2_with (at_builtin; refine wpList_append_rd rfl _ _ 28 rfl i0 (.int .u8 0) 1 Tryd.underlying28 hi hz0 hz1 hz2 rfl rfl ho3 (some ⟨b, off + a1, none⟩) _ (c - a1) (By ((xs.drop a1).take left)) rfl ?c0 (By_one _) ?c1 ?c2 ?c3 ?_)
                case c0 => exact HRD.out _ (by omega)
                case c1 => unfold maxLen; omega
                case c2 => omega
                case c3 => exact hs3
                intro A4 c4 v4 ho4 hg4
                rw [HCL.out] at ho4
                have hb04 := hb03.trans (hg4.below hs3 (fun k hk => (ho3.lies k hk).1))
                clear ho3 hx3 hcell HCL HRD hg4 hb03
                go_wp2
                go_roundw
                case rel => exact ⟨a1 + (left + 4), left - left, _, c4, left - 1, A4, dn ++ sub (nl xs) a1 left, by refine int_i64 ?_; omega, by refine int_i64 ?_; omega, rfl, by omega, by omega, by omega, by omega, ho4, HSTEP, hb04⟩
                case measure => (simp [intOf]) <;> omega
              · have hgf : goodL (sub (nl xs) a1 (left + 4)) = false := by simpa using hgd
                have hE2 : cellE (nl xs) a1 left = 4 := by unfold cellE; rw [HLN.out, if_neg (by omega), hgf]; simp
                have HERR := Lib.hid (show openL (nl xs) a = (4, [], 0) by
                  have her := cmb_err (f := f) dn (l := nl xs) (a := a1) hleft hlf (by rw [hK, hE2]; omega)
                  rw [hK, hE2] at her
                  rw [HINV.out]; exact her)
                have HG := Lib.hid (show goodL (nl ((xs.drop a1).take (left + 4))) = false by rw [nl_sub]; exact hgf)
                clear HINV hK hE2 hgd hgf ho2
                go_wp2_with fail
                refine (rgood_any _ _ _ ((xs.drop a1).take (left + 4)) _ ?hb ?hm).mono ?_
                case hb => exact HBS.out _ (by omega)
                case hm => unfold maxLen; omega
                rintro e w3 ⟨rfl, hd3⟩
                rw [HG.out]
                have hb03 := hb2.trans ((hd3.below _).mono hs2')
                clear HBS hx2 hd3
                go_wp2
                go_ret3
                refine .inr ?_
                rw [HERR.out]
                exact ⟨by simp, rfl, hb03⟩
          · have hK : min left 251 = 251 := by omega
            have hK0 : 0 < 251 := by omega
            have hK1 : 251 ≤ 251 := by omega
            have hK2 : 251 ≤ left := by omega
            have hdq : decide ((251 : Int) < (left : Int)) = true := by simp; omega
            clear hq
            by_cases hsh : n < a1 + (251 + 4)
            · have hE2 : cellE (nl xs) a1 251 = 5 := by unfold cellE; rw [HLN.out, if_pos hsh]
              have HERR := Lib.hid (show openL (nl xs) a = (5, [], 0) by
                have her := cmb_err (f := f) dn (l := nl xs) (a := a1) hleft hlf (by rw [hK, hE2]; omega)
                rw [hK, hE2] at her
                rw [HINV.out]; exact her)
              have hds : decide ((n : Int) - (a1 : Int) < 255) = true := by simp; omega
              clear HINV hK hE2 hsh ho2 hx2
              go_wp2
              go_ret3
              refine .inr ?_
              rw [HERR.out]
              exact ⟨by simp, rfl, hb2⟩
            · have hds : decide ((n : Int) - (a1 : Int) < 255) = false := by simp; omega
              have hs2 : a1 + (251 + 4) ≤ n := by omega
              have hbsm : ∀ m, m = 251 + 4 → Bs wr (some ⟨b, off + a1, none⟩) m ((xs.drop a1).take (251 + 4)) := fun m h => by rw [h]; exact (hx2.rest (m := a1) (by omega)).first (m := 251 + 4) (by omega)
              have HBS := Lib.hid hbsm; clear hbsm
              clear hsh
              by_cases hgd : goodL (sub (nl xs) a1 (251 + 4)) = true
              · have hE2 : cellE (nl xs) a1 251 = 0 := by unfold cellE; rw [HLN.out, if_neg (by omega), if_pos hgd]
                have HSTEP := Lib.hid (show openL (nl xs) a = cmb (dn ++ sub (nl xs) a1 251) (openC (left - 1) (nl xs) (a1 + (251 + 4)) (left - 251)) by
                  have hf : f = (f - 1) + 1 := by omega
                  have hst := cmb_step (f := f - 1) dn (l := nl xs) (a := a1) hleft (by rw [hK]; exact hE2)
                  rw [hK] at hst
                  rw [HINV.out, hf, hst, openC_fuel (f - 1) (left - 1) _ _ _ (by omega) (by omega)])
                have HG := Lib.hid (show goodL (nl ((xs.drop a1).take (251 + 4))) = true by rw [nl_sub]; exact hgd)
                clear HINV hK hE2 hgd
                go_wp2_with fail
                refine (rgood_any _ _ _ ((xs.drop a1).take (251 + 4)) _ ?hb ?hm).mono ?_
                case hb => exact HBS.out _ (by omega)
                case hm => unfold maxLen; omega
                rintro e w3 ⟨rfl, hd3⟩
                rw [HG.out]
                have hb3 : Below wr.heap.size wr w3 := hd3.below _
                have ho3 : Own w3 w.heap.size 5 A1 n1 c1' (By (il dn)) := ho2.below hb3 (fun k hk => (ho2.lies k hk).2)
                have hx3 := hx2.keep hb3
                have hb03 := hb2.trans (hb3.mono hs2')
                have hs3 := hb03.size
                have hcell : Bs w3 (some ⟨b, off + a1, none⟩) 251 ((xs.drop a1).take 251) := (hx3.rest (m := a1) (by omega)).first (m := 251) (by omega)
                have HCL : Hid (By (il dn) ++ By ((xs.drop a1).take 251) = By (il (dn ++ sub (nl xs) a1 251))) := by
                  show _ = _
                  rw [← By_append, il_append, ← nl_sub, il_nl hcell.2]
                have HRD : Hid (∀ m, m = 251 → Rd w3 (some ⟨b, off + a1, none⟩) m (By ((xs.drop a1).take 251))) := fun m h => by rw [h]; exact hcell.1
                clear ho2 hx2 hb2 hb3 hd3 HBS
                go_wp2_with (at_builtin; refine wpList_append_rd rfl _ _ 28 rfl i0 (.int .u8 0) 1 Tryd.underlying28 hi hz0 hz1 hz2 rfl rfl ho3 (some ⟨b, off + a1, none⟩) _ (c - a1) (By ((xs.drop a1).take 251)) rfl ?c0 (By_one _) ?c1 ?c2 ?c3 ?_)
                case c0 => exact HRD.out _ (by omega)
                case c1 => unfold maxLen; omega
                case c2 => omega
                case c3 => exact hs3
                intro A4 c4 v4 ho4 hg4
                rw [HCL.out] at ho4
                have hb04 := hb03.trans (hg4.below hs3 (fun k hk => (ho3.lies k hk).1))
                clear ho3 hx3 hcell HCL HRD hg4 hb03
                go_wp2
                go_roundw
                case rel => exact ⟨a1 + (251 + 4), left - 251, _, c4, left - 1, A4, dn ++ sub (nl xs) a1 251, by refine int_i64 ?_; omega, by refine int_i64 ?_; omega, rfl, by omega, by omega, by omega, by omega, ho4, HSTEP, hb04⟩
                case measure => (simp [intOf]) <;> omega
              · have hgf : goodL (sub (nl xs) a1 (251 + 4)) = false := by simpa using hgd
                have hE2 : cellE (nl xs) a1 251 = 4 := by unfold cellE; rw [HLN.out, if_neg (by omega), hgf]; simp
                have HERR := Lib.hid (show openL (nl xs) a = (4, [], 0) by
                  have her := cmb_err (f := f) dn (l := nl xs) (a := a1) hleft hlf (by rw [hK, hE2]; omega)
                  rw [hK, hE2] at her
                  rw [HINV.out]; exact her)
                have HG := Lib.hid (show goodL (nl ((xs.drop a1).take (251 + 4))) = false by rw [nl_sub]; exact hgf)
                clear HINV hK hE2 hgd hgf ho2
                go_wp2_with fail
                refine (rgood_any _ _ _ ((xs.drop a1).take (251 + 4)) _ ?hb ?hm).mono ?_
                case hb => exact HBS.out _ (by omega)
                case hm => unfold maxLen; omega
                rintro e w3 ⟨rfl, hd3⟩
                rw [HG.out]
                have hb03 := hb2.trans ((hd3.below _).mono hs2')
                clear HBS hx2 hd3
                go_wp2
                go_ret3
                refine .inr ?_
                rw [HERR.out]
                exact ⟨by simp, rfl, hb03⟩
        · obtain rfl : left = 0 := by omega
          have HEND := Lib.hid (show openL (nl xs) a = (0, dn, a1) by rw [HINV.out, cmb_end])
          have hnd : dn.length = n1 := by have := ho2.len; rwa [By_length, il_length] at this
          have HND := Lib.hid hnd; clear hnd
          clear HINV
          go_wp2
          go_ret3
          refine .inl ?_
          rw [HEND.out]
          refine ⟨rfl, A1, c1', ?_, ?_, hb2⟩
          · rw [HND.out]; rfl
          · rw [HND.out]; exact ho2
  · have hgf : goodL (sub (nl xs) a 8) = false := by simpa using hgd
    have hE : cellE (nl xs) a 4 = 4 := by unfold cellE; rw [HLN.out, if_neg (by omega), hgf]; simp
    have HR := Lib.hid (show openL (nl xs) a = (4, [], 0) by unfold openL; rw [hE]; simp)
    have HG := Lib.hid (show goodL (nl ((xs.drop a).take 8)) = false by rw [nl_sub]; exact hgf)
    clear hE hgd hgf
    go_enter Tryd.func29, Tryd.ntmps29
    go_wp2_with fail
    refine (rgood_any _ _ _ _ _ hbs (by unfold maxLen; omega)).mono ?_
    rintro e w1 ⟨rfl, hd3⟩
    rw [HG.out]
    have hb1 : Below w.heap.size w w1 := hd3.below _
    clear hd3 hbs
    go_wp2
    go_ret3
    refine .inr ?_
    rw [HR.out]
    exact ⟨by simp, rfl, hb1⟩
end Go.Proofs.YtmckgdjipkkklaaDoor
