/- The reference's polynomial at a place, its Good and its inverse. -/
import Derived.Test.YtmckgdjipkkklaaDoorRMulW
import Derived.Test.YtmckgdjipkkklaaDoorCheckW
namespace Go.Proofs.YtmckgdjipkkklaaDoor
set_option linter.unusedVariables false
set_option linter.unusedSimpArgs false
open Go.RowKit

theorem nl_take_succ {xs : List Int} {k y : Nat} (h : xs[k]? = some (y : Int)) : (nl xs).take (k + 1) = (nl xs).take k ++ [y] := by
  obtain ⟨h1, h2⟩ := List.getElem?_eq_some_iff.1 h
  have h3 : k < (nl xs).length := by rw [nl_length]; exact h1
  rw [List.take_succ_eq_append_getElem h3]
  simp [nl, h2]

theorem at_any (A : Option Addr) (n c : Nat) (xs : List Int) (x : Nat) (hx : x < 256) (w : World) (hb : Bs w A n xs) (hn : n ≤ maxLen) :
    Calls Tryd.prog 40 #[.slice A n c, .int .u8 (x : Int)] w fun e w' => e = .returned (.int .u8 (ev x (nl xs) : Nat)) ∧ Dr w w' := by
  unfold maxLen at hn
  have HL := Lib.hid hb.len
  have HR := Lib.hid (fun k => ev_lt x ((nl_rn hb.2).take k))
  go_enter Tryd.func40, Tryd.ntmps40
  go_wp2
  go_loopw [5, 6] (fun u i wr => ∃ (v k q : Nat), u = .int .u8 v ∧ i = .int .i64 k ∧ k ≤ n ∧ v < 256 ∧ wr = w.drewN q ∧ Hid (v = ev x ((nl xs).take k))) (fun _ i _ => n - (intOf i).toNat)
  case atStart => exact ⟨0, 0, 0, rfl, rfl, Nat.zero_le _, by omega, rfl, rfl⟩
  case round =>
    obtain ⟨v, k, q, rfl, rfl, hk, hv, rfl, HK⟩ := hrel
    by_cases hlt : k < n
    · obtain ⟨b, off, y', rfl, hbk, h0, h1, hcx, HX⟩ := hb.at_ hlt
      obtain ⟨y, rfl⟩ := Int.eq_ofNat_of_zero_le h0
      have hcx' : (w.drewN q).cell? ⟨b, off + k, none⟩ = some (.int .u8 (y : Int)) := hcx
      have hm := mul_lt x hv
      have hxor := xor_u8 (mul v x) y hm (by omega)
      have HN := Lib.hid (show mul v x ^^^ y = ev x ((nl xs).take (k + 1)) by rw [nl_take_succ HX.out, ev_snoc, HK.out])
      have hxl : mul v x ^^^ y < 256 := xor_lt _ _ hm (by omega)
      clear HK
      go_wp2
      go_quiet ((go_at_call 14; first | exact still_call_add (fun W => rmul_any v x W hv hx) | exact still_call (fun W => rmul_any v x W hv hx)))
      go_wp2
      go_roundw
      case rel => exact ⟨_, k + 1, _, rfl, by go_num, by omega, hxl, rfl, HN⟩
      case measure => simp [intOf]; omega
    · have HE := Lib.hid (show v = ev x (nl xs) by rw [HK.out, List.take_of_length_le (by rw [nl_length, HL.out]; omega)])
      clear HK
      go_wp2
      go_ret
      exact ⟨ret_int (by rw [HE.out]), (Dr.refl w).n _⟩

theorem goodL_ev {l : List Nat} (hl : Rn l) (h4 : 4 ≤ l.length) : goodL l = true ↔ ev 1 l = 0 ∧ ev 2 l = 0 ∧ ev 4 l = 0 ∧ ev 8 l = 0 := by
  rw [goodL_iff hl]
  constructor
  · rintro ⟨_, h⟩
    exact ⟨h 0 (by omega), h 1 (by omega), h 2 (by omega), h 3 (by omega)⟩
  · rintro ⟨h0, h1, h2, h3⟩
    refine ⟨h4, fun i hi => ?_⟩
    match i, hi with
    | 0, _ => exact h0
    | 1, _ => exact h1
    | 2, _ => exact h2
    | 3, _ => exact h3
theorem goodL_not {l : List Nat} (hl : Rn l) (h4 : 4 ≤ l.length) (h : ¬ (ev 1 l = 0 ∧ ev 2 l = 0 ∧ ev 4 l = 0 ∧ ev 8 l = 0)) : goodL l = false := by
  have := (not_congr (goodL_ev hl h4)).2 h
  simpa using this

theorem rgood_any (A : Option Addr) (n c : Nat) (xs : List Int) (w : World) (hb : Bs w A n xs) (hn : n ≤ maxLen) :
    Calls Tryd.prog 21 #[.slice A n c] w fun e w' => e = .returned (.bool (goodL (nl xs))) ∧ Dr w w' := by
  have hl := hb.len
  have hrn := nl_rn hb.2
  by_cases h4 : n < 4
  · have HR := Lib.hid (show goodL (nl xs) = false by unfold goodL; rw [nl_length]; simp; omega)
    have hd : decide ((4 : Int) ≤ (n : Int)) = false := by simp; omega
    clear hl
    unfold maxLen at hn
    go_enter Tryd.func21, Tryd.ntmps21
    go_wp2
    go_ret
    exact ⟨ret_bool HR.out.symm, Dr.refl w⟩
  · have h4' : 4 ≤ (nl xs).length := by rw [nl_length]; omega
    have hd : decide ((4 : Int) ≤ (n : Int)) = true := by simp; omega
    have HG := Lib.hid (goodL_ev hrn h4')
    have HG' := Lib.hid (fun h => goodL_not hrn h4' h)
    clear hl h4'
    have hn' := hn
    unfold maxLen at hn'
    go_enter Tryd.func21, Tryd.ntmps21
    go_wp2_with fail
    refine (at_any A n c xs 1 (by omega) _ hb hn).mono ?_
    rintro e w1 ⟨rfl, hd1⟩
    have hb1 := hb.dr hd1
    by_cases e1 : ev 1 (nl xs) = 0
    · have f1 : (((ev 1 (nl xs) : Nat) : Int) == 0) = true := by simp [e1]
      go_wp2_with fail
      refine (at_any A n c xs 2 (by omega) _ hb1 hn).mono ?_
      rintro e w2 ⟨rfl, hd2⟩
      have hb2 := hb1.dr hd2
      by_cases e2 : ev 2 (nl xs) = 0
      · have f2 : (((ev 2 (nl xs) : Nat) : Int) == 0) = true := by simp [e2]
        go_wp2_with fail
        refine (at_any A n c xs 4 (by omega) _ hb2 hn).mono ?_
        rintro e w3 ⟨rfl, hd3⟩
        have hb3 := hb2.dr hd3
        by_cases e3 : ev 4 (nl xs) = 0
        · have f3 : (((ev 4 (nl xs) : Nat) : Int) == 0) = true := by simp [e3]
          go_wp2_with fail
          refine (at_any A n c xs 8 (by omega) _ hb3 hn).mono ?_
          rintro e w4' ⟨rfl, hd4⟩
          by_cases e4 : ev 8 (nl xs) = 0
          · have f4 : (((ev 8 (nl xs) : Nat) : Int) == 0) = true := by simp [e4]
            have HR := Lib.hid (HG.out.2 ⟨e1, e2, e3, e4⟩)
            clear e1 e2 e3 e4
            go_wp2
            go_ret
            exact ⟨ret_bool HR.out.symm, ((hd1.trans hd2).trans hd3).trans hd4⟩
          · have f4 : (((ev 8 (nl xs) : Nat) : Int) == 0) = false := by simpa using e4
            have HR := Lib.hid (HG'.out (fun h => e4 h.2.2.2))
            clear e1 e2 e3 e4
            go_wp2
            go_ret
            exact ⟨ret_bool HR.out.symm, ((hd1.trans hd2).trans hd3).trans hd4⟩
        · have f3 : (((ev 4 (nl xs) : Nat) : Int) == 0) = false := by simpa using e3
          have HR := Lib.hid (HG'.out (fun h => e3 h.2.2.1))
          clear e1 e2 e3
          go_wp2
          go_ret
          exact ⟨ret_bool HR.out.symm, (hd1.trans hd2).trans hd3⟩
      · have f2 : (((ev 2 (nl xs) : Nat) : Int) == 0) = false := by simpa using e2
        have HR := Lib.hid (HG'.out (fun h => e2 h.2.1))
        clear e1 e2
        go_wp2
        go_ret
        exact ⟨ret_bool HR.out.symm, hd1.trans hd2⟩
    · have f1 : (((ev 1 (nl xs) : Nat) : Int) == 0) = false := by simpa using e1
      have HR := Lib.hid (HG'.out (fun h => e1 h.1))
      clear e1
      go_wp2
      go_ret
      exact ⟨ret_bool HR.out.symm, hd1⟩

theorem inv_only {a r : Nat} (ha : a < 256) (hr : r < 256) (h : mul a r = 1) : r = invL a := by
  have h0 : a ≠ 0 := by intro e; rw [e, mul_zero_left] at h; omega
  obtain ⟨hi, hm⟩ := inv_ok ha h0
  rw [← mul_one hr, ← hm, ← mul_assoc hr ha hi, mul_comm hr ha, h, one_mul hi]
theorem inverse_any (a : Nat) (ha : a < 256) (h0 : a ≠ 0) (w : World) : Calls Tryd.prog 41 #[.int .u8 (a : Int)] w fun e w' => e = .returned (.int .u8 (invL a : Nat)) ∧ w = w' := by
  have hio := inv_ok ha h0
  have HU := Lib.hid (fun k (h : k < 256) (hm : mul a k = 1) => inv_only ha h hm)
  generalize invL a = R at *
  have HI := Lib.hid hio; clear hio h0
  go_enter Tryd.func41, Tryd.ntmps41
  go_wp2
  go_loop [3] (fun i => ∃ k : Nat, i = .int .i64 k ∧ 1 ≤ k ∧ k ≤ 256 ∧ Hid (∀ j, 1 ≤ j → j < k → mul a j ≠ 1)) (fun i => 256 - (intOf i).toNat)
  case atStart => exact ⟨1, rfl, Nat.le_refl _, by omega, fun j h1 h2 => by omega⟩
  case round =>
    obtain ⟨k, rfl, hk1, hk2, HK⟩ := hrel
    have hlt : k < 256 := by
      rcases Nat.lt_or_ge k 256 with h | h
      · exact h
      · exfalso
        have h1 : 1 ≤ R := by
          rcases Nat.eq_zero_or_pos R with h | h
          · have := HI.out.2; rw [h, mul_zero_right] at this; omega
          · exact h
        exact HK.out _ h1 (by have := HI.out.1; omega) HI.out.2
    have hw : IntKind.u8.wrap (k : Int) = (k : Int) := by rw [IntKind.wrap_u8]; omega
    have hdl : decide ((k : Int) < 256) = true := by simp; omega
    have HLT := Lib.hid hlt
    have HK1 := Lib.hid hk1
    have hk3 : (k : Int) ≤ 1000 := by omega
    clear hk2
    by_cases hm : mul a k = 1
    · have hd : (((mul a k : Nat) : Int) == 1) = true := by simp [hm]
      have HE := Lib.hid (HU.out k hlt hm)
      clear hm HK hlt hk1
      go_wp2_with fail
      refine (rmul_any a k _ ha HLT.out).mono ?_
      rintro e w' ⟨rfl, rfl⟩
      go_wp2
      go_ret
      exact ⟨ret_int (by rw [HE.out]), rfl⟩
    · have hd : (((mul a k : Nat) : Int) == 1) = false := by simp; omega
      have HN : Hid (∀ j, 1 ≤ j → j < k + 1 → mul a j ≠ 1) := fun j h1 h2 => by
        rcases Nat.lt_or_ge j k with h | h
        · exact HK.out j h1 h
        · have : j = k := by omega
          rw [this]; exact hm
      clear hm HK hlt hk1
      go_wp2_with fail
      refine (rmul_any a k _ ha HLT.out).mono ?_
      rintro e w' ⟨rfl, rfl⟩
      go_wp2
      go_round
      case rel => exact ⟨k + 1, by go_num, by omega, HLT.out, HN⟩
      case measure => have := HLT.out; simp [intOf]; omega
end Go.Proofs.YtmckgdjipkkklaaDoor
