/- label.Match, and the law's cut. -/
import Derived.Test.YtdlbghjclcdfmabDoorMt
import Derived.Test.YtdlbghjclcdfmabDoorAwake
namespace Go.Proofs.YtdlbghjclcdfmabDoor
set_option linter.unusedVariables false
set_option linter.unusedSimpArgs false
open Go.RowKit

theorem str_to {P : Program} (t : TypeId) (ht : P.underlying t = some .string) (xs : List Int) (k : Nat) (hk : k ≤ xs.length) (W : World) :
    (Instr.slice t (.string (strOfNums xs)) none (some (.int .i64 (k : Int))) none).run P W = .ok (.string (strOfNums (xs.take k))) W := by
  rw [run_slice_string_to_if W t _ .i64 (k : Int) ht, if_pos (by rw [strOfNums_size]; omega)]
  have : (strOfNums xs).extract 0 (k : Int).toNat = strOfNums (xs.take k) := by
    apply ByteArray.ext
    simp [strOfNums, ByteArray.size]
  rw [this]

set_option maxRecDepth 100000 in
set_option maxHeartbeats 1000000 in
theorem cut_any (l : List Int) (n : Nat) (w : World) (hl : l.length ≤ 140737488355328) (hn : n ≤ 140737488355328) :
    Calls Tryd.prog 7 #[.string (strOfNums l), .int .i64 n] w fun e w' => e = .returned (.string (strOfNums (l.take n))) ∧ w = w' := by
  have hsz : (strOfNums l).size = l.length := strOfNums_size l
  by_cases h : n < l.length
  · have hf := str_to (P := Tryd.prog) 9 Tryd.underlying9 l n (by omega)
    generalize strOfNums l = s at *
    generalize strOfNums (l.take n) = s2 at *
    generalize l.length = m at *
    go_enter Tryd.func7, Tryd.ntmps7
    go_wp2
    go_ret
    exact ⟨rfl, rfl⟩
  · rw [List.take_of_length_le (by omega)]
    generalize strOfNums l = s at *
    generalize l.length = m at *
    go_enter Tryd.func7, Tryd.ntmps7
    go_wp2
    go_ret
    exact ⟨rfl, rfl⟩

theorem stars_snoc {l : List Int} {k : Nat} (hx : l[k]? = some 42) (h : (l.take k).all (· == 42) = true) : (l.take (k + 1)).all (· == 42) = true := by
  obtain ⟨hk, e⟩ := List.getElem?_eq_some_iff.1 hx
  rw [List.take_succ_eq_append_getElem hk, List.all_append, h, e]
  rfl
theorem stars_bad {l : List Int} {k : Nat} {x : Int} (hx : l[k]? = some x) (ho : x ≠ 42) : l.all (· == 42) = false := by
  rw [List.all_eq_false]
  exact ⟨x, List.mem_of_getElem? hx, by simp [ho]⟩

set_option maxRecDepth 100000 in
set_option maxHeartbeats 1000000 in
theorem onlyStars_any (l : List Int) (w : World) (hr : Ran l) (hl : l.length ≤ 140737488355328) :
    Calls Tryd.prog 30 #[.string (strOfNums l)] w fun e w' => e = .returned (.bool (mt l [])) ∧ w = w' := by
  have hsz : (strOfNums l).size = l.length := strOfNums_size l
  have HIX := Lib.hid (fun (i : Nat) (x : Int) (hx : l[i]? = some x) (h0 : 0 ≤ x) (h1 : x ≤ 255) (W : World) => str_index (P := Tryd.prog) 9 Tryd.underlying9 l i x hx h0 h1 W)
  have HV := Lib.hid (mt_nil l)
  have HRR := Lib.hid hr; clear hr
  have HLL := Lib.hid (show l.length = l.length from rfl)
  generalize strOfNums l = s at *
  generalize mt l [] = res at *
  obtain ⟨m, hm⟩ : ∃ m, l.length = m := ⟨_, rfl⟩
  rw [hm] at hsz hl
  replace HLL := Lib.hid hm
  clear hm
  go_enter Tryd.func30, Tryd.ntmps30
  go_wp2
  go_loopw [6] (fun iv wr => ∃ (k : Nat), iv = .int .i64 k ∧ k ≤ m ∧ Hid ((l.take k).all (· == 42) = true) ∧ wr = w) (fun i _ => m - (intOf i).toNat)
  case atStart => exact ⟨0, rfl, by omega, rfl, rfl⟩
  case round =>
   obtain ⟨k, rfl, hk, HT, rfl⟩ := hrel
   by_cases hlt : k < m
   · have hkl : k < l.length := by rw [HLL.out]; exact hlt
     have hx := HRR.out l[k] (List.getElem_mem hkl)
     have HX := Lib.hid (List.getElem?_eq_getElem hkl)
     have j0 := HIX.out k l[k] HX.out hx.1 hx.2
     generalize l[k] = x at *
     obtain ⟨hx0, hx1⟩ := hx
     by_cases g : x = 42
     · subst g
       have HT2 := Lib.hid (stars_snoc HX.out HT.out)
       go_wp2
       go_roundw
       case rel => exact ⟨k + 1, by go_num, by omega, HT2, trivial⟩
       case measure => simp [intOf]; omega
     · have g1 : (x != 42) = true := by simpa using g
       have HF := Lib.hid (show res = false by rw [HV.out]; exact stars_bad HX.out g)
       clear g
       go_wp2
       go_ret
       exact ⟨ret_bool HF.out.symm, rfl⟩
   · have HF := Lib.hid (show res = true by
       have ht := HT.out
       rw [List.take_of_length_le (by rw [HLL.out]; omega)] at ht
       rw [HV.out, ht])
     go_wp2
     go_ret
     exact ⟨ret_bool HF.out.symm, rfl⟩

theorem meas_lit {sn pn fr a : Nat} (h : a < pn) : (sn + 1 - fr) * (pn + 2) + (pn + 1 - (a + 1)) < (sn + 1 - fr) * (pn + 2) + (pn + 1 - a) := by omega
theorem meas_star {sn pn fr i a : Nat} (h : a < pn) (hf : fr ≤ i) : (sn + 1 - i) * (pn + 2) + (pn + 1 - (a + 1)) < (sn + 1 - fr) * (pn + 2) + (pn + 1 - a) := by
  have := Nat.mul_le_mul_right (pn + 2) (show sn + 1 - i ≤ sn + 1 - fr by omega)
  omega
theorem meas_back {sn pn fr a st : Nat} (h : fr < sn) : (sn + 1 - (fr + 1)) * (pn + 2) + (pn + 1 - st) < (sn + 1 - fr) * (pn + 2) + (pn + 1 - a) := by
  have : (sn + 1 - fr) = (sn + 1 - (fr + 1)) + 1 := by omega
  rw [this, Nat.succ_mul]
  omega
theorem Keep.fr_le {s p : List Int} {i a st fr : Nat} (h : Keep s p i a st fr) : fr ≤ i := by
  obtain ⟨_, _, h | h⟩ := h
  · omega
  · omega
theorem Keep.st_le {s p : List Int} {i a st fr : Nat} (h : Keep s p i a st fr) : st ≤ a := by
  obtain ⟨_, _, h | h⟩ := h
  · omega
  · omega

set_option maxRecDepth 100000 in
set_option maxHeartbeats 4000000 in
theorem match_any (s p : List Int) (w : World) (hrs : Ran s) (hrp : Ran p) (hls : s.length ≤ 140737488355328) (hlp : p.length ≤ 140737488355328) :
    Calls Tryd.prog 11 #[.string (strOfNums s), .string (strOfNums p)] w fun e w' => e = .returned (.bool (mt p s)) ∧ Dr w w' := by
  have hsz : (strOfNums s).size = s.length := strOfNums_size s
  have hpz : (strOfNums p).size = p.length := strOfNums_size p
  have HIS := Lib.hid (fun (i : Nat) (x : Int) (hx : s[i]? = some x) (h0 : 0 ≤ x) (h1 : x ≤ 255) (W : World) => str_index (P := Tryd.prog) 9 Tryd.underlying9 s i x hx h0 h1 W)
  have HIP := Lib.hid (fun (i : Nat) (x : Int) (hx : p[i]? = some x) (h0 : 0 ≤ x) (h1 : x ≤ 255) (W : World) => str_index (P := Tryd.prog) 9 Tryd.underlying9 p i x hx h0 h1 W)
  have HFP := Lib.hid (fun (k : Nat) (hk : k ≤ p.length) (W : World) => str_from (P := Tryd.prog) 9 Tryd.underlying9 p k hk W)
  have HRS := Lib.hid hrs; have HRP := Lib.hid hrp; clear hrs hrp
  obtain ⟨R, hR⟩ : ∃ R, mt p s = R := ⟨_, rfl⟩
  rw [hR]
  have HRR := Lib.hid hR; clear hR
  generalize strOfNums s = S at *
  generalize strOfNums p = P at *
  obtain ⟨sn, hsn⟩ : ∃ m, s.length = m := ⟨_, rfl⟩
  obtain ⟨pn, hpn⟩ : ∃ m, p.length = m := ⟨_, rfl⟩
  rw [hsn] at hsz hls
  rw [hpn] at hpz hlp
  have HSN := Lib.hid hsn; have HPN := Lib.hid hpn; clear hsn hpn
  go_enter Tryd.func11, Tryd.ntmps11
  go_wp2
  go_loopw [5, 6, 7, 8] (fun av sv fv iv wr => ∃ (a st fr i q : Nat) (z : Int), av = .int .i64 a ∧ sv = .int .i64 z ∧ fv = .int .i64 fr ∧ iv = .int .i64 i ∧ Hid (z = (st : Int) - 1) ∧ -1 ≤ z ∧ z ≤ 140737488355328 ∧ i ≤ sn ∧ a ≤ pn ∧ fr ≤ i ∧ Hid (Keep s p i a st fr) ∧ wr = w.drewN q) (fun av _ fv _ _ => (sn + 1 - (intOf fv).toNat) * (pn + 2) + (pn + 1 - (intOf av).toNat))
  case atStart => exact ⟨0, 0, 0, 0, 0, -1, rfl, rfl, rfl, rfl, by show _ = _; omega, by omega, by omega, by omega, by omega, by omega, Keep.start s p, rfl⟩
  case round =>
   obtain ⟨a, st, fr, i, q, z, rfl, rfl, rfl, rfl, HZ, hz0, hz1, hi, ha, hfi, HK, rfl⟩ := hrel
   by_cases hlt : i < sn
   · have hkl : i < s.length := by rw [HSN.out]; exact hlt
     have hx := HRS.out s[i] (List.getElem_mem hkl)
     have HX := Lib.hid (List.getElem?_eq_getElem hkl)
     have j0 := HIS.out i s[i] HX.out hx.1 hx.2
     generalize s[i] = c at *
     obtain ⟨hx0, hx1⟩ := hx
     by_cases hla : a < pn
     · have hpl : a < p.length := by rw [HPN.out]; exact hla
       have hy := HRP.out p[a] (List.getElem_mem hpl)
       have HY := Lib.hid (List.getElem?_eq_getElem hpl)
       have j1 := HIP.out a p[a] HY.out hy.1 hy.2
       generalize p[a] = x at *
       obtain ⟨hy0, hy1⟩ := hy
       by_cases g1 : x = 42
       · subst g1
         have HK2 := Lib.hid (HK.out.star HY.out)
         have HM := Lib.hid (meas_star (sn := sn) hla hfi)
         go_wp2
         go_roundw
         case rel => exact ⟨a + 1, a + 1, i, i, q, a, by go_num, rfl, rfl, rfl, by show _ = _; omega, by omega, by omega, by omega, by omega, by omega, HK2, rfl⟩
         case measure =>
           have e1 : ((a : Int) + 1).toNat = a + 1 := by omega
           simp only [intOf, Int.toNat_natCast, e1]; exact HM.out
       · have k1 : (x == 42) = false := by simpa using g1
         by_cases g2 : x = 63
         · subst g2
           have HK2 := Lib.hid (HK.out.lit HY.out HX.out g1 (.inl rfl))
           have HM := Lib.hid (meas_lit (sn := sn) (fr := fr) hla)
           clear g1
           go_wp2
           go_quiet (fail)
           go_wp2
           go_roundw
           case rel => exact ⟨a + 1, st, fr, i + 1, _, z, by go_num, rfl, rfl, by go_num, HZ, by omega, by omega, by omega, by omega, by omega, HK2, rfl⟩
           case measure =>
             have e1 : ((a : Int) + 1).toNat = a + 1 := by omega
             simp only [intOf, Int.toNat_natCast, e1]; exact HM.out
         · have k2 : (x == 63) = false := by simpa using g2
           by_cases g3 : x = c
           · subst g3
             have HK2 := Lib.hid (HK.out.lit HY.out HX.out g1 (.inr rfl))
             have HM := Lib.hid (meas_lit (sn := sn) (fr := fr) hla)
             clear g1 g2
             go_wp2
             go_quiet (fail)
             go_wp2
             go_roundw
             case rel => exact ⟨a + 1, st, fr, i + 1, _, z, by go_num, rfl, rfl, by go_num, HZ, by omega, by omega, by omega, by omega, by omega, HK2, rfl⟩
             case measure =>
               have e1 : ((a : Int) + 1).toNat = a + 1 := by omega
               simp only [intOf, Int.toNat_natCast, e1]; exact HM.out
           · have k3 : (x == c) = false := by simpa using g3
             have HMI := Lib.hid (show a = p.length ∨ ∃ x, p[a]? = some x ∧ x ≠ 42 ∧ x ≠ 63 ∧ x ≠ c from .inr ⟨x, HY.out, g1, g2, g3⟩)
             clear g1 g2 g3
             by_cases hst : 0 ≤ z
             · have HK2 := Lib.hid (HK.out.back HX.out HMI.out (by have := HZ.out; omega))
               have hsl : st ≤ a := HK.out.st_le
               have HM := Lib.hid (meas_back (sn := sn) (pn := pn) (a := a) (st := st) (show fr < sn by omega))
               have HE := Lib.hid (show z + 1 = (st : Int) by rw [HZ.out]; omega)
               go_wp2
               go_quiet (fail)
               go_wp2
               go_roundw
               case rel => exact ⟨st, st, fr + 1, fr + 1, _, z, by rw [HE.out], rfl, by go_num, by go_num, HZ, by omega, by omega, by omega, by omega, by omega, HK2, rfl⟩
               case measure =>
                 have e1 : ((fr : Int) + 1).toNat = fr + 1 := by omega
                 simp only [intOf, HE.out, Int.toNat_natCast, e1]; exact HM.out
             · have HF := Lib.hid (show R = false by
                 rw [← HRR.out]
                 have hz : st = 0 := by have := HZ.out; omega
                 have hk := HK.out
                 rw [hz] at hk
                 exact hk.lost HX.out HMI.out)
               go_wp2
               go_quiet (fail)
               go_wp2
               go_ret
               exact ⟨ret_bool HF.out.symm, (Dr.refl w).n _⟩
     · have HMI := Lib.hid (show a = p.length ∨ ∃ x, p[a]? = some x ∧ x ≠ 42 ∧ x ≠ 63 ∧ x ≠ c from .inl (by rw [HPN.out]; omega))
       by_cases hst : 0 ≤ z
       · have HK2 := Lib.hid (HK.out.back HX.out HMI.out (by have := HZ.out; omega))
         have hsl : st ≤ a := HK.out.st_le
         have HM := Lib.hid (meas_back (sn := sn) (pn := pn) (a := a) (st := st) (show fr < sn by omega))
         have HE := Lib.hid (show z + 1 = (st : Int) by rw [HZ.out]; omega)
         go_wp2
         go_quiet (fail)
         go_wp2
         go_roundw
         case rel => exact ⟨st, st, fr + 1, fr + 1, _, z, by rw [HE.out], rfl, by go_num, by go_num, HZ, by omega, by omega, by omega, by omega, by omega, HK2, rfl⟩
         case measure =>
           have e1 : ((fr : Int) + 1).toNat = fr + 1 := by omega
           simp only [intOf, HE.out, Int.toNat_natCast, e1]; exact HM.out
       · have HF := Lib.hid (show R = false by
           rw [← HRR.out]
           have hz : st = 0 := by have := HZ.out; omega
           have hk := HK.out
           rw [hz] at hk
           exact hk.lost HX.out HMI.out)
         go_wp2
         go_quiet (fail)
         go_wp2
         go_ret
         exact ⟨ret_bool HF.out.symm, (Dr.refl w).n _⟩
   · have hf := HFP.out a (by rw [HPN.out]; exact ha)
     have HF := Lib.hid (show mt (p.drop a) [] = R by
       rw [← HRR.out]
       have hk := HK.out
       rw [show i = s.length by rw [HSN.out]; omega] at hk
       exact hk.done.symm)
     have hrd : Ran (p.drop a) := HRP.out.sub fun y hy => List.mem_of_mem_drop hy
     go_wp2_with fail
     refine (onlyStars_any (p.drop a) _ hrd (by simp; rw [HPN.out]; omega)).mono ?_
     rintro e w1 ⟨rfl, rfl⟩
     rw [HF.out]
     go_wp2
     go_ret
     exact ⟨rfl, (Dr.refl w).n _⟩
end Go.Proofs.YtdlbghjclcdfmabDoor
