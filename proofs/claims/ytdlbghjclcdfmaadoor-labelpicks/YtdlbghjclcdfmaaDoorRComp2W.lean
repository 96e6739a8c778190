/- The reference's Compare. -/
import Derived.Test.YtdlbghjclcdfmaaDoorRCompW
import Derived.StillTailTactics
namespace Go.Proofs.YtdlbghjclcdfmaaDoor
set_option linter.unusedVariables false
set_option linter.unusedSimpArgs false
open Go.RowKit

theorem wrap_i64' (x : Int) (h0 : -9223372036854775808 ≤ x) (h1 : x ≤ 9223372036854775807) : IntKind.i64.wrap x = x := by
  simp [IntKind.wrap, IntKind.bits, IntKind.signed]
  omega
theorem cmpL_one (c d : Int) : cmpL [c] [d] = cmpI c d := by
  simp only [cmpL, cmpI]
theorem fp_sub (l : List Int) (i : Nat) : (l.drop i).take (fp (l.drop i)).length = fp (l.drop i) := by
  generalize l.drop i = x
  cases x with
  | nil => rfl
  | cons c r =>
    rw [fp_eq]
    split
    · simp only [List.length_cons, List.take_succ_cons]
      congr 1
      exact (List.prefix_iff_eq_take.1 (List.takeWhile_prefix dgt)).symm
    · rfl
set_option maxRecDepth 100000 in
set_option maxHeartbeats 1500000 in
theorem rcompare_any (a b : List Int) (w : World) (ha : Ran a) (hb : Ran b) (hla : a.length ≤ 140737488355328) (hlb : b.length ≤ 140737488355328) :
    Calls Tryd.prog 15 #[.string (strOfNums a), .string (strOfNums b)] w fun e w' => e = .returned (.int .i64 (cmpS a b)) ∧ Below w.heap.size w w' := by
  have HBA := Lib.hid (fun W => bytes_any a b W ha hb hla hlb)
  have HCS := Lib.hid (show cmpS a b = if cmpL (kys a) (kys b) = 0 then cmpL a b else cmpL (kys a) (kys b) from rfl)
  have hza : (strOfNums a).size = a.length := strOfNums_size a
  have hzb : (strOfNums b).size = b.length := strOfNums_size b
  have HIA := Lib.hid (fun (i : Nat) (x : Int) (hx : a[i]? = some x) (h0 : 0 ≤ x) (h1 : x ≤ 255) (W : World) => str_index (P := Tryd.prog) 9 Tryd.underlying9 a i x hx h0 h1 W)
  have HIB := Lib.hid (fun (i : Nat) (x : Int) (hx : b[i]? = some x) (h0 : 0 ≤ x) (h1 : x ≤ 255) (W : World) => str_index (P := Tryd.prog) 9 Tryd.underlying9 b i x hx h0 h1 W)
  have HSA := Lib.hid (fun (i j : Nat) (x y : Int) (h1 : x = (i : Int)) (h2 : y = (j : Int)) (h3 : i ≤ j) (h4 : j ≤ a.length) (W : World) => str_sub (P := Tryd.prog) 9 Tryd.underlying9 a i j x y h1 h2 h3 h4 W)
  have HSB := Lib.hid (fun (i j : Nat) (x y : Int) (h1 : x = (i : Int)) (h2 : y = (j : Int)) (h3 : i ≤ j) (h4 : j ≤ b.length) (W : World) => str_sub (P := Tryd.prog) 9 Tryd.underlying9 b i j x y h1 h2 h3 h4 W)
  have HRA := Lib.hid (fun (i : Nat) (h : i < a.length) (W : World) => run_any a i W ha hla h)
  have HRB := Lib.hid (fun (i : Nat) (h : i < b.length) (W : World) => run_any b i W hb hlb h)
  have HA := Lib.hid ha; have HB := Lib.hid hb; clear ha hb
  generalize strOfNums a = SA at *
  generalize strOfNums b = SB at *
  generalize cmpS a b = res at *
  generalize cmpL a b = rb at *
  obtain ⟨an, han⟩ : ∃ m, a.length = m := ⟨_, rfl⟩
  obtain ⟨bn, hbn⟩ : ∃ m, b.length = m := ⟨_, rfl⟩
  rw [han] at hza hla
  rw [hbn] at hzb hlb
  have HAN := Lib.hid han; have HBN := Lib.hid hbn; clear han hbn
  go_enter Tryd.func15, Tryd.ntmps15
  go_wp2
  go_loopw [5, 6] (fun iv kv wr => ∃ (i k : Nat), iv = .int .i64 i ∧ kv = .int .i64 k ∧ i ≤ an ∧ k ≤ bn ∧ Hid (cmpL (kys a) (kys b) = cmpL (kys (a.drop i)) (kys (b.drop k))) ∧ Below w.heap.size w wr) (fun iv _ _ => an - (intOf iv).toNat)
  case atStart => exact ⟨0, 0, rfl, rfl, by omega, by omega, rfl, Below.refl _ _⟩
  case round =>
    obtain ⟨i, k, rfl, rfl, hi, hk, HK, hbw⟩ := hrel
    by_cases hlt : i < an
    · by_cases hlk : k < bn
      · have hal : i < a.length := by rw [HAN.out]; exact hlt
        have hbl : k < b.length := by rw [HBN.out]; exact hlk
        have hx := HA.out a[i] (List.getElem_mem hal)
        have hy := HB.out b[k] (List.getElem_mem hbl)
        have HX := Lib.hid (List.getElem?_eq_getElem hal)
        have HY := Lib.hid (List.getElem?_eq_getElem hbl)
        have HDX := Lib.hid (show a.drop i = a[i] :: a.drop (i + 1) from List.drop_eq_getElem_cons hal)
        have HDY := Lib.hid (show b.drop k = b[k] :: b.drop (k + 1) from List.drop_eq_getElem_cons hbl)
        have jx := HIA.out i a[i] HX.out hx.1 hx.2
        have jy := HIB.out k b[k] HY.out hy.1 hy.2
        generalize a[i] = c at *
        generalize b[k] = d at *
        obtain ⟨hx0, hx1⟩ := hx
        obtain ⟨hy0, hy1⟩ := hy
        have HRa := Lib.hid (HRA.out i hal)
        have HRb := Lib.hid (HRB.out k hbl)
        have sx := HSA.out i (i + 1) (i : Int) ((i : Int) + 1) rfl (by omega) (by omega) (by omega)
        have sy := HSB.out k (k + 1) (k : Int) ((k : Int) + 1) rfl (by omega) (by omega) (by omega)
        have ex : (a.drop i).take (i + 1 - i) = [c] := by rw [show i + 1 - i = 1 by omega, HDX.out]; rfl
        have ey : (b.drop k).take (k + 1 - k) = [d] := by rw [show k + 1 - k = 1 by omega, HDY.out]; rfl
        rw [ex] at sx
        rw [ey] at sy
        have hpa : (fp (a.drop i)).length ≤ an - i := by have := fp_le (a.drop i); rwa [List.length_drop, HAN.out] at this
        have hpb : (fp (b.drop k)).length ≤ bn - k := by have := fp_le (b.drop k); rwa [List.length_drop, HBN.out] at this
        have hpp : 0 < (fp (a.drop i)).length := by rw [HDX.out]; exact fp_len
        have hrpa : Ran (fp (a.drop i)) := fp_ran (HA.out.sub fun z hz => List.mem_of_mem_drop hz)
        have hrpb : Ran (fp (b.drop k)) := fp_ran (HB.out.sub fun z hz => List.mem_of_mem_drop hz)
        have ux := HSA.out i (i + (fp (a.drop i)).length) (i : Int) ((i + (fp (a.drop i)).length : Nat) : Int) rfl rfl (by omega) (by rw [HAN.out]; omega)
        have uy := HSB.out k (k + (fp (b.drop k)).length) (k : Int) ((k + (fp (b.drop k)).length : Nat) : Int) rfl rfl (by omega) (by rw [HBN.out]; omega)
        rw [show i + (fp (a.drop i)).length - i = (fp (a.drop i)).length by omega, fp_sub] at ux
        rw [show k + (fp (b.drop k)).length - k = (fp (b.drop k)).length by omega, fp_sub] at uy
        have HNA := Lib.hid (fun W => number_any (fp (a.drop i)) W hrpa (by omega))
        have HNB := Lib.hid (fun W => number_any (fp (b.drop k)) W hrpb (by omega))
        have HB1 := Lib.hid (fun W => bytes_any [c] [d] W (fun z hz => by obtain rfl := List.mem_singleton.1 hz; exact ⟨hx0, hx1⟩) (fun z hz => by obtain rfl := List.mem_singleton.1 hz; exact ⟨hy0, hy1⟩) (by simp) (by simp))
        have hla1 := trim0_le (fp (a.drop i))
        have hlb1 := trim0_le (fp (b.drop k))
        have HB2 := Lib.hid (fun W => bytes_any (trim0 (fp (a.drop i))) (trim0 (fp (b.drop k))) W (hrpa.sub trim0_mem) (hrpb.sub trim0_mem) (by omega) (by omega))
        have hzx : (strOfNums (trim0 (fp (a.drop i)))).size = (trim0 (fp (a.drop i))).length := strOfNums_size _
        have hzy : (strOfNums (trim0 (fp (b.drop k)))).size = (trim0 (fp (b.drop k))).length := strOfNums_size _
        have HND : Hid ((dgt c = false ∨ dgt d = false) → cmpL (key (fp (a.drop i))) (key (fp (b.drop k))) = cmpL [c] [d]) := fun h => by
          rw [HDX.out, HDY.out]
          obtain ⟨r', hr'⟩ := fp_head c (a.drop (i + 1))
          obtain ⟨t', ht'⟩ := fp_head d (b.drop (k + 1))
          rw [hr', ht', key_nd r' t' h, cmpL_one]
        have HDD : Hid (dgt c = true → dgt d = true → cmpL (key (fp (a.drop i))) (key (fp (b.drop k))) = if (trim0 (fp (a.drop i))).length = (trim0 (fp (b.drop k))).length then cmpL (trim0 (fp (a.drop i))) (trim0 (fp (b.drop k))) else cmpI ((trim0 (fp (a.drop i))).length : Int) ((trim0 (fp (b.drop k))).length : Int)) := fun h1 h2 => by
          rw [HDX.out, HDY.out]
          obtain ⟨r', hr'⟩ := fp_head c (a.drop (i + 1))
          obtain ⟨t', ht'⟩ := fp_head d (b.drop (k + 1))
          rw [hr', ht', key_dd r' t' h1 h2]
        have HNE : Hid (cmpL (key (fp (a.drop i))) (key (fp (b.drop k))) ≠ 0 → cmpL (key (fp (a.drop i))) (key (fp (b.drop k))) = res) := fun h => by
          have h1 := HK.out
          rw [HDX.out, HDY.out] at h h1 ⊢
          rw [kys_ne h] at h1
          rw [HCS.out, h1, if_neg h]
        have HEQ : Hid (cmpL (key (fp (a.drop i))) (key (fp (b.drop k))) = 0 → cmpL (kys a) (kys b) = cmpL (kys (a.drop (i + (fp (a.drop i)).length))) (kys (b.drop (k + (fp (b.drop k)).length)))) := fun h => by
          have h1 := HK.out
          rw [← List.drop_drop, ← List.drop_drop]
          rw [HDX.out, HDY.out] at h h1 ⊢
          rw [kys_eq h] at h1
          exact h1
        clear ex ey hrpa hrpb hal hbl
        obtain ⟨cc, hcc⟩ : ∃ cc, cmpL (key (fp (a.drop i))) (key (fp (b.drop k))) = cc := ⟨_, rfl⟩
        rw [hcc] at HND HDD HNE HEQ
        clear hcc
        generalize cmpL [c] [d] = ci at *
        generalize strOfNums [c] = SC at *
        generalize strOfNums [d] = SD at *
        generalize strOfNums (fp (a.drop i)) = SP at *
        generalize strOfNums (fp (b.drop k)) = SQ at *
        generalize cmpL (trim0 (fp (a.drop i))) (trim0 (fp (b.drop k))) = cx at *
        generalize strOfNums (trim0 (fp (a.drop i))) = SX at *
        generalize strOfNums (trim0 (fp (b.drop k))) = SY at *
        generalize (trim0 (fp (a.drop i))).length = xn at *
        generalize (trim0 (fp (b.drop k))).length = yn at *
        obtain ⟨m, hm⟩ : ∃ m, i + (fp (a.drop i)).length = m := ⟨_, rfl⟩
        obtain ⟨n, hn⟩ : ∃ n, k + (fp (b.drop k)).length = n := ⟨_, rfl⟩
        have hm1 : m ≤ an := by omega
        have hn1 : n ≤ bn := by omega
        have hm2 : i < m := by omega
        have hn2 : k ≤ n := by omega
        have hxb : xn ≤ 140737488355328 := by omega
        have hyb : yn ≤ 140737488355328 := by omega
        rw [hm] at HRa HEQ ux
        rw [hn] at HRb HEQ uy
        clear hm hn hpa hpb hpp hla1 hlb1
        go_wp2_with fail
        refine (HRa.out _).mono ?_
        rintro e w1 ⟨rfl, rfl⟩
        go_wp2_with fail
        refine (HRb.out _).mono ?_
        rintro e w1 ⟨rfl, rfl⟩
        go_wp2
        have hwi : IntKind.i64.wrap ((i : Int) + 1) = (i : Int) + 1 := wrap_i64' _ (by omega) (by omega)
        have hwk : IntKind.i64.wrap ((k : Int) + 1) = (k : Int) + 1 := wrap_i64' _ (by omega) (by omega)
        refine wp_region_still_tail 10 (by kernel_rfl) (by kernel_rfl) ?_
        simp only [List.take_succ_cons, List.take_zero, List.drop_succ_cons, List.drop_zero]
        change wpStill _ _ wr.drew (fun a' => wpList _ _ _ _ a' wr.drew) _ _
        repeat still_step
        refine wpStill_nil ?_
        have hbw2 : Below w.heap.size w wr.drew := below_n hbw 1
        have hs2 := hbw2.size
        clear hbw sx sy hwi hwk
        go_wp2_with fail
        refine (HB1.out _).mono ?_
        rintro e w1 ⟨rfl, hb1⟩
        have hb3 := hbw2.trans (hb1.mono hs2)
        clear hbw2 hb1 hs2
        by_cases hcd : dg c = true
        · by_cases hdd : dg d = true
          · have HCC := Lib.hid (HDD.out hcd hdd)
            have hs3 := hb3.size
            go_wp2_with fail
            refine (digit_any _ _).mono ?_
            rintro e w2 ⟨rfl, rfl⟩
            go_wp2_with fail
            refine (digit_any _ _).mono ?_
            rintro e w2 ⟨rfl, rfl⟩
            go_wp2
            go_quiet ((go_at_call 37; first | with_reducible exact still_call_add HNA.out | with_reducible exact still_call HNA.out | with_reducible exact still_call_add HNB.out | with_reducible exact still_call HNB.out))
            have hb4 := fun q => below_n hb3 q
            go_wp2_with fail
            refine (HB2.out _).mono ?_
            rintro e w3 ⟨rfl, hb5⟩
            have hb6 := (hb4 _).trans (hb5.mono hs3)
            clear hb3 hb4 hb5
            by_cases hxy : xn < yn
            · have HCV := Lib.hid (show cc = -1 by rw [HCC.out, if_neg (by omega)]; unfold cmpI; rw [if_pos (by omega)])
              have HR := Lib.hid (show -1 = res from HCV.out.symm.trans (HNE.out (by rw [HCV.out]; omega)))
              go_wp2
              go_ret
              exact ⟨ret_int HR.out, hb6⟩
            · by_cases hyx : yn < xn
              · have HCV := Lib.hid (show cc = 1 by rw [HCC.out, if_neg (by omega)]; unfold cmpI; rw [if_neg (by omega), if_pos (by omega)])
                have HR := Lib.hid (show 1 = res from HCV.out.symm.trans (HNE.out (by rw [HCV.out]; omega)))
                go_wp2
                go_ret
                exact ⟨ret_int HR.out, hb6⟩
              · have HCV := Lib.hid (show cc = cx by rw [HCC.out, if_pos (by omega)])
                by_cases hcc : cc = 0
                · have HE := Lib.hid (HEQ.out hcc)
                  have hz : cx = 0 := HCV.out.symm.trans hcc
                  subst hz
                  go_wp2
                  go_roundw
                  case rel => exact ⟨m, n, rfl, rfl, hm1, hn1, HE, hb6⟩
                  case measure => simp [intOf]; omega
                · have HR := Lib.hid (show cx = res from HCV.out.symm.trans (HNE.out hcc))
                  have hcn : (cx != 0) = true := by rw [← HCV.out]; simpa using hcc
                  clear hcc
                  go_wp2
                  go_ret
                  exact ⟨ret_int HR.out, hb6⟩
          · have hdd : dg d = false := by simpa using hdd
            have HCV := Lib.hid (HND.out (.inr hdd))
            go_wp2_with fail
            refine (digit_any _ _).mono ?_
            rintro e w2 ⟨rfl, rfl⟩
            go_wp2_with fail
            refine (digit_any _ _).mono ?_
            rintro e w2 ⟨rfl, rfl⟩
            by_cases hcc : cc = 0
            · have HE := Lib.hid (HEQ.out hcc)
              have hz : ci = 0 := HCV.out.symm.trans hcc
              subst hz
              go_wp2
              go_roundw
              case rel => exact ⟨m, n, rfl, rfl, hm1, hn1, HE, hb3⟩
              case measure => simp [intOf]; omega
            · have HR := Lib.hid (show ci = res from HCV.out.symm.trans (HNE.out hcc))
              have hcn : (ci != 0) = true := by rw [← HCV.out]; simpa using hcc
              clear hcc
              go_wp2
              go_ret
              exact ⟨ret_int HR.out, hb3⟩
        · have hcd : dg c = false := by simpa using hcd
          have HCV := Lib.hid (HND.out (.inl hcd))
          go_wp2_with fail
          refine (digit_any _ _).mono ?_
          rintro e w2 ⟨rfl, rfl⟩
          by_cases hcc : cc = 0
          · have HE := Lib.hid (HEQ.out hcc)
            have hz : ci = 0 := HCV.out.symm.trans hcc
            subst hz
            go_wp2
            go_roundw
            case rel => exact ⟨m, n, rfl, rfl, hm1, hn1, HE, hb3⟩
            case measure => simp [intOf]; omega
          · have HR := Lib.hid (show ci = res from HCV.out.symm.trans (HNE.out hcc))
            have hcn : (ci != 0) = true := by rw [← HCV.out]; simpa using hcc
            clear hcc
            go_wp2
            go_ret
            exact ⟨ret_int HR.out, hb3⟩
      · have HR := Lib.hid (show 1 = res by
          have h1 := HK.out
          have hal : i < a.length := by rw [HAN.out]; exact hlt
          rw [List.drop_eq_getElem_cons hal, List.drop_of_length_le (l := b) (by rw [HBN.out]; omega), kys_left] at h1
          rw [HCS.out, h1]; rfl)
        go_wp2
        go_ret
        exact ⟨ret_int HR.out, hbw⟩
    · by_cases hlk : k < bn
      · have HR := Lib.hid (show -1 = res by
          have h1 := HK.out
          have hbl : k < b.length := by rw [HBN.out]; exact hlk
          rw [List.drop_eq_getElem_cons hbl, List.drop_of_length_le (l := a) (by rw [HAN.out]; omega), kys_right] at h1
          rw [HCS.out, h1]; rfl)
        go_wp2
        go_ret
        exact ⟨ret_int HR.out, hbw⟩
      · have HR := Lib.hid (show rb = res by
          have h1 := HK.out
          rw [List.drop_of_length_le (l := a) (by rw [HAN.out]; omega), List.drop_of_length_le (l := b) (by rw [HBN.out]; omega), cmpL_self] at h1
          rw [HCS.out, h1]; rfl)
        have hs := hbw.size
        go_wp2_with fail
        refine (HBA.out _).mono ?_
        rintro e w1 ⟨rfl, hb1⟩
        have hb2 := hbw.trans (hb1.mono hs)
        clear hbw hb1
        go_wp2
        go_ret
        exact ⟨ret_int HR.out, hb2⟩
end Go.Proofs.YtdlbghjclcdfmaaDoor
