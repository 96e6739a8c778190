/- GroynePacked: the walk (C). -/
import Derived.Test.YtdlbghjclcdfmabDoorPackedB
import Derived.Lib.AtoiErrMem
import Derived.Deep.QuietTactic
import Derived.BigQuiet
import Derived.BigRegion
namespace Go.Proofs.YtdlbghjclcdfmabDoor
set_option linter.unusedVariables false
set_option linter.unusedSimpArgs false
open Go.RowKit

set_option maxRecDepth 100000 in
set_option maxHeartbeats 8000000 in
theorem packed_C (p : List Int) (A : Option Addr) (n c : Nat) (rows : List (List (List Int))) (w : World) (hp : Ran p) (hpl : p.length ≤ 9223372036854775807) (htb : Tab w A n rows) (htx : ∀ r ∈ rows, ∀ l ∈ r, Ran l ∧ l.length ≤ 9223372036854775807) (hcap : n ≤ c) (hnm : n ≤ 9223372036854775807)
    (hP : ¬ 40 < p.length) (hR : 12 < n) :
    Calls Tryd.prog 5 #[.slice A n c, .string (strOfNums p)] w fun e w' => e = .returned (.bool true) ∧ Below w.heap.size w w' := by
  obtain ⟨i0, hi, hz0, hz1, hz2⟩ := info9_parts
  obtain ⟨j0, hj, hy0, hy1, hy2⟩ := info_parts info23
  have h42 : Ran [42] := fun x hx => by obtain rfl := List.mem_singleton.1 hx; omega
  have hst : strOfNums [42] = ⟨#[42]⟩ := rfl
  have hsz : (strOfNums p).size = p.length := strOfNums_size p
  have HPQ : Hid (Ran p ∧ p.length ≤ 40) := ⟨hp, by omega⟩
  obtain ⟨pp, hpp⟩ : ∃ pp, pp = p := ⟨_, rfl⟩
  rw [← hpp] at HPQ
  have HPK : Hid (∀ (A : Option Addr) (m c : Nat) (L : List (List Int)) (W : World), Rd W A m (St L) → Tx L → m ≤ 1000000 → Calls Tryd.prog 8 #[.string (strOfNums pp), .slice A m c] W fun e w' => ∃ (A' : Option Addr) (c' m' : Nat) (M : List (List Int)), e = .returned (.slice A' m' c') ∧ Own w' W.heap.size 9 A' m' c' (St M) ∧ Srt M ∧ (∀ x, x ∈ M ↔ x ∈ L ∧ mt pp x = true) ∧ Below W.heap.size W w') :=
    fun A m c L W h1 h2 h3 => pick_any pp A m c L W HPQ.out.1 (by have := HPQ.out.2; omega) h1 h2 h3
  have HPS : Hid (∀ (A : Option Addr) (m c : Nat) (L : List (List Int)) (W : World), Rd W A m (St L) → Tx L → m ≤ 1000000 → Calls Tryd.prog 8 #[.string ⟨#[42]⟩, .slice A m c] W fun e w' => ∃ (A' : Option Addr) (c' m' : Nat) (M : List (List Int)), e = .returned (.slice A' m' c') ∧ Own w' W.heap.size 9 A' m' c' (St M) ∧ Srt M ∧ (∀ x, x ∈ M ↔ x ∈ L) ∧ Below W.heap.size W w') := fun A m c L W h1 h2 h3 => by
    have := pick_any [42] A m c L W h42 (by simp) h1 h2 h3
    rw [hst] at this
    refine this.mono fun e w' ⟨A', c', m', M, a1, a2, a3, a4, a5⟩ => ⟨A', c', m', M, a1, a2, a3, fun x => ?_, a5⟩
    rw [a4]
    constructor
    · exact fun h => h.1
    · exact fun h => ⟨h, mt_one x⟩
  clear h42 hst hp
  rw [← hpp] at hsz hpl hP ⊢
  clear hpp
  generalize strOfNums pp = SPP at *
  generalize pp.length = pl at *
  have HTX := Lib.hid htx; clear htx
  have HRL := Lib.hid htb.1
  have hd12 : decide ((12 : Int) < (n : Int)) = true := by simp; omega
  obtain ⟨N, hN⟩ : ∃ N : Nat, N = 12 := ⟨_, rfl⟩
  have hsl : ∀ W, (Instr.slice 32 (.slice A n c) none (some (.int .i64 12)) none).run Tryd.prog W = .ok (.slice A N c) W := by
    intro W
    rw [hN]
    exact slice_h32 A n c 12 12 rfl (by omega) W
  have hNn : N ≤ n := by omega
  have hN12 : N ≤ 12 := by omega
  clear hN
  have HTL := Lib.hid (show ((rows.take N).map fun r => (r.take 12).map (·.take 40)).length = N by rw [List.length_map, List.length_take, HRL.out]; omega)
  have HTG : Hid (∀ k r, rows[k]? = some r → k < N → ((rows.take N).map fun r => (r.take 12).map (·.take 40))[k]? = some ((r.take 12).map (·.take 40))) := fun k r hr hk => by
    rw [List.getElem?_map, List.getElem?_take, if_pos hk, hr]; rfl
  have HTT : Hid (∀ r ∈ (rows.take N).map fun r => (r.take 12).map (·.take 40), r.length ≤ 12 ∧ ∀ l ∈ r, Ran l ∧ l.length ≤ 40) := fun r hr => by
    obtain ⟨r0, hr0, rfl⟩ := List.mem_map.1 hr
    refine ⟨by rw [List.length_map, List.length_take]; omega, fun l hl => ?_⟩
    obtain ⟨l0, hl0, rfl⟩ := List.mem_map.1 hl
    have := HTX.out r0 (List.mem_of_mem_take hr0) l0 (List.mem_of_mem_take hl0)
    exact ⟨this.1.sub fun y hy => List.mem_of_mem_take hy, by rw [List.length_take]; omega⟩
  generalize ((rows.take N).map fun r => (r.take 12).map (·.take 40)) = T at *
  have HFL : Hid (∀ k, (T.take k).flatten.length ≤ 12 * k) := fun k => by
    have h1 := flat_le (T := T.take k) (m := 12) (fun r hr => (HTT.out r (List.mem_of_mem_take hr)).1)
    have h2 : (T.take k).length ≤ k := by rw [List.length_take]; omega
    have h3 := Nat.mul_le_mul_left 12 h2
    omega
  have HJL : Hid (∀ r ∈ T, (joinL r).length ≤ 597 ∧ Ran (joinL r) ∧ (r.length : Int) ≤ 18446744073709551615) := fun r hr => by
    have h0 := HTT.out r hr
    have h1 := joinL_len (r := r) (m := 40) (fun x hx => (h0.2 x hx).2)
    have h2 := Nat.mul_le_mul_left 49 h0.1
    exact ⟨by omega, (num_ran _ (by omega)).append (texts_ran _ fun x hx => (h0.2 x hx).1), by omega⟩
  have htb1 := htb
  clear htb
  go_enter Tryd.func5, Tryd.ntmps5
  go_wp2
  go_loopw [5, 6, 7, 37] (fun ov av fv iv wr => ∃ (k nA nF cO cA cF : Nat) (AO AA AF : Option Addr) (F : List (List Int)), ov = .slice AO k cO ∧ av = .slice AA nA cA ∧ fv = .slice AF nF cF ∧ iv = .int .i64 k ∧ k ≤ N ∧ nA ≤ 12 * k ∧ nF ≤ 12 * k ∧ Prts wr w.heap.size AO k cO ((T.map joinL).take k) ∧ Own wr w.heap.size 9 AA nA cA (St (T.take k).flatten) ∧ Own wr w.heap.size 9 AF nF cF (St F) ∧ Hid (∀ x, x ∈ F ↔ x ∈ (T.take k).flatten ∧ mt pp x = true) ∧ Hid (Ap AA AF) ∧ Below w.heap.size w wr) (fun _ _ _ iv _ => N - (intOf iv).toNat)
  case atStart => exact ⟨0, 0, 0, 0, 0, 0, none, none, none, [], rfl, rfl, rfl, rfl, by omega, by omega, by omega, Prts.nil_, Own.nil_, Own.nil_, (fun x => by simp), Ap.none _, Below.refl _ _⟩
  case round =>
    obtain ⟨k, nA, nF, cO, cA, cF, AO, AA, AF, F, rfl, rfl, rfl, rfl, hk, hnA, hnF, hPr, hoA, hoF, HMF, HAP, hbr⟩ := hrel
    rename World => wo
    have hso := hbr.size
    by_cases hlt : k < N
    · obtain ⟨b, off, A1, m1, c1, r, rfl, hc1, hrd1, hmc, hm63, HX, HM⟩ := (htb1.keep hbr).at_ (show k < _ by omega)
      have HRX := Lib.hid (HTX.out r (List.mem_of_getElem? HX.out))
      have HTK := Lib.hid (HTG.out k r HX.out hlt)
      have hrdB := hrd1.keep (below_alloc wo (.cells #[.slice none 0 0] 36))
      by_cases hm12 : 12 < m1
      · have hdm : decide ((12 : Int) < (m1 : Int)) = true := by simp; omega
        obtain ⟨M, hMM⟩ : ∃ M : Nat, M = 12 := ⟨_, rfl⟩
        have hsl2 : ∀ W, (Instr.slice 22 (.slice A1 m1 c1) none (some (.int .i64 12)) none).run Tryd.prog W = .ok (.slice A1 M c1) W := by
          intro W
          rw [hMM]
          exact slice_h22 A1 m1 c1 12 12 rfl (by omega) W
        have hMn : M ≤ m1 := by omega
        have hM12 : M ≤ 12 := by omega
        have HME := Lib.hid (show M = min 12 m1 by omega)
        clear hMM
        have HRL2 := Lib.hid (show ((r.take 12).map (·.take 40)).length = M by rw [List.length_map, List.length_take, HM.out]; have := HME.out; omega)
        have HRG : Hid (∀ j l, r[j]? = some l → j < M → ((r.take 12).map (·.take 40)).take (j + 1) = ((r.take 12).map (·.take 40)).take j ++ [l.take 40]) := fun j l hl hj => by
          rw [List.take_add_one, List.getElem?_map, List.getElem?_take, if_pos (by omega), hl]; rfl
        have HRT := Lib.hid (HTT.out _ (List.mem_of_getElem? HTK.out))
        have HRJ := Lib.hid (HJL.out _ (List.mem_of_getElem? HTK.out))
        generalize (r.take 12).map (·.take 40) = r1 at *
        have HTS := Lib.hid (show T.take (k + 1) = T.take k ++ [r1] by rw [List.take_add_one, HTK.out]; rfl)
        have HOS := Lib.hid (show (T.map joinL).take (k + 1) = (T.map joinL).take k ++ [joinL r1] by rw [List.take_add_one, List.getElem?_map, HTK.out]; rfl)
        have hw0 : Wtr ((wo.alloc (.cells #[.slice none 0 0] 36)).alloc (.cells #[.int .u64 (M : Int)] 38)) wo.heap.size none 0 0 [] := by
          refine ⟨?_, Own.nil_⟩
          rw [Below.heap_alloc _ _ _ (by simp)]; exact heap_alloc_new wo _
        have hb0 : ((wo.alloc (.cells #[.slice none 0 0] 36)).alloc (.cells #[.int .u64 (M : Int)] 38)).heap[wo.heap.size + 1]? = some (.cells #[.int .u64 (M : Int)] 38 (0, 0)) := by
          have := heap_alloc_new (wo.alloc (.cells #[.slice none 0 0] 36)) (.cells #[.int .u64 (M : Int)] 38)
          simpa using this
        have hbel : Below wo.heap.size wo ((wo.alloc (.cells #[.slice none 0 0] 36)).alloc (.cells #[.int .u64 (M : Int)] 38)) := (below_alloc wo _).alloc (by simp) _
        have HB0 := Lib.hid hb0; clear hb0
        go_wp2_with fail
        refine (wnum_one _ wo.heap.size (wo.heap.size + 1) none 0 0 [] (M : Int) hw0 HB0.out (by omega) (by omega) (by omega)).mono ?_
        rintro e w2 ⟨A2, n2, c2, rfl, hn2, hw2, hef2⟩
        have hb2 : Below wo.heap.size wo w2 := hbel.trans (hef2.below (by simp; omega) (fun k hk => by cases hk))
        have hs2 := hb2.size
        have hlt2 := hw2.lt
        have hn2' : n2 ≤ 9 := by rw [hn2]; simp only [List.nil_append]; exact num_le _
        rw [List.nil_append] at hw2
        clear hw0 hbel hef2 hn2
        go_wp2
        go_loopw [11, 53] (fun sv iv wr => ∃ (j nW cW cS : Nat) (AW AS : Option Addr), sv = .slice AS j cS ∧ iv = .int .i64 j ∧ j ≤ M ∧ nW ≤ 9 + 49 * j ∧ Wtr wr wo.heap.size AW nW cW (num (M : Int) ++ texts (r1.take j)) ∧ Own wr (wo.heap.size + 1) 9 AS j cS (St (r1.take j)) ∧ Below wo.heap.size wo wr) (fun _ iv _ => M - (intOf iv).toNat)
        case atStart => exact ⟨0, n2, c2, 0, A2, none, rfl, rfl, by omega, by omega, by simpa [texts] using hw2, Own.nil_, hb2⟩
        case round =>
          obtain ⟨j, nW, cW, cS, AW, AS, rfl, rfl, hj2, hnW, hwt, hoS, hbi⟩ := hrel
          have hsi := hbi.size
          have hgl := hwt.lt
          have hbh := hwt.behind
          clear hw2 hb2
          by_cases hjl : j < M
          · obtain ⟨b2, off2, l, rfl, hcl, HL⟩ := (hrd1.keep hbi).st_at (show j < _ by omega)
            have HLT := Lib.hid (HRX.out l (List.mem_of_getElem? HL.out))
            have HF := Lib.hid (HRG.out j l HL.out hjl)
            have HQR : Hid (Ran (l.take 40) ∧ (l.take 40).length ≤ 40) := ⟨HLT.out.1.sub fun y hy => List.mem_of_mem_take hy, by rw [List.length_take]; omega⟩
            have hszl : (strOfNums l).size = l.length := strOfNums_size l
            have hl63 : l.length ≤ 9223372036854775807 := HLT.out.2
            by_cases h40 : 40 < l.length
            · have hfl := str_to (P := Tryd.prog) 9 Tryd.underlying9 l 40 (by omega)
              simp only [Int.cast_ofNat_Int] at hfl
              generalize l.take 40 = q at *
              obtain ⟨SL, hSL⟩ : ∃ SL, SL = strOfNums q := ⟨_, rfl⟩
              rw [← hSL] at hfl
              generalize strOfNums l = S1 at *
              generalize l.length = ll at *
              have HSL := Lib.hid hSL; clear hSL
              have HQL : Hid (SL.size = q.length) := by rw [HSL.out]; exact strOfNums_size q
              have ho2 := hoS.alloc (.cells #[.string SL] 9)
              have hw4 := hwt.keep (B := 0) (below_alloc wr (.cells #[.string SL] 9))
              have hb3 := hbi.trans ((below_alloc wr (.cells #[.string SL] 9)).mono hsi)
              clear hoS hwt
              go_wp2_with (at_builtin; refine wpList_append_rd rfl _ _ 22 rfl i0 (.string .empty) 16 Tryd.underlying22 hi hz0 hz1 hz2 rfl rfl ho2 (some ⟨wr.heap.size, 0, none⟩) 1 1 [.string SL] rfl (rd_oneS wr _ 9) (fun u hu => by rw [List.mem_singleton.1 hu]; rfl) ?c1 ?c2 ?c3 ?_)
              case c1 => unfold maxLen; omega
              case c2 => omega
              case c3 => simp; omega
              intro A4 c4 w4 ho4 hg4
              have hb4 := hb3.trans (hg4.below (B := wo.heap.size) (by simp; omega) (fun k hk => by have := (ho2.lies k hk).1; omega))
              have hw5 := hw4.grow9 ho2 hg4
              have hbh5 := hw5.behind
              have hs4 := hb4.size
              have hcv := Lib.run_convert_string_bytes (P := Tryd.prog) w4 9 34 5 SL Tryd.underlying9 Tryd.underlying34 Tryd.underlying5
              have hbw := Lib.bytesWorld_below w4 5 SL
              have hsw : (Lib.bytesWorld w4 5 SL).heap.size = w4.heap.size + 1 := Lib.bytesWorld_size w4 5 SL
              have hbs5 : Bs (Lib.bytesWorld w4 5 SL) (some ⟨w4.heap.size, 0, none⟩) SL.size q := by rw [HQL.out, HSL.out]; exact bw_bs w4 q HQR.out.1
              have hcg := grownCap_ge w4 SL.size 0 5
              have hz40 : SL.size ≤ 40 := by rw [HQL.out]; exact HQR.out.2
              generalize grownCap w4 SL.size 0 5 = cp at *
              generalize Lib.bytesWorld w4 5 SL = w5 at *
              have hgw := hw5.lt
              have hw6 := (hw5.keep (B := 0) hbw).keep (B := 0) (below_alloc w5 (.cells #[.slice (some ⟨w4.heap.size, 0, none⟩) SL.size cp] 34))
              have hss5 := bssP_oneB hbs5 hcg
              have hb6 := (hb4.trans (hbw.mono hs4)).alloc (by omega) (.cells #[.slice (some ⟨w4.heap.size, 0, none⟩) SL.size cp] 34)
              have ho5 := ((ho4.keepB hbw).alloc (.cells #[.slice (some ⟨w4.heap.size, 0, none⟩) SL.size cp] 34))
              have hsz5 : w5.heap.size = w4.heap.size + 1 := hsw
              have HSW := Lib.hid hsw; clear hsw hb3 hg4 ho2 hw4 hb4
              have HS5 := Lib.hid hsz5; clear hsz5
              have hsle : w4.heap.size + 1 ≤ w5.heap.size := by rw [HS5.out]; exact Nat.le_refl _
              go_wp2_with fail
              refine (wtext_any _ wo.heap.size AW (some ⟨w5.heap.size, 0, none⟩) nW cW 1 1 _ [q] (fun b => b = w4.heap.size ∨ b = w5.heap.size) hw6 hss5 (fun b hb => by simp; omega) (by omega) (fun k hk => by have := (hbh5 k hk).2; omega) (by unfold maxLen; omega) (by rw [texts_single, List.length_append]; have := num_le (q.length : Int); have := HQR.out.2; omega)).mono ?_
              rintro e w7 ⟨A7, n7, c7, rfl, hn7, hw7, hef7⟩
              have hb7 := hb6.trans (hef7.below (by simp; omega) (fun k hk => by have := (hbh5 k hk).1; omega))
              have ho7 := ho5.weff hw6 hef7
              have hTX : num (M : Int) ++ texts (r1.take j) ++ texts [q] = num (M : Int) ++ texts (r1.take (j + 1)) := by rw [HF.out, texts_app, List.append_assoc]
              rw [hTX] at hw7 hn7
              have hn7' : n7 ≤ 9 + 49 * (j + 1) := by
                rw [hn7]
                have h1 := num_le (M : Int)
                have h2 := texts_len (r := r1.take (j + 1)) (m := 40) (fun x hx => (HRT.out.2 x (List.mem_of_mem_take hx)).2)
                have h3 : (r1.take (j + 1)).length ≤ j + 1 := by rw [List.length_take]; omega
                have h4 := Nat.mul_le_mul_left 49 h3
                rw [List.length_append]; omega
              have ho8 : Own w7 (wo.heap.size + 1) 9 A4 (j + 1) c4 (St (r1.take (j + 1))) := by
                rw [HF.out, St_append]
                have e1 : St [q] = [.string SL] := by rw [HSL.out]; rfl
                rw [e1]; exact ho7
              clear hw6 hss5 hb6 hef7 ho5 ho7 ho4 hbw hw5 hbs5 hcv hTX hn7
              go_wp2
              go_roundw
              case rel => exact ⟨j + 1, n7, c7, c4, A7, A4, rfl, by go_num, by omega, hn7', hw7, ho8, hb7⟩
              case measure => simp [intOf]; omega
            · have hq : l.take 40 = l := List.take_of_length_le (by omega)
              rw [hq] at HF HQR
              clear hq
              obtain ⟨q, hq⟩ : ∃ q, q = l := ⟨_, rfl⟩
              rw [← hq] at HF HQR hszl hcl h40 hl63
              clear hq
              obtain ⟨SL, hSL⟩ : ∃ SL, SL = strOfNums q := ⟨_, rfl⟩
              rw [← hSL] at hszl hcl
              obtain ⟨ll, hll⟩ : ∃ ll, ll = q.length := ⟨_, rfl⟩
              rw [← hll] at hszl h40 hl63
              clear hll
              have HSL := Lib.hid hSL; clear hSL
              have HQL : Hid (SL.size = q.length) := by rw [HSL.out]; exact strOfNums_size q
              have ho2 := hoS.alloc (.cells #[.string SL] 9)
              have hw4 := hwt.keep (B := 0) (below_alloc wr (.cells #[.string SL] 9))
              have hb3 := hbi.trans ((below_alloc wr (.cells #[.string SL] 9)).mono hsi)
              clear hoS hwt
              go_wp2_with (at_builtin; refine wpList_append_rd rfl _ _ 22 rfl i0 (.string .empty) 16 Tryd.underlying22 hi hz0 hz1 hz2 rfl rfl ho2 (some ⟨wr.heap.size, 0, none⟩) 1 1 [.string SL] rfl (rd_oneS wr _ 9) (fun u hu => by rw [List.mem_singleton.1 hu]; rfl) ?c1 ?c2 ?c3 ?_)
              case c1 => unfold maxLen; omega
              case c2 => omega
              case c3 => simp; omega
              intro A4 c4 w4 ho4 hg4
              have hb4 := hb3.trans (hg4.below (B := wo.heap.size) (by simp; omega) (fun k hk => by have := (ho2.lies k hk).1; omega))
              have hw5 := hw4.grow9 ho2 hg4
              have hbh5 := hw5.behind
              have hs4 := hb4.size
              have hcv := Lib.run_convert_string_bytes (P := Tryd.prog) w4 9 34 5 SL Tryd.underlying9 Tryd.underlying34 Tryd.underlying5
              have hbw := Lib.bytesWorld_below w4 5 SL
              have hsw : (Lib.bytesWorld w4 5 SL).heap.size = w4.heap.size + 1 := Lib.bytesWorld_size w4 5 SL
              have hbs5 : Bs (Lib.bytesWorld w4 5 SL) (some ⟨w4.heap.size, 0, none⟩) SL.size q := by rw [HQL.out, HSL.out]; exact bw_bs w4 q HQR.out.1
              have hcg := grownCap_ge w4 SL.size 0 5
              have hz40 : SL.size ≤ 40 := by rw [HQL.out]; exact HQR.out.2
              generalize grownCap w4 SL.size 0 5 = cp at *
              generalize Lib.bytesWorld w4 5 SL = w5 at *
              rw [hszl] at hbs5 hcg hz40 hcv
              have hgw := hw5.lt
              have hw6 := (hw5.keep (B := 0) hbw).keep (B := 0) (below_alloc w5 (.cells #[.slice (some ⟨w4.heap.size, 0, none⟩) ll cp] 34))
              have hss5 := bssP_oneB hbs5 hcg
              have hb6 := (hb4.trans (hbw.mono hs4)).alloc (by omega) (.cells #[.slice (some ⟨w4.heap.size, 0, none⟩) ll cp] 34)
              have ho5 := ((ho4.keepB hbw).alloc (.cells #[.slice (some ⟨w4.heap.size, 0, none⟩) ll cp] 34))
              have hsz5 : w5.heap.size = w4.heap.size + 1 := hsw
              have HSW := Lib.hid hsw; clear hsw hb3 hg4 ho2 hw4 hb4
              have HS5 := Lib.hid hsz5; clear hsz5
              have hsle : w4.heap.size + 1 ≤ w5.heap.size := by rw [HS5.out]; exact Nat.le_refl _
              go_wp2_with fail
              refine (wtext_any _ wo.heap.size AW (some ⟨w5.heap.size, 0, none⟩) nW cW 1 1 _ [q] (fun b => b = w4.heap.size ∨ b = w5.heap.size) hw6 hss5 (fun b hb => by simp; omega) (by omega) (fun k hk => by have := (hbh5 k hk).2; omega) (by unfold maxLen; omega) (by rw [texts_single, List.length_append]; have := num_le (q.length : Int); have := HQR.out.2; omega)).mono ?_
              rintro e w7 ⟨A7, n7, c7, rfl, hn7, hw7, hef7⟩
              have hb7 := hb6.trans (hef7.below (by simp; omega) (fun k hk => by have := (hbh5 k hk).1; omega))
              have ho7 := ho5.weff hw6 hef7
              have hTX : num (M : Int) ++ texts (r1.take j) ++ texts [q] = num (M : Int) ++ texts (r1.take (j + 1)) := by rw [HF.out, texts_app, List.append_assoc]
              rw [hTX] at hw7 hn7
              have hn7' : n7 ≤ 9 + 49 * (j + 1) := by
                rw [hn7]
                have h1 := num_le (M : Int)
                have h2 := texts_len (r := r1.take (j + 1)) (m := 40) (fun x hx => (HRT.out.2 x (List.mem_of_mem_take hx)).2)
                have h3 : (r1.take (j + 1)).length ≤ j + 1 := by rw [List.length_take]; omega
                have h4 := Nat.mul_le_mul_left 49 h3
                rw [List.length_append]; omega
              have ho8 : Own w7 (wo.heap.size + 1) 9 A4 (j + 1) c4 (St (r1.take (j + 1))) := by
                rw [HF.out, St_append]
                have e1 : St [q] = [.string SL] := by rw [HSL.out]; rfl
                rw [e1]; exact ho7
              clear hw6 hss5 hb6 hef7 ho5 ho7 ho4 hbw hw5 hbs5 hcv hTX hn7
              go_wp2
              go_roundw
              case rel => exact ⟨j + 1, n7, c7, c4, A7, A4, rfl, by go_num, by omega, hn7', hw7, ho8, hb7⟩
              case measure => simp [intOf]; omega
          · obtain rfl : j = M := by omega
            have HR1 := Lib.hid (show r1.take j = r1 from List.take_of_length_le (by rw [HRL2.out]; exact Nat.le_refl _))
            rw [HR1.out] at hwt hoS
            have HXJ := Lib.hid (show num (j : Int) ++ texts r1 = joinL r1 by unfold joinL; rw [HRL2.out])
            rw [HXJ.out] at hwt
            have HNW := Lib.hid hwt.2.len
            rw [By_length] at HNW
            have hA3 := hoA.below hbi (fun q hq => (hoA.lies q hq).2)
            have hF3 := hoF.below hbi (fun q hq => (hoF.lies q hq).2)
            have hP3 := hPr.keepB hbi (Nat.le_refl _)
            have hAl : ∀ q, blk AA = some q → q < wo.heap.size := fun q hq => (hoA.lies q hq).2
            have HAL := Lib.hid hAl; clear hAl
            have hnA' := hnA
            clear hoA hoF hPr hjl
            rename World => w3
            go_wp2_with (at_builtin; refine wpList_append_rd rfl _ _ 22 rfl i0 (.string .empty) 16 Tryd.underlying22 hi hz0 hz1 hz2 rfl rfl hA3 AS j cS (St r1) rfl hoS.rd (St_one _) ?e1 ?e2 ?e3 ?_)
            case e1 => unfold maxLen; omega
            case e2 => omega
            case e3 => omega
            intro A5 c5 w5 hA5 hg5
            have hF5 := hF3.ap HAP.out hg5
            have hP5 := hP3.grow9 hA3 hg5
            have hW5 := hwt.grow9 hA3 hg5
            have hS5 := hoS.ap (A := AA) (fun q hq he => by have h1 := HAL.out q hq; have h2 := (hoS.lies q he).1; omega) hg5
            have hap5 := HAP.out.grow hg5 (fun q hq => (hF3.lies q hq).2)
            have hb5 : Below w.heap.size w w5 := (hbr.trans (hbi.mono hso)).trans (hg5.below (Nat.le_trans hso hsi) (fun q hq => (hA3.lies q hq).1))
            have hs5 := hb5.size
            have HAP5 := Lib.hid hap5
            have HP1 := Lib.hid (HPK.out AS j cS r1 w5 hS5.rd (fun l hl => ⟨(HRT.out.2 l hl).1, by have := (HRT.out.2 l hl).2; omega⟩) (by omega))
            clear hA3 hF3 hP3 hwt hoS hg5 hap5 HAP
            go_wp2_with fail
            refine HP1.out.mono ?_
            rintro e w6 ⟨A6, c6, m6, M6, rfl, ho6, hs6, hm6, hb6⟩
            have HM6 := Lib.hid hm6
            have hm6l : m6 ≤ 12 := by
              have h1 := nodup_le hs6.nodup (fun x hx => ((hm6 x).1 hx).1)
              have h2 := ho6.lenS
              have h3 := HRL2.out
              omega
            clear hm6 HP1
            have hA6 := hA5.keepB hb6
            have hF6 := hF5.keepB hb6
            have hP6 := hP5.keep hb6
            have hW6 := hW5.keep (B := 0) hb6
            have hbw6 := hb5.trans (hb6.mono hs5)
            have hs6w := hbw6.size
            clear hA5 hF5 hP5 hW5 hS5 hb5
            go_wp2_with (at_builtin; refine wpList_append_rd rfl _ _ 22 rfl i0 (.string .empty) 16 Tryd.underlying22 hi hz0 hz1 hz2 rfl rfl hF6 A6 m6 c6 (St M6) rfl ho6.rd (St_one _) ?f1 ?f2 ?f3 ?_)
            case f1 => unfold maxLen; omega
            case f2 => omega
            case f3 => exact hs6w
            intro A7 c7 w7 hF7 hg7
            have hA7 := hA6.ap HAP5.out.symm hg7
            have hP7 := hP6.grow9 hF6 hg7
            have hW7 := hW6.grow9 hF6 hg7
            have HAP7 := Lib.hid ((HAP5.out.symm.grow hg7 (fun q hq => (hA6.lies q hq).2)).symm)
            have hb7 := hbw6.trans (hg7.below hs6w (fun q hq => (hF6.lies q hq).1))
            have hs7 := hb7.size
            clear hA6 hF6 hP6 hW6 hg7 ho6 HAP5 hb6 hbw6
            have hnWl : nW ≤ 597 := by rw [← HNW.out]; exact HRJ.out.1
            go_wp2_with fail
            refine (wbytes_any _ wo.heap.size AW nW cW _ hW7 HRJ.out.2.1 (by omega)).mono ?_
            rintro e w8 ⟨A8, c8, rfl, ho8, hb8⟩
            have hA8 := hA7.keepB hb8
            have hF8 := hF7.keepB hb8
            have hP8 := hP7.keep hb8
            have hb9 := hb7.trans (hb8.mono hs7)
            have hs9 := hb9.size
            obtain ⟨vs, hrow, HROW⟩ := hP8.row (.cells #[.slice A8 nW c8] 34)
            have hA9 := hA8.alloc (.cells #[.slice A8 nW c8] 34)
            have hF9 := hF8.alloc (.cells #[.slice A8 nW c8] 34)
            have ho8b := ho8.mono hs7
            clear hA7 hF7 hP7 hW7 hb7 hb8
            go_wp2_with (at_builtin; refine wpList_append_rd rfl _ _ 33 rfl j0 (.slice none 0 0) 24 Tryd.underlying33 hj hy0 hy1 hy2 rfl rfl hrow (some ⟨w8.heap.size, 0, none⟩) 1 1 [.slice A8 nW c8] rfl (rd_oneV w8 _ 34) (one_slice _ _ _) ?g1 ?g2 ?g3 ?_)
            case g1 => unfold maxLen; omega
            case g2 => omega
            case g3 => simp; omega
            intro A9 c9 w9 ho9 hg9
            have hPN : Prts w9 w.heap.size A9 (k + 1) c9 ((T.map joinL).take (k + 1)) := by
              rw [HOS.out]
              have e := HNW.out
              subst e
              exact HROW.out A8 c8 (joinL r1) w9 A9 c9 ho8b HRJ.out.2.1 ho9 hg9
            have hAN : Own w9 w.heap.size 9 A5 (nA + j) c5 (St (T.take (k + 1)).flatten) := by
              have h1 := hA9.kept hg9.1 (own_apart hA9 hrow (by decide))
              rw [HTS.out, List.flatten_append, St_append]
              simpa using h1
            have hFN : Own w9 w.heap.size 9 A7 (nF + m6) c7 (St (F ++ M6)) := by
              have h1 := hF9.kept hg9.1 (own_apart hF9 hrow (by decide))
              rw [St_append]; exact h1
            have HMN : Hid (∀ x, x ∈ F ++ M6 ↔ x ∈ (T.take (k + 1)).flatten ∧ mt pp x = true) := fun x => by
              rw [HTS.out, List.flatten_append, List.mem_append, List.mem_append, HMF.out x, HM6.out x]
              simp only [List.flatten_cons, List.flatten_nil, List.append_nil]
              constructor
              · rintro (h | h)
                · exact ⟨.inl h.1, h.2⟩
                · exact ⟨.inr h.1, h.2⟩
              · rintro ⟨h | h, h2⟩
                · exact .inl ⟨h, h2⟩
                · exact .inr ⟨h, h2⟩
            have hbN := (hb9.alloc hs9 (.cells #[.slice A8 nW c8] 34)).trans (hg9.below (by simp; omega) (fun q hq => (hrow.lies q hq).1))
            have hnA2 : nA + j ≤ 12 * (k + 1) := by omega
            have hnF2 : nF + m6 ≤ 12 * (k + 1) := by omega
            clear hrow hA9 hF9 ho8b ho9 hg9 hA8 hF8 hP8 hb9 ho8 hbi hbr
            go_wp2
            go_roundw
            case rel => exact ⟨k + 1, nA + j, nF + m6, c9, c5, c7, A9, A5, A7, F ++ M6, rfl, rfl, rfl, by go_num, by omega, hnA2, hnF2, hPN, hAN, hFN, HMN, HAP7, hbN⟩
            case measure => simp [intOf]; omega
      · have hdm : decide ((12 : Int) < (m1 : Int)) = false := by simp; omega
        obtain ⟨M, hMM⟩ : ∃ M : Nat, M = m1 := ⟨_, rfl⟩
        have hMn : M ≤ m1 := by omega
        have hM12 : M ≤ 12 := by omega
        have HME := Lib.hid (show M = min 12 m1 by omega)
        subst hMM
        have HRL2 := Lib.hid (show ((r.take 12).map (·.take 40)).length = M by rw [List.length_map, List.length_take, HM.out]; have := HME.out; omega)
        have HRG : Hid (∀ j l, r[j]? = some l → j < M → ((r.take 12).map (·.take 40)).take (j + 1) = ((r.take 12).map (·.take 40)).take j ++ [l.take 40]) := fun j l hl hj => by
          rw [List.take_add_one, List.getElem?_map, List.getElem?_take, if_pos (by omega), hl]; rfl
        have HRT := Lib.hid (HTT.out _ (List.mem_of_getElem? HTK.out))
        have HRJ := Lib.hid (HJL.out _ (List.mem_of_getElem? HTK.out))
        generalize (r.take 12).map (·.take 40) = r1 at *
        have HTS := Lib.hid (show T.take (k + 1) = T.take k ++ [r1] by rw [List.take_add_one, HTK.out]; rfl)
        have HOS := Lib.hid (show (T.map joinL).take (k + 1) = (T.map joinL).take k ++ [joinL r1] by rw [List.take_add_one, List.getElem?_map, HTK.out]; rfl)
        have hw0 : Wtr ((wo.alloc (.cells #[.slice none 0 0] 36)).alloc (.cells #[.int .u64 (M : Int)] 38)) wo.heap.size none 0 0 [] := by
          refine ⟨?_, Own.nil_⟩
          rw [Below.heap_alloc _ _ _ (by simp)]; exact heap_alloc_new wo _
        have hb0 : ((wo.alloc (.cells #[.slice none 0 0] 36)).alloc (.cells #[.int .u64 (M : Int)] 38)).heap[wo.heap.size + 1]? = some (.cells #[.int .u64 (M : Int)] 38 (0, 0)) := by
          have := heap_alloc_new (wo.alloc (.cells #[.slice none 0 0] 36)) (.cells #[.int .u64 (M : Int)] 38)
          simpa using this
        have hbel : Below wo.heap.size wo ((wo.alloc (.cells #[.slice none 0 0] 36)).alloc (.cells #[.int .u64 (M : Int)] 38)) := (below_alloc wo _).alloc (by simp) _
        have HB0 := Lib.hid hb0; clear hb0
        go_wp2_with fail
        refine (wnum_one _ wo.heap.size (wo.heap.size + 1) none 0 0 [] (M : Int) hw0 HB0.out (by omega) (by omega) (by omega)).mono ?_
        rintro e w2 ⟨A2, n2, c2, rfl, hn2, hw2, hef2⟩
        have hb2 : Below wo.heap.size wo w2 := hbel.trans (hef2.below (by simp; omega) (fun k hk => by cases hk))
        have hs2 := hb2.size
        have hlt2 := hw2.lt
        have hn2' : n2 ≤ 9 := by rw [hn2]; simp only [List.nil_append]; exact num_le _
        rw [List.nil_append] at hw2
        clear hw0 hbel hef2 hn2
        go_wp2
        go_loopw [11, 53] (fun sv iv wr => ∃ (j nW cW cS : Nat) (AW AS : Option Addr), sv = .slice AS j cS ∧ iv = .int .i64 j ∧ j ≤ M ∧ nW ≤ 9 + 49 * j ∧ Wtr wr wo.heap.size AW nW cW (num (M : Int) ++ texts (r1.take j)) ∧ Own wr (wo.heap.size + 1) 9 AS j cS (St (r1.take j)) ∧ Below wo.heap.size wo wr) (fun _ iv _ => M - (intOf iv).toNat)
        case atStart => exact ⟨0, n2, c2, 0, A2, none, rfl, rfl, by omega, by omega, by simpa [texts] using hw2, Own.nil_, hb2⟩
        case round =>
          obtain ⟨j, nW, cW, cS, AW, AS, rfl, rfl, hj2, hnW, hwt, hoS, hbi⟩ := hrel
          have hsi := hbi.size
          have hgl := hwt.lt
          have hbh := hwt.behind
          clear hw2 hb2
          by_cases hjl : j < M
          · obtain ⟨b2, off2, l, rfl, hcl, HL⟩ := (hrd1.keep hbi).st_at (show j < _ by omega)
            have HLT := Lib.hid (HRX.out l (List.mem_of_getElem? HL.out))
            have HF := Lib.hid (HRG.out j l HL.out hjl)
            have HQR : Hid (Ran (l.take 40) ∧ (l.take 40).length ≤ 40) := ⟨HLT.out.1.sub fun y hy => List.mem_of_mem_take hy, by rw [List.length_take]; omega⟩
            have hszl : (strOfNums l).size = l.length := strOfNums_size l
            have hl63 : l.length ≤ 9223372036854775807 := HLT.out.2
            by_cases h40 : 40 < l.length
            · have hfl := str_to (P := Tryd.prog) 9 Tryd.underlying9 l 40 (by omega)
              simp only [Int.cast_ofNat_Int] at hfl
              generalize l.take 40 = q at *
              obtain ⟨SL, hSL⟩ : ∃ SL, SL = strOfNums q := ⟨_, rfl⟩
              rw [← hSL] at hfl
              generalize strOfNums l = S1 at *
              generalize l.length = ll at *
              have HSL := Lib.hid hSL; clear hSL
              have HQL : Hid (SL.size = q.length) := by rw [HSL.out]; exact strOfNums_size q
              have ho2 := hoS.alloc (.cells #[.string SL] 9)
              have hw4 := hwt.keep (B := 0) (below_alloc wr (.cells #[.string SL] 9))
              have hb3 := hbi.trans ((below_alloc wr (.cells #[.string SL] 9)).mono hsi)
              clear hoS hwt
              go_wp2_with (at_builtin; refine wpList_append_rd rfl _ _ 22 rfl i0 (.string .empty) 16 Tryd.underlying22 hi hz0 hz1 hz2 rfl rfl ho2 (some ⟨wr.heap.size, 0, none⟩) 1 1 [.string SL] rfl (rd_oneS wr _ 9) (fun u hu => by rw [List.mem_singleton.1 hu]; rfl) ?c1 ?c2 ?c3 ?_)
              case c1 => unfold maxLen; omega
              case c2 => omega
              case c3 => simp; omega
              intro A4 c4 w4 ho4 hg4
              have hb4 := hb3.trans (hg4.below (B := wo.heap.size) (by simp; omega) (fun k hk => by have := (ho2.lies k hk).1; omega))
              have hw5 := hw4.grow9 ho2 hg4
              have hbh5 := hw5.behind
              have hs4 := hb4.size
              have hcv := Lib.run_convert_string_bytes (P := Tryd.prog) w4 9 34 5 SL Tryd.underlying9 Tryd.underlying34 Tryd.underlying5
              have hbw := Lib.bytesWorld_below w4 5 SL
              have hsw : (Lib.bytesWorld w4 5 SL).heap.size = w4.heap.size + 1 := Lib.bytesWorld_size w4 5 SL
              have hbs5 : Bs (Lib.bytesWorld w4 5 SL) (some ⟨w4.heap.size, 0, none⟩) SL.size q := by rw [HQL.out, HSL.out]; exact bw_bs w4 q HQR.out.1
              have hcg := grownCap_ge w4 SL.size 0 5
              have hz40 : SL.size ≤ 40 := by rw [HQL.out]; exact HQR.out.2
              generalize grownCap w4 SL.size 0 5 = cp at *
              generalize Lib.bytesWorld w4 5 SL = w5 at *
              have hgw := hw5.lt
              have hw6 := (hw5.keep (B := 0) hbw).keep (B := 0) (below_alloc w5 (.cells #[.slice (some ⟨w4.heap.size, 0, none⟩) SL.size cp] 34))
              have hss5 := bssP_oneB hbs5 hcg
              have hb6 := (hb4.trans (hbw.mono hs4)).alloc (by omega) (.cells #[.slice (some ⟨w4.heap.size, 0, none⟩) SL.size cp] 34)
              have ho5 := ((ho4.keepB hbw).alloc (.cells #[.slice (some ⟨w4.heap.size, 0, none⟩) SL.size cp] 34))
              have hsz5 : w5.heap.size = w4.heap.size + 1 := hsw
              have HSW := Lib.hid hsw; clear hsw hb3 hg4 ho2 hw4 hb4
              have HS5 := Lib.hid hsz5; clear hsz5
              have hsle : w4.heap.size + 1 ≤ w5.heap.size := by rw [HS5.out]; exact Nat.le_refl _
              go_wp2_with fail
              refine (wtext_any _ wo.heap.size AW (some ⟨w5.heap.size, 0, none⟩) nW cW 1 1 _ [q] (fun b => b = w4.heap.size ∨ b = w5.heap.size) hw6 hss5 (fun b hb => by simp; omega) (by omega) (fun k hk => by have := (hbh5 k hk).2; omega) (by unfold maxLen; omega) (by rw [texts_single, List.length_append]; have := num_le (q.length : Int); have := HQR.out.2; omega)).mono ?_
              rintro e w7 ⟨A7, n7, c7, rfl, hn7, hw7, hef7⟩
              have hb7 := hb6.trans (hef7.below (by simp; omega) (fun k hk => by have := (hbh5 k hk).1; omega))
              have ho7 := ho5.weff hw6 hef7
              have hTX : num (M : Int) ++ texts (r1.take j) ++ texts [q] = num (M : Int) ++ texts (r1.take (j + 1)) := by rw [HF.out, texts_app, List.append_assoc]
              rw [hTX] at hw7 hn7
              have hn7' : n7 ≤ 9 + 49 * (j + 1) := by
                rw [hn7]
                have h1 := num_le (M : Int)
                have h2 := texts_len (r := r1.take (j + 1)) (m := 40) (fun x hx => (HRT.out.2 x (List.mem_of_mem_take hx)).2)
                have h3 : (r1.take (j + 1)).length ≤ j + 1 := by rw [List.length_take]; omega
                have h4 := Nat.mul_le_mul_left 49 h3
                rw [List.length_append]; omega
              have ho8 : Own w7 (wo.heap.size + 1) 9 A4 (j + 1) c4 (St (r1.take (j + 1))) := by
                rw [HF.out, St_append]
                have e1 : St [q] = [.string SL] := by rw [HSL.out]; rfl
                rw [e1]; exact ho7
              clear hw6 hss5 hb6 hef7 ho5 ho7 ho4 hbw hw5 hbs5 hcv hTX hn7
              go_wp2
              go_roundw
              case rel => exact ⟨j + 1, n7, c7, c4, A7, A4, rfl, by go_num, by omega, hn7', hw7, ho8, hb7⟩
              case measure => simp [intOf]; omega
            · have hq : l.take 40 = l := List.take_of_length_le (by omega)
              rw [hq] at HF HQR
              clear hq
              obtain ⟨q, hq⟩ : ∃ q, q = l := ⟨_, rfl⟩
              rw [← hq] at HF HQR hszl hcl h40 hl63
              clear hq
              obtain ⟨SL, hSL⟩ : ∃ SL, SL = strOfNums q := ⟨_, rfl⟩
              rw [← hSL] at hszl hcl
              obtain ⟨ll, hll⟩ : ∃ ll, ll = q.length := ⟨_, rfl⟩
              rw [← hll] at hszl h40 hl63
              clear hll
              have HSL := Lib.hid hSL; clear hSL
              have HQL : Hid (SL.size = q.length) := by rw [HSL.out]; exact strOfNums_size q
              have ho2 := hoS.alloc (.cells #[.string SL] 9)
              have hw4 := hwt.keep (B := 0) (below_alloc wr (.cells #[.string SL] 9))
              have hb3 := hbi.trans ((below_alloc wr (.cells #[.string SL] 9)).mono hsi)
              clear hoS hwt
              go_wp2_with (at_builtin; refine wpList_append_rd rfl _ _ 22 rfl i0 (.string .empty) 16 Tryd.underlying22 hi hz0 hz1 hz2 rfl rfl ho2 (some ⟨wr.heap.size, 0, none⟩) 1 1 [.string SL] rfl (rd_oneS wr _ 9) (fun u hu => by rw [List.mem_singleton.1 hu]; rfl) ?c1 ?c2 ?c3 ?_)
              case c1 => unfold maxLen; omega
              case c2 => omega
              case c3 => simp; omega
              intro A4 c4 w4 ho4 hg4
              have hb4 := hb3.trans (hg4.below (B := wo.heap.size) (by simp; omega) (fun k hk => by have := (ho2.lies k hk).1; omega))
              have hw5 := hw4.grow9 ho2 hg4
              have hbh5 := hw5.behind
              have hs4 := hb4.size
              have hcv := Lib.run_convert_string_bytes (P := Tryd.prog) w4 9 34 5 SL Tryd.underlying9 Tryd.underlying34 Tryd.underlying5
              have hbw := Lib.bytesWorld_below w4 5 SL
              have hsw : (Lib.bytesWorld w4 5 SL).heap.size = w4.heap.size + 1 := Lib.bytesWorld_size w4 5 SL
              have hbs5 : Bs (Lib.bytesWorld w4 5 SL) (some ⟨w4.heap.size, 0, none⟩) SL.size q := by rw [HQL.out, HSL.out]; exact bw_bs w4 q HQR.out.1
              have hcg := grownCap_ge w4 SL.size 0 5
              have hz40 : SL.size ≤ 40 := by rw [HQL.out]; exact HQR.out.2
              generalize grownCap w4 SL.size 0 5 = cp at *
              generalize Lib.bytesWorld w4 5 SL = w5 at *
              rw [hszl] at hbs5 hcg hz40 hcv
              have hgw := hw5.lt
              have hw6 := (hw5.keep (B := 0) hbw).keep (B := 0) (below_alloc w5 (.cells #[.slice (some ⟨w4.heap.size, 0, none⟩) ll cp] 34))
              have hss5 := bssP_oneB hbs5 hcg
              have hb6 := (hb4.trans (hbw.mono hs4)).alloc (by omega) (.cells #[.slice (some ⟨w4.heap.size, 0, none⟩) ll cp] 34)
              have ho5 := ((ho4.keepB hbw).alloc (.cells #[.slice (some ⟨w4.heap.size, 0, none⟩) ll cp] 34))
              have hsz5 : w5.heap.size = w4.heap.size + 1 := hsw
              have HSW := Lib.hid hsw; clear hsw hb3 hg4 ho2 hw4 hb4
              have HS5 := Lib.hid hsz5; clear hsz5
              have hsle : w4.heap.size + 1 ≤ w5.heap.size := by rw [HS5.out]; exact Nat.le_refl _
              go_wp2_with fail
              refine (wtext_any _ wo.heap.size AW (some ⟨w5.heap.size, 0, none⟩) nW cW 1 1 _ [q] (fun b => b = w4.heap.size ∨ b = w5.heap.size) hw6 hss5 (fun b hb => by simp; omega) (by omega) (fun k hk => by have := (hbh5 k hk).2; omega) (by unfold maxLen; omega) (by rw [texts_single, List.length_append]; have := num_le (q.length : Int); have := HQR.out.2; omega)).mono ?_
              rintro e w7 ⟨A7, n7, c7, rfl, hn7, hw7, hef7⟩
              have hb7 := hb6.trans (hef7.below (by simp; omega) (fun k hk => by have := (hbh5 k hk).1; omega))
              have ho7 := ho5.weff hw6 hef7
              have hTX : num (M : Int) ++ texts (r1.take j) ++ texts [q] = num (M : Int) ++ texts (r1.take (j + 1)) := by rw [HF.out, texts_app, List.append_assoc]
              rw [hTX] at hw7 hn7
              have hn7' : n7 ≤ 9 + 49 * (j + 1) := by
                rw [hn7]
                have h1 := num_le (M : Int)
                have h2 := texts_len (r := r1.take (j + 1)) (m := 40) (fun x hx => (HRT.out.2 x (List.mem_of_mem_take hx)).2)
                have h3 : (r1.take (j + 1)).length ≤ j + 1 := by rw [List.length_take]; omega
                have h4 := Nat.mul_le_mul_left 49 h3
                rw [List.length_append]; omega
              have ho8 : Own w7 (wo.heap.size + 1) 9 A4 (j + 1) c4 (St (r1.take (j + 1))) := by
                rw [HF.out, St_append]
                have e1 : St [q] = [.string SL] := by rw [HSL.out]; rfl
                rw [e1]; exact ho7
              clear hw6 hss5 hb6 hef7 ho5 ho7 ho4 hbw hw5 hbs5 hcv hTX hn7
              go_wp2
              go_roundw
              case rel => exact ⟨j + 1, n7, c7, c4, A7, A4, rfl, by go_num, by omega, hn7', hw7, ho8, hb7⟩
              case measure => simp [intOf]; omega
          · obtain rfl : j = M := by omega
            have HR1 := Lib.hid (show r1.take j = r1 from List.take_of_length_le (by rw [HRL2.out]; exact Nat.le_refl _))
            rw [HR1.out] at hwt hoS
            have HXJ := Lib.hid (show num (j : Int) ++ texts r1 = joinL r1 by unfold joinL; rw [HRL2.out])
            rw [HXJ.out] at hwt
            have HNW := Lib.hid hwt.2.len
            rw [By_length] at HNW
            have hA3 := hoA.below hbi (fun q hq => (hoA.lies q hq).2)
            have hF3 := hoF.below hbi (fun q hq => (hoF.lies q hq).2)
            have hP3 := hPr.keepB hbi (Nat.le_refl _)
            have hAl : ∀ q, blk AA = some q → q < wo.heap.size := fun q hq => (hoA.lies q hq).2
            have HAL := Lib.hid hAl; clear hAl
            have hnA' := hnA
            clear hoA hoF hPr hjl
            rename World => w3
            go_wp2_with (at_builtin; refine wpList_append_rd rfl _ _ 22 rfl i0 (.string .empty) 16 Tryd.underlying22 hi hz0 hz1 hz2 rfl rfl hA3 AS j cS (St r1) rfl hoS.rd (St_one _) ?e1 ?e2 ?e3 ?_)
            case e1 => unfold maxLen; omega
            case e2 => omega
            case e3 => omega
            intro A5 c5 w5 hA5 hg5
            have hF5 := hF3.ap HAP.out hg5
            have hP5 := hP3.grow9 hA3 hg5
            have hW5 := hwt.grow9 hA3 hg5
            have hS5 := hoS.ap (A := AA) (fun q hq he => by have h1 := HAL.out q hq; have h2 := (hoS.lies q he).1; omega) hg5
            have hap5 := HAP.out.grow hg5 (fun q hq => (hF3.lies q hq).2)
            have hb5 : Below w.heap.size w w5 := (hbr.trans (hbi.mono hso)).trans (hg5.below (Nat.le_trans hso hsi) (fun q hq => (hA3.lies q hq).1))
            have hs5 := hb5.size
            have HAP5 := Lib.hid hap5
            have HP1 := Lib.hid (HPK.out AS j cS r1 w5 hS5.rd (fun l hl => ⟨(HRT.out.2 l hl).1, by have := (HRT.out.2 l hl).2; omega⟩) (by omega))
            clear hA3 hF3 hP3 hwt hoS hg5 hap5 HAP
            go_wp2_with fail
            refine HP1.out.mono ?_
            rintro e w6 ⟨A6, c6, m6, M6, rfl, ho6, hs6, hm6, hb6⟩
            have HM6 := Lib.hid hm6
            have hm6l : m6 ≤ 12 := by
              have h1 := nodup_le hs6.nodup (fun x hx => ((hm6 x).1 hx).1)
              have h2 := ho6.lenS
              have h3 := HRL2.out
              omega
            clear hm6 HP1
            have hA6 := hA5.keepB hb6
            have hF6 := hF5.keepB hb6
            have hP6 := hP5.keep hb6
            have hW6 := hW5.keep (B := 0) hb6
            have hbw6 := hb5.trans (hb6.mono hs5)
            have hs6w := hbw6.size
            clear hA5 hF5 hP5 hW5 hS5 hb5
            go_wp2_with (at_builtin; refine wpList_append_rd rfl _ _ 22 rfl i0 (.string .empty) 16 Tryd.underlying22 hi hz0 hz1 hz2 rfl rfl hF6 A6 m6 c6 (St M6) rfl ho6.rd (St_one _) ?f1 ?f2 ?f3 ?_)
            case f1 => unfold maxLen; omega
            case f2 => omega
            case f3 => exact hs6w
            intro A7 c7 w7 hF7 hg7
            have hA7 := hA6.ap HAP5.out.symm hg7
            have hP7 := hP6.grow9 hF6 hg7
            have hW7 := hW6.grow9 hF6 hg7
            have HAP7 := Lib.hid ((HAP5.out.symm.grow hg7 (fun q hq => (hA6.lies q hq).2)).symm)
            have hb7 := hbw6.trans (hg7.below hs6w (fun q hq => (hF6.lies q hq).1))
            have hs7 := hb7.size
            clear hA6 hF6 hP6 hW6 hg7 ho6 HAP5 hb6 hbw6
            have hnWl : nW ≤ 597 := by rw [← HNW.out]; exact HRJ.out.1
            go_wp2_with fail
            refine (wbytes_any _ wo.heap.size AW nW cW _ hW7 HRJ.out.2.1 (by omega)).mono ?_
            rintro e w8 ⟨A8, c8, rfl, ho8, hb8⟩
            have hA8 := hA7.keepB hb8
            have hF8 := hF7.keepB hb8
            have hP8 := hP7.keep hb8
            have hb9 := hb7.trans (hb8.mono hs7)
            have hs9 := hb9.size
            obtain ⟨vs, hrow, HROW⟩ := hP8.row (.cells #[.slice A8 nW c8] 34)
            have hA9 := hA8.alloc (.cells #[.slice A8 nW c8] 34)
            have hF9 := hF8.alloc (.cells #[.slice A8 nW c8] 34)
            have ho8b := ho8.mono hs7
            clear hA7 hF7 hP7 hW7 hb7 hb8
            go_wp2_with (at_builtin; refine wpList_append_rd rfl _ _ 33 rfl j0 (.slice none 0 0) 24 Tryd.underlying33 hj hy0 hy1 hy2 rfl rfl hrow (some ⟨w8.heap.size, 0, none⟩) 1 1 [.slice A8 nW c8] rfl (rd_oneV w8 _ 34) (one_slice _ _ _) ?g1 ?g2 ?g3 ?_)
            case g1 => unfold maxLen; omega
            case g2 => omega
            case g3 => simp; omega
            intro A9 c9 w9 ho9 hg9
            have hPN : Prts w9 w.heap.size A9 (k + 1) c9 ((T.map joinL).take (k + 1)) := by
              rw [HOS.out]
              have e := HNW.out
              subst e
              exact HROW.out A8 c8 (joinL r1) w9 A9 c9 ho8b HRJ.out.2.1 ho9 hg9
            have hAN : Own w9 w.heap.size 9 A5 (nA + j) c5 (St (T.take (k + 1)).flatten) := by
              have h1 := hA9.kept hg9.1 (own_apart hA9 hrow (by decide))
              rw [HTS.out, List.flatten_append, St_append]
              simpa using h1
            have hFN : Own w9 w.heap.size 9 A7 (nF + m6) c7 (St (F ++ M6)) := by
              have h1 := hF9.kept hg9.1 (own_apart hF9 hrow (by decide))
              rw [St_append]; exact h1
            have HMN : Hid (∀ x, x ∈ F ++ M6 ↔ x ∈ (T.take (k + 1)).flatten ∧ mt pp x = true) := fun x => by
              rw [HTS.out, List.flatten_append, List.mem_append, List.mem_append, HMF.out x, HM6.out x]
              simp only [List.flatten_cons, List.flatten_nil, List.append_nil]
              constructor
              · rintro (h | h)
                · exact ⟨.inl h.1, h.2⟩
                · exact ⟨.inr h.1, h.2⟩
              · rintro ⟨h | h, h2⟩
                · exact .inl ⟨h, h2⟩
                · exact .inr ⟨h, h2⟩
            have hbN := (hb9.alloc hs9 (.cells #[.slice A8 nW c8] 34)).trans (hg9.below (by simp; omega) (fun q hq => (hrow.lies q hq).1))
            have hnA2 : nA + j ≤ 12 * (k + 1) := by omega
            have hnF2 : nF + m6 ≤ 12 * (k + 1) := by omega
            clear hrow hA9 hF9 ho8b ho9 hg9 hA8 hF8 hP8 hb9 ho8 hbi hbr
            go_wp2
            go_roundw
            case rel => exact ⟨k + 1, nA + j, nF + m6, c9, c5, c7, A9, A5, A7, F ++ M6, rfl, rfl, rfl, by go_num, by omega, hnA2, hnF2, hPN, hAN, hFN, HMN, HAP7, hbN⟩
            case measure => simp [intOf]; omega
    · obtain rfl : k = N := by omega
      have HTE := Lib.hid (show T.take k = T from List.take_of_length_le (by rw [HTL.out]; exact Nat.le_refl _))
      rw [HTE.out] at hoA
      have HMF2 : Hid (∀ x, x ∈ F ↔ x ∈ T.flatten ∧ mt pp x = true) := fun x => by have := HMF.out x; rwa [HTE.out] at this
      rw [show (T.map joinL).take k = T.map joinL from List.take_of_length_le (by rw [List.length_map, HTL.out]; exact Nat.le_refl _)] at hPr
      have HOL : Hid ((joinL (T.map joinL)).length ≤ 7281) := by
        have h1 := joinL_len (r := T.map joinL) (m := 597) (fun x hx => by obtain ⟨r, hr, rfl⟩ := List.mem_map.1 hx; exact (HJL.out r hr).1)
        rw [List.length_map, HTL.out] at h1
        have h2 := Nat.mul_le_mul_left 606 hN12
        have h3 : (joinL (T.map joinL)).length ≤ 7281 := by omega
        exact Lib.hid h3
      have HSPL := Lib.hid (splitL_join (T.map joinL) (by rw [List.length_map, HTL.out]; omega) (fun x hx => by obtain ⟨r, hr, rfl⟩ := List.mem_map.1 hx; have := (HJL.out r hr).1; omega))
      have HJR := Lib.hid (joinL_ran hPr.bss)
      clear HMF
      go_wp2_with fail
      refine (join_any AO k cO (T.map joinL) _ hPr.bss (by unfold maxLen; omega) (by have := HOL.out; omega)).mono ?_
      rintro e w2 ⟨A2, n2, c2, rfl, hn2, ho2, hb2⟩
      have hn2' : n2 ≤ 7281 := by rw [hn2]; exact HOL.out
      have hoA2 := hoA.keepB hb2
      have hoF2 := hoF.keepB hb2
      have hbw2 := hbr.trans (hb2.mono hso)
      have hsw2 := hbw2.size
      clear hn2 hPr hoA hoF hbr hb2 hlt htb1
      go_wp2_with fail
      refine (split_any A2 n2 c2 (joinL (T.map joinL)) w2 (ho2.bs HJR.out) ho2.cap (fun q hq => (ho2.lies q hq).2) (by omega)).mono ?_
      rintro e w3 hp3
      rw [HSPL.out] at hp3
      obtain ⟨A3, n3, c3, rfl, hn3, hP3, hb3⟩ := hp3
      obtain rfl : n3 = k := by rw [hn3]; show (T.map joinL).length = k; rw [List.length_map]; exact HTL.out
      have hoA3 := hoA2.keepB hb3
      have hoF3 := hoF2.keepB hb3
      have hbw3 := hbw2.trans (hb3.mono hsw2)
      have hsw3 := hbw3.size
      clear hn3 ho2 hoA2 hoF2 hbw2 hb3
      have hnn : ((n3 : Int) != (n3 : Int)) = false := by simp
      go_wp2
      go_loopw [16, 101] (fun gv iv wr => ∃ (k2 nG cG : Nat) (AG : Option Addr), gv = .slice AG nG cG ∧ iv = .int .i64 k2 ∧ k2 ≤ n3 ∧ nG ≤ 12 * k2 ∧ Own wr w3.heap.size 9 AG nG cG (St (T.take k2).flatten) ∧ Below w3.heap.size w3 wr) (fun _ iv _ => n3 - (intOf iv).toNat)
      case atStart => exact ⟨0, 0, 0, none, rfl, rfl, by omega, by omega, Own.nil_, Below.refl _ _⟩
      case round =>
        obtain ⟨k2, nG, cG, AG, rfl, rfl, hk2, hnG, hoG, hbG⟩ := hrel
        rename World => wg
        have hsG := hbG.size
        by_cases hl2 : k2 < n3
        · obtain ⟨b, off, A4, n4, c4, xs, rfl, hbl, hc4, hbs4, hnc4, HXS⟩ := (hP3.bss.keep hbG).at_ hl2
          obtain ⟨r, hr⟩ : ∃ r, T[k2]? = some r := ⟨_, List.getElem?_eq_getElem (by rw [HTL.out]; exact hl2)⟩
          have HRK := Lib.hid hr
          have HTS := Lib.hid (show T.take (k2 + 1) = T.take k2 ++ [r] by rw [List.take_add_one, hr]; rfl)
          have HRT := Lib.hid (HTT.out r (List.mem_of_getElem? hr))
          have HRJ := Lib.hid (HJL.out r (List.mem_of_getElem? hr))
          have HXE : Hid (xs = joinL r) := by
            have h1 := HXS.out
            rw [List.getElem?_map, hr] at h1
            injection h1 with h1; exact h1.symm
          clear hr
          have hn4 : n4 ≤ 597 := by have h1 := hbs4.len; rw [HXE.out] at h1; have := HRJ.out.1; omega
          rw [HXE.out] at hbs4
          go_wp2_with fail
          refine (readQ A4 n4 c4 (joinL r) _ hbs4 (by omega)).mono ?_
          rintro e w5 ⟨g, rfl, hrd5, hgg, hb5⟩
          have hoG5 := hoG.keepB hb5
          have hbG5 := hbG.trans (hb5.mono hsG)
          have hGl : ∀ q, blk AG = some q → q < wg.heap.size ∨ g < q := fun q hq => .inl (hoG.lies q hq).2
          have HGL := Lib.hid hGl; clear hGl
          clear hoG hbG hb5 hbs4 hc4
          have HNJ := Lib.hid (numS_join r HRJ.out.2.2)
          obtain ⟨R, hRR⟩ : ∃ R, R = r.length := ⟨_, rfl⟩
          have hR12 : R ≤ 12 := by rw [hRR]; exact HRT.out.1
          rw [← hRR] at HNJ
          have HRR := Lib.hid hRR; clear hRR
          go_wp2_with fail
          refine (rnumQ_is _ g (joinL r) (texts r) (R : Int) 0 HNJ.out hrd5 (by have := HRJ.out.1; omega)).mono ?_
          rintro e w6 ⟨rfl, hrd6, hol6⟩
          obtain ⟨cs5, fr5, hg5⟩ := hrd5.heap_
          have hoG6 := hoG5.onl9 hol6 hg5
          have hbG6 : Below w3.heap.size w3 w6 := hbG5.trans ((hol6.below (Nat.le_of_lt hrd5.lt)).mono (Nat.le_trans hsG hgg))
          clear hoG5 hbG5 hol6 hg5 hrd5
          have hTL : (texts r).length ≤ 597 := by have := HRJ.out.1; unfold joinL at this; rw [List.length_append] at this; omega
          go_wp2
          go_loopw [16, 20] (fun gv nv wr => ∃ (j u nH cH : Nat) (AH : Option Addr), gv = .slice AH nH cH ∧ nv = .int .u64 u ∧ Hid (j + u = R) ∧ u ≤ 12 ∧ nH ≤ 12 * k2 + 12 ∧ Hid (nH = nG + j) ∧ Own wr w3.heap.size 9 AH nH cH (St ((T.take k2).flatten ++ r.take j)) ∧ RdrQ (wg.heap.size ≤ ·) wr g (texts (r.drop j)) 0 ∧ Hid (∀ q, blk AH = some q → q < wg.heap.size ∨ g < q) ∧ Below w3.heap.size w3 wr) (fun _ nv _ => (intOf nv).toNat)
          case atStart => exact ⟨0, R, nG, cG, AG, rfl, rfl, (show (0 + R = R) by omega), hR12, by omega, rfl, by simpa using hoG6, by simpa using hrd6, HGL, hbG6⟩
          case round =>
            obtain ⟨j, u, nH, cH, AH, rfl, rfl, HJU, hu12, hnH, HNH, hoH, hrdH, HHL, hbH⟩ := hrel
            rename World => wh
            have hsH := hbH.size
            have hgH := hrdH.lt
            clear hoG6 hrd6 hbG6
            rcases Nat.eq_zero_or_pos u with hu0 | hu0
            · subst hu0
              have HRJ2 := Lib.hid (show j = r.length by have := HJU.out; have := HRR.out; omega)
              have HDE := Lib.hid (show r.drop j = [] from List.drop_of_length_le (by rw [HRJ2.out]; exact Nat.le_refl _))
              have HTE2 := Lib.hid (show r.take j = r from List.take_of_length_le (by rw [HRJ2.out]; exact Nat.le_refl _))
              have hd0 : decide ((0 : Int) < ((0 : Nat) : Int)) = false := by simp
              rw [HDE.out, texts_nil] at hrdH
              rw [HTE2.out] at hoH
              have HCL := Lib.hid (rcloseQ wh g [] 0 hrdH)
              have hcl0 : closeV [] 0 = 0 := by simp [closeV]
              rw [hcl0] at HCL
              clear hcl0
              simp only [Int.cast_ofNat_Int] at hd0
              go_wp2_with fail
              refine HCL.out.mono ?_
              rintro e w8 ⟨rfl, rfl⟩
              have hoN : Own wh w3.heap.size 9 AH nH cH (St (T.take (k2 + 1)).flatten) := by
                rw [HTS.out, List.flatten_append]
                simpa using hoH
              have hnN : nH ≤ 12 * (k2 + 1) := by omega
              clear hoH
              go_wp2
              go_roundw
              case rel => exact ⟨k2 + 1, nH, cH, AH, rfl, by go_num, by omega, hnN, hoN, hbH⟩
              case measure => simp [intOf]; omega
            · obtain ⟨x, hx⟩ : ∃ x, r[j]? = some x := ⟨_, List.getElem?_eq_getElem (by have := HJU.out; have := HRR.out; omega)⟩
              have HDC := Lib.hid (show r.drop j = x :: r.drop (j + 1) by obtain ⟨h1, rfl⟩ := List.getElem?_eq_some_iff.1 hx; exact List.drop_eq_getElem_cons h1)
              have HTK2 := Lib.hid (show r.take (j + 1) = r.take j ++ [x] by rw [List.take_add_one, hx]; rfl)
              have HXX := Lib.hid (HRT.out.2 x (List.mem_of_getElem? hx))
              clear hx
              rw [HDC.out] at hrdH
              have HTC := Lib.hid (textS_cons x (r.drop (j + 1)) (by have := HXX.out.2; omega))
              have hdl : (texts (x :: r.drop (j + 1))).length ≤ 140737488355328 := by
                rw [← HDC.out]
                have h1 := texts_len (r := r.drop j) (m := 40) (fun y hy => (HRT.out.2 y (List.mem_of_mem_drop hy)).2)
                have h2 : (r.drop j).length ≤ 12 := by rw [List.length_drop]; have := HRT.out.1; omega
                have h3 := Nat.mul_le_mul_left 49 h2
                omega
              obtain ⟨XL, hXL⟩ : ∃ XL, x.length = XL := ⟨_, rfl⟩
              have HXL := Lib.hid hXL; clear hXL
              have hd0 : decide ((0 : Int) < (u : Int)) = true := by simp; omega
              have hd1 : decide (0 < u) = true := by simp; omega
              have HER := Lib.hid (fun W (h : RdrQ (wg.heap.size ≤ ·) W g (texts (x :: r.drop (j + 1))) 0) => rerrQ W g _ 0 h)
              go_wp2_with fail
              refine (HER.out _ (by exact hrdH)).mono ?_
              rintro e w8 ⟨rfl, rfl⟩
              go_wp2_with fail
              refine (rtextQ_is _ g _ x (texts (r.drop (j + 1))) 0 XL HTC.out HXL.out (by exact hrdH) hdl).mono ?_
              rintro e w9 ⟨A9, c9, rfl, ho9, hrd9, hol9⟩
              obtain ⟨cs9, fr9, hg9⟩ := hrdH.heap_
              have hoH9 := hoH.onl9 hol9 hg9
              have hbH9 : Below w3.heap.size w3 w9 := hbH.trans ((hol9.below (Nat.le_of_lt hrdH.lt)).mono (Nat.le_trans hsG hgg))
              have hcv := conv_any ho9
              obtain ⟨SX, hSX⟩ : ∃ SX, SX = strOfNums x := ⟨_, rfl⟩
              rw [← hSX] at hcv
              have HSX := Lib.hid hSX; clear hSX
              have hoHa := hoH9.alloc (.cells #[.string SX] 9)
              have hrda := hrd9.alloc_ (.cells #[.string SX] 9)
              have hs9 := hbH9.size
              have hg9l := hrd9.lt
              have hbHa := hbH9.alloc hs9 (.cells #[.string SX] 9)
              clear hoH hrdH hol9 hg9 hoH9 hbH hrd9 ho9
              go_wp2_with (at_builtin; refine wpList_append_rd rfl _ _ 22 rfl i0 (.string .empty) 16 Tryd.underlying22 hi hz0 hz1 hz2 rfl rfl hoHa (some ⟨w9.heap.size, 0, none⟩) 1 1 [.string SX] rfl (rd_oneS w9 _ 9) (fun u hu => by rw [List.mem_singleton.1 hu]; rfl) ?k1 ?k2 ?k3 ?_)
              case k1 => unfold maxLen; omega
              case k2 => omega
              case k3 => simp; omega
              intro A10 c10 w10 ho10 hg10
              have hrd10 := hrda.grow9 hoHa hg10 HHL.out
              have hb10 := hbHa.trans (hg10.below (by simp; omega) (fun q hq => (hoHa.lies q hq).1))
              have HHL10 : Hid (∀ q, blk A10 = some q → q < wg.heap.size ∨ g < q) := fun q hq => by
                rcases hg10.2 with e | ⟨g2, e, hle⟩
                · exact HHL.out q (e ▸ hq)
                · rw [e] at hq; injection hq with hq
                  simp at hle
                  right; omega
              have ho11 : Own w10 w3.heap.size 9 A10 (nH + 1) c10 (St ((T.take k2).flatten ++ r.take (j + 1))) := by
                rw [HTK2.out, ← List.append_assoc, St_append]
                have e1 : St [x] = [.string SX] := by rw [HSX.out]; rfl
                rw [e1]; exact ho10
              have HNH2 := Lib.hid (show nH + 1 = nG + (j + 1) by have := HNH.out; omega)
              have hnH2 : nH + 1 ≤ 12 * k2 + 12 := by have := HNH.out; have := HJU.out; omega
              obtain ⟨u', hu'⟩ : ∃ u', u = u' + 1 := ⟨u - 1, by omega⟩
              subst hu'
              have HJU2 := Lib.hid (show j + 1 + u' = R by have := HJU.out; omega)
              clear hoHa hrda ho10 hg10 hbHa hcv
              go_wp2
              go_roundw
              case rel => exact ⟨j + 1, u', nH + 1, c10, A10, rfl, by first | rfl | (congr 1; omega) | go_num, HJU2, by omega, hnH2, HNH2, ho11, hrd10, HHL10, hb10⟩
              case measure => simp [intOf]
        · obtain rfl : k2 = n3 := by omega
          rw [HTE.out] at hoG
          have HLA := Lib.hid hoA3.lenS
          have HLG := Lib.hid hoG.lenS
          obtain rfl : nG = nA := by have := HLA.out; have := HLG.out; omega
          have hoAg := hoA3.keepB hbG
          have hoFg := hoF3.keepB hbG
          have hbwg := hbw3.trans (hbG.mono hsw3)
          have hswg := hbwg.size
          have hnn2 : ((nG : Int) != (nG : Int)) = false := by simp
          have HTXF : Hid (Tx T.flatten) := fun l hl => by
            obtain ⟨r, hr, hlr⟩ := List.mem_flatten.1 hl
            have := (HTT.out r hr).2 l hlr
            exact ⟨this.1, by omega⟩
          have HTXG : Hid (Tx F) := fun l hl => HTXF.out l ((HMF2.out l).1 hl).1
          clear hoA3 hoF3 hbw3 hbG hP3 hnn
          go_wp2
          go_loopw [135] (fun iv wr => ∃ (j q : Nat), iv = .int .i64 j ∧ j ≤ nG ∧ wr = wg.drewN q) (fun iv _ => nG - (intOf iv).toNat)
          case atStart => exact ⟨0, 0, rfl, by omega, rfl⟩
          case round =>
            obtain ⟨j, q, rfl, hj9, rfl⟩ := hrel
            by_cases hl9 : j < nG
            · obtain ⟨x, hx⟩ : ∃ x, T.flatten[j]? = some x := ⟨_, List.getElem?_eq_getElem (by rw [HLA.out]; exact hl9)⟩
              obtain ⟨g6, cap6, hv6, _, hl6⟩ := World.ownsRow.form hoAg (by omega)
              obtain rfl : AA = some ⟨g6, 0, none⟩ := by injection hv6
              obtain ⟨g7, cap7, hv7, _, hl7⟩ := World.ownsRow.form hoG (by omega)
              obtain rfl : AG = some ⟨g7, 0, none⟩ := by injection hv7
              have ca : (wg.drewN q).cell? ⟨g6, j, none⟩ = some (.string (strOfNums x)) := hoAg.st_cell hx
              have cb : (wg.drewN q).cell? ⟨g7, j, none⟩ = some (.string (strOfNums x)) := hoG.st_cell hx
              have ca1 : wg.cell? ⟨g6, j, none⟩ = some (.string (strOfNums x)) := hoAg.st_cell hx
              have cb1 : wg.cell? ⟨g7, j, none⟩ = some (.string (strOfNums x)) := hoG.st_cell hx
              have hq0 : (0 : Int) ≤ (j : Int) := by omega
              have hq1 : (j : Int) < (nG : Int) := by omega
              generalize strOfNums x = SX at *
              have hee : (SX.toList == SX.toList) = true := by simp
              clear hv6 hv7 hx
              go_wp2
              go_quiet (fail)
              go_wp2
              go_roundw
              case rel => exact ⟨j + 1, _, by go_num, by omega, rfl⟩
              case measure => simp [intOf]; omega
            · have hoG8 : Own (wg.drewN q) w3.heap.size 9 AG nG cG (St T.flatten) := hoG
              have hoF8 : Own (wg.drewN q) w.heap.size 9 AF nF cF (St F) := hoFg
              have hb8 : Below w.heap.size w (wg.drewN q) := below_n hbwg q
              have hs8 := hb8.size
              clear hoG hoFg hoAg hbwg hnn2
              generalize wg.drewN q = w8 at *
              have HP1 := Lib.hid (HPS.out AF nF cF F w8 hoF8.rd HTXG.out (by omega))
              go_wp2_with fail
              refine HP1.out.mono ?_
              rintro e wa ⟨Aa, ca, ma, Ma, rfl, hoa, hsa, hma, hba⟩
              have HMA := Lib.hid hma; clear hma HP1
              have hoG9 := hoG8.keepB hba
              have HP2 := Lib.hid (HPK.out AG nG cG T.flatten wa hoG9.rd HTXF.out (by omega))
              clear hoG8 hoF8
              go_wp2_with fail
              refine HP2.out.mono ?_
              rintro e wb ⟨Ab, cb, mb, Mb, rfl, hob, hsb, hmb, hbb⟩
              have HMB := Lib.hid hmb; clear hmb HP2
              have HSAME := Lib.hid (Srt.same hsa hsb (fun x => (HMA.out x).trans ((HMF2.out x).trans (HMB.out x).symm)))
              have hoa2 := hoa.keepB hbb
              have HLa := Lib.hid hoa2.lenS
              obtain rfl : mb = ma := by have h1 := hob.lenS; have h2 := HLa.out; rw [HSAME.out] at h2; omega
              have hob2 : Own wb wa.heap.size 9 Ab mb cb (St Ma) := by rw [HSAME.out]; exact hob
              have hbz := (hb8.trans (hba.mono hs8)).trans (hbb.mono (Nat.le_trans hs8 hba.size))
              have hmbk : mb ≤ maxLen := by exact hoa2.capU
              unfold maxLen at hmbk
              have hnn3 : ((mb : Int) != (mb : Int)) = false := by simp
              clear hoa hob hba hbb hb8 hsa hsb hoG9 HSAME
              go_wp2
              go_loopw [160] (fun iv wr => ∃ (j q : Nat), iv = .int .i64 j ∧ j ≤ mb ∧ wr = wb.drewN q) (fun iv _ => mb - (intOf iv).toNat)
              case atStart => exact ⟨0, 0, rfl, by omega, rfl⟩
              case round =>
                obtain ⟨i, q2, rfl, hi9, rfl⟩ := hrel
                by_cases hlz : i < mb
                · obtain ⟨x, hx⟩ : ∃ x, Ma[i]? = some x := ⟨_, List.getElem?_eq_getElem (by rw [HLa.out]; exact hlz)⟩
                  obtain ⟨g6, cap6, hv6, _, hl6⟩ := World.ownsRow.form hoa2 (by omega)
                  obtain rfl : Aa = some ⟨g6, 0, none⟩ := by injection hv6
                  obtain ⟨g7, cap7, hv7, _, hl7⟩ := World.ownsRow.form hob2 (by omega)
                  obtain rfl : Ab = some ⟨g7, 0, none⟩ := by injection hv7
                  have da : (wb.drewN q2).cell? ⟨g6, i, none⟩ = some (.string (strOfNums x)) := hoa2.st_cell hx
                  have db : (wb.drewN q2).cell? ⟨g7, i, none⟩ = some (.string (strOfNums x)) := hob2.st_cell hx
                  have da1 : wb.cell? ⟨g6, i, none⟩ = some (.string (strOfNums x)) := hoa2.st_cell hx
                  have db1 : wb.cell? ⟨g7, i, none⟩ = some (.string (strOfNums x)) := hob2.st_cell hx
                  have hq0 : (0 : Int) ≤ (i : Int) := by omega
                  have hq1 : (i : Int) < (mb : Int) := by omega
                  generalize strOfNums x = SX at *
                  have hee : (SX.toList == SX.toList) = true := by simp
                  clear hv6 hv7 hx
                  go_wp2
                  go_quiet (fail)
                  go_wp2
                  go_roundw
                  case rel => exact ⟨i + 1, _, by go_num, by omega, rfl⟩
                  case measure => simp [intOf]; omega
                · have hbE := below_n hbz q2
                  go_wp2
                  go_ret
                  exact ⟨rfl, hbE⟩
end Go.Proofs.YtdlbghjclcdfmabDoor
