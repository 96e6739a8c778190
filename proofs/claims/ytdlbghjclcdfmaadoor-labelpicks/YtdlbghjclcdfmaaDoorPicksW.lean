/- LabelPicks: the walk. -/
import Derived.Test.YtdlbghjclcdfmaaDoorRPickW
import Derived.Test.YtdlbghjclcdfmaaDoorLatestW
import Derived.Test.YtdlbghjclcdfmaaDoorAwake3
import Derived.Deep.QuietTactic
import Derived.BigQuiet
import Derived.BigRegion
namespace Go.Proofs.YtdlbghjclcdfmaaDoor
set_option linter.unusedVariables false
set_option linter.unusedSimpArgs false
open Go.RowKit

theorem Own.capU {w : World} {base n c : Nat} {A : Option Addr} {e : TypeId} {vs : List Value} (h : Own w base e A n c vs) : n ≤ maxLen := by
  rcases h.2 with ⟨hv, h0⟩ | ⟨g', cap, cur, hv, _, _, hnc, hcm, _⟩
  · unfold maxLen; omega
  · omega
theorem srt_max {M : List (List Int)} {x y : List Int} {n : Nat} (h : Srt M) (hn : M.length = n + 1) (hx : M[n]? = some x) (hy : y ∈ M) (hm : ∀ z ∈ M, cmpS z y ≤ 0) : y = x := by
  obtain ⟨h1, rfl⟩ := List.getElem?_eq_some_iff.1 hx
  obtain ⟨i, hi, rfl⟩ := List.getElem_of_mem hy
  by_cases e : i = n
  · subst e; rfl
  · exfalso
    have a1 := List.pairwise_iff_getElem.1 h i n hi h1 (by omega)
    have a2 := hm M[n] (List.getElem_mem h1)
    have := cmpS_swap M[i] M[n]
    omega
set_option maxRecDepth 100000 in
set_option maxHeartbeats 1000000 in
theorem cut_wide (l : List Int) (n : Nat) (w : World) (hl : l.length ≤ 9223372036854775807) (hn : n ≤ 140737488355328) :
    Calls Tryd.prog 14 #[.string (strOfNums l), .int .i64 n] w fun e w' => e = .returned (.string (strOfNums (l.take n))) ∧ w = w' := by
  have hsz : (strOfNums l).size = l.length := strOfNums_size l
  by_cases h : n < l.length
  · have hf := str_to (P := Tryd.prog) 9 Tryd.underlying9 l n (by omega)
    generalize strOfNums l = s at *
    generalize strOfNums (l.take n) = s2 at *
    generalize l.length = m at *
    go_enter Tryd.func14, Tryd.ntmps14
    go_wp2
    go_ret
    exact ⟨rfl, rfl⟩
  · rw [List.take_of_length_le (by omega)]
    generalize strOfNums l = s at *
    generalize l.length = m at *
    go_enter Tryd.func14, Tryd.ntmps14
    go_wp2
    go_ret
    exact ⟨rfl, rfl⟩

set_option maxRecDepth 100000 in
set_option maxHeartbeats 4000000 in
theorem picks_walk (p : List Int) (A : Option Addr) (n c : Nat) (ns : List (List Int)) (w : World) (hp : Ran p) (hpl : p.length ≤ 9223372036854775807) (hrd : Rd w A n (St ns)) (htx : ∀ l ∈ ns, Ran l ∧ l.length ≤ 9223372036854775807) (hcap : n ≤ c) (hnm : n ≤ 9223372036854775807) :
    Calls Tryd.prog 6 #[.string (strOfNums p), .slice A n c] w fun e w' => e = .returned (.bool true) ∧ Below w.heap.size w w' := by
  obtain ⟨i0, hi, hz0, hz1, hz2⟩ := info9_parts
  have h42 : Ran [42] := fun x hx => by obtain rfl := List.mem_singleton.1 hx; omega
  have hst : strOfNums [42] = ⟨#[42]⟩ := rfl
  have HPQ : Hid (Ran (p.take 60) ∧ (p.take 60).length ≤ 60) := ⟨hp.sub fun x hx => List.mem_of_mem_take hx, by rw [List.length_take]; omega⟩
  have HCP := Lib.hid (fun W => cut_wide p 60 W hpl (by omega))
  clear hp hpl
  generalize p.take 60 = pp at *
  have HPK : Hid (∀ (A : Option Addr) (m c : Nat) (L : List (List Int)) (W : World), Rd W A m (St L) → Tx L → m ≤ 1000000 → Calls Tryd.prog 18 #[.string (strOfNums pp), .slice A m c] W fun e w' => ∃ (A' : Option Addr) (c' m' : Nat) (M : List (List Int)), e = .returned (.slice A' m' c') ∧ Own w' W.heap.size 9 A' m' c' (St M) ∧ Srt M ∧ (∀ x, x ∈ M ↔ x ∈ L ∧ mt pp x = true) ∧ Below W.heap.size W w') :=
    fun A m c L W h1 h2 h3 => pick_any pp A m c L W HPQ.out.1 (by have := HPQ.out.2; omega) h1 h2 h3
  have HRP : Hid (∀ (A : Option Addr) (m c : Nat) (L : List (List Int)) (W : World), Rd W A m (St L) → Tx L → (∀ l ∈ L, l.length ≤ 60) → m ≤ 1000000 → Calls Tryd.prog 19 #[.string (strOfNums pp), .slice A m c] W fun e w' => ∃ (A' : Option Addr) (c' m' : Nat) (M : List (List Int)), e = .returned (.slice A' m' c') ∧ Own w' W.heap.size 9 A' m' c' (St M) ∧ Srt M ∧ (∀ x, x ∈ M ↔ x ∈ L ∧ mt pp x = true) ∧ Below W.heap.size W w') :=
    fun A m c L W h1 h2 h4 h3 => rpick_any pp A m c L W HPQ.out.1 (by have := HPQ.out.2; omega) h1 h2 (fun l hl => by have := h4 l hl; omega) h3
  have HRS : Hid (∀ (A : Option Addr) (m c : Nat) (L : List (List Int)) (W : World), Rd W A m (St L) → Tx L → (∀ l ∈ L, l.length ≤ 60) → m ≤ 1000000 → Calls Tryd.prog 19 #[.string ⟨#[42]⟩, .slice A m c] W fun e w' => ∃ (A' : Option Addr) (c' m' : Nat) (M : List (List Int)), e = .returned (.slice A' m' c') ∧ Own w' W.heap.size 9 A' m' c' (St M) ∧ Srt M ∧ (∀ x, x ∈ M ↔ x ∈ L) ∧ Below W.heap.size W w') := fun A m c L W h1 h2 h4 h3 => by
    have := rpick_any [42] A m c L W h42 (by simp) h1 h2 (fun l hl => by have := h4 l hl; omega) h3
    rw [hst] at this
    refine this.mono fun e w' ⟨A', c', m', M, a1, a2, a3, a4, a5⟩ => ⟨A', c', m', M, a1, a2, a3, fun x => ?_, a5⟩
    rw [a4]
    constructor
    · exact fun h => h.1
    · exact fun h => ⟨h, mt_one x⟩
  clear h42 hst
  generalize strOfNums p = S0 at *
  generalize strOfNums pp = SPP at *
  have HTX := Lib.hid htx; clear htx
  have HNL := Lib.hid hrd.lenS
  go_enter Tryd.func6, Tryd.ntmps6
  go_wp2_with fail
  refine (awake_any w).mono ?_
  rintro e w1 ⟨rfl, hb1⟩
  have hs1 := hb1.size
  have hrd1 := hrd.keep hb1
  clear hrd
  by_cases h60 : 60 < n
  · have hd60 : decide ((60 : Int) < (n : Int)) = true := by simp; omega
    obtain ⟨N, hN⟩ : ∃ N : Nat, N = 60 := ⟨_, rfl⟩
    have hsl : ∀ W, (Instr.slice 31 (.slice A n c) none (some (.int .i64 60)) none).run Tryd.prog W = .ok (.slice A N c) W := by
      intro W
      rw [hN]
      exact slice_h31 A n c 60 60 rfl (by omega) W
    have hNn : N ≤ n := by omega
    have hN60 : N ≤ 60 := by omega
    clear hN
    have HQL := Lib.hid (show ((ns.take N).map (·.take 60)).length = N by rw [List.length_map, List.length_take, HNL.out]; omega)
    have HQX : Hid (Tx ((ns.take N).map (·.take 60)) ∧ ∀ l ∈ (ns.take N).map (·.take 60), l.length ≤ 60) := by
      refine ⟨fun l hl => ?_, fun l hl => ?_⟩
      · obtain ⟨x, hx, rfl⟩ := List.mem_map.1 hl
        have := HTX.out x (List.mem_of_mem_take hx)
        exact ⟨this.1.sub fun y hy => List.mem_of_mem_take hy, by rw [List.length_take]; omega⟩
      · obtain ⟨x, hx, rfl⟩ := List.mem_map.1 hl
        rw [List.length_take]; omega
    have HQG : Hid (∀ k l, ns[k]? = some l → k < N → ((ns.take N).map (·.take 60)).take (k + 1) = ((ns.take N).map (·.take 60)).take k ++ [l.take 60]) := fun k l hl hk => by
      rw [List.take_add_one, List.getElem?_map, List.getElem?_take, if_pos hk, hl]; rfl
    generalize (ns.take N).map (·.take 60) = qs at *
    go_wp2_with fail
    refine (HCP.out _).mono ?_
    rintro e w0 ⟨rfl, rfl⟩
    go_wp2
    go_loopw [5, 27] (fun ov iv wr => ∃ (k c' : Nat) (A' : Option Addr), ov = .slice A' k c' ∧ iv = .int .i64 k ∧ k ≤ N ∧ Own wr w1.heap.size 9 A' k c' (St (qs.take k)) ∧ Below w1.heap.size w1 wr) (fun _ iv _ => N - (intOf iv).toNat)
    case atStart => exact ⟨0, 0, none, rfl, rfl, by omega, Own.nil_, Below.refl _ _⟩
    case round =>
      obtain ⟨k, c', A', rfl, rfl, hk, ho, hbr⟩ := hrel
      by_cases hlt : k < N
      · obtain ⟨b, off, l, rfl, hcl, HX⟩ := (hrd1.keep hbr).st_at (show k < _ by omega)
        have HLT := Lib.hid (HTX.out l (List.mem_of_getElem? HX.out))
        have HCU := Lib.hid (fun W => cut_wide l 60 W HLT.out.2 (by omega))
        have HF := Lib.hid (HQG.out k l HX.out hlt)
        obtain ⟨SL, hSL⟩ : ∃ SL, SL = strOfNums (l.take 60) := ⟨_, rfl⟩
        rw [← hSL] at HCU
        have HSL := Lib.hid hSL; clear hSL
        generalize strOfNums l = S1 at *
        have hs := hbr.size
        go_wp2_with fail
        refine (HCU.out _).mono ?_
        rintro e w2 ⟨rfl, rfl⟩
        have ho2 := ho.alloc (.cells #[.string SL] 9)
        have hb2 := hbr.trans ((below_alloc wr (.cells #[.string SL] 9)).mono hs)
        clear ho hbr
        go_wp2_with (at_builtin; refine wpList_append_rd rfl _ _ 31 rfl i0 (.string .empty) 16 Tryd.underlying31 hi hz0 hz1 hz2 rfl rfl ho2 (some ⟨wr.heap.size, 0, none⟩) 1 1 [.string SL] rfl (rd_oneS wr _ 9) (fun u hu => by rw [List.mem_singleton.1 hu]; rfl) ?c1 ?c2 ?c3 ?_)
        case c1 => unfold maxLen; omega
        case c2 => omega
        case c3 => simp; omega
        intro A4 c4 w4 ho4 hg4
        have hb4 := hb2.trans (hg4.below (B := w1.heap.size) (by simp; omega) (fun j hj => (ho2.lies j hj).1))
        have ho5 : Own w4 w1.heap.size 9 A4 (k + 1) c4 (St (qs.take (k + 1))) := by
          rw [HF.out, St_append]
          have e1 : St [l.take 60] = [.string SL] := by rw [HSL.out]; rfl
          rw [e1]; exact ho4
        clear ho2 ho4 hb2 hg4
        go_wp2
        go_roundw
        case rel => exact ⟨k + 1, c4, A4, rfl, by go_num, by omega, ho5, hb4⟩
        case measure => simp [intOf]; omega
      · obtain rfl : k = N := by omega
        have hoS : Own wr w1.heap.size 9 A' k c' (St qs) := by
          have := ho
          rwa [List.take_of_length_le (by rw [HQL.out]; exact Nat.le_refl _)] at this
        have hsS := hbr.size
        clear ho hlt hrd1
        rename World => wS
        have hown : Own (wS.alloc (.cells #[] 9)) wS.heap.size 9 (some ⟨wS.heap.size, 0, none⟩) 0 0 [] := World.ownsRow_made (e := 9) (size := 1) wS #[] 0 (Nat.le_refl _) (Nat.zero_le _) rfl
        have hb0 := below_alloc wS (.cells #[] 9)
        have hrt := (hoS.keepB hb0).rd
        go_wp2_with (at_builtin; refine wpList_append_rd rfl _ _ 31 rfl i0 (.string .empty) 16 Tryd.underlying31 hi hz0 hz1 hz2 rfl rfl hown A' k c' (St qs) rfl hrt (St_one _) ?a1 ?a2 ?a3 ?_)
        case a1 => unfold maxLen; omega
        case a2 => omega
        case a3 => simp
        intro A5 c5 w5 ho5 hg5
        have hb5 : Below wS.heap.size wS w5 := hb0.trans (hg5.below (by simp) (fun k hk => (hown.lies k hk).1))
        have hs5 := hb5.size
        have hoG : Own w5 wS.heap.size 9 A5 k c5 (St qs) := by simpa using ho5
        have hoS5 := hoS.keepB hb5
        have hbw : Below w.heap.size w w5 := (hb1.trans (hbr.mono hs1)).trans (hb5.mono (Nat.le_trans hs1 hsS))
        have hsw := hbw.size
        have HP1 := Lib.hid (HPK.out A5 k c5 qs w5 hoG.rd HQX.out.1 (by omega))
        have hkl : ∀ j, blk A' = some j → j < wS.heap.size := fun j hj => (hoS.lies j hj).2
        have HKL := Lib.hid hkl
        have hw1S : w.heap.size ≤ wS.heap.size := Nat.le_trans hs1 hsS
        clear hkl hown hb0 hrt ho5 hg5 hoS hbr hb1 hb5
        go_wp2_with fail
        refine HP1.out.mono ?_
        rintro e w6 ⟨A6, c6, m6, M1, rfl, ho6, hs6, hm6, hb6⟩
        have HM1 := Lib.hid hm6; clear hm6 HP1
        have hoG6 := hoG.keepB hb6
        have hoS6 := hoS5.keepB hb6
        have HP2 := Lib.hid (HRP.out A' k c' qs w6 hoS6.rd HQX.out.1 HQX.out.2 (by omega))
        clear hoG hoS5
        go_wp2_with fail
        refine HP2.out.mono ?_
        rintro e w7 ⟨A7, c7, m7, M2, rfl, ho7, hs7, hm7, hb7⟩
        have HM2 := Lib.hid hm7; clear hm7 HP2
        have HSAME := Lib.hid (Srt.same hs6 hs7 (fun x => (HM1.out x).trans (HM2.out x).symm))
        have hoA := ho6.keepB hb7
        have hoG7 := hoG6.keepB hb7
        have hoS7 := hoS6.keepB hb7
        have hb8 := (hbw.trans (hb6.mono hsw)).trans (hb7.mono (Nat.le_trans hsw hb6.size))
        have HL6 := Lib.hid hoA.lenS
        obtain rfl : m7 = m6 := by have h1 := ho7.lenS; have h2 := HL6.out; rw [HSAME.out] at h2; omega
        have hoB : Own w7 w6.heap.size 9 A7 m7 c7 (St M1) := by rw [HSAME.out]; exact ho7
        have hm7k : m7 ≤ maxLen := by exact hoA.capU
        have hs57 : wS.heap.size ≤ w7.heap.size := Nat.le_trans hs5 (Nat.le_trans hb6.size hb7.size)
        unfold maxLen at hm7k
        clear ho6 ho7 hoG6 hoS6 hb6 hb7 hbw hs6 hs7
        have hnn : ((m7 : Int) != (m7 : Int)) = false := by simp
        go_wp2
        go_loopw [53] (fun iv wr => ∃ (j q : Nat), iv = .int .i64 j ∧ j ≤ m7 ∧ wr = w7.drewN q) (fun iv _ => m7 - (intOf iv).toNat)
        case atStart => exact ⟨0, 0, rfl, by omega, rfl⟩
        case round =>
          obtain ⟨j, q, rfl, hj, rfl⟩ := hrel
          by_cases hlt : j < m7
          · obtain ⟨x, hx⟩ : ∃ x, M1[j]? = some x := ⟨_, List.getElem?_eq_getElem (by rw [HL6.out]; exact hlt)⟩
            obtain ⟨g6, cap6, hv6, _, hl6⟩ := World.ownsRow.form hoA (by omega)
            obtain rfl : A6 = some ⟨g6, 0, none⟩ := by injection hv6
            obtain ⟨g7, cap7, hv7, _, hl7⟩ := World.ownsRow.form hoB (by omega)
            obtain rfl : A7 = some ⟨g7, 0, none⟩ := by injection hv7
            have ca : (w7.drewN q).cell? ⟨g6, j, none⟩ = some (.string (strOfNums x)) := hoA.st_cell hx
            have cb : (w7.drewN q).cell? ⟨g7, j, none⟩ = some (.string (strOfNums x)) := hoB.st_cell hx
            have ca1 : w7.cell? ⟨g6, j, none⟩ = some (.string (strOfNums x)) := hoA.st_cell hx
            have cb1 : w7.cell? ⟨g7, j, none⟩ = some (.string (strOfNums x)) := hoB.st_cell hx
            have hq0 : (0 : Int) ≤ (j : Int) := by omega
            have hq1 : (j : Int) < (m7 : Int) := by omega
            generalize strOfNums x = SX at *
            have hee : (SX.toList == SX.toList) = true := by simp
            clear hv6 hv7 hx
            go_wp2
            go_quiet (fail)
            go_wp2
            go_roundw
            case rel => exact ⟨j + 1, _, by go_num, by omega, rfl⟩
            case measure => simp [intOf]; omega
          · have hoG8 : Own (w7.drewN q) wS.heap.size 9 A5 k c5 (St qs) := hoG7
            have hoS8 : Own (w7.drewN q) w1.heap.size 9 A' k c' (St qs) := hoS7
            have hb9 : Below w.heap.size w (w7.drewN q) := below_n hb8 q
            have hs9 := hb9.size
            have hs59 : wS.heap.size ≤ (w7.drewN q).heap.size := hs57
            clear hoA hoB hoG7 hoS7 hb8 HL6 HSAME HM1 HM2 hnn
            generalize w7.drewN q = w8 at *
            rcases Nat.eq_zero_or_pos k with hk0 | hk0
            · subst hk0
              have HQ0 := Lib.hid (List.eq_nil_of_length_eq_zero HQL.out)
              have HP3 := Lib.hid (HRS.out A' 0 c' qs w8 hoS8.rd HQX.out.1 HQX.out.2 (by omega))
              go_wp2_with fail
              refine (latest_none A5 c5 _).mono ?_
              rintro e w9 ⟨rfl, rfl⟩
              go_wp2_with fail
              refine HP3.out.mono ?_
              rintro e w10 ⟨A10, c10, m10, M3, rfl, ho10, hs10, hm10, hb10⟩
              obtain rfl : m10 = 0 := by
                have h1 := ho10.lenS
                rcases List.eq_nil_or_concat M3 with h | ⟨L, x, h⟩
                · rw [h] at h1; simpa using h1.symm
                · exfalso
                  have h2 := (hm10 x).1 (by rw [h]; simp)
                  rw [HQ0.out] at h2; cases h2
              have hb11 := hb9.trans (hb10.mono hs9)
              clear ho10 hs10 hm10 hb10 HP3
              go_wp2
              go_loopw [75] (fun iv wr => ∃ (q : Nat), iv = .int .i64 0 ∧ wr = w10.drewN q) (fun iv _ => 0)
              case atStart => exact ⟨0, rfl, rfl⟩
              case round =>
                obtain ⟨q, rfl, rfl⟩ := hrel
                have hb12 := below_n hb11 q
                go_wp2
                go_ret
                exact ⟨rfl, hb12⟩
            · obtain ⟨g5, cap5, hv5, hgb5, hl5⟩ := World.ownsRow.form hoG8 (by omega)
              obtain rfl : A5 = some ⟨g5, 0, none⟩ := by injection hv5
              obtain ⟨g1, cap1, hv1, hgb1, hl1⟩ := World.ownsRow.form hoS8 (by omega)
              obtain rfl : A' = some ⟨g1, 0, none⟩ := by injection hv1
              have hg1S := HKL.out g1 rfl
              have HLA := Lib.hid (latest_any g5 k c5 wS.heap.size qs w8 hoG8 HQX.out.1 hk0 (by omega))
              clear hv5 hv1
              go_wp2_with fail
              refine HLA.out.mono ?_
              rintro e w9 ⟨x, rfl, hx, hmx, ho9, hb10, hg10⟩
              have hoS9 : Own w9 w1.heap.size 9 (some ⟨g1, 0, none⟩) k c' (St qs) := hoS8.below hb10 (fun j hj => by simp only [blk, Option.map_some, Option.some.injEq] at hj; omega)
              have HXM := Lib.hid (And.intro hx hmx)
              have hb11 := hb9.trans (hb10.mono hw1S)
              have hs11 := hb11.size
              have HP3 := Lib.hid (HRS.out (some ⟨g1, 0, none⟩) k c' qs w9 hoS9.rd HQX.out.1 HQX.out.2 (by omega))
              clear hx hmx hg10 hb10 hoS8 hoG8 HLA
              go_wp2_with fail
              refine HP3.out.mono ?_
              rintro e w10 ⟨A10, c10, m10, M3, rfl, ho10, hs10, hm10, hb12⟩
              have HM3 := Lib.hid hm10; clear hm10 HP3
              have HL10 := Lib.hid ho10.lenS
              have hoS10 := hoS9.keepB hb12
              have hoG10 := ho9.keepB hb12
              have hb13 := hb11.trans (hb12.mono hs11)
              have hm10k : m10 ≤ maxLen := by exact ho10.capU
              unfold maxLen at hm10k
              have hm0' : 0 < m10 := by
                rcases Nat.eq_zero_or_pos m10 with h | h
                · exfalso
                  have h1 := (HM3.out x).2 HXM.out.1
                  rw [show M3 = [] from List.eq_nil_of_length_eq_zero (by rw [HL10.out, h])] at h1
                  cases h1
                · exact h
              obtain ⟨mm, hmm⟩ : ∃ mm, m10 = mm + 1 := ⟨m10 - 1, by omega⟩
              subst hmm
              obtain ⟨z, hz⟩ : ∃ z, M3[mm]? = some z := ⟨_, List.getElem?_eq_getElem (by rw [HL10.out]; omega)⟩
              obtain ⟨g10, cap10, hv10, _, hl10⟩ := World.ownsRow.form ho10 (by omega)
              obtain rfl : A10 = some ⟨g10, 0, none⟩ := by injection hv10
              have HXZ := Lib.hid (srt_max hs10 HL10.out hz ((HM3.out x).2 HXM.out.1) (fun v hv => HXM.out.2 v ((HM3.out v).1 hv)))
              have cz := ho10.st_cell hz
              rw [HXZ.out]
              generalize strOfNums z = SZ at *
              have HSZ := Lib.hid (show (SZ.toList == SZ.toList) = true by simp)
              clear hv10 hz ho10 hoS9 ho9 hb11 hb12 hb9
              go_wp2
              go_loopw [75] (fun iv wr => ∃ (j q : Nat), iv = .int .i64 j ∧ j ≤ k ∧ wr = w10.drewN q) (fun iv _ => k - (intOf iv).toNat)
              case atStart => exact ⟨0, 0, rfl, by omega, rfl⟩
              case round =>
                obtain ⟨j, q, rfl, hj, rfl⟩ := hrel
                by_cases hlt : j < k
                · obtain ⟨y, hy⟩ : ∃ y, qs[j]? = some y := ⟨_, List.getElem?_eq_getElem (by rw [HQL.out]; exact hlt)⟩
                  have ca : (w10.drewN q).cell? ⟨g5, j, none⟩ = some (.string (strOfNums y)) := hoG10.st_cell hy
                  have cb : (w10.drewN q).cell? ⟨g1, j, none⟩ = some (.string (strOfNums y)) := hoS10.st_cell hy
                  have ca1 : w10.cell? ⟨g5, j, none⟩ = some (.string (strOfNums y)) := hoG10.st_cell hy
                  have cb1 : w10.cell? ⟨g1, j, none⟩ = some (.string (strOfNums y)) := hoS10.st_cell hy
                  have hq0 : (0 : Int) ≤ (j : Int) := by omega
                  have hq1 : (j : Int) < (k : Int) := by omega
                  generalize strOfNums y = SX at *
                  have hee : (SX.toList == SX.toList) = true := by simp
                  clear hy
                  go_wp2
                  go_quiet (fail)
                  go_wp2
                  go_roundw
                  case rel => exact ⟨j + 1, _, by go_num, by omega, rfl⟩
                  case measure => simp [intOf]; omega
                · have hb14 := below_n hb13 q
                  have hee := HSZ.out
                  have cz2 : (w10.drewN q).cell? ⟨g10, mm, none⟩ = some (.string SZ) := cz
                  have hd0 : decide ((0 : Int) < (mm : Int) + 1) = true := decide_eq_true (by omega)
                  have hd1 : ((mm : Int) + 1 == 0) = false := by simp; omega
                  have hz0' : (0 : Int) ≤ (mm : Int) := by omega
                  clear hoG10 hoS10 hb13
                  go_wp2
                  go_ret
                  exact ⟨rfl, hb14⟩
  · have hd60 : decide ((60 : Int) < (n : Int)) = false := by simp; omega
    obtain ⟨N, hN⟩ : ∃ N : Nat, N = n := ⟨_, rfl⟩
    have hNn : N ≤ n := by omega
    have hN60 : N ≤ 60 := by omega
    subst hN
    have HQL := Lib.hid (show ((ns.take N).map (·.take 60)).length = N by rw [List.length_map, List.length_take, HNL.out]; omega)
    have HQX : Hid (Tx ((ns.take N).map (·.take 60)) ∧ ∀ l ∈ (ns.take N).map (·.take 60), l.length ≤ 60) := by
      refine ⟨fun l hl => ?_, fun l hl => ?_⟩
      · obtain ⟨x, hx, rfl⟩ := List.mem_map.1 hl
        have := HTX.out x (List.mem_of_mem_take hx)
        exact ⟨this.1.sub fun y hy => List.mem_of_mem_take hy, by rw [List.length_take]; omega⟩
      · obtain ⟨x, hx, rfl⟩ := List.mem_map.1 hl
        rw [List.length_take]; omega
    have HQG : Hid (∀ k l, ns[k]? = some l → k < N → ((ns.take N).map (·.take 60)).take (k + 1) = ((ns.take N).map (·.take 60)).take k ++ [l.take 60]) := fun k l hl hk => by
      rw [List.take_add_one, List.getElem?_map, List.getElem?_take, if_pos hk, hl]; rfl
    generalize (ns.take N).map (·.take 60) = qs at *
    go_wp2_with fail
    refine (HCP.out _).mono ?_
    rintro e w0 ⟨rfl, rfl⟩
    go_wp2
    go_loopw [5, 27] (fun ov iv wr => ∃ (k c' : Nat) (A' : Option Addr), ov = .slice A' k c' ∧ iv = .int .i64 k ∧ k ≤ N ∧ Own wr w1.heap.size 9 A' k c' (St (qs.take k)) ∧ Below w1.heap.size w1 wr) (fun _ iv _ => N - (intOf iv).toNat)
    case atStart => exact ⟨0, 0, none, rfl, rfl, by omega, Own.nil_, Below.refl _ _⟩
    case round =>
      obtain ⟨k, c', A', rfl, rfl, hk, ho, hbr⟩ := hrel
      by_cases hlt : k < N
      · obtain ⟨b, off, l, rfl, hcl, HX⟩ := (hrd1.keep hbr).st_at (show k < _ by omega)
        have HLT := Lib.hid (HTX.out l (List.mem_of_getElem? HX.out))
        have HCU := Lib.hid (fun W => cut_wide l 60 W HLT.out.2 (by omega))
        have HF := Lib.hid (HQG.out k l HX.out hlt)
        obtain ⟨SL, hSL⟩ : ∃ SL, SL = strOfNums (l.take 60) := ⟨_, rfl⟩
        rw [← hSL] at HCU
        have HSL := Lib.hid hSL; clear hSL
        generalize strOfNums l = S1 at *
        have hs := hbr.size
        go_wp2_with fail
        refine (HCU.out _).mono ?_
        rintro e w2 ⟨rfl, rfl⟩
        have ho2 := ho.alloc (.cells #[.string SL] 9)
        have hb2 := hbr.trans ((below_alloc wr (.cells #[.string SL] 9)).mono hs)
        clear ho hbr
        go_wp2_with (at_builtin; refine wpList_append_rd rfl _ _ 31 rfl i0 (.string .empty) 16 Tryd.underlying31 hi hz0 hz1 hz2 rfl rfl ho2 (some ⟨wr.heap.size, 0, none⟩) 1 1 [.string SL] rfl (rd_oneS wr _ 9) (fun u hu => by rw [List.mem_singleton.1 hu]; rfl) ?c1 ?c2 ?c3 ?_)
        case c1 => unfold maxLen; omega
        case c2 => omega
        case c3 => simp; omega
        intro A4 c4 w4 ho4 hg4
        have hb4 := hb2.trans (hg4.below (B := w1.heap.size) (by simp; omega) (fun j hj => (ho2.lies j hj).1))
        have ho5 : Own w4 w1.heap.size 9 A4 (k + 1) c4 (St (qs.take (k + 1))) := by
          rw [HF.out, St_append]
          have e1 : St [l.take 60] = [.string SL] := by rw [HSL.out]; rfl
          rw [e1]; exact ho4
        clear ho2 ho4 hb2 hg4
        go_wp2
        go_roundw
        case rel => exact ⟨k + 1, c4, A4, rfl, by go_num, by omega, ho5, hb4⟩
        case measure => simp [intOf]; omega
      · obtain rfl : k = N := by omega
        have hoS : Own wr w1.heap.size 9 A' k c' (St qs) := by
          have := ho
          rwa [List.take_of_length_le (by rw [HQL.out]; exact Nat.le_refl _)] at this
        have hsS := hbr.size
        clear ho hlt hrd1
        rename World => wS
        have hown : Own (wS.alloc (.cells #[] 9)) wS.heap.size 9 (some ⟨wS.heap.size, 0, none⟩) 0 0 [] := World.ownsRow_made (e := 9) (size := 1) wS #[] 0 (Nat.le_refl _) (Nat.zero_le _) rfl
        have hb0 := below_alloc wS (.cells #[] 9)
        have hrt := (hoS.keepB hb0).rd
        go_wp2_with (at_builtin; refine wpList_append_rd rfl _ _ 31 rfl i0 (.string .empty) 16 Tryd.underlying31 hi hz0 hz1 hz2 rfl rfl hown A' k c' (St qs) rfl hrt (St_one _) ?a1 ?a2 ?a3 ?_)
        case a1 => unfold maxLen; omega
        case a2 => omega
        case a3 => simp
        intro A5 c5 w5 ho5 hg5
        have hb5 : Below wS.heap.size wS w5 := hb0.trans (hg5.below (by simp) (fun k hk => (hown.lies k hk).1))
        have hs5 := hb5.size
        have hoG : Own w5 wS.heap.size 9 A5 k c5 (St qs) := by simpa using ho5
        have hoS5 := hoS.keepB hb5
        have hbw : Below w.heap.size w w5 := (hb1.trans (hbr.mono hs1)).trans (hb5.mono (Nat.le_trans hs1 hsS))
        have hsw := hbw.size
        have HP1 := Lib.hid (HPK.out A5 k c5 qs w5 hoG.rd HQX.out.1 (by omega))
        have hkl : ∀ j, blk A' = some j → j < wS.heap.size := fun j hj => (hoS.lies j hj).2
        have HKL := Lib.hid hkl
        have hw1S : w.heap.size ≤ wS.heap.size := Nat.le_trans hs1 hsS
        clear hkl hown hb0 hrt ho5 hg5 hoS hbr hb1 hb5
        go_wp2_with fail
        refine HP1.out.mono ?_
        rintro e w6 ⟨A6, c6, m6, M1, rfl, ho6, hs6, hm6, hb6⟩
        have HM1 := Lib.hid hm6; clear hm6 HP1
        have hoG6 := hoG.keepB hb6
        have hoS6 := hoS5.keepB hb6
        have HP2 := Lib.hid (HRP.out A' k c' qs w6 hoS6.rd HQX.out.1 HQX.out.2 (by omega))
        clear hoG hoS5
        go_wp2_with fail
        refine HP2.out.mono ?_
        rintro e w7 ⟨A7, c7, m7, M2, rfl, ho7, hs7, hm7, hb7⟩
        have HM2 := Lib.hid hm7; clear hm7 HP2
        have HSAME := Lib.hid (Srt.same hs6 hs7 (fun x => (HM1.out x).trans (HM2.out x).symm))
        have hoA := ho6.keepB hb7
        have hoG7 := hoG6.keepB hb7
        have hoS7 := hoS6.keepB hb7
        have hb8 := (hbw.trans (hb6.mono hsw)).trans (hb7.mono (Nat.le_trans hsw hb6.size))
        have HL6 := Lib.hid hoA.lenS
        obtain rfl : m7 = m6 := by have h1 := ho7.lenS; have h2 := HL6.out; rw [HSAME.out] at h2; omega
        have hoB : Own w7 w6.heap.size 9 A7 m7 c7 (St M1) := by rw [HSAME.out]; exact ho7
        have hm7k : m7 ≤ maxLen := by exact hoA.capU
        have hs57 : wS.heap.size ≤ w7.heap.size := Nat.le_trans hs5 (Nat.le_trans hb6.size hb7.size)
        unfold maxLen at hm7k
        clear ho6 ho7 hoG6 hoS6 hb6 hb7 hbw hs6 hs7
        have hnn : ((m7 : Int) != (m7 : Int)) = false := by simp
        go_wp2
        go_loopw [53] (fun iv wr => ∃ (j q : Nat), iv = .int .i64 j ∧ j ≤ m7 ∧ wr = w7.drewN q) (fun iv _ => m7 - (intOf iv).toNat)
        case atStart => exact ⟨0, 0, rfl, by omega, rfl⟩
        case round =>
          obtain ⟨j, q, rfl, hj, rfl⟩ := hrel
          by_cases hlt : j < m7
          · obtain ⟨x, hx⟩ : ∃ x, M1[j]? = some x := ⟨_, List.getElem?_eq_getElem (by rw [HL6.out]; exact hlt)⟩
            obtain ⟨g6, cap6, hv6, _, hl6⟩ := World.ownsRow.form hoA (by omega)
            obtain rfl : A6 = some ⟨g6, 0, none⟩ := by injection hv6
            obtain ⟨g7, cap7, hv7, _, hl7⟩ := World.ownsRow.form hoB (by omega)
            obtain rfl : A7 = some ⟨g7, 0, none⟩ := by injection hv7
            have ca : (w7.drewN q).cell? ⟨g6, j, none⟩ = some (.string (strOfNums x)) := hoA.st_cell hx
            have cb : (w7.drewN q).cell? ⟨g7, j, none⟩ = some (.string (strOfNums x)) := hoB.st_cell hx
            have ca1 : w7.cell? ⟨g6, j, none⟩ = some (.string (strOfNums x)) := hoA.st_cell hx
            have cb1 : w7.cell? ⟨g7, j, none⟩ = some (.string (strOfNums x)) := hoB.st_cell hx
            have hq0 : (0 : Int) ≤ (j : Int) := by omega
            have hq1 : (j : Int) < (m7 : Int) := by omega
            generalize strOfNums x = SX at *
            have hee : (SX.toList == SX.toList) = true := by simp
            clear hv6 hv7 hx
            go_wp2
            go_quiet (fail)
            go_wp2
            go_roundw
            case rel => exact ⟨j + 1, _, by go_num, by omega, rfl⟩
            case measure => simp [intOf]; omega
          · have hoG8 : Own (w7.drewN q) wS.heap.size 9 A5 k c5 (St qs) := hoG7
            have hoS8 : Own (w7.drewN q) w1.heap.size 9 A' k c' (St qs) := hoS7
            have hb9 : Below w.heap.size w (w7.drewN q) := below_n hb8 q
            have hs9 := hb9.size
            have hs59 : wS.heap.size ≤ (w7.drewN q).heap.size := hs57
            clear hoA hoB hoG7 hoS7 hb8 HL6 HSAME HM1 HM2 hnn
            generalize w7.drewN q = w8 at *
            rcases Nat.eq_zero_or_pos k with hk0 | hk0
            · subst hk0
              have HQ0 := Lib.hid (List.eq_nil_of_length_eq_zero HQL.out)
              have HP3 := Lib.hid (HRS.out A' 0 c' qs w8 hoS8.rd HQX.out.1 HQX.out.2 (by omega))
              go_wp2_with fail
              refine (latest_none A5 c5 _).mono ?_
              rintro e w9 ⟨rfl, rfl⟩
              go_wp2_with fail
              refine HP3.out.mono ?_
              rintro e w10 ⟨A10, c10, m10, M3, rfl, ho10, hs10, hm10, hb10⟩
              obtain rfl : m10 = 0 := by
                have h1 := ho10.lenS
                rcases List.eq_nil_or_concat M3 with h | ⟨L, x, h⟩
                · rw [h] at h1; simpa using h1.symm
                · exfalso
                  have h2 := (hm10 x).1 (by rw [h]; simp)
                  rw [HQ0.out] at h2; cases h2
              have hb11 := hb9.trans (hb10.mono hs9)
              clear ho10 hs10 hm10 hb10 HP3
              go_wp2
              go_loopw [75] (fun iv wr => ∃ (q : Nat), iv = .int .i64 0 ∧ wr = w10.drewN q) (fun iv _ => 0)
              case atStart => exact ⟨0, rfl, rfl⟩
              case round =>
                obtain ⟨q, rfl, rfl⟩ := hrel
                have hb12 := below_n hb11 q
                go_wp2
                go_ret
                exact ⟨rfl, hb12⟩
            · obtain ⟨g5, cap5, hv5, hgb5, hl5⟩ := World.ownsRow.form hoG8 (by omega)
              obtain rfl : A5 = some ⟨g5, 0, none⟩ := by injection hv5
              obtain ⟨g1, cap1, hv1, hgb1, hl1⟩ := World.ownsRow.form hoS8 (by omega)
              obtain rfl : A' = some ⟨g1, 0, none⟩ := by injection hv1
              have hg1S := HKL.out g1 rfl
              have HLA := Lib.hid (latest_any g5 k c5 wS.heap.size qs w8 hoG8 HQX.out.1 hk0 (by omega))
              clear hv5 hv1
              go_wp2_with fail
              refine HLA.out.mono ?_
              rintro e w9 ⟨x, rfl, hx, hmx, ho9, hb10, hg10⟩
              have hoS9 : Own w9 w1.heap.size 9 (some ⟨g1, 0, none⟩) k c' (St qs) := hoS8.below hb10 (fun j hj => by simp only [blk, Option.map_some, Option.some.injEq] at hj; omega)
              have HXM := Lib.hid (And.intro hx hmx)
              have hb11 := hb9.trans (hb10.mono hw1S)
              have hs11 := hb11.size
              have HP3 := Lib.hid (HRS.out (some ⟨g1, 0, none⟩) k c' qs w9 hoS9.rd HQX.out.1 HQX.out.2 (by omega))
              clear hx hmx hg10 hb10 hoS8 hoG8 HLA
              go_wp2_with fail
              refine HP3.out.mono ?_
              rintro e w10 ⟨A10, c10, m10, M3, rfl, ho10, hs10, hm10, hb12⟩
              have HM3 := Lib.hid hm10; clear hm10 HP3
              have HL10 := Lib.hid ho10.lenS
              have hoS10 := hoS9.keepB hb12
              have hoG10 := ho9.keepB hb12
              have hb13 := hb11.trans (hb12.mono hs11)
              have hm10k : m10 ≤ maxLen := by exact ho10.capU
              unfold maxLen at hm10k
              have hm0' : 0 < m10 := by
                rcases Nat.eq_zero_or_pos m10 with h | h
                · exfalso
                  have h1 := (HM3.out x).2 HXM.out.1
                  rw [show M3 = [] from List.eq_nil_of_length_eq_zero (by rw [HL10.out, h])] at h1
                  cases h1
                · exact h
              obtain ⟨mm, hmm⟩ : ∃ mm, m10 = mm + 1 := ⟨m10 - 1, by omega⟩
              subst hmm
              obtain ⟨z, hz⟩ : ∃ z, M3[mm]? = some z := ⟨_, List.getElem?_eq_getElem (by rw [HL10.out]; omega)⟩
              obtain ⟨g10, cap10, hv10, _, hl10⟩ := World.ownsRow.form ho10 (by omega)
              obtain rfl : A10 = some ⟨g10, 0, none⟩ := by injection hv10
              have HXZ := Lib.hid (srt_max hs10 HL10.out hz ((HM3.out x).2 HXM.out.1) (fun v hv => HXM.out.2 v ((HM3.out v).1 hv)))
              have cz := ho10.st_cell hz
              rw [HXZ.out]
              generalize strOfNums z = SZ at *
              have HSZ := Lib.hid (show (SZ.toList == SZ.toList) = true by simp)
              clear hv10 hz ho10 hoS9 ho9 hb11 hb12 hb9
              go_wp2
              go_loopw [75] (fun iv wr => ∃ (j q : Nat), iv = .int .i64 j ∧ j ≤ k ∧ wr = w10.drewN q) (fun iv _ => k - (intOf iv).toNat)
              case atStart => exact ⟨0, 0, rfl, by omega, rfl⟩
              case round =>
                obtain ⟨j, q, rfl, hj, rfl⟩ := hrel
                by_cases hlt : j < k
                · obtain ⟨y, hy⟩ : ∃ y, qs[j]? = some y := ⟨_, List.getElem?_eq_getElem (by rw [HQL.out]; exact hlt)⟩
                  have ca : (w10.drewN q).cell? ⟨g5, j, none⟩ = some (.string (strOfNums y)) := hoG10.st_cell hy
                  have cb : (w10.drewN q).cell? ⟨g1, j, none⟩ = some (.string (strOfNums y)) := hoS10.st_cell hy
                  have ca1 : w10.cell? ⟨g5, j, none⟩ = some (.string (strOfNums y)) := hoG10.st_cell hy
                  have cb1 : w10.cell? ⟨g1, j, none⟩ = some (.string (strOfNums y)) := hoS10.st_cell hy
                  have hq0 : (0 : Int) ≤ (j : Int) := by omega
                  have hq1 : (j : Int) < (k : Int) := by omega
                  generalize strOfNums y = SX at *
                  have hee : (SX.toList == SX.toList) = true := by simp
                  clear hy
                  go_wp2
                  go_quiet (fail)
                  go_wp2
                  go_roundw
                  case rel => exact ⟨j + 1, _, by go_num, by omega, rfl⟩
                  case measure => simp [intOf]; omega
                · have hb14 := below_n hb13 q
                  have hee := HSZ.out
                  have cz2 : (w10.drewN q).cell? ⟨g10, mm, none⟩ = some (.string SZ) := cz
                  have hd0 : decide ((0 : Int) < (mm : Int) + 1) = true := decide_eq_true (by omega)
                  have hd1 : ((mm : Int) + 1 == 0) = false := by simp; omega
                  have hz0' : (0 : Int) ≤ (mm : Int) := by omega
                  clear hoG10 hoS10 hb13
                  go_wp2
                  go_ret
                  exact ⟨rfl, hb14⟩
end Go.Proofs.YtdlbghjclcdfmaaDoor
