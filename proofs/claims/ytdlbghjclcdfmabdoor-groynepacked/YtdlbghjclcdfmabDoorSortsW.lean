/- LabelSorts: the walk. -/
import Derived.Test.YtdlbghjclcdfmabDoorLatestW
import Derived.Test.YtdlbghjclcdfmabDoorStrI
import Derived.Test.YtdlbghjclcdfmabDoorAwake3
import Derived.Deep.RegionLaw
import Derived.Deep.QuietTactic
import Derived.BigQuiet
import Derived.BigRegion
namespace Go.Proofs.YtdlbghjclcdfmabDoor
set_option linter.unusedVariables false
set_option linter.unusedSimpArgs false
open Go.RowKit

theorem Own.st_cell {w : World} {base g n c k : Nat} {e : TypeId} {L : List (List Int)} {l : List Int} (h : Own w base e (some ⟨g, 0, none⟩) n c (St L)) (hx : L[k]? = some l) : w.cell? ⟨g, k, none⟩ = some (.string (strOfNums l)) := by
  have hl := h.lenS
  have hk : k < n := by have := (List.getElem?_eq_some_iff.1 hx).1; omega
  rw [World.ownsRow.cellAt h k (by omega)]
  simp [St, hx]
theorem Own.keepB {w w' : World} {base n c : Nat} {A : Option Addr} {e : TypeId} {vs : List Value} (h : Own w base e A n c vs) (hb : Below w.heap.size w w') : Own w' base e A n c vs := h.below hb (fun k hk => (h.lies k hk).2)
theorem Own.capU {w : World} {base n c : Nat} {A : Option Addr} {e : TypeId} {vs : List Value} (h : Own w base e A n c vs) : n ≤ maxLen := by
  rcases h.2 with ⟨hv, h0⟩ | ⟨g', cap, cur, hv, _, _, hnc, hcm, _⟩
  · unfold maxLen; omega
  · omega
theorem wrapS (x : Int) (h0 : -9223372036854775808 ≤ x) (h1 : x ≤ 9223372036854775807) : IntKind.i64.wrap x = x := by
  simp [IntKind.wrap, IntKind.bits, IntKind.signed]
  omega
set_option maxRecDepth 100000 in
set_option maxHeartbeats 1000000 in
theorem cut_wide (l : List Int) (n : Nat) (w : World) (hl : l.length ≤ 9223372036854775807) (hn : n ≤ 140737488355328) :
    Calls Tryd.prog 7 #[.string (strOfNums l), .int .i64 n] w fun e w' => e = .returned (.string (strOfNums (l.take n))) ∧ w = w' := by
  have hsz : (strOfNums l).size = l.length := strOfNums_size l
  by_cases h : n < l.length
  · have hf := str_to (P := Tryd.prog) 9 Tryd.underlying9 l n (by omega)
    generalize strOfNums l = s at *
    generalize strOfNums (l.take n) = s2 at *
    generalize l.length = m at *
    go_enter Tryd.func7, Tryd.ntmps7
    go_wp2
    go_ret
    exact ⟨rfl, rfl⟩
  · rw [List.take_of_length_le (by omega)]
    generalize strOfNums l = s at *
    generalize l.length = m at *
    go_enter Tryd.func7, Tryd.ntmps7
    go_wp2
    go_ret
    exact ⟨rfl, rfl⟩
theorem rd_two (w : World) (u v : Value) (t : TypeId) : Own (w.alloc (.cells #[u, v] t)) w.heap.size t (some ⟨w.heap.size, 0, none⟩) 2 2 [u, v] :=
  Own.of_block (vs := [u, v]) (heap_alloc_new w _) (Nat.le_refl _) rfl (by unfold maxLen; omega)
theorem srt_step {M : List (List Int)} {i : Nat} {x y : List Int} (h : Srt M) (hx : M[i]? = some x) (hy : M[i + 1]? = some y) : cmpS x y = -1 := by
  obtain ⟨h1, rfl⟩ := List.getElem?_eq_some_iff.1 hx
  obtain ⟨h2, rfl⟩ := List.getElem?_eq_some_iff.1 hy
  have := List.pairwise_iff_getElem.1 h i (i + 1) h1 h2 (by omega)
  have := cmpS_range M[i] M[i + 1]
  omega
theorem srt_max {M : List (List Int)} {x y : List Int} {n : Nat} (h : Srt M) (hn : M.length = n + 1) (hx : M[n]? = some x) (hy : y ∈ M) (hm : ∀ z ∈ M, cmpS z y ≤ 0) : y = x := by
  obtain ⟨h1, rfl⟩ := List.getElem?_eq_some_iff.1 hx
  obtain ⟨i, hi, rfl⟩ := List.getElem_of_mem hy
  by_cases e : i = n
  · subst e; rfl
  · exfalso
    have a1 := List.pairwise_iff_getElem.1 h i n hi h1 (by omega)
    have a2 := hm M[n] (List.getElem_mem h1)
    have := cmpS_swap M[i] M[n]
    omega
theorem elem22 : Tryd.prog.underlying 22 = some (.slice (Tryd.prog.elem 22)) := by kernel_rfl
theorem elem22' : Tryd.prog.elem 22 = 9 := by kernel_rfl
theorem addz (A : Option Addr) : A.map (fun x => x.add 0) = A := by
  cases A with
  | none => rfl
  | some a => simp only [Option.map_some, Option.some.injEq]; unfold Addr.add; simp
theorem slice_h22 (A : Option Addr) (n c h : Nat) (i : Int) (hi : i = (h : Int)) (hh : h ≤ c) (W : World) :
    (Instr.slice 22 (.slice A n c) none (some (.int .i64 i)) none).run Tryd.prog W = .ok (.slice A h c) W := by
  subst hi
  rw [run_slice_h (P := Tryd.prog) W 22 A n c elem22 .i64 h (by omega) (by omega), elem22', Tryd.sizeOf9]
  simp only [sliced, Result.andThen, Nat.zero_mul, addz, ite_self, Int.toNat_natCast]; rfl
theorem tm_bounds (t : Int) (N : Nat) (h : 0 < N) : -(N : Int) < t.tmod N ∧ t.tmod N < N := by
  have h1 := Int.tmod_lt_of_pos t (show (0 : Int) < (N : Int) by omega)
  have h2 := Int.lt_tmod_of_pos t (show (0 : Int) < (N : Int) by omega)
  omega
theorem tm_nat (i N : Nat) (T : Int) (h0 : -(N : Int) < T) (h1 : T < N) (hi : i < N) : ∃ kk : Nat, ((i : Int) + T + (N : Int)).tmod (N : Int) = (kk : Int) ∧ kk < N := by
  have hp : 0 ≤ (i : Int) + T + (N : Int) := by omega
  rw [Int.tmod_eq_emod_of_nonneg hp]
  have hN : (0 : Int) < (N : Int) := by omega
  have a := Int.emod_nonneg ((i : Int) + T + (N : Int)) (show (N : Int) ≠ 0 by omega)
  have b := Int.emod_lt_of_pos ((i : Int) + T + (N : Int)) hN
  exact ⟨(((i : Int) + T + (N : Int)) % (N : Int)).toNat, by omega, by omega⟩

set_option maxRecDepth 100000 in
set_option maxHeartbeats 4000000 in
theorem sorts_walk (A : Option Addr) (n c : Nat) (ns : List (List Int)) (t : Int) (w : World) (hrd : Rd w A n (St ns)) (htx : ∀ l ∈ ns, Ran l ∧ l.length ≤ 9223372036854775807) (hcap : n ≤ c) (ht0 : -9223372036854775808 ≤ t) (ht1 : t ≤ 9223372036854775807) (hnm : n ≤ 9223372036854775807) :
    Calls Tryd.prog 3 #[.slice A n c, .int .i64 t] w fun e w' => e = .returned (.bool true) ∧ Below w.heap.size w w' := by
  obtain ⟨i0, hi, hz0, hz1, hz2⟩ := info9_parts
  have h42 : Ran [42] := fun x hx => by obtain rfl := List.mem_singleton.1 hx; omega
  have hst : strOfNums [42] = ⟨#[42]⟩ := rfl
  have HPK : Hid (∀ (A : Option Addr) (m c : Nat) (L : List (List Int)) (W : World), Rd W A m (St L) → Tx L → m ≤ 1000000 → Calls Tryd.prog 8 #[.string ⟨#[42]⟩, .slice A m c] W fun e w' => ∃ (A' : Option Addr) (c' m' : Nat) (M : List (List Int)), e = .returned (.slice A' m' c') ∧ Own w' W.heap.size 9 A' m' c' (St M) ∧ Srt M ∧ (∀ x, x ∈ M ↔ x ∈ L) ∧ Below W.heap.size W w') := fun A m c L W h1 h2 h3 => by
    have := pick_any [42] A m c L W h42 (by simp) h1 h2 h3
    rw [hst] at this
    refine this.mono fun e w' ⟨A', c', m', M, a1, a2, a3, a4, a5⟩ => ⟨A', c', m', M, a1, a2, a3, fun x => ?_, a5⟩
    rw [a4]
    constructor
    · exact fun h => h.1
    · exact fun h => ⟨h, mt_one x⟩
  clear h42 hst
  have HTX := Lib.hid htx; clear htx
  have HNL := Lib.hid hrd.lenS
  go_enter Tryd.func3, Tryd.ntmps3
  go_wp2_with fail
  refine (awake_any w).mono ?_
  rintro e w1 ⟨rfl, hb1⟩
  have hs1 := hb1.size
  have hrd1 := hrd.keep hb1
  clear hrd
  by_cases h40 : 40 < n
  · have hd40 : decide ((40 : Int) < (n : Int)) = true := by simp; omega
    obtain ⟨N, hN⟩ : ∃ N : Nat, N = 40 := ⟨_, rfl⟩
    have hsl : ∀ W, (Instr.slice 22 (.slice A n c) none (some (.int .i64 40)) none).run Tryd.prog W = .ok (.slice A N c) W := by
      intro W
      rw [hN]
      exact slice_h22 A n c 40 40 rfl (by omega) W
    have hNn : N ≤ n := by omega
    have hN40 : N ≤ 40 := by omega
    clear hN
    have HQL := Lib.hid (show ((ns.take N).map (·.take 60)).length = N by rw [List.length_map, List.length_take, HNL.out]; omega)
    have HQX : Hid (Tx ((ns.take N).map (·.take 60)) ∧ ∀ l ∈ (ns.take N).map (·.take 60), l.length ≤ 60) := by
      refine ⟨fun l hl => ?_, fun l hl => ?_⟩
      · obtain ⟨x, hx, rfl⟩ := List.mem_map.1 hl
        have := HTX.out x (List.mem_of_mem_take hx)
        exact ⟨this.1.sub fun y hy => List.mem_of_mem_take hy, by rw [List.length_take]; omega⟩
      · obtain ⟨x, hx, rfl⟩ := List.mem_map.1 hl
        rw [List.length_take]; omega
    have HQG : Hid (∀ k l, ns[k]? = some l → k < N → ((ns.take N).map (·.take 60)).take (k + 1) = ((ns.take N).map (·.take 60)).take k ++ [l.take 60]) := fun k l hl hk => by
      rw [List.take_add_one, List.getElem?_map, List.getElem?_take, if_pos hk, hl]; rfl
    generalize (ns.take N).map (·.take 60) = qs at *
    go_wp2
    go_loopw [5, 25] (fun ov iv wr => ∃ (k c' : Nat) (A' : Option Addr), ov = .slice A' k c' ∧ iv = .int .i64 k ∧ k ≤ N ∧ Own wr w1.heap.size 9 A' k c' (St (qs.take k)) ∧ Below w1.heap.size w1 wr) (fun _ iv _ => N - (intOf iv).toNat)
    case atStart => exact ⟨0, 0, none, rfl, rfl, by omega, Own.nil_, Below.refl _ _⟩
    case round =>
      obtain ⟨k, c', A', rfl, rfl, hk, ho, hbr⟩ := hrel
      by_cases hlt : k < N
      · obtain ⟨b, off, l, rfl, hcl, HX⟩ := (hrd1.keep hbr).st_at (show k < _ by omega)
        have HLT := Lib.hid (HTX.out l (List.mem_of_getElem? HX.out))
        have HCU := Lib.hid (fun W => cut_wide l 60 W HLT.out.2 (by omega))
        have HF := Lib.hid (HQG.out k l HX.out hlt)
        obtain ⟨SL, hSL⟩ : ∃ SL, SL = strOfNums (l.take 60) := ⟨_, rfl⟩
        rw [← hSL] at HCU
        have HSL := Lib.hid hSL; clear hSL
        generalize strOfNums l = S0 at *
        have hs := hbr.size
        go_wp2_with fail
        refine (HCU.out _).mono ?_
        rintro e w2 ⟨rfl, rfl⟩
        have ho2 := ho.alloc (.cells #[.string SL] 9)
        have hb2 := hbr.trans ((below_alloc wr (.cells #[.string SL] 9)).mono hs)
        clear ho hbr
        go_wp2_with (at_builtin; refine wpList_append_rd rfl _ _ 22 rfl i0 (.string .empty) 16 Tryd.underlying22 hi hz0 hz1 hz2 rfl rfl ho2 (some ⟨wr.heap.size, 0, none⟩) 1 1 [.string SL] rfl (rd_oneS wr _ 9) (fun u hu => by rw [List.mem_singleton.1 hu]; rfl) ?c1 ?c2 ?c3 ?_)
        case c1 => unfold maxLen; omega
        case c2 => omega
        case c3 => simp; omega
        intro A4 c4 w4 ho4 hg4
        have hb4 := hb2.trans (hg4.below (B := w1.heap.size) (by simp; omega) (fun j hj => (ho2.lies j hj).1))
        have ho5 : Own w4 w1.heap.size 9 A4 (k + 1) c4 (St (qs.take (k + 1))) := by
          rw [HF.out, St_append]
          have e1 : St [l.take 60] = [.string SL] := by rw [HSL.out]; rfl
          rw [e1]; exact ho4
        clear ho2 ho4 hb2 hg4
        go_wp2
        go_roundw
        case rel => exact ⟨k + 1, c4, A4, rfl, by go_num, by omega, ho5, hb4⟩
        case measure => simp [intOf]; omega
      · obtain rfl : k = N := by omega
        have hoS : Own wr w1.heap.size 9 A' k c' (St qs) := by
          have := ho
          rwa [List.take_of_length_le (by rw [HQL.out]; exact Nat.le_refl _)] at this
        have hsS := hbr.size
        clear ho hlt hrd1
        rename World => wS
        go_wp2
        go_loopw [6, 37] (fun ov iv wr => ∃ (i m c2 : Nat) (A2 : Option Addr) (R : List (List Int)), ov = .slice A2 m c2 ∧ iv = .int .i64 i ∧ i ≤ k ∧ Hid (m = 2 * i) ∧ m ≤ 80 ∧ Hid (∀ x ∈ R, x ∈ qs) ∧ Hid (∀ x ∈ qs.take i, x ∈ R) ∧ Own wr wS.heap.size 9 A2 m c2 (St R) ∧ Below wS.heap.size wS wr) (fun _ iv _ => k - (intOf iv).toNat)
        case atStart => exact ⟨0, 0, 0, none, [], rfl, rfl, by omega, rfl, by omega, (fun x hx => by cases hx), (fun x hx => by rw [List.take_zero] at hx; cases hx), Own.nil_, Below.refl _ _⟩
        case round =>
          obtain ⟨i, m, c2, A2, R, rfl, rfl, hik, HM, hm80, HR1, HR2, ho2, hb2⟩ := hrel
          rename World => wr
          by_cases hlt : i < k
          · have hoS2 := hoS.keepB hb2
            obtain ⟨g, cap, hv, _, hlg⟩ := World.ownsRow.form hoS2 (by omega)
            obtain rfl : A' = some ⟨g, 0, none⟩ := by injection hv
            obtain ⟨hT0, hT1⟩ := tm_bounds t k (by omega)
            obtain ⟨T, hT⟩ : ∃ T, t.tmod (k : Int) = T := ⟨_, rfl⟩
            rw [hT] at hT0 hT1
            obtain ⟨kk, hkk, hkl⟩ := tm_nat i k T hT0 hT1 hlt
            obtain ⟨xa, hxa⟩ : ∃ x, qs[kk]? = some x := ⟨_, List.getElem?_eq_getElem (by rw [HQL.out]; exact hkl)⟩
            obtain ⟨xb, hxb⟩ : ∃ x, qs[i]? = some x := ⟨_, List.getElem?_eq_getElem (by rw [HQL.out]; exact hlt)⟩
            have hca : wr.cell? ⟨g, kk, none⟩ = some (.string (strOfNums xa)) := hoS2.st_cell hxa
            have hcb : wr.cell? ⟨g, i, none⟩ = some (.string (strOfNums xb)) := hoS2.st_cell hxb
            have HXA := Lib.hid hxa; have HXB := Lib.hid hxb; clear hxa hxb hv
            obtain ⟨SA, hSA⟩ : ∃ SA, SA = strOfNums xa := ⟨_, rfl⟩
            obtain ⟨SB, hSB⟩ : ∃ SB, SB = strOfNums xb := ⟨_, rfl⟩
            rw [← hSA] at hca
            rw [← hSB] at hcb
            have HSA := Lib.hid hSA; have HSB := Lib.hid hSB; clear hSA hSB
            have hca' : wr.drew.cell? ⟨g, kk, none⟩ = some (.string SA) := hca
            have hcb' : wr.drew.cell? ⟨g, i, none⟩ = some (.string SB) := hcb
            have hkne : ((k : Int) == 0) = false := by simp; omega
            have hkne' : (k : Int) ≠ 0 := by omega
            have hown := rd_two wr.drew (.string SA) (.string SB) 9
            have hbd : Below wS.heap.size wS wr.drew := below_n hb2 1
            have hsd := hbd.size
            have hrd2 : Rd (wr.drew.alloc (.cells #[.string SA, .string SB] 9)) A2 m (St R) := ((ho2.drewN 1).alloc (.cells #[.string SA, .string SB] 9)).rd
            have hbb := hbd.trans ((below_alloc wr.drew (.cells #[.string SA, .string SB] 9)).mono hsd)
            have hc1 : 2 + m ≤ maxLen := by unfold maxLen; omega
            have hc2 : (2 + m) * 16 ≤ 140737488355328 := by omega
            have hc3 : wr.drew.heap.size ≤ (wr.drew.alloc (.cells #[.string SA, .string SB] 9)).heap.size := by simp
            have hi0 : (0 : Int) ≤ (kk : Int) := by omega
            have hi1 : (kk : Int) < (k : Int) := by omega
            go_wp2
            go_region_law (refine step_append_rd rfl (.tmp 64) (.tmp 65) 22 rfl i0 (.string .empty) 16 Tryd.underlying22 hi hz0 hz1 hz2 rfl (by simp [Act.eval, Act.put]) hown A2 m c2 (St R) (by simp [Act.eval, Act.put]) hrd2 (St_one _) hc1 hc2 hc3 ?_; intro A5 c5 w5 ho5 hg5)
            all_goals
              have hb5 : Below wS.heap.size wS w5 := hbb.trans (hg5.below (Nat.le_trans hsd hc3) (fun j hj => Nat.le_trans hsd (hown.lies j hj).1))
              have ho6 : Own w5 wS.heap.size 9 A5 (2 + m) c5 (St (xa :: xb :: R)) := by
                have e1 : St (xa :: xb :: R) = [.string SA, .string SB] ++ St R := by rw [HSA.out, HSB.out]; simp [St]
                rw [e1]; exact ho5.mono hsd
              have HR3 : Hid (∀ x ∈ xa :: xb :: R, x ∈ qs) := fun x hx => by
                rcases List.mem_cons.1 hx with rfl | hx
                · exact List.mem_of_getElem? HXA.out
                · rcases List.mem_cons.1 hx with rfl | hx
                  · exact List.mem_of_getElem? HXB.out
                  · exact HR1.out x hx
              have HR4 : Hid (∀ x ∈ qs.take (i + 1), x ∈ xa :: xb :: R) := fun x hx => by
                rw [List.take_add_one, HXB.out, List.mem_append] at hx
                rcases hx with hx | hx
                · exact List.mem_cons_of_mem _ (List.mem_cons_of_mem _ (HR2.out x hx))
                · rw [show x = xb by simpa using hx]; simp
              have HM2 := Lib.hid (show 2 + m = 2 * (i + 1) by have := HM.out; omega)
              have hm82 : 2 + m ≤ 80 := by have := HM.out; omega
              clear hown hrd2 hbb hg5 ho5 hbd ho2 hb2 hca hcb hca' hcb' hoS2
              go_wp2
              go_roundw
              case rel => exact ⟨i + 1, 2 + m, c5, A5, _, rfl, by go_num, by omega, HM2, hm82, HR3, HR4, ho6, hb5⟩
              case measure => simp [intOf]; omega
          · obtain rfl : i = k := by omega
            have HMEM : Hid (∀ x, x ∈ R ↔ x ∈ qs) := fun x => ⟨HR1.out x, fun hx => HR2.out x (by rw [List.take_of_length_le (by rw [HQL.out]; exact Nat.le_refl _)]; exact hx)⟩
            have HTR : Hid (Tx R) := HQX.out.1.sub fun x hx => HR1.out x hx
            have hoS2 := hoS.keepB hb2
            have hbw : Below w.heap.size w wr := (hb1.trans (hbr.mono hs1)).trans (hb2.mono (Nat.le_trans hs1 hsS))
            have hsw := hbw.size
            have HG2 : Hid (∀ j, blk A2 = some j → j < wr.heap.size) := fun j hj => (ho2.lies j hj).2
            have HP1 := Lib.hid (HPK.out A' i c' qs wr hoS2.rd HQX.out.1 (by omega))
            clear hoS hbr hb2 hb1 hlt hoS2
            go_wp2_with fail
            refine HP1.out.mono ?_
            rintro e w6 ⟨A6, c6, m6, M1, rfl, ho6, hs6, hm6, hb6⟩
            have HM1 := Lib.hid hm6; clear hm6 HP1
            have ho26 := ho2.keepB hb6
            have HP2 := Lib.hid (HPK.out A2 m c2 R w6 ho26.rd HTR.out (by omega))
            clear ho2
            go_wp2_with fail
            refine HP2.out.mono ?_
            rintro e w7 ⟨A7, c7, m7, M2, rfl, ho7, hs7, hm7, hb7⟩
            have HM2 := Lib.hid hm7; clear hm7 HP2
            have HSAME := Lib.hid (Srt.same hs6 hs7 (fun x => (HM1.out x).trans ((HMEM.out x).symm.trans (HM2.out x).symm)))
            have hoA := ho6.keepB hb7
            have hoO := ho26.keepB hb7
            have hb8 := (hbw.trans (hb6.mono hsw)).trans (hb7.mono (Nat.le_trans hsw hb6.size))
            have HL6 := Lib.hid hoA.lenS
            obtain rfl : m7 = m6 := by have h1 := ho7.lenS; have h2 := HL6.out; rw [HSAME.out] at h2; omega
            have hoB : Own w7 w6.heap.size 9 A7 m7 c7 (St M1) := by rw [HSAME.out]; exact ho7
            have hm7k : m7 ≤ maxLen := by
              exact hoA.capU
            unfold maxLen at hm7k
            clear ho6 ho7 ho26 hb6 hb7 hbw hs7
            have hnn : ((m7 : Int) != (m7 : Int)) = false := by simp
            go_wp2
            go_loopw [79] (fun iv wr => ∃ (j q : Nat), iv = .int .i64 j ∧ j ≤ m7 ∧ wr = w7.drewN q) (fun iv _ => m7 - (intOf iv).toNat)
            case atStart => exact ⟨0, 0, rfl, by omega, rfl⟩
            case round =>
              obtain ⟨j, q, rfl, hj, rfl⟩ := hrel
              by_cases hlt : j < m7
              · obtain ⟨x, hx⟩ : ∃ x, M1[j]? = some x := ⟨_, List.getElem?_eq_getElem (by rw [HL6.out]; exact hlt)⟩
                obtain ⟨g6, cap6, hv6, _, hl6⟩ := World.ownsRow.form hoA (by omega)
                obtain rfl : A6 = some ⟨g6, 0, none⟩ := by injection hv6
                obtain ⟨g7, cap7, hv7, _, hl7⟩ := World.ownsRow.form hoB (by omega)
                obtain rfl : A7 = some ⟨g7, 0, none⟩ := by injection hv7
                have ca : (w7.drewN q).cell? ⟨g6, j, none⟩ = some (.string (strOfNums x)) := hoA.st_cell hx
                have cb : (w7.drewN q).cell? ⟨g7, j, none⟩ = some (.string (strOfNums x)) := hoB.st_cell hx
                have ca1 : w7.cell? ⟨g6, j, none⟩ = some (.string (strOfNums x)) := hoA.st_cell hx
                have cb1 : w7.cell? ⟨g7, j, none⟩ = some (.string (strOfNums x)) := hoB.st_cell hx
                have hq0 : (0 : Int) ≤ (j : Int) := by omega
                have hq1 : (j : Int) < (m7 : Int) := by omega
                rcases Nat.eq_zero_or_pos j with hj0 | hj0
                · have hng1 : decide ((0 : Int) < (j : Int)) = false := decide_eq_false (by omega)
                  have hng2 : decide (0 < j) = false := decide_eq_false (by omega)
                  have hng3 : ¬ (0 < j) := by omega
                  have hng4 : ¬ ((0 : Int) < (j : Int)) := by omega
                  generalize strOfNums x = SX at *
                  have hee : (SX.toList == SX.toList) = true := by simp
                  clear hj0 hv6 hv7
                  have ca2 : (w7.drewN q).drew.cell? ⟨g6, j, none⟩ = some (.string SX) := ca1
                  have cb2 : (w7.drewN q).drew.cell? ⟨g7, j, none⟩ = some (.string SX) := cb1
                  go_wp2
                  go_quiet (fail)
                  go_wp2
                  go_roundw
                  case rel => exact ⟨j + 1, _, by go_num, by omega, rfl⟩
                  case measure => simp [intOf]; omega
                · obtain ⟨j', hjj⟩ : ∃ j', j = j' + 1 := ⟨j - 1, by omega⟩
                  subst hjj
                  obtain ⟨y, hy⟩ : ∃ y, M1[j']? = some y := ⟨_, List.getElem?_eq_getElem (by rw [HL6.out]; omega)⟩
                  have cc : (w7.drewN q).cell? ⟨g6, j', none⟩ = some (.string (strOfNums y)) := hoA.st_cell hy
                  have cc1 : w7.cell? ⟨g6, j', none⟩ = some (.string (strOfNums y)) := hoA.st_cell hy
                  have hxq := (HM1.out x).1 (List.mem_of_getElem? hx)
                  have hyq := (HM1.out y).1 (List.mem_of_getElem? hy)
                  have HCP : Hid (∀ W, Calls Tryd.prog 9 #[.string (strOfNums y), .string (strOfNums x)] W fun e w' => e = .returned (.int .i64 (-1)) ∧ Dr W w') := fun W => by
                    have := compare_any y x W (HQX.out.1 y hyq).1 (HQX.out.1 x hxq).1 (HQX.out.1 y hyq).2 (HQX.out.1 x hxq).2
                    rwa [srt_step hs6 hy hx] at this
                  have hi4 : (0 : Int) < (j' : Int) + 1 := by omega
                  have hi5 : (0 : Int) ≤ (j' : Int) + 1 := by omega
                  have hi6 : (j' : Int) + 1 < (m7 : Int) := by omega
                  have hi7 : (0 : Int) ≤ (j' : Int) := by omega
                  have hi8 : (j' : Int) < (m7 : Int) := by omega
                  have hw1 : IntKind.i64.wrap (j' : Int) = (j' : Int) := wrapS _ (by omega) (by omega)
                  generalize strOfNums x = SX at *
                  generalize strOfNums y = SY at *
                  have hee : (SX.toList == SX.toList) = true := by simp
                  clear hj0 hv6 hv7
                  go_wp2
                  go_quiet ((go_at_call 9; first | exact draw_call_add (HCP.out _) | exact draw_call (HCP.out _)))
                  go_wp2
                  go_roundw
                  case rel => exact ⟨j' + 2, _, by go_num, by omega, rfl⟩
                  case measure => simp [intOf]; omega
              · have hoO2 : Own (w7.drewN q) wS.heap.size 9 A2 m c2 (St R) := hoO
                have hoA2 : Own (w7.drewN q) wr.heap.size 9 A6 m7 c6 (St M1) := hoA
                have hb9 : Below w.heap.size w (w7.drewN q) := below_n hb8 q
                have hs9 := hb9.size
                have HRL := Lib.hid hoO.lenS
                rcases Nat.eq_zero_or_pos m with hm0 | hm0
                · subst hm0
                  have HM0 := Lib.hid (show m7 = 0 by
                    rw [← HL6.out]
                    rcases List.eq_nil_or_concat M1 with h | ⟨L, x, h⟩
                    · rw [h]; rfl
                    · exfalso
                      have h1 := (HMEM.out x).2 ((HM1.out x).1 (by rw [h]; simp))
                      rw [List.eq_nil_of_length_eq_zero HRL.out] at h1
                      cases h1)
                  have hd0 : decide ((0 : Int) < (m7 : Int)) = false := by have := HM0.out; simp; omega
                  go_wp2_with fail
                  refine (latest_none A2 c2 _).mono ?_
                  rintro e w9 ⟨rfl, rfl⟩
                  go_wp2
                  go_ret
                  exact ⟨rfl, hb9⟩
                · obtain ⟨g2, cap2, hv2, hgb2, hl2⟩ := World.ownsRow.form hoO2 (by omega)
                  obtain rfl : A2 = some ⟨g2, 0, none⟩ := by injection hv2
                  have hm0' : 0 < m7 := by
                    rcases Nat.eq_zero_or_pos m7 with h | h
                    · exfalso
                      obtain ⟨x, hx⟩ : ∃ x, x ∈ R := by
                        cases hR : R with
                        | nil => have := HRL.out; rw [hR] at this; simp at this; omega
                        | cons x r => exact ⟨x, by simp⟩
                      have h1 := (HM1.out x).2 ((HMEM.out x).1 hx)
                      rw [show M1 = [] from List.eq_nil_of_length_eq_zero (by rw [HL6.out, h])] at h1
                      cases h1
                    · exact h
                  obtain ⟨mm, hmm⟩ : ∃ mm, m7 = mm + 1 := ⟨m7 - 1, by omega⟩
                  subst hmm
                  have HLA := Lib.hid (latest_any g2 m c2 wS.heap.size R (w7.drewN q) hoO2 HTR.out hm0 (by omega))
                  obtain ⟨g6, cap6, hv6, _, hl6⟩ := World.ownsRow.form hoA2 (by omega)
                  obtain rfl : A6 = some ⟨g6, 0, none⟩ := by injection hv6
                  obtain ⟨z, hz⟩ : ∃ z, M1[mm]? = some z := ⟨_, List.getElem?_eq_getElem (by rw [HL6.out]; omega)⟩
                  have ca := hoA2.st_cell hz
                  have hg6b := (hoA2.lies g6 rfl).1
                  have hlt2 : wS.heap.size ≤ w7.heap.size := (Nat.le_trans (hoO.lies g2 rfl).1 (Nat.le_of_lt (hoO.lies g2 rfl).2))
                  clear hv6 hv2
                  go_wp2_with fail
                  refine HLA.out.mono ?_
                  rintro e w9 ⟨x, rfl, hx, hmx, ho9, hb10, hg10⟩
                  have HXZ := Lib.hid (srt_max hs6 HL6.out hz ((HM1.out x).2 ((HMEM.out x).1 hx)) (fun v hv => hmx v ((HMEM.out v).2 ((HM1.out v).1 hv))))
                  have hg2l := HG2.out g2 rfl
                  have hc9 : w9.cell? ⟨g6, mm, none⟩ = some (.string (strOfNums z)) := (World.cell?_of_block (a := ⟨g6, mm, none⟩) (hg10.block g6 hl6 (fun e => by injection e with e; omega))).trans ca
                  have hb11 := hb9.trans (hb10.mono (show w.heap.size ≤ wS.heap.size by omega))
                  rw [HXZ.out]
                  generalize strOfNums z = SZ at *
                  have hee : (SZ.toList == SZ.toList) = true := by simp
                  have hd0 : decide ((0 : Int) < (mm : Int) + 1) = true := decide_eq_true (by omega)
                  have hz0' : (0 : Int) ≤ (mm : Int) := by omega
                  clear ca hz ho9 hb10 hg10
                  go_wp2
                  go_ret
                  exact ⟨rfl, hb11⟩
  · have hd40 : decide ((40 : Int) < (n : Int)) = false := by simp; omega
    obtain ⟨N, hN⟩ : ∃ N : Nat, N = n := ⟨_, rfl⟩
    have hNn : N ≤ n := by omega
    have hN40 : N ≤ 40 := by omega
    subst hN
    have HQL := Lib.hid (show ((ns.take N).map (·.take 60)).length = N by rw [List.length_map, List.length_take, HNL.out]; omega)
    have HQX : Hid (Tx ((ns.take N).map (·.take 60)) ∧ ∀ l ∈ (ns.take N).map (·.take 60), l.length ≤ 60) := by
      refine ⟨fun l hl => ?_, fun l hl => ?_⟩
      · obtain ⟨x, hx, rfl⟩ := List.mem_map.1 hl
        have := HTX.out x (List.mem_of_mem_take hx)
        exact ⟨this.1.sub fun y hy => List.mem_of_mem_take hy, by rw [List.length_take]; omega⟩
      · obtain ⟨x, hx, rfl⟩ := List.mem_map.1 hl
        rw [List.length_take]; omega
    have HQG : Hid (∀ k l, ns[k]? = some l → k < N → ((ns.take N).map (·.take 60)).take (k + 1) = ((ns.take N).map (·.take 60)).take k ++ [l.take 60]) := fun k l hl hk => by
      rw [List.take_add_one, List.getElem?_map, List.getElem?_take, if_pos hk, hl]; rfl
    generalize (ns.take N).map (·.take 60) = qs at *
    go_wp2
    go_loopw [5, 25] (fun ov iv wr => ∃ (k c' : Nat) (A' : Option Addr), ov = .slice A' k c' ∧ iv = .int .i64 k ∧ k ≤ N ∧ Own wr w1.heap.size 9 A' k c' (St (qs.take k)) ∧ Below w1.heap.size w1 wr) (fun _ iv _ => N - (intOf iv).toNat)
    case atStart => exact ⟨0, 0, none, rfl, rfl, by omega, Own.nil_, Below.refl _ _⟩
    case round =>
      obtain ⟨k, c', A', rfl, rfl, hk, ho, hbr⟩ := hrel
      by_cases hlt : k < N
      · obtain ⟨b, off, l, rfl, hcl, HX⟩ := (hrd1.keep hbr).st_at (show k < _ by omega)
        have HLT := Lib.hid (HTX.out l (List.mem_of_getElem? HX.out))
        have HCU := Lib.hid (fun W => cut_wide l 60 W HLT.out.2 (by omega))
        have HF := Lib.hid (HQG.out k l HX.out hlt)
        obtain ⟨SL, hSL⟩ : ∃ SL, SL = strOfNums (l.take 60) := ⟨_, rfl⟩
        rw [← hSL] at HCU
        have HSL := Lib.hid hSL; clear hSL
        generalize strOfNums l = S0 at *
        have hs := hbr.size
        go_wp2_with fail
        refine (HCU.out _).mono ?_
        rintro e w2 ⟨rfl, rfl⟩
        have ho2 := ho.alloc (.cells #[.string SL] 9)
        have hb2 := hbr.trans ((below_alloc wr (.cells #[.string SL] 9)).mono hs)
        clear ho hbr
        go_wp2_with (at_builtin; refine wpList_append_rd rfl _ _ 22 rfl i0 (.string .empty) 16 Tryd.underlying22 hi hz0 hz1 hz2 rfl rfl ho2 (some ⟨wr.heap.size, 0, none⟩) 1 1 [.string SL] rfl (rd_oneS wr _ 9) (fun u hu => by rw [List.mem_singleton.1 hu]; rfl) ?c1 ?c2 ?c3 ?_)
        case c1 => unfold maxLen; omega
        case c2 => omega
        case c3 => simp; omega
        intro A4 c4 w4 ho4 hg4
        have hb4 := hb2.trans (hg4.below (B := w1.heap.size) (by simp; omega) (fun j hj => (ho2.lies j hj).1))
        have ho5 : Own w4 w1.heap.size 9 A4 (k + 1) c4 (St (qs.take (k + 1))) := by
          rw [HF.out, St_append]
          have e1 : St [l.take 60] = [.string SL] := by rw [HSL.out]; rfl
          rw [e1]; exact ho4
        clear ho2 ho4 hb2 hg4
        go_wp2
        go_roundw
        case rel => exact ⟨k + 1, c4, A4, rfl, by go_num, by omega, ho5, hb4⟩
        case measure => simp [intOf]; omega
      · obtain rfl : k = N := by omega
        have hoS : Own wr w1.heap.size 9 A' k c' (St qs) := by
          have := ho
          rwa [List.take_of_length_le (by rw [HQL.out]; exact Nat.le_refl _)] at this
        have hsS := hbr.size
        clear ho hlt hrd1
        rename World => wS
        go_wp2
        go_loopw [6, 37] (fun ov iv wr => ∃ (i m c2 : Nat) (A2 : Option Addr) (R : List (List Int)), ov = .slice A2 m c2 ∧ iv = .int .i64 i ∧ i ≤ k ∧ Hid (m = 2 * i) ∧ m ≤ 80 ∧ Hid (∀ x ∈ R, x ∈ qs) ∧ Hid (∀ x ∈ qs.take i, x ∈ R) ∧ Own wr wS.heap.size 9 A2 m c2 (St R) ∧ Below wS.heap.size wS wr) (fun _ iv _ => k - (intOf iv).toNat)
        case atStart => exact ⟨0, 0, 0, none, [], rfl, rfl, by omega, rfl, by omega, (fun x hx => by cases hx), (fun x hx => by rw [List.take_zero] at hx; cases hx), Own.nil_, Below.refl _ _⟩
        case round =>
          obtain ⟨i, m, c2, A2, R, rfl, rfl, hik, HM, hm80, HR1, HR2, ho2, hb2⟩ := hrel
          rename World => wr
          by_cases hlt : i < k
          · have hoS2 := hoS.keepB hb2
            obtain ⟨g, cap, hv, _, hlg⟩ := World.ownsRow.form hoS2 (by omega)
            obtain rfl : A' = some ⟨g, 0, none⟩ := by injection hv
            obtain ⟨hT0, hT1⟩ := tm_bounds t k (by omega)
            obtain ⟨T, hT⟩ : ∃ T, t.tmod (k : Int) = T := ⟨_, rfl⟩
            rw [hT] at hT0 hT1
            obtain ⟨kk, hkk, hkl⟩ := tm_nat i k T hT0 hT1 hlt
            obtain ⟨xa, hxa⟩ : ∃ x, qs[kk]? = some x := ⟨_, List.getElem?_eq_getElem (by rw [HQL.out]; exact hkl)⟩
            obtain ⟨xb, hxb⟩ : ∃ x, qs[i]? = some x := ⟨_, List.getElem?_eq_getElem (by rw [HQL.out]; exact hlt)⟩
            have hca : wr.cell? ⟨g, kk, none⟩ = some (.string (strOfNums xa)) := hoS2.st_cell hxa
            have hcb : wr.cell? ⟨g, i, none⟩ = some (.string (strOfNums xb)) := hoS2.st_cell hxb
            have HXA := Lib.hid hxa; have HXB := Lib.hid hxb; clear hxa hxb hv
            obtain ⟨SA, hSA⟩ : ∃ SA, SA = strOfNums xa := ⟨_, rfl⟩
            obtain ⟨SB, hSB⟩ : ∃ SB, SB = strOfNums xb := ⟨_, rfl⟩
            rw [← hSA] at hca
            rw [← hSB] at hcb
            have HSA := Lib.hid hSA; have HSB := Lib.hid hSB; clear hSA hSB
            have hca' : wr.drew.cell? ⟨g, kk, none⟩ = some (.string SA) := hca
            have hcb' : wr.drew.cell? ⟨g, i, none⟩ = some (.string SB) := hcb
            have hkne : ((k : Int) == 0) = false := by simp; omega
            have hkne' : (k : Int) ≠ 0 := by omega
            have hown := rd_two wr.drew (.string SA) (.string SB) 9
            have hbd : Below wS.heap.size wS wr.drew := below_n hb2 1
            have hsd := hbd.size
            have hrd2 : Rd (wr.drew.alloc (.cells #[.string SA, .string SB] 9)) A2 m (St R) := ((ho2.drewN 1).alloc (.cells #[.string SA, .string SB] 9)).rd
            have hbb := hbd.trans ((below_alloc wr.drew (.cells #[.string SA, .string SB] 9)).mono hsd)
            have hc1 : 2 + m ≤ maxLen := by unfold maxLen; omega
            have hc2 : (2 + m) * 16 ≤ 140737488355328 := by omega
            have hc3 : wr.drew.heap.size ≤ (wr.drew.alloc (.cells #[.string SA, .string SB] 9)).heap.size := by simp
            have hi0 : (0 : Int) ≤ (kk : Int) := by omega
            have hi1 : (kk : Int) < (k : Int) := by omega
            go_wp2
            go_region_law (refine step_append_rd rfl (.tmp 64) (.tmp 65) 22 rfl i0 (.string .empty) 16 Tryd.underlying22 hi hz0 hz1 hz2 rfl (by simp [Act.eval, Act.put]) hown A2 m c2 (St R) (by simp [Act.eval, Act.put]) hrd2 (St_one _) hc1 hc2 hc3 ?_; intro A5 c5 w5 ho5 hg5)
            all_goals
              have hb5 : Below wS.heap.size wS w5 := hbb.trans (hg5.below (Nat.le_trans hsd hc3) (fun j hj => Nat.le_trans hsd (hown.lies j hj).1))
              have ho6 : Own w5 wS.heap.size 9 A5 (2 + m) c5 (St (xa :: xb :: R)) := by
                have e1 : St (xa :: xb :: R) = [.string SA, .string SB] ++ St R := by rw [HSA.out, HSB.out]; simp [St]
                rw [e1]; exact ho5.mono hsd
              have HR3 : Hid (∀ x ∈ xa :: xb :: R, x ∈ qs) := fun x hx => by
                rcases List.mem_cons.1 hx with rfl | hx
                · exact List.mem_of_getElem? HXA.out
                · rcases List.mem_cons.1 hx with rfl | hx
                  · exact List.mem_of_getElem? HXB.out
                  · exact HR1.out x hx
              have HR4 : Hid (∀ x ∈ qs.take (i + 1), x ∈ xa :: xb :: R) := fun x hx => by
                rw [List.take_add_one, HXB.out, List.mem_append] at hx
                rcases hx with hx | hx
                · exact List.mem_cons_of_mem _ (List.mem_cons_of_mem _ (HR2.out x hx))
                · rw [show x = xb by simpa using hx]; simp
              have HM2 := Lib.hid (show 2 + m = 2 * (i + 1) by have := HM.out; omega)
              have hm82 : 2 + m ≤ 80 := by have := HM.out; omega
              clear hown hrd2 hbb hg5 ho5 hbd ho2 hb2 hca hcb hca' hcb' hoS2
              go_wp2
              go_roundw
              case rel => exact ⟨i + 1, 2 + m, c5, A5, _, rfl, by go_num, by omega, HM2, hm82, HR3, HR4, ho6, hb5⟩
              case measure => simp [intOf]; omega
          · obtain rfl : i = k := by omega
            have HMEM : Hid (∀ x, x ∈ R ↔ x ∈ qs) := fun x => ⟨HR1.out x, fun hx => HR2.out x (by rw [List.take_of_length_le (by rw [HQL.out]; exact Nat.le_refl _)]; exact hx)⟩
            have HTR : Hid (Tx R) := HQX.out.1.sub fun x hx => HR1.out x hx
            have hoS2 := hoS.keepB hb2
            have hbw : Below w.heap.size w wr := (hb1.trans (hbr.mono hs1)).trans (hb2.mono (Nat.le_trans hs1 hsS))
            have hsw := hbw.size
            have HG2 : Hid (∀ j, blk A2 = some j → j < wr.heap.size) := fun j hj => (ho2.lies j hj).2
            have HP1 := Lib.hid (HPK.out A' i c' qs wr hoS2.rd HQX.out.1 (by omega))
            clear hoS hbr hb2 hb1 hlt hoS2
            go_wp2_with fail
            refine HP1.out.mono ?_
            rintro e w6 ⟨A6, c6, m6, M1, rfl, ho6, hs6, hm6, hb6⟩
            have HM1 := Lib.hid hm6; clear hm6 HP1
            have ho26 := ho2.keepB hb6
            have HP2 := Lib.hid (HPK.out A2 m c2 R w6 ho26.rd HTR.out (by omega))
            clear ho2
            go_wp2_with fail
            refine HP2.out.mono ?_
            rintro e w7 ⟨A7, c7, m7, M2, rfl, ho7, hs7, hm7, hb7⟩
            have HM2 := Lib.hid hm7; clear hm7 HP2
            have HSAME := Lib.hid (Srt.same hs6 hs7 (fun x => (HM1.out x).trans ((HMEM.out x).symm.trans (HM2.out x).symm)))
            have hoA := ho6.keepB hb7
            have hoO := ho26.keepB hb7
            have hb8 := (hbw.trans (hb6.mono hsw)).trans (hb7.mono (Nat.le_trans hsw hb6.size))
            have HL6 := Lib.hid hoA.lenS
            obtain rfl : m7 = m6 := by have h1 := ho7.lenS; have h2 := HL6.out; rw [HSAME.out] at h2; omega
            have hoB : Own w7 w6.heap.size 9 A7 m7 c7 (St M1) := by rw [HSAME.out]; exact ho7
            have hm7k : m7 ≤ maxLen := by
              exact hoA.capU
            unfold maxLen at hm7k
            clear ho6 ho7 ho26 hb6 hb7 hbw hs7
            have hnn : ((m7 : Int) != (m7 : Int)) = false := by simp
            go_wp2
            go_loopw [79] (fun iv wr => ∃ (j q : Nat), iv = .int .i64 j ∧ j ≤ m7 ∧ wr = w7.drewN q) (fun iv _ => m7 - (intOf iv).toNat)
            case atStart => exact ⟨0, 0, rfl, by omega, rfl⟩
            case round =>
              obtain ⟨j, q, rfl, hj, rfl⟩ := hrel
              by_cases hlt : j < m7
              · obtain ⟨x, hx⟩ : ∃ x, M1[j]? = some x := ⟨_, List.getElem?_eq_getElem (by rw [HL6.out]; exact hlt)⟩
                obtain ⟨g6, cap6, hv6, _, hl6⟩ := World.ownsRow.form hoA (by omega)
                obtain rfl : A6 = some ⟨g6, 0, none⟩ := by injection hv6
                obtain ⟨g7, cap7, hv7, _, hl7⟩ := World.ownsRow.form hoB (by omega)
                obtain rfl : A7 = some ⟨g7, 0, none⟩ := by injection hv7
                have ca : (w7.drewN q).cell? ⟨g6, j, none⟩ = some (.string (strOfNums x)) := hoA.st_cell hx
                have cb : (w7.drewN q).cell? ⟨g7, j, none⟩ = some (.string (strOfNums x)) := hoB.st_cell hx
                have ca1 : w7.cell? ⟨g6, j, none⟩ = some (.string (strOfNums x)) := hoA.st_cell hx
                have cb1 : w7.cell? ⟨g7, j, none⟩ = some (.string (strOfNums x)) := hoB.st_cell hx
                have hq0 : (0 : Int) ≤ (j : Int) := by omega
                have hq1 : (j : Int) < (m7 : Int) := by omega
                rcases Nat.eq_zero_or_pos j with hj0 | hj0
                · have hng1 : decide ((0 : Int) < (j : Int)) = false := decide_eq_false (by omega)
                  have hng2 : decide (0 < j) = false := decide_eq_false (by omega)
                  have hng3 : ¬ (0 < j) := by omega
                  have hng4 : ¬ ((0 : Int) < (j : Int)) := by omega
                  generalize strOfNums x = SX at *
                  have hee : (SX.toList == SX.toList) = true := by simp
                  clear hj0 hv6 hv7
                  have ca2 : (w7.drewN q).drew.cell? ⟨g6, j, none⟩ = some (.string SX) := ca1
                  have cb2 : (w7.drewN q).drew.cell? ⟨g7, j, none⟩ = some (.string SX) := cb1
                  go_wp2
                  go_quiet (fail)
                  go_wp2
                  go_roundw
                  case rel => exact ⟨j + 1, _, by go_num, by omega, rfl⟩
                  case measure => simp [intOf]; omega
                · obtain ⟨j', hjj⟩ : ∃ j', j = j' + 1 := ⟨j - 1, by omega⟩
                  subst hjj
                  obtain ⟨y, hy⟩ : ∃ y, M1[j']? = some y := ⟨_, List.getElem?_eq_getElem (by rw [HL6.out]; omega)⟩
                  have cc : (w7.drewN q).cell? ⟨g6, j', none⟩ = some (.string (strOfNums y)) := hoA.st_cell hy
                  have cc1 : w7.cell? ⟨g6, j', none⟩ = some (.string (strOfNums y)) := hoA.st_cell hy
                  have hxq := (HM1.out x).1 (List.mem_of_getElem? hx)
                  have hyq := (HM1.out y).1 (List.mem_of_getElem? hy)
                  have HCP : Hid (∀ W, Calls Tryd.prog 9 #[.string (strOfNums y), .string (strOfNums x)] W fun e w' => e = .returned (.int .i64 (-1)) ∧ Dr W w') := fun W => by
                    have := compare_any y x W (HQX.out.1 y hyq).1 (HQX.out.1 x hxq).1 (HQX.out.1 y hyq).2 (HQX.out.1 x hxq).2
                    rwa [srt_step hs6 hy hx] at this
                  have hi4 : (0 : Int) < (j' : Int) + 1 := by omega
                  have hi5 : (0 : Int) ≤ (j' : Int) + 1 := by omega
                  have hi6 : (j' : Int) + 1 < (m7 : Int) := by omega
                  have hi7 : (0 : Int) ≤ (j' : Int) := by omega
                  have hi8 : (j' : Int) < (m7 : Int) := by omega
                  have hw1 : IntKind.i64.wrap (j' : Int) = (j' : Int) := wrapS _ (by omega) (by omega)
                  generalize strOfNums x = SX at *
                  generalize strOfNums y = SY at *
                  have hee : (SX.toList == SX.toList) = true := by simp
                  clear hj0 hv6 hv7
                  go_wp2
                  go_quiet ((go_at_call 9; first | exact draw_call_add (HCP.out _) | exact draw_call (HCP.out _)))
                  go_wp2
                  go_roundw
                  case rel => exact ⟨j' + 2, _, by go_num, by omega, rfl⟩
                  case measure => simp [intOf]; omega
              · have hoO2 : Own (w7.drewN q) wS.heap.size 9 A2 m c2 (St R) := hoO
                have hoA2 : Own (w7.drewN q) wr.heap.size 9 A6 m7 c6 (St M1) := hoA
                have hb9 : Below w.heap.size w (w7.drewN q) := below_n hb8 q
                have hs9 := hb9.size
                have HRL := Lib.hid hoO.lenS
                rcases Nat.eq_zero_or_pos m with hm0 | hm0
                · subst hm0
                  have HM0 := Lib.hid (show m7 = 0 by
                    rw [← HL6.out]
                    rcases List.eq_nil_or_concat M1 with h | ⟨L, x, h⟩
                    · rw [h]; rfl
                    · exfalso
                      have h1 := (HMEM.out x).2 ((HM1.out x).1 (by rw [h]; simp))
                      rw [List.eq_nil_of_length_eq_zero HRL.out] at h1
                      cases h1)
                  have hd0 : decide ((0 : Int) < (m7 : Int)) = false := by have := HM0.out; simp; omega
                  go_wp2_with fail
                  refine (latest_none A2 c2 _).mono ?_
                  rintro e w9 ⟨rfl, rfl⟩
                  go_wp2
                  go_ret
                  exact ⟨rfl, hb9⟩
                · obtain ⟨g2, cap2, hv2, hgb2, hl2⟩ := World.ownsRow.form hoO2 (by omega)
                  obtain rfl : A2 = some ⟨g2, 0, none⟩ := by injection hv2
                  have hm0' : 0 < m7 := by
                    rcases Nat.eq_zero_or_pos m7 with h | h
                    · exfalso
                      obtain ⟨x, hx⟩ : ∃ x, x ∈ R := by
                        cases hR : R with
                        | nil => have := HRL.out; rw [hR] at this; simp at this; omega
                        | cons x r => exact ⟨x, by simp⟩
                      have h1 := (HM1.out x).2 ((HMEM.out x).1 hx)
                      rw [show M1 = [] from List.eq_nil_of_length_eq_zero (by rw [HL6.out, h])] at h1
                      cases h1
                    · exact h
                  obtain ⟨mm, hmm⟩ : ∃ mm, m7 = mm + 1 := ⟨m7 - 1, by omega⟩
                  subst hmm
                  have HLA := Lib.hid (latest_any g2 m c2 wS.heap.size R (w7.drewN q) hoO2 HTR.out hm0 (by omega))
                  obtain ⟨g6, cap6, hv6, _, hl6⟩ := World.ownsRow.form hoA2 (by omega)
                  obtain rfl : A6 = some ⟨g6, 0, none⟩ := by injection hv6
                  obtain ⟨z, hz⟩ : ∃ z, M1[mm]? = some z := ⟨_, List.getElem?_eq_getElem (by rw [HL6.out]; omega)⟩
                  have ca := hoA2.st_cell hz
                  have hg6b := (hoA2.lies g6 rfl).1
                  have hlt2 : wS.heap.size ≤ w7.heap.size := (Nat.le_trans (hoO.lies g2 rfl).1 (Nat.le_of_lt (hoO.lies g2 rfl).2))
                  clear hv6 hv2
                  go_wp2_with fail
                  refine HLA.out.mono ?_
                  rintro e w9 ⟨x, rfl, hx, hmx, ho9, hb10, hg10⟩
                  have HXZ := Lib.hid (srt_max hs6 HL6.out hz ((HM1.out x).2 ((HMEM.out x).1 hx)) (fun v hv => hmx v ((HMEM.out v).2 ((HM1.out v).1 hv))))
                  have hg2l := HG2.out g2 rfl
                  have hc9 : w9.cell? ⟨g6, mm, none⟩ = some (.string (strOfNums z)) := (World.cell?_of_block (a := ⟨g6, mm, none⟩) (hg10.block g6 hl6 (fun e => by injection e with e; omega))).trans ca
                  have hb11 := hb9.trans (hb10.mono (show w.heap.size ≤ wS.heap.size by omega))
                  rw [HXZ.out]
                  generalize strOfNums z = SZ at *
                  have hee : (SZ.toList == SZ.toList) = true := by simp
                  have hd0 : decide ((0 : Int) < (mm : Int) + 1) = true := decide_eq_true (by omega)
                  have hz0' : (0 : Int) ≤ (mm : Int) := by omega
                  clear ca hz ho9 hb10 hg10
                  go_wp2
                  go_ret
                  exact ⟨rfl, hb11⟩
end Go.Proofs.YtdlbghjclcdfmabDoor
