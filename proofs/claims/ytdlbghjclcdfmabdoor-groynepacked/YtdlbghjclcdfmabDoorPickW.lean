/- label.Pick, by what sorting and compacting do. -/
import Derived.Test.YtdlbghjclcdfmabDoorStW
import Derived.Deep.RegionHeld3
namespace Go.Proofs.YtdlbghjclcdfmabDoor
set_option linter.unusedVariables false
set_option linter.unusedSimpArgs false
open Go.RowKit

/-- What sorting does to a row of texts. -/
def SortC : Prop := ∀ (g n c base : Nat) (L : List (List Int)) (w : World), Own w base 9 (some ⟨g, 0, none⟩) n c (St L) → Tx L → 0 < n → n ≤ 1000000 →
  Calls Tryd.prog 24 #[.slice (some ⟨g, 0, none⟩) n c, .func (.func 9) #[] #[]] w fun e w' => e = .returned (.tuple #[]) ∧ ∃ M, Own w' base 9 (some ⟨g, 0, none⟩) n c (St M) ∧ Wrt M ∧ (∀ x, x ∈ M ↔ x ∈ L) ∧ Below base w w'
def SortN : Prop := ∀ (A : Option Addr) (c : Nat) (w : World), Calls Tryd.prog 24 #[.slice A 0 c, .func (.func 9) #[] #[]] w fun e w' => e = .returned (.tuple #[]) ∧ w = w'
/-- What compacting does to a row of texts in order. -/
def CompC : Prop := ∀ (g n c base : Nat) (L : List (List Int)) (w : World), Own w base 9 (some ⟨g, 0, none⟩) n c (St L) → Tx L → Wrt L → 0 < n → n ≤ 1000000 →
  Calls Tryd.prog 25 #[.slice (some ⟨g, 0, none⟩) n c] w fun e w' => ∃ M m, e = .returned (.slice (some ⟨g, 0, none⟩) m c) ∧ Own w' base 9 (some ⟨g, 0, none⟩) m c (St M) ∧ Srt M ∧ (∀ x, x ∈ M ↔ x ∈ L) ∧ Below base w w'
def CompN : Prop := ∀ (A : Option Addr) (c : Nat) (w : World), Calls Tryd.prog 25 #[.slice A 0 c] w fun e w' => e = .returned (.slice A 0 c) ∧ w = w'

theorem Rd.st_at {w : World} {A : Option Addr} {n : Nat} {L : List (List Int)} {k : Nat} (h : Rd w A n (St L)) (hk : k < n) : ∃ b off l, A = some ⟨b, off, none⟩ ∧ w.cell? ⟨b, off + k, none⟩ = some (.string (strOfNums l)) ∧ Hid (L[k]? = some l) := by
  obtain ⟨b, off, u, rfl, hb, hc, HU⟩ := h.at_ hk
  have hl : L.length = n := by have := h.1; rwa [St_length] at this
  have hu := HU.out
  rw [St, List.getElem?_map, List.getElem?_eq_getElem (by omega)] at hu
  simp only [Option.map_some, Option.some.injEq] at hu
  subst hu
  exact ⟨b, off, L[k], rfl, hc, List.getElem?_eq_getElem (by omega)⟩
theorem Rd.lenS {w : World} {A : Option Addr} {n : Nat} {L : List (List Int)} (h : Rd w A n (St L)) : L.length = n := by have := h.1; rwa [St_length] at this
theorem Own.lenS {w : World} {base n c : Nat} {A : Option Addr} {e : TypeId} {L : List (List Int)} (h : Own w base e A n c (St L)) : L.length = n := by
  have hl : (St L).length = n := by have := h.1; simpa using this
  rwa [St_length] at hl
theorem rd_oneS (w : World) (v : Value) (t : TypeId) : Rd (w.alloc (.cells #[v] t)) (some ⟨w.heap.size, 0, none⟩) 1 [v] := by
  have := Rd.of_block (cs := #[v]) (heap_alloc_new w (.cells #[v] t)) rfl
  exact this
theorem filt_next {ns : List (List Int)} {k : Nat} {l : List Int} {f : List Int → Bool} (h : ns[k]? = some l) : (ns.take (k + 1)).filter f = (ns.take k).filter f ++ (if f l then [l] else []) := by
  rw [List.take_add_one, h, List.filter_append]
  congr 1
  simp only [Option.toList_some, List.filter_cons, List.filter_nil]

set_option maxRecDepth 100000 in
set_option maxHeartbeats 2000000 in
theorem pick_of (hsort : SortC) (hsn : SortN) (hcomp : CompC) (hcn : CompN) (p : List Int) (A : Option Addr) (n c : Nat) (ns : List (List Int)) (w : World) (hp : Ran p) (hlp : p.length ≤ 140737488355328) (hrd : Rd w A n (St ns)) (htx : Tx ns) (hn : n ≤ 1000000) :
    Calls Tryd.prog 8 #[.string (strOfNums p), .slice A n c] w fun e w' => ∃ (A' : Option Addr) (c' m : Nat) (M : List (List Int)), e = .returned (.slice A' m c') ∧ Own w' w.heap.size 9 A' m c' (St M) ∧ Srt M ∧ (∀ x, x ∈ M ↔ x ∈ ns ∧ mt p x = true) ∧ Below w.heap.size w w' := by
  obtain ⟨i0, hi, hz0, hz1, hz2⟩ := info9_parts
  have HNL := Lib.hid hrd.lenS
  have HTX := Lib.hid htx; clear htx
  have HMA : Hid (∀ l ∈ ns, ∀ W, Calls Tryd.prog 11 #[.string (strOfNums l), .string (strOfNums p)] W fun e w' => e = .returned (.bool (mt p l)) ∧ Dr W w') := fun l hl W => match_any l p W (HTX.out l hl).1 hp (HTX.out l hl).2 hlp
  have HS := Lib.hid hsort; have HSN := Lib.hid hsn; have HC := Lib.hid hcomp; have HCN := Lib.hid hcn
  clear hsort hsn hcomp hcn hp hlp
  generalize strOfNums p = SP at *
  go_enter Tryd.func8, Tryd.ntmps8
  go_wp2
  go_loopw [5, 10] (fun ov iv wr => ∃ (k m c' : Nat) (A' : Option Addr), ov = .slice A' m c' ∧ iv = .int .i64 k ∧ k ≤ n ∧ m ≤ k ∧ Own wr w.heap.size 9 A' m c' (St ((ns.take k).filter (mt p))) ∧ Below w.heap.size w wr) (fun _ iv _ => n - (intOf iv).toNat)
  case atStart => exact ⟨0, 0, 0, none, rfl, rfl, by omega, by omega, Own.nil_, Below.refl _ _⟩
  case round =>
    obtain ⟨k, m, c', A', rfl, rfl, hk, hmk, ho, hbr⟩ := hrel
    by_cases hlt : k < n
    · obtain ⟨b, off, l, rfl, hcl, HX⟩ := (hrd.keep hbr).st_at hlt
      have HM := Lib.hid (HMA.out l (List.mem_of_getElem? HX.out))
      have HF := Lib.hid (filt_next (f := mt p) HX.out)
      obtain ⟨SL, hSL⟩ : ∃ SL, SL = strOfNums l := ⟨_, rfl⟩
      rw [← hSL] at hcl HM
      have HSL := Lib.hid hSL; clear hSL
      by_cases hm : mt p l = true
      · rw [hm] at HM
        replace HF := Lib.hid (HF.out.trans (by rw [if_pos hm]))
        go_wp2_with fail
        refine (HM.out _).mono ?_
        rintro e w1 ⟨rfl, hd1⟩
        have ho1 : Own w1 w.heap.size 9 A' m c' (St ((ns.take k).filter (mt p))) := by obtain ⟨q, rfl⟩ := hd1; exact ho
        have hb1 := hbr.trans (hd1.below _)
        have hs1 := hb1.size
        have ho2 := ho1.alloc (.cells #[.string SL] 9)
        have hb2 := hb1.trans ((below_alloc w1 (.cells #[.string SL] 9)).mono hs1)
        clear ho ho1 hbr hb1 hd1
        go_wp2_with (at_builtin; refine wpList_append_rd rfl _ _ 22 rfl i0 (.string .empty) 16 Tryd.underlying22 hi hz0 hz1 hz2 rfl rfl ho2 (some ⟨w1.heap.size, 0, none⟩) 1 1 [.string SL] rfl (rd_oneS w1 _ 9) (fun u hu => by rw [List.mem_singleton.1 hu]; rfl) ?c1 ?c2 ?c3 ?_)
        case c1 => unfold maxLen; omega
        case c2 => omega
        case c3 => simp; omega
        intro A4 c4 w4 ho4 hg4
        have hb4 := hb2.trans (hg4.below (B := w.heap.size) (by simp; omega) (fun j hj => (ho2.lies j hj).1))
        have ho5 : Own w4 w.heap.size 9 A4 (m + 1) c4 (St ((ns.take (k + 1)).filter (mt p))) := by
          rw [HF.out, St_append]
          have e1 : St [l] = [.string SL] := by rw [HSL.out]; rfl
          rw [e1]; exact ho4
        clear ho2 ho4 hb2 hg4
        go_wp2
        go_roundw
        case rel => exact ⟨k + 1, m + 1, c4, A4, rfl, by go_num, by omega, by omega, ho5, hb4⟩
        case measure => simp [intOf]; omega
      · have hm : mt p l = false := by simpa using hm
        rw [hm] at HM
        replace HF := Lib.hid (HF.out.trans (show _ = (ns.take k).filter (mt p) by rw [if_neg (by rw [hm]; simp), List.append_nil]))
        go_wp2_with fail
        refine (HM.out _).mono ?_
        rintro e w1 ⟨rfl, hd1⟩
        have ho1 : Own w1 w.heap.size 9 A' m c' (St ((ns.take (k + 1)).filter (mt p))) := by rw [HF.out]; obtain ⟨q, rfl⟩ := hd1; exact ho
        have hb1 := hbr.trans (hd1.below _)
        clear ho hbr hd1
        go_wp2
        go_roundw
        case rel => exact ⟨k + 1, m, c', A', rfl, by go_num, by omega, by omega, ho1, hb1⟩
        case measure => simp [intOf]; omega
    · have HT := Lib.hid (show ns.take k = ns from List.take_of_length_le (by rw [HNL.out]; omega))
      have HL := Lib.hid ho.lenS
      have HMEM : Hid (∀ x, x ∈ (ns.take k).filter (mt p) ↔ x ∈ ns ∧ mt p x = true) := fun x => by rw [HT.out, List.mem_filter]
      have htxf : Tx ((ns.take k).filter (mt p)) := HTX.out.sub fun x hx => ((HMEM.out x).1 hx).1
      have hs := hbr.size
      generalize (ns.take k).filter (mt p) = F at *
      by_cases hm0 : m = 0
      · subst hm0
        have HF0 := Lib.hid (List.eq_nil_of_length_eq_zero HL.out)
        go_wp2_with fail
        refine (HSN.out A' c' _).mono ?_
        rintro e w1 ⟨rfl, rfl⟩
        go_wp2_with fail
        refine (HCN.out A' c' _).mono ?_
        rintro e w1 ⟨rfl, rfl⟩
        go_wp2
        go_ret
        exact ⟨A', c', 0, F, rfl, ho, by rw [HF0.out]; exact List.Pairwise.nil, HMEM.out, hbr⟩
      · obtain ⟨g, cap, hv, _, hlt2⟩ := World.ownsRow.form ho (by omega)
        obtain rfl : A' = some ⟨g, 0, none⟩ := by injection hv
        have HS1 := Lib.hid (HS.out g m c' w.heap.size F wr ho htxf (by omega) (by omega))
        have hmp : 0 < m := by omega
        have hmk2 : m ≤ 1000000 := by omega
        clear hv hm0
        go_wp2_with fail
        refine HS1.out.mono ?_
        rintro e w1 ⟨rfl, M1, ho1, hw1, HM1, hb1⟩
        replace HM1 := Lib.hid HM1
        have htx1 : Tx M1 := htxf.sub fun x hx => (HM1.out x).1 hx
        have HC1 := Lib.hid (HC.out g m c' w.heap.size M1 w1 ho1 htx1 hw1 hmp hmk2)
        clear ho ho1 hw1 HS1
        go_wp2_with fail
        refine HC1.out.mono ?_
        rintro e w2 ⟨M2, m2, rfl, ho2, hs2, HM2, hb2⟩
        replace HM2 := Lib.hid HM2
        have hb3 := (hbr.trans hb1).trans hb2
        have HF2 : Hid (∀ x, x ∈ M2 ↔ x ∈ ns ∧ mt p x = true) := fun x => (HM2.out x).trans ((HM1.out x).trans (HMEM.out x))
        clear hbr hb1 hb2 HC1
        go_wp2
        go_ret
        exact ⟨_, c', m2, M2, rfl, ho2, hs2, HF2.out, hb3⟩
end Go.Proofs.YtdlbghjclcdfmabDoor
