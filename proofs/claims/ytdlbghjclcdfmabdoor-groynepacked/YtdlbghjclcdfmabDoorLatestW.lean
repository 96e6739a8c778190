/- label.Latest of a row of texts. -/
import Derived.Test.YtdlbghjclcdfmabDoorSortW
namespace Go.Proofs.YtdlbghjclcdfmabDoor
set_option linter.unusedVariables false
set_option linter.unusedSimpArgs false
open Go.RowKit Go.Shelf Go.Lib Go.Sort

theorem pickBy_max (d : Array Nmz) : ∀ i, i < d.size → (∃ j, j ≤ i ∧ pickBy (fun x m => decide (0 < cfZ x m)) d i = d[j]!) ∧ ∀ j, j ≤ i → cmpS (d[j]!).1 (pickBy (fun x m => decide (0 < cfZ x m)) d i).1 ≤ 0
  | 0, _ => by
    refine ⟨⟨0, Nat.le_refl _, rfl⟩, fun j hj => ?_⟩
    obtain rfl : j = 0 := by omega
    simp only [pickBy]
    rw [cmpS_self]; omega
  | i + 1, hi => by
    obtain ⟨⟨j0, hj0, e0⟩, hm⟩ := pickBy_max d i (by omega)
    simp only [pickBy]
    by_cases h : 0 < cfZ d[i + 1]! (pickBy (fun x m => decide (0 < cfZ x m)) d i)
    · rw [if_pos (by simpa using h)]
      refine ⟨⟨i + 1, Nat.le_refl _, rfl⟩, fun j hj => ?_⟩
      by_cases e : j = i + 1
      · subst e; rw [cmpS_self]; omega
      · have h1 := hm j (by omega)
        have h : 0 < cmpS (d[i + 1]!).1 (pickBy (fun x m => decide (0 < cfZ x m)) d i).1 := h
        have h2 := cmpS_swap (d[i + 1]!).1 (pickBy (fun x m => decide (0 < cfZ x m)) d i).1
        exact cmpS_trans h1 (by omega)
    · rw [if_neg (by simpa using h)]
      refine ⟨⟨j0, by omega, e0⟩, fun j hj => ?_⟩
      by_cases e : j = i + 1
      · subst e
        have h : ¬ 0 < cmpS (d[i + 1]!).1 (pickBy (fun x m => decide (0 < cfZ x m)) d i).1 := h
        omega
      · exact hm j (by omega)
theorem grown_sorted {w : World} {base g n c : Nat} {e : TypeId} {vs us : List Value} (h : Own w base e (some ⟨g, 0, none⟩) n c vs) (hu : us.length ≤ n) (q : Nat) (os : Array Obj) : w.grownBy (Go.Sort.grow ((w.drewN q).setCells g 0 us) os) (some g) := by
  have h1 := (Own.setCells_at us 0 (h.drewN q) (by omega)).2
  have hs : w.heap.size ≤ ((w.drewN q).setCells g 0 us).heap.size := h1.size
  refine ⟨h1.os, h1.tape, h1.output, ?_, fun b hb hne => ?_⟩
  · show w.heap.size ≤ (((w.drewN q).setCells g 0 us).heap ++ os).size
    rw [Array.size_append]; omega
  · rw [Go.Sort.heap_grow_old _ os (by omega)]; exact h1.block b hb hne
theorem max_any (g n c base : Nat) (L : List (List Int)) (w : World) (ho : Own w base 9 (some ⟨g, 0, none⟩) n c (St L)) (hT : Tx L) (hn0 : 0 < n) (hn : n ≤ 1000000) :
    Calls Tryd.prog 29 #[.slice (some ⟨g, 0, none⟩) n c, .func (.func 9) #[] #[]] w fun e w' => ∃ x, e = .returned (.string (strOfNums x)) ∧ x ∈ L ∧ (∀ y ∈ L, cmpS y x ≤ 0) ∧ Own w' base 9 (some ⟨g, 0, none⟩) n c (St L) ∧ Below base w w' ∧ w.grownBy w' (some g) := by
  have hl := ho.lenS
  have hH := holdsZ ho hT
  have hlt := (ho.lies g rfl).2
  have hbg := (ho.lies g rfl).1
  have hsz : (zsOf L hT).toArray.size = n := by simp [zsOf_len, hl]
  have eg : ∀ args w, (callFunc 9 args).run Tryd.prog w = .ok (.enter 9 args) w := enters_of Tryd.func9 (by kernel_rfl) rfl
  have hS := Any.slices_MaxFunc_s Tryd.maxL encZ (fun _ => rfl) cfZ 9 #[] g 0 c (zsOf L hT).toArray w eg (cmpReads13 g 0 _ w).lays hH hlt (by rw [hsz]; omega) (by rw [hsz]; omega)
  change Calls Tryd.prog 29 _ _ _ at hS
  have hval : ∀ j, j < n → L[j]? = some ((zsOf L hT).toArray[j]!).1 := fun j hj => by
    have hj' : j < (zsOf L hT).toArray.size := by omega
    rw [getElem!_pos _ j hj']
    have : j < L.length := by omega
    simp [zsOf, List.getElem?_eq_getElem this]
  obtain ⟨⟨j0, hj0, e0⟩, hm⟩ := pickBy_max (zsOf L hT).toArray ((zsOf L hT).toArray.size - 1) (by omega)
  rw [hsz] at hS hj0 e0 hm
  refine hS.mono fun e w' ⟨he, q, os, hw⟩ => ⟨_, he, ?_, fun y hy => ?_, ?_, ?_, ?_⟩
  · rw [e0]; exact List.mem_of_getElem? (hval j0 (by omega))
  · obtain ⟨j, hj, ey⟩ := List.getElem_of_mem hy
    have h1 := hval j (by omega)
    rw [List.getElem?_eq_getElem hj] at h1
    injection h1 with h1
    rw [← ey, h1]
    exact hm j (by omega)
  · have hw2 : w' = grow ((w.drewN q).setCells g 0 (St L)) os := by
      rw [hw]
      have h2 := Lib.sorted_world encZ w g 0 q (zsOf L hT).toArray (zsOf L hT) os hH (by simp)
      rw [zsOf_enc, zsOf_map] at h2
      exact h2
    rw [hw2]; exact ((ho.drewN q).setCells_all (by rw [St_length, hl])).grow_ os
  · have hw2 : w' = grow ((w.drewN q).setCells g 0 (St L)) os := by
      rw [hw]
      have h2 := Lib.sorted_world encZ w g 0 q (zsOf L hT).toArray (zsOf L hT) os hH (by simp)
      rw [zsOf_enc, zsOf_map] at h2
      exact h2
    rw [hw2]; exact below_sorted ho (by rw [St_length, hl]; exact Nat.le_refl _) hbg (by omega) q os
  · have hw2 : w' = grow ((w.drewN q).setCells g 0 (St L)) os := by
      rw [hw]
      have h2 := Lib.sorted_world encZ w g 0 q (zsOf L hT).toArray (zsOf L hT) os hH (by simp)
      rw [zsOf_enc, zsOf_map] at h2
      exact h2
    rw [hw2]; exact grown_sorted ho (by rw [St_length, hl]; exact Nat.le_refl _) q os
set_option maxRecDepth 100000 in
set_option maxHeartbeats 1000000 in
theorem latest_any (g n c base : Nat) (L : List (List Int)) (w : World) (ho : Own w base 9 (some ⟨g, 0, none⟩) n c (St L)) (hT : Tx L) (hn0 : 0 < n) (hn : n ≤ 1000000) :
    Calls Tryd.prog 10 #[.slice (some ⟨g, 0, none⟩) n c] w fun e w' => ∃ x, e = .returned (.tuple #[.string (strOfNums x), .bool true]) ∧ x ∈ L ∧ (∀ y ∈ L, cmpS y x ≤ 0) ∧ Own w' base 9 (some ⟨g, 0, none⟩) n c (St L) ∧ Below base w w' ∧ w.grownBy w' (some g) := by
  have HM := Lib.hid (max_any g n c base L w ho hT hn0 hn)
  have hne : ((n : Int) == 0) = false := by simp; omega
  clear ho hT
  go_enter Tryd.func10, Tryd.ntmps10
  go_wp2_with fail
  refine HM.out.mono ?_
  rintro e w1 ⟨x, rfl, hx, hmx, ho1, hb1, hg1⟩
  go_wp2
  go_ret2
  exact ⟨x, rfl, hx, hmx, ho1, hb1, hg1⟩
set_option maxRecDepth 100000 in
theorem latest_none (A : Option Addr) (c : Nat) (w : World) : Calls Tryd.prog 10 #[.slice A 0 c] w fun e w' => e = .returned (.tuple #[.string ⟨#[]⟩, .bool false]) ∧ w = w' := by
  go_enter Tryd.func10, Tryd.ntmps10
  go_wp2
  go_ret2
  exact ⟨rfl, rfl⟩
end Go.Proofs.YtdlbghjclcdfmabDoor
