/- The reference's Pick. -/
import Derived.Test.YtdlbghjclcdfmaaDoorIns
import Derived.Test.YtdlbghjclcdfmaaDoorPickW
import Derived.Test.YtdlbghjclcdfmaaDoorRMatchW
import Derived.Test.YtdlbghjclcdfmaaDoorRComp2W
import Derived.Test.YtdlbghjclcdfmaaDoorOrdersW
import Derived.Deep.RegionHeld3
import Derived.BigRegion
namespace Go.Proofs.YtdlbghjclcdfmaaDoor
set_option linter.unusedVariables false
set_option linter.unusedSimpArgs false
open Go.RowKit

theorem Own.st_cell {w : World} {base g n c k : Nat} {e : TypeId} {L : List (List Int)} {l : List Int} (h : Own w base e (some ⟨g, 0, none⟩) n c (St L)) (hx : L[k]? = some l) : w.cell? ⟨g, k, none⟩ = some (.string (strOfNums l)) := by
  have hl := h.lenS
  have hk : k < n := by have := (List.getElem?_eq_some_iff.1 hx).1; omega
  rw [World.ownsRow.cellAt h k (by omega)]
  simp [St, hx]
theorem Own.keepB {w w' : World} {base n c : Nat} {A : Option Addr} {e : TypeId} {vs : List Value} (h : Own w base e A n c vs) (hb : Below w.heap.size w w') : Own w' base e A n c vs := h.below hb (fun k hk => (h.lies k hk).2)

/-- A slice's address behind a cut at its head. -/
def cutA (A : Option Addr) (c lo : Nat) : Option Addr := if c = lo then A else A.map (·.add lo)
theorem elem31 : Tryd.prog.underlying 31 = some (.slice (Tryd.prog.elem 31)) := by kernel_rfl
theorem elem31' : Tryd.prog.elem 31 = 9 := by kernel_rfl
theorem addz (A : Option Addr) : A.map (fun x => x.add 0) = A := by
  cases A with
  | none => rfl
  | some a => simp only [Option.map_some, Option.some.injEq]; unfold Addr.add; simp
theorem slice_h31 (A : Option Addr) (n c h : Nat) (i : Int) (hi : i = (h : Int)) (hh : h ≤ c) (W : World) :
    (Instr.slice 31 (.slice A n c) none (some (.int .i64 i)) none).run Tryd.prog W = .ok (.slice A h c) W := by
  subst hi
  rw [run_slice_h (P := Tryd.prog) W 31 A n c elem31 .i64 h (by omega) (by omega), elem31', Tryd.sizeOf9]
  simp only [sliced, Result.andThen, Nat.zero_mul, addz, ite_self, Int.toNat_natCast]; rfl
theorem slice_l31 (A : Option Addr) (n c lo : Nat) (i : Int) (hi : i = (lo : Int)) (h : lo ≤ n) (W : World) :
    (Instr.slice 31 (.slice A n c) (some (.int .i64 i)) none none).run Tryd.prog W = .ok (.slice (cutA A c lo) (n - lo) (c - lo)) W := by
  subst hi
  rw [run_slice_l (P := Tryd.prog) W 31 A n c elem31 .i64 (lo : Int) (by omega) (by omega), elem31', Tryd.sizeOf9]
  simp only [sliced, Result.andThen, Int.toNat_natCast, Nat.mul_one]; rfl
theorem Rd.takeS {w : World} {A : Option Addr} {n j : Nat} {L : List (List Int)} (h : Rd w A n (St L)) (hj : j ≤ n) : Rd w A j (St (L.take j)) := by
  have hl := h.lenS
  refine ⟨by rw [St_length, List.length_take]; omega, fun hn => ?_⟩
  obtain ⟨b, off, rfl, hb, hc⟩ := h.2 (by omega)
  refine ⟨b, off, rfl, hb, fun i u hu => hc i u ?_⟩
  simp only [St, List.getElem?_map, List.getElem?_take] at hu ⊢
  split at hu
  · exact hu
  · simp at hu
theorem Rd.dropS {w : World} {A : Option Addr} {n c lo : Nat} {L : List (List Int)} (h : Rd w A n (St L)) (h2 : lo ≤ n) (h3 : n ≤ c) : Rd w (cutA A c lo) (n - lo) (St (L.drop lo)) := by
  have hl := h.lenS
  refine ⟨by rw [St_length, List.length_drop]; omega, fun hn => ?_⟩
  obtain ⟨b, off, rfl, hb, hc⟩ := h.2 (by omega)
  refine ⟨b, off + lo, ?_, hb, fun j u hu => ?_⟩
  · unfold cutA; rw [if_neg (by omega)]
    simp only [Option.map_some, Option.some.injEq]
    unfold Addr.add; split
    · next h0 => subst h0; rfl
    · rfl
  · rw [Nat.add_assoc]
    refine hc _ u ?_
    simpa [St, List.getElem?_drop] using hu
theorem Own.capG {w : World} {base n c : Nat} {A : Option Addr} {e : TypeId} {vs : List Value} (h : Own w base e A n c vs) : n ≤ c := by
  rcases h.2 with ⟨hv, h0⟩ | ⟨g', cap, cur, hv, _, _, hnc, _⟩
  · injection hv with _ _ h3; omega
  · injection hv with _ _ h3; omega

set_option maxRecDepth 100000 in
set_option maxHeartbeats 2000000 in
theorem rpick_any (p : List Int) (A : Option Addr) (n c : Nat) (ns : List (List Int)) (w : World) (hp : Ran p) (hlp : p.length ≤ 1000000) (hrd : Rd w A n (St ns)) (htx : Tx ns) (htl : ∀ l ∈ ns, l.length ≤ 1000000) (hn : n ≤ 1000000) :
    Calls Tryd.prog 19 #[.string (strOfNums p), .slice A n c] w fun e w' => ∃ (A' : Option Addr) (c' m : Nat) (M : List (List Int)), e = .returned (.slice A' m c') ∧ Own w' w.heap.size 9 A' m c' (St M) ∧ Srt M ∧ (∀ x, x ∈ M ↔ x ∈ ns ∧ mt p x = true) ∧ Below w.heap.size w w' := by
  obtain ⟨i0, hi, hz0, hz1, hz2⟩ := info9_parts
  have HNL := Lib.hid hrd.lenS
  have HTX := Lib.hid htx; clear htx
  have HRM : Hid (∀ l ∈ ns, ∀ W, Calls Tryd.prog 17 #[.string (strOfNums l), .string (strOfNums p)] W fun e w' => e = .returned (.bool (mt p l)) ∧ Below W.heap.size W w') := fun l hl W => rmatch_any l p W (HTX.out l hl).1 hp (htl l hl) hlp
  have HRC : Hid (∀ l ∈ ns, ∀ y ∈ ns, ∀ W, Calls Tryd.prog 15 #[.string (strOfNums l), .string (strOfNums y)] W fun e w' => e = .returned (.int .i64 (cmpS l y)) ∧ Below W.heap.size W w') := fun l hl y hy W => rcompare_any l y W (HTX.out l hl).1 (HTX.out y hy).1 (HTX.out l hl).2 (HTX.out y hy).2
  have HST : Hid (∀ l ∈ ns, ∀ y ∈ ns, ((strOfNums y).toList == (strOfNums l).toList) = decide (y = l)) := fun l hl y hy => by
    by_cases e : y = l
    · subst e; simp
    · rw [beq_eq_false_iff_ne.2 (fun h => e (str_inj (HTX.out y hy).1 (HTX.out l hl).1 h))]; simp [e]
  clear hp hlp htl
  generalize strOfNums p = SP at *
  go_enter Tryd.func19, Tryd.ntmps19
  go_wp2
  go_loopw [5, 6] (fun ov iv wr => ∃ (k m c' : Nat) (A' : Option Addr) (O : List (List Int)), ov = .slice A' m c' ∧ iv = .int .i64 k ∧ k ≤ n ∧ m ≤ k ∧ Hid (Put p ns k O) ∧ Own wr w.heap.size 9 A' m c' (St O) ∧ Below w.heap.size w wr) (fun _ iv _ => n - (intOf iv).toNat)
  case atStart => exact ⟨0, 0, 0, none, [], rfl, rfl, by omega, by omega, Put.start p ns, Own.nil_, Below.refl _ _⟩
  case round =>
    obtain ⟨k, m, c', A', O, rfl, rfl, hk, hmk, HP, ho, hbr⟩ := hrel
    rename World => wo
    by_cases hlt : k < n
    · have hrd1 := hrd.keep hbr
      obtain ⟨b, off, l, rfl, hcl0, HX⟩ := hrd1.st_at hlt
      have hbb : b < wo.heap.size := by
        obtain ⟨b', off', hA, hb', _⟩ := hrd1.2 (by omega)
        injection hA with hA; injection hA with h1 h2; omega
      have HLN := Lib.hid (List.mem_of_getElem? HX.out)
      have HON : Hid (∀ y ∈ O, y ∈ ns) := fun y hy => List.mem_of_mem_take ((HP.out.2 y).1 hy).1
      have HOL := Lib.hid ho.lenS
      have hso := hbr.size
      clear hrd1
      go_wp2
      go_loopw [7] (fun nv wr => ∃ (j : Nat), nv = .int .i64 j ∧ j ≤ m ∧ Hid (∀ y ∈ O.drop j, cmpS l y < 0) ∧ Below wo.heap.size wo wr) (fun nv _ => (intOf nv).toNat)
      case atStart => exact ⟨m, rfl, by omega, (fun y hy => by rw [List.drop_of_length_le (by rw [HOL.out]; exact Nat.le_refl _)] at hy; cases hy), Below.refl _ _⟩
      case round =>
        obtain ⟨j', rfl, hj, HD, hb2⟩ := hrel
        rename World => wi
        have ho2 := ho.keepB hb2
        have hc1 : wi.cell? ⟨b, off + k, none⟩ = some (.string (strOfNums l)) := (hb2.cell (p := ⟨b, off + k, none⟩) hbb).trans hcl0
        have hsi := hb2.size
        rcases Nat.eq_zero_or_pos j' with hj0 | hj0
        · have HJ := Lib.hid hj0
          have hng : ¬ ((0 : Int) < (j' : Int)) := by omega
          have hng1 : decide ((0 : Int) < (j' : Int)) = false := by simp; omega
          have hng2 : decide (0 < j') = false := by simp; omega
          have hng3 : ¬ (0 < j') := by omega
          have HMM := Lib.hid (HRM.out l HLN.out)
          obtain ⟨SL, hSL⟩ : ∃ SL, SL = strOfNums l := ⟨_, rfl⟩
          rw [← hSL] at hc1 HMM
          have HSL := Lib.hid hSL; clear hSL
          have hi2 : (0 : Int) ≤ (k : Int) := by omega
          have hi3 : (k : Int) < (n : Int) := by omega
          have hD0 : Hid (∀ y ∈ O.take j', cmpS y l < 0) := fun y hy => by rw [HJ.out] at hy; simp at hy
          clear hj0
          have hc1d : wi.drew.cell? ⟨b, off + k, none⟩ = some (.string SL) := hc1
          go_wp2
          go_region
          have hbq : ∀ q, Below wo.heap.size wo (wi.drewN q) := fun q => below_n hb2 q
          have hcq : ∀ q, (wi.drewN q).cell? ⟨b, off + k, none⟩ = some (.string SL) := fun q => hc1
          have hcq1 : ∀ q, (wi.drewN q).drew.cell? ⟨b, off + k, none⟩ = some (.string SL) := fun q => hc1
          go_wp2
          by_cases hm : mt p l = true
          · rw [hm] at HMM
            refine wp_region_held_drew (S := (fun w' => w'.cell? ⟨b, off + k, none⟩ = some (.string SL))) (by kernel_rfl) hc1 (fun hH0 => ?_)
            refine wpAnyH_take (i := 0) (oi := { dst := some 34, op := Op.move (Operand.tmp 1), type := 31, pos := _, after := #[], guard := none }) (v := ?v1_0) rfl (by kernel_rfl) (by kernel_rfl) (by kernel_rfl) (fun _ _ _ h => h) (Or.inl ⟨by rfl, ?y1_0⟩) hH0 ?r1_0
            case y1_0 => (intro w hSw; (try dsimp only at hSw); go_simp; try (with_reducible rfl))
            try simp only [Act.put, List.setIfInBounds_toArray, List.set_cons_zero, List.set_cons_succ]
            refine wpAnyH_take (i := 1) (oi := { dst := some 35, op := Op.move (Operand.tmp 6), type := 3, pos := _, after := #[], guard := none }) (v := ?v1_1) rfl (by kernel_rfl) (by kernel_rfl) (by kernel_rfl) (fun _ _ _ h => h) (Or.inl ⟨by rfl, ?y1_1⟩) hH0 ?r1_1
            case y1_1 => (intro w hSw; (try dsimp only at hSw); go_simp; try (with_reducible rfl))
            try simp only [Act.put, List.setIfInBounds_toArray, List.set_cons_zero, List.set_cons_succ]
            refine wpAnyH_take (i := 2) (oi := { dst := some 36, op := Op.indexAddr 31 (Operand.tmp 34) (Operand.tmp 35), type := 0, pos := _, after := #[{ on := 0, ground := Ground.data }, { on := 1, ground := Ground.data }], guard := none }) (v := ?v1_2) rfl (by kernel_rfl) (by kernel_rfl) (by kernel_rfl) (fun _ _ _ h => h) (Or.inl ⟨by rfl, ?y1_2⟩) hH0 ?r1_2
            case y1_2 => (intro w hSw; (try dsimp only at hSw); go_simp; try (with_reducible rfl))
            try simp only [Act.put, List.setIfInBounds_toArray, List.set_cons_zero, List.set_cons_succ]
            refine wpAnyH_take (i := 3) (oi := { dst := some 37, op := Op.load 9 (Operand.tmp 36), type := 9, pos := _, after := #[{ on := 2, ground := Ground.data }], guard := none }) (v := ?v1_3) rfl (by kernel_rfl) (by kernel_rfl) (by kernel_rfl) (fun _ _ _ h => h) (Or.inl ⟨by rfl, ?y1_3⟩) hH0 ?r1_3
            case y1_3 => (intro w hSw; (try dsimp only at hSw); go_simp; try (with_reducible rfl))
            try simp only [Act.put, List.setIfInBounds_toArray, List.set_cons_zero, List.set_cons_succ]
            refine wpAnyH_take (i := 4) (oi := { dst := some 38, op := Op.move (Operand.tmp 0), type := 9, pos := _, after := #[], guard := none }) (v := ?v1_4) rfl (by kernel_rfl) (by kernel_rfl) (by kernel_rfl) (fun _ _ _ h => h) (Or.inl ⟨by rfl, ?y1_4⟩) hH0 ?r1_4
            case y1_4 => (intro w hSw; (try dsimp only at hSw); go_simp; try (with_reducible rfl))
            try simp only [Act.put, List.setIfInBounds_toArray, List.set_cons_zero, List.set_cons_succ]
            refine wpAnyH_ready (rs := [5]) (by kernel_rfl) (by simp) ?_
            refine AllReadyH.cons (o := { dst := some 39, op := Op.call { callee := Callee.value (Operand.func 17), args := #[Operand.tmp 37, Operand.tmp 38], argTypes := #[9, 9] }, type := 4, pos := _, after := #[{ on := 3, ground := Ground.data }, { on := 4, ground := Ground.data }], guard := none }) rfl (fun K hK => ?_) AllReadyH.nil
            go_simp
            refine (HMM.out _).mono ?_
            rintro e w4 ⟨rfl, hb4⟩
            have k1 : w4.cell? ⟨b, off + k, none⟩ = some (.string SL) := (hb4.cell (p := ⟨b, off + k, none⟩) (show b < wi.heap.size by omega)).trans hc1
            go_wp2_with fail
            refine hK.out _ _ k1 (fun hH1 => ?_)
            clear hK K hH0
            try simp only [Act.put, List.setIfInBounds_toArray, List.set_cons_zero, List.set_cons_succ]
            refine wpAnyH_take (i := 6) (oi := { dst := some 40, op := Op.unOp UnOp.not 4 (Operand.tmp 39), type := 4, pos := _, after := #[{ on := 5, ground := Ground.data }], guard := none }) (v := ?v1_6) rfl (by kernel_rfl) (by kernel_rfl) (by kernel_rfl) (fun _ _ _ h => h) (Or.inl ⟨by rfl, ?y1_6⟩) hH1 ?r1_6
            case y1_6 => (intro w hSw; (try dsimp only at hSw); go_simp; try (with_reducible rfl))
            try simp only [Act.put, List.setIfInBounds_toArray, List.set_cons_zero, List.set_cons_succ]
            refine wpAnyH_take (i := 7) (oi := { dst := some 41, op := Op.move (Operand.tmp 40), type := 4, pos := _, after := #[{ on := 6, ground := Ground.data }, { on := 5, ground := Ground.chain }], guard := none }) (v := ?v1_7) rfl (by kernel_rfl) (by kernel_rfl) (by kernel_rfl) (fun _ _ _ h => h) (Or.inl ⟨by rfl, ?y1_7⟩) hH1 ?r1_7
            case y1_7 => (intro w hSw; (try dsimp only at hSw); go_simp; try (with_reducible rfl))
            try simp only [Act.put, List.setIfInBounds_toArray, List.set_cons_zero, List.set_cons_succ]
            refine wpAnyH_take (i := 8) (oi := { dst := some 42, op := Op.move (Operand.tmp 7), type := 3, pos := _, after := #[{ on := 7, ground := Ground.guard }], guard := some (7, false) }) (v := ?v1_8) rfl (by kernel_rfl) (by kernel_rfl) (by kernel_rfl) (fun _ _ _ h => h) (Or.inl ⟨by rfl, ?y1_8⟩) hH1 ?r1_8
            case y1_8 => (intro w hSw; (try dsimp only at hSw); go_simp; try (with_reducible rfl))
            try simp only [Act.put, List.setIfInBounds_toArray, List.set_cons_zero, List.set_cons_succ]
            refine wpAnyH_take (i := 9) (oi := { dst := some 43, op := Op.binOp BinOp.gtr 3 (Operand.tmp 42) (Operand.const (Value.int IntKind.i64 0)) 3, type := 4, pos := _, after := #[{ on := 8, ground := Ground.data }, { on := 7, ground := Ground.guard }], guard := some (7, false) }) (v := ?v1_9) rfl (by kernel_rfl) (by kernel_rfl) (by kernel_rfl) (fun _ _ _ h => h) (Or.inl ⟨by rfl, ?y1_9⟩) hH1 ?r1_9
            case y1_9 => (intro w hSw; (try dsimp only at hSw); go_simp; try (with_reducible rfl))
            try simp only [Act.put, List.setIfInBounds_toArray, List.set_cons_zero, List.set_cons_succ]
            refine wpAnyH_take (i := 10) (oi := { dst := some 44, op := Op.move (Operand.tmp 43), type := 4, pos := _, after := #[{ on := 9, ground := Ground.data }, { on := 7, ground := Ground.chain }, { on := 7, ground := Ground.guard }], guard := some (7, false) }) (v := ?v1_10) rfl (by kernel_rfl) (by kernel_rfl) (by kernel_rfl) (fun _ _ _ h => h) (Or.inl ⟨by rfl, ?y1_10⟩) hH1 ?r1_10
            case y1_10 => (intro w hSw; (try dsimp only at hSw); go_simp; try (with_reducible rfl))
            try simp only [Act.put, List.setIfInBounds_toArray, List.set_cons_zero, List.set_cons_succ]
            refine wpAnyH_take (i := 11) (oi := { dst := some 45, op := Op.move (Operand.tmp 5), type := 31, pos := _, after := #[{ on := 10, ground := Ground.guard }], guard := some (10, true) }) (v := undef) rfl (by kernel_rfl) (by kernel_rfl) (by kernel_rfl) (fun _ _ _ h => h) (Or.inr ⟨by rfl, rfl⟩) hH1 ?_
            try simp only [Act.put, List.setIfInBounds_toArray, List.set_cons_zero, List.set_cons_succ]
            refine wpAnyH_take (i := 12) (oi := { dst := some 46, op := Op.move (Operand.tmp 7), type := 3, pos := _, after := #[{ on := 10, ground := Ground.guard }], guard := some (10, true) }) (v := undef) rfl (by kernel_rfl) (by kernel_rfl) (by kernel_rfl) (fun _ _ _ h => h) (Or.inr ⟨by rfl, rfl⟩) hH1 ?_
            try simp only [Act.put, List.setIfInBounds_toArray, List.set_cons_zero, List.set_cons_succ]
            refine wpAnyH_take (i := 13) (oi := { dst := some 47, op := Op.binOp BinOp.sub 3 (Operand.tmp 46) (Operand.const (Value.int IntKind.i64 1)) 3, type := 3, pos := _, after := #[{ on := 12, ground := Ground.data }, { on := 10, ground := Ground.guard }], guard := some (10, true) }) (v := undef) rfl (by kernel_rfl) (by kernel_rfl) (by kernel_rfl) (fun _ _ _ h => h) (Or.inr ⟨by rfl, rfl⟩) hH1 ?_
            try simp only [Act.put, List.setIfInBounds_toArray, List.set_cons_zero, List.set_cons_succ]
            refine wpAnyH_take (i := 14) (oi := { dst := some 48, op := Op.indexAddr 31 (Operand.tmp 45) (Operand.tmp 47), type := 0, pos := _, after := #[{ on := 11, ground := Ground.data }, { on := 13, ground := Ground.data }, { on := 10, ground := Ground.guard }], guard := some (10, true) }) (v := undef) rfl (by kernel_rfl) (by kernel_rfl) (by kernel_rfl) (fun _ _ _ h => h) (Or.inr ⟨by rfl, rfl⟩) hH1 ?_
            try simp only [Act.put, List.setIfInBounds_toArray, List.set_cons_zero, List.set_cons_succ]
            refine wpAnyH_take (i := 15) (oi := { dst := some 49, op := Op.load 9 (Operand.tmp 48), type := 9, pos := _, after := #[{ on := 14, ground := Ground.data }, { on := 10, ground := Ground.guard }], guard := some (10, true) }) (v := undef) rfl (by kernel_rfl) (by kernel_rfl) (by kernel_rfl) (fun _ _ _ h => h) (Or.inr ⟨by rfl, rfl⟩) hH1 ?_
            try simp only [Act.put, List.setIfInBounds_toArray, List.set_cons_zero, List.set_cons_succ]
            refine wpAnyH_take (i := 16) (oi := { dst := some 50, op := Op.move (Operand.tmp 1), type := 31, pos := _, after := #[{ on := 10, ground := Ground.guard }], guard := some (10, true) }) (v := undef) rfl (by kernel_rfl) (by kernel_rfl) (by kernel_rfl) (fun _ _ _ h => h) (Or.inr ⟨by rfl, rfl⟩) hH1 ?_
            try simp only [Act.put, List.setIfInBounds_toArray, List.set_cons_zero, List.set_cons_succ]
            refine wpAnyH_take (i := 17) (oi := { dst := some 51, op := Op.move (Operand.tmp 6), type := 3, pos := _, after := #[{ on := 10, ground := Ground.guard }], guard := some (10, true) }) (v := undef) rfl (by kernel_rfl) (by kernel_rfl) (by kernel_rfl) (fun _ _ _ h => h) (Or.inr ⟨by rfl, rfl⟩) hH1 ?_
            try simp only [Act.put, List.setIfInBounds_toArray, List.set_cons_zero, List.set_cons_succ]
            refine wpAnyH_take (i := 18) (oi := { dst := some 52, op := Op.indexAddr 31 (Operand.tmp 50) (Operand.tmp 51), type := 0, pos := _, after := #[{ on := 16, ground := Ground.data }, { on := 17, ground := Ground.data }, { on := 10, ground := Ground.guard }], guard := some (10, true) }) (v := undef) rfl (by kernel_rfl) (by kernel_rfl) (by kernel_rfl) (fun _ _ _ h => h) (Or.inr ⟨by rfl, rfl⟩) hH1 ?_
            try simp only [Act.put, List.setIfInBounds_toArray, List.set_cons_zero, List.set_cons_succ]
            refine wpAnyH_take (i := 19) (oi := { dst := some 53, op := Op.load 9 (Operand.tmp 52), type := 9, pos := _, after := #[{ on := 18, ground := Ground.data }, { on := 10, ground := Ground.guard }], guard := some (10, true) }) (v := undef) rfl (by kernel_rfl) (by kernel_rfl) (by kernel_rfl) (fun _ _ _ h => h) (Or.inr ⟨by rfl, rfl⟩) hH1 ?_
            try simp only [Act.put, List.setIfInBounds_toArray, List.set_cons_zero, List.set_cons_succ]
            refine wpAnyH_take (i := 20) (oi := { dst := some 54, op := Op.binOp BinOp.eql 9 (Operand.tmp 49) (Operand.tmp 53) 9, type := 4, pos := _, after := #[{ on := 15, ground := Ground.data }, { on := 19, ground := Ground.data }, { on := 10, ground := Ground.guard }], guard := some (10, true) }) (v := undef) rfl (by kernel_rfl) (by kernel_rfl) (by kernel_rfl) (fun _ _ _ h => h) (Or.inr ⟨by rfl, rfl⟩) hH1 ?_
            try simp only [Act.put, List.setIfInBounds_toArray, List.set_cons_zero, List.set_cons_succ]
            refine wpAnyH_take (i := 21) (oi := { dst := some 55, op := Op.pick (Operand.tmp 44) (Operand.tmp 54) (Operand.const (Value.bool false)), type := 4, pos := _, after := #[{ on := 10, ground := Ground.data }, { on := 20, ground := Ground.data }, { on := 7, ground := Ground.guard }], guard := some (7, false) }) (v := ?v1_21) rfl (by kernel_rfl) (by kernel_rfl) (by kernel_rfl) (fun _ _ _ h => h) (Or.inl ⟨by rfl, ?y1_21⟩) hH1 ?r1_21
            case y1_21 => (intro w hSw; (try dsimp only at hSw); go_simp; try (with_reducible rfl))
            try simp only [Act.put, List.setIfInBounds_toArray, List.set_cons_zero, List.set_cons_succ]
            refine wpAnyH_take (i := 22) (oi := { dst := some 56, op := Op.pick (Operand.tmp 41) (Operand.const (Value.bool true)) (Operand.tmp 55), type := 4, pos := _, after := #[{ on := 7, ground := Ground.data }, { on := 21, ground := Ground.data }], guard := none }) (v := ?v1_22) rfl (by kernel_rfl) (by kernel_rfl) (by kernel_rfl) (fun _ _ _ h => h) (Or.inl ⟨by rfl, ?y1_22⟩) hH1 ?r1_22
            case y1_22 => (intro w hSw; (try dsimp only at hSw); go_simp; try (with_reducible rfl))
            try simp only [Act.put, List.setIfInBounds_toArray, List.set_cons_zero, List.set_cons_succ]
            refine wpAnyH_done (by kernel_rfl) ?_ _
            have hbw : Below wo.heap.size wo w4 := (below_n hb2 2).trans (hb4.mono hsi)
            have hoN := ho.keepB hbw
            have hbN : Below w.heap.size w w4 := hbr.trans (hbw.mono hso)
            have hsN := hbN.size
            have hswo := hbw.size
            have hcN : w4.cell? ⟨b, off + k, none⟩ = some (.string SL) := k1
            rename World => wN
            have HPUT := Lib.hid (HP.out.put HX.out hm hD0.out HD.out)
            clear hb2 hb4 ho2 hc1 hbq hcq hcq1 k1 hbw ho hcl0 hbr
            have hcap := hoN.capG
            have hsh := slice_h31 A' m c' j' (j' : Int) (by omega) (by omega)
            have hsd := slice_l31 A' m c' j' (j' : Int) (by omega) (by omega)
            have hown : Own (wN.alloc (.cells #[] 9)) wN.heap.size 9 (some ⟨wN.heap.size, 0, none⟩) 0 0 [] := World.ownsRow_made (e := 9) (size := 1) wN #[] 0 (Nat.le_refl _) (Nat.zero_le _) rfl
            have hb0 := below_alloc wN (.cells #[] 9)
            have hrt := ((hoN.keepB hb0).rd).takeS (j := j') (by omega)
            go_wp2_with (at_builtin; refine wpList_append_rd rfl _ _ 31 rfl i0 (.string .empty) 16 Tryd.underlying31 hi hz0 hz1 hz2 rfl rfl hown A' j' c' (St (O.take j')) rfl hrt (St_one _) ?a1 ?a2 ?a3 ?_)
            case a1 => unfold maxLen; omega
            case a2 => omega
            case a3 => simp
            intro A5 c5 w5 ho5 hg5
            have hb5 : Below wN.heap.size wN w5 := hb0.trans (hg5.below (by simp) (fun k hk => (hown.lies k hk).1))
            have hs5 := hb5.size
            have hc5 : w5.cell? ⟨b, off + k, none⟩ = some (.string SL) := (hb5.cell (p := ⟨b, off + k, none⟩) (show b < wN.heap.size by omega)).trans hcN
            have ho5' : Own w5 wN.heap.size 9 A5 j' c5 (St (O.take j')) := by simpa using ho5
            have ho6a := ho5'.alloc (.cells #[.string SL] 9)
            clear hown hb0 hrt ho5 hg5 ho5'
            go_wp2_with (at_builtin; refine wpList_append_rd rfl _ _ 31 rfl i0 (.string .empty) 16 Tryd.underlying31 hi hz0 hz1 hz2 rfl rfl ho6a (some ⟨w5.heap.size, 0, none⟩) 1 1 [.string SL] rfl (rd_oneS w5 _ 9) (fun u hu => by rw [List.mem_singleton.1 hu]; rfl) ?b1 ?b2 ?b3 ?_)
            case b1 => unfold maxLen; omega
            case b2 => omega
            case b3 => simp; omega
            intro A6 c6 w6 ho6 hg6
            have hb6 : Below wN.heap.size wN w6 := (hb5.trans ((below_alloc w5 (.cells #[.string SL] 9)).mono hs5)).trans (hg6.below (by simp; omega) (fun k hk => (ho6a.lies k hk).1))
            have hs6 := hb6.size
            have hrt2 := ((hoN.keepB hb6).rd).dropS (c := c') (lo := j') (by omega) hcap
            clear ho6a hb5 hg6 hc5
            go_wp2_with (at_builtin; refine wpList_append_rd rfl _ _ 31 rfl i0 (.string .empty) 16 Tryd.underlying31 hi hz0 hz1 hz2 rfl rfl ho6 (cutA A' c' j') (m - j') (c' - j') (St (O.drop j')) rfl hrt2 (St_one _) ?d1 ?d2 ?d3 ?_)
            case d1 => unfold maxLen; omega
            case d2 => omega
            case d3 => exact hs6
            intro A7 c7 w7 ho7 hg7
            have hb7 : Below wN.heap.size wN w7 := hb6.trans (hg7.below hs6 (fun k hk => (ho6.lies k hk).1))
            have hb8 := hbN.trans (hb7.mono hsN)
            have ho8 : Own w7 w.heap.size 9 A7 (j' + 1 + (m - j')) c7 (St (O.take j' ++ l :: O.drop j')) := by
              have e1 : St (O.take j' ++ l :: O.drop j') = St (O.take j') ++ Value.string SL :: St (O.drop j') := by rw [HSL.out]; simp [St]
              rw [e1]; exact ho7.mono hsN
            clear ho6 hrt2 ho7 hg7 hb6 hb7 hsh hsd
            go_wp2
            go_roundw
            case rel => exact ⟨k + 1, j' + 1 + (m - j'), c7, A7, _, rfl, by go_num, by omega, by omega, HPUT, ho8, hb8⟩
            case measure => simp [intOf]; omega
          · have hm : mt p l = false := by simpa using hm
            rw [hm] at HMM
            refine wp_region_held_drew (S := (fun w' => w'.cell? ⟨b, off + k, none⟩ = some (.string SL))) (by kernel_rfl) hc1 (fun hH0 => ?_)
            refine wpAnyH_take (i := 0) (oi := { dst := some 34, op := Op.move (Operand.tmp 1), type := 31, pos := _, after := #[], guard := none }) (v := ?v2_0) rfl (by kernel_rfl) (by kernel_rfl) (by kernel_rfl) (fun _ _ _ h => h) (Or.inl ⟨by rfl, ?y2_0⟩) hH0 ?r2_0
            case y2_0 => (intro w hSw; (try dsimp only at hSw); go_simp; try (with_reducible rfl))
            try simp only [Act.put, List.setIfInBounds_toArray, List.set_cons_zero, List.set_cons_succ]
            refine wpAnyH_take (i := 1) (oi := { dst := some 35, op := Op.move (Operand.tmp 6), type := 3, pos := _, after := #[], guard := none }) (v := ?v2_1) rfl (by kernel_rfl) (by kernel_rfl) (by kernel_rfl) (fun _ _ _ h => h) (Or.inl ⟨by rfl, ?y2_1⟩) hH0 ?r2_1
            case y2_1 => (intro w hSw; (try dsimp only at hSw); go_simp; try (with_reducible rfl))
            try simp only [Act.put, List.setIfInBounds_toArray, List.set_cons_zero, List.set_cons_succ]
            refine wpAnyH_take (i := 2) (oi := { dst := some 36, op := Op.indexAddr 31 (Operand.tmp 34) (Operand.tmp 35), type := 0, pos := _, after := #[{ on := 0, ground := Ground.data }, { on := 1, ground := Ground.data }], guard := none }) (v := ?v2_2) rfl (by kernel_rfl) (by kernel_rfl) (by kernel_rfl) (fun _ _ _ h => h) (Or.inl ⟨by rfl, ?y2_2⟩) hH0 ?r2_2
            case y2_2 => (intro w hSw; (try dsimp only at hSw); go_simp; try (with_reducible rfl))
            try simp only [Act.put, List.setIfInBounds_toArray, List.set_cons_zero, List.set_cons_succ]
            refine wpAnyH_take (i := 3) (oi := { dst := some 37, op := Op.load 9 (Operand.tmp 36), type := 9, pos := _, after := #[{ on := 2, ground := Ground.data }], guard := none }) (v := ?v2_3) rfl (by kernel_rfl) (by kernel_rfl) (by kernel_rfl) (fun _ _ _ h => h) (Or.inl ⟨by rfl, ?y2_3⟩) hH0 ?r2_3
            case y2_3 => (intro w hSw; (try dsimp only at hSw); go_simp; try (with_reducible rfl))
            try simp only [Act.put, List.setIfInBounds_toArray, List.set_cons_zero, List.set_cons_succ]
            refine wpAnyH_take (i := 4) (oi := { dst := some 38, op := Op.move (Operand.tmp 0), type := 9, pos := _, after := #[], guard := none }) (v := ?v2_4) rfl (by kernel_rfl) (by kernel_rfl) (by kernel_rfl) (fun _ _ _ h => h) (Or.inl ⟨by rfl, ?y2_4⟩) hH0 ?r2_4
            case y2_4 => (intro w hSw; (try dsimp only at hSw); go_simp; try (with_reducible rfl))
            try simp only [Act.put, List.setIfInBounds_toArray, List.set_cons_zero, List.set_cons_succ]
            refine wpAnyH_ready (rs := [5]) (by kernel_rfl) (by simp) ?_
            refine AllReadyH.cons (o := { dst := some 39, op := Op.call { callee := Callee.value (Operand.func 17), args := #[Operand.tmp 37, Operand.tmp 38], argTypes := #[9, 9] }, type := 4, pos := _, after := #[{ on := 3, ground := Ground.data }, { on := 4, ground := Ground.data }], guard := none }) rfl (fun K hK => ?_) AllReadyH.nil
            go_simp
            refine (HMM.out _).mono ?_
            rintro e w4 ⟨rfl, hb4⟩
            have k1 : w4.cell? ⟨b, off + k, none⟩ = some (.string SL) := (hb4.cell (p := ⟨b, off + k, none⟩) (show b < wi.heap.size by omega)).trans hc1
            go_wp2_with fail
            refine hK.out _ _ k1 (fun hH1 => ?_)
            clear hK K hH0
            try simp only [Act.put, List.setIfInBounds_toArray, List.set_cons_zero, List.set_cons_succ]
            refine wpAnyH_take (i := 6) (oi := { dst := some 40, op := Op.unOp UnOp.not 4 (Operand.tmp 39), type := 4, pos := _, after := #[{ on := 5, ground := Ground.data }], guard := none }) (v := ?v2_6) rfl (by kernel_rfl) (by kernel_rfl) (by kernel_rfl) (fun _ _ _ h => h) (Or.inl ⟨by rfl, ?y2_6⟩) hH1 ?r2_6
            case y2_6 => (intro w hSw; (try dsimp only at hSw); go_simp; try (with_reducible rfl))
            try simp only [Act.put, List.setIfInBounds_toArray, List.set_cons_zero, List.set_cons_succ]
            refine wpAnyH_take (i := 7) (oi := { dst := some 41, op := Op.move (Operand.tmp 40), type := 4, pos := _, after := #[{ on := 6, ground := Ground.data }, { on := 5, ground := Ground.chain }], guard := none }) (v := ?v2_7) rfl (by kernel_rfl) (by kernel_rfl) (by kernel_rfl) (fun _ _ _ h => h) (Or.inl ⟨by rfl, ?y2_7⟩) hH1 ?r2_7
            case y2_7 => (intro w hSw; (try dsimp only at hSw); go_simp; try (with_reducible rfl))
            try simp only [Act.put, List.setIfInBounds_toArray, List.set_cons_zero, List.set_cons_succ]
            refine wpAnyH_take (i := 8) (oi := { dst := some 42, op := Op.move (Operand.tmp 7), type := 3, pos := _, after := #[{ on := 7, ground := Ground.guard }], guard := some (7, false) }) (v := undef) rfl (by kernel_rfl) (by kernel_rfl) (by kernel_rfl) (fun _ _ _ h => h) (Or.inr ⟨by rfl, rfl⟩) hH1 ?_
            try simp only [Act.put, List.setIfInBounds_toArray, List.set_cons_zero, List.set_cons_succ]
            refine wpAnyH_take (i := 9) (oi := { dst := some 43, op := Op.binOp BinOp.gtr 3 (Operand.tmp 42) (Operand.const (Value.int IntKind.i64 0)) 3, type := 4, pos := _, after := #[{ on := 8, ground := Ground.data }, { on := 7, ground := Ground.guard }], guard := some (7, false) }) (v := undef) rfl (by kernel_rfl) (by kernel_rfl) (by kernel_rfl) (fun _ _ _ h => h) (Or.inr ⟨by rfl, rfl⟩) hH1 ?_
            try simp only [Act.put, List.setIfInBounds_toArray, List.set_cons_zero, List.set_cons_succ]
            refine wpAnyH_take (i := 10) (oi := { dst := some 44, op := Op.move (Operand.tmp 43), type := 4, pos := _, after := #[{ on := 9, ground := Ground.data }, { on := 7, ground := Ground.chain }, { on := 7, ground := Ground.guard }], guard := some (7, false) }) (v := undef) rfl (by kernel_rfl) (by kernel_rfl) (by kernel_rfl) (fun _ _ _ h => h) (Or.inr ⟨by rfl, rfl⟩) hH1 ?_
            try simp only [Act.put, List.setIfInBounds_toArray, List.set_cons_zero, List.set_cons_succ]
            refine wpAnyH_take (i := 11) (oi := { dst := some 45, op := Op.move (Operand.tmp 5), type := 31, pos := _, after := #[{ on := 10, ground := Ground.guard }], guard := some (10, true) }) (v := undef) rfl (by kernel_rfl) (by kernel_rfl) (by kernel_rfl) (fun _ _ _ h => h) (Or.inr ⟨by rfl, rfl⟩) hH1 ?_
            try simp only [Act.put, List.setIfInBounds_toArray, List.set_cons_zero, List.set_cons_succ]
            refine wpAnyH_take (i := 12) (oi := { dst := some 46, op := Op.move (Operand.tmp 7), type := 3, pos := _, after := #[{ on := 10, ground := Ground.guard }], guard := some (10, true) }) (v := undef) rfl (by kernel_rfl) (by kernel_rfl) (by kernel_rfl) (fun _ _ _ h => h) (Or.inr ⟨by rfl, rfl⟩) hH1 ?_
            try simp only [Act.put, List.setIfInBounds_toArray, List.set_cons_zero, List.set_cons_succ]
            refine wpAnyH_take (i := 13) (oi := { dst := some 47, op := Op.binOp BinOp.sub 3 (Operand.tmp 46) (Operand.const (Value.int IntKind.i64 1)) 3, type := 3, pos := _, after := #[{ on := 12, ground := Ground.data }, { on := 10, ground := Ground.guard }], guard := some (10, true) }) (v := undef) rfl (by kernel_rfl) (by kernel_rfl) (by kernel_rfl) (fun _ _ _ h => h) (Or.inr ⟨by rfl, rfl⟩) hH1 ?_
            try simp only [Act.put, List.setIfInBounds_toArray, List.set_cons_zero, List.set_cons_succ]
            refine wpAnyH_take (i := 14) (oi := { dst := some 48, op := Op.indexAddr 31 (Operand.tmp 45) (Operand.tmp 47), type := 0, pos := _, after := #[{ on := 11, ground := Ground.data }, { on := 13, ground := Ground.data }, { on := 10, ground := Ground.guard }], guard := some (10, true) }) (v := undef) rfl (by kernel_rfl) (by kernel_rfl) (by kernel_rfl) (fun _ _ _ h => h) (Or.inr ⟨by rfl, rfl⟩) hH1 ?_
            try simp only [Act.put, List.setIfInBounds_toArray, List.set_cons_zero, List.set_cons_succ]
            refine wpAnyH_take (i := 15) (oi := { dst := some 49, op := Op.load 9 (Operand.tmp 48), type := 9, pos := _, after := #[{ on := 14, ground := Ground.data }, { on := 10, ground := Ground.guard }], guard := some (10, true) }) (v := undef) rfl (by kernel_rfl) (by kernel_rfl) (by kernel_rfl) (fun _ _ _ h => h) (Or.inr ⟨by rfl, rfl⟩) hH1 ?_
            try simp only [Act.put, List.setIfInBounds_toArray, List.set_cons_zero, List.set_cons_succ]
            refine wpAnyH_take (i := 16) (oi := { dst := some 50, op := Op.move (Operand.tmp 1), type := 31, pos := _, after := #[{ on := 10, ground := Ground.guard }], guard := some (10, true) }) (v := undef) rfl (by kernel_rfl) (by kernel_rfl) (by kernel_rfl) (fun _ _ _ h => h) (Or.inr ⟨by rfl, rfl⟩) hH1 ?_
            try simp only [Act.put, List.setIfInBounds_toArray, List.set_cons_zero, List.set_cons_succ]
            refine wpAnyH_take (i := 17) (oi := { dst := some 51, op := Op.move (Operand.tmp 6), type := 3, pos := _, after := #[{ on := 10, ground := Ground.guard }], guard := some (10, true) }) (v := undef) rfl (by kernel_rfl) (by kernel_rfl) (by kernel_rfl) (fun _ _ _ h => h) (Or.inr ⟨by rfl, rfl⟩) hH1 ?_
            try simp only [Act.put, List.setIfInBounds_toArray, List.set_cons_zero, List.set_cons_succ]
            refine wpAnyH_take (i := 18) (oi := { dst := some 52, op := Op.indexAddr 31 (Operand.tmp 50) (Operand.tmp 51), type := 0, pos := _, after := #[{ on := 16, ground := Ground.data }, { on := 17, ground := Ground.data }, { on := 10, ground := Ground.guard }], guard := some (10, true) }) (v := undef) rfl (by kernel_rfl) (by kernel_rfl) (by kernel_rfl) (fun _ _ _ h => h) (Or.inr ⟨by rfl, rfl⟩) hH1 ?_
            try simp only [Act.put, List.setIfInBounds_toArray, List.set_cons_zero, List.set_cons_succ]
            refine wpAnyH_take (i := 19) (oi := { dst := some 53, op := Op.load 9 (Operand.tmp 52), type := 9, pos := _, after := #[{ on := 18, ground := Ground.data }, { on := 10, ground := Ground.guard }], guard := some (10, true) }) (v := undef) rfl (by kernel_rfl) (by kernel_rfl) (by kernel_rfl) (fun _ _ _ h => h) (Or.inr ⟨by rfl, rfl⟩) hH1 ?_
            try simp only [Act.put, List.setIfInBounds_toArray, List.set_cons_zero, List.set_cons_succ]
            refine wpAnyH_take (i := 20) (oi := { dst := some 54, op := Op.binOp BinOp.eql 9 (Operand.tmp 49) (Operand.tmp 53) 9, type := 4, pos := _, after := #[{ on := 15, ground := Ground.data }, { on := 19, ground := Ground.data }, { on := 10, ground := Ground.guard }], guard := some (10, true) }) (v := undef) rfl (by kernel_rfl) (by kernel_rfl) (by kernel_rfl) (fun _ _ _ h => h) (Or.inr ⟨by rfl, rfl⟩) hH1 ?_
            try simp only [Act.put, List.setIfInBounds_toArray, List.set_cons_zero, List.set_cons_succ]
            refine wpAnyH_take (i := 21) (oi := { dst := some 55, op := Op.pick (Operand.tmp 44) (Operand.tmp 54) (Operand.const (Value.bool false)), type := 4, pos := _, after := #[{ on := 10, ground := Ground.data }, { on := 20, ground := Ground.data }, { on := 7, ground := Ground.guard }], guard := some (7, false) }) (v := undef) rfl (by kernel_rfl) (by kernel_rfl) (by kernel_rfl) (fun _ _ _ h => h) (Or.inr ⟨by rfl, rfl⟩) hH1 ?_
            try simp only [Act.put, List.setIfInBounds_toArray, List.set_cons_zero, List.set_cons_succ]
            refine wpAnyH_take (i := 22) (oi := { dst := some 56, op := Op.pick (Operand.tmp 41) (Operand.const (Value.bool true)) (Operand.tmp 55), type := 4, pos := _, after := #[{ on := 7, ground := Ground.data }, { on := 21, ground := Ground.data }], guard := none }) (v := ?v2_22) rfl (by kernel_rfl) (by kernel_rfl) (by kernel_rfl) (fun _ _ _ h => h) (Or.inl ⟨by rfl, ?y2_22⟩) hH1 ?r2_22
            case y2_22 => (intro w hSw; (try dsimp only at hSw); go_simp; try (with_reducible rfl))
            try simp only [Act.put, List.setIfInBounds_toArray, List.set_cons_zero, List.set_cons_succ]
            refine wpAnyH_done (by kernel_rfl) ?_ _
            have hbw : Below wo.heap.size wo w4 := (below_n hb2 2).trans (hb4.mono hsi)
            have hoN := ho.keepB hbw
            have hbN : Below w.heap.size w w4 := hbr.trans (hbw.mono hso)
            have hsN := hbN.size
            have hswo := hbw.size
            have hcN : w4.cell? ⟨b, off + k, none⟩ = some (.string SL) := k1
            rename World => wN
            have HPUT := Lib.hid (HP.out.miss HX.out hm)
            clear hb2 hb4 ho2 hc1 hbq hcq hcq1 k1 hbw ho hcl0 hbr
            go_wp2
            go_roundw
            case rel => exact ⟨k + 1, m, c', _, O, rfl, by go_num, by omega, by omega, HPUT, hoN, hbN⟩
            case measure => simp [intOf]; omega
        · obtain ⟨j, hjj⟩ : ∃ j, j' = j + 1 := ⟨j' - 1, by omega⟩
          subst hjj
          obtain ⟨g, cap, hv, _, hlg⟩ := World.ownsRow.form ho2 (by omega)
          obtain rfl : A' = some ⟨g, 0, none⟩ := by injection hv
          obtain ⟨y, hy⟩ : ∃ y, O[j]? = some y := ⟨_, List.getElem?_eq_getElem (by rw [HOL.out]; omega)⟩
          have hc2 : wi.cell? ⟨g, j, none⟩ = some (.string (strOfNums y)) := ho2.st_cell hy
          have HY := Lib.hid hy; clear hy hv
          have HCM := Lib.hid (HRC.out l HLN.out y (HON.out y (List.mem_of_getElem? HY.out)))
          have HEQ := Lib.hid (HST.out l HLN.out y (HON.out y (List.mem_of_getElem? HY.out)))
          have HMM := Lib.hid (HRM.out l HLN.out)
          obtain ⟨SL, hSL⟩ : ∃ SL, SL = strOfNums l := ⟨_, rfl⟩
          obtain ⟨SY, hSY⟩ : ∃ SY, SY = strOfNums y := ⟨_, rfl⟩
          rw [← hSL, ← hSY] at HCM HEQ
          rw [← hSL] at hc1 HMM
          rw [← hSY] at hc2
          have HSL := Lib.hid hSL; have HSY := Lib.hid hSY; clear hSL hSY
          have hc1' : wi.drew.cell? ⟨b, off + k, none⟩ = some (.string SL) := hc1
          have hc2' : wi.drew.cell? ⟨g, j, none⟩ = some (.string SY) := hc2
          have hw1 : IntKind.i64.wrap (j : Int) = (j : Int) := wrap_i64' _ (by omega) (by omega)
          have hi0 : (0 : Int) ≤ (j : Int) := by omega
          have hi1 : (j : Int) < (m : Int) := by omega
          have hi2 : (0 : Int) ≤ (k : Int) := by omega
          have hi3 : (k : Int) < (n : Int) := by omega
          have hi4 : (0 : Int) < (j : Int) + 1 := by omega
          have HCY : Hid ((cmpS l y < 0) = (cmpS l y < 0)) := rfl
          by_cases hcy : cmpS l y < 0
          · have HDB := Lib.hid (drop_back HY.out hcy HD.out)
            obtain ⟨cv, hcv⟩ : ∃ cv, cmpS l y = cv := ⟨_, rfl⟩
            rw [hcv] at HCM hcy
            clear hcv HCY
            go_wp2
            go_region_held3 (fun w' => w'.cell? ⟨b, off + k, none⟩ = some (.string SL) ∧ w'.cell? ⟨g, j, none⟩ = some (.string SY)) (first | exact ⟨hc1, hc2⟩ | exact ⟨hc1', hc2'⟩ | exact ⟨k1, k2⟩)
              (first | (go_at_call 15; refine (HCM.out _).mono ?_; rintro e w3 ⟨rfl, hb3⟩; have k1 : w3.cell? ⟨b, off + k, none⟩ = some (.string SL) := (hb3.cell (p := ⟨b, off + k, none⟩) (show b < wi.heap.size by omega)).trans hc1; have k2 : w3.cell? ⟨g, j, none⟩ = some (.string SY) := (hb3.cell (p := ⟨g, j, none⟩) (show g < wi.heap.size by omega)).trans hc2))
            have hb5 : Below wo.heap.size wo w3 := (below_n hb2 1).trans (hb3.mono hsi)
            clear hb2 hb3 ho2
            go_wp2
            go_roundw
            case rel => exact ⟨j, by first | rfl | (congr 1; omega), by omega, HDB, hb5⟩
            case measure => simp [intOf]
          · have HBH := Lib.hid (fun hne => below_here HP.out.1 HY.out hne hcy)
            obtain ⟨cv, hcv⟩ : ∃ cv, cmpS l y = cv := ⟨_, rfl⟩
            rw [hcv] at HCM hcy
            clear hcv HCY
            go_wp2
            go_region_held3 (fun w' => w'.cell? ⟨b, off + k, none⟩ = some (.string SL) ∧ w'.cell? ⟨g, j, none⟩ = some (.string SY)) (first | exact ⟨hc1, hc2⟩ | exact ⟨hc1', hc2'⟩ | exact ⟨k1, k2⟩)
              (first | (go_at_call 15; refine (HCM.out _).mono ?_; rintro e w3 ⟨rfl, hb3⟩; have k1 : w3.cell? ⟨b, off + k, none⟩ = some (.string SL) := (hb3.cell (p := ⟨b, off + k, none⟩) (show b < wi.heap.size by omega)).trans hc1; have k2 : w3.cell? ⟨g, j, none⟩ = some (.string SY) := (hb3.cell (p := ⟨g, j, none⟩) (show g < wi.heap.size by omega)).trans hc2))
            have hb5 : Below wo.heap.size wo w3 := (below_n hb2 1).trans (hb3.mono hsi)
            have hs3 := hb5.size
            have hs3i : wi.heap.size ≤ w3.heap.size := hb3.size
            clear hb2 hb3 ho2 hc1 hc2 hc1' hc2'
            have q1 : w3.drew.cell? ⟨b, off + k, none⟩ = some (.string SL) := k1
            have q2 : w3.drew.cell? ⟨g, j, none⟩ = some (.string SY) := k2
            by_cases hm : mt p l = true
            · rw [hm] at HMM
              by_cases hyl : y = l
              · have heq : (SY.toList == SL.toList) = true := by rw [HEQ.out]; simp [hyl]
                have HPUT := Lib.hid (HP.out.same HX.out (by rw [← hyl]; exact List.mem_of_getElem? HY.out))
                clear hyl
                go_wp2
                refine wp_region_held_drew (S := (fun w' => w'.cell? ⟨b, off + k, none⟩ = some (.string SL) ∧ w'.cell? ⟨g, j, none⟩ = some (.string SY))) (by kernel_rfl) ⟨k1, k2⟩ (fun hH0 => ?_)
                refine wpAnyH_take (i := 0) (oi := { dst := some 34, op := Op.move (Operand.tmp 1), type := 31, pos := _, after := #[], guard := none }) (v := ?v3_0) rfl (by kernel_rfl) (by kernel_rfl) (by kernel_rfl) (fun _ _ _ h => h) (Or.inl ⟨by rfl, ?y3_0⟩) hH0 ?r3_0
                case y3_0 => (intro w hSw; (try dsimp only at hSw); go_simp; try (with_reducible rfl))
                try simp only [Act.put, List.setIfInBounds_toArray, List.set_cons_zero, List.set_cons_succ]
                refine wpAnyH_take (i := 1) (oi := { dst := some 35, op := Op.move (Operand.tmp 6), type := 3, pos := _, after := #[], guard := none }) (v := ?v3_1) rfl (by kernel_rfl) (by kernel_rfl) (by kernel_rfl) (fun _ _ _ h => h) (Or.inl ⟨by rfl, ?y3_1⟩) hH0 ?r3_1
                case y3_1 => (intro w hSw; (try dsimp only at hSw); go_simp; try (with_reducible rfl))
                try simp only [Act.put, List.setIfInBounds_toArray, List.set_cons_zero, List.set_cons_succ]
                refine wpAnyH_take (i := 2) (oi := { dst := some 36, op := Op.indexAddr 31 (Operand.tmp 34) (Operand.tmp 35), type := 0, pos := _, after := #[{ on := 0, ground := Ground.data }, { on := 1, ground := Ground.data }], guard := none }) (v := ?v3_2) rfl (by kernel_rfl) (by kernel_rfl) (by kernel_rfl) (fun _ _ _ h => h) (Or.inl ⟨by rfl, ?y3_2⟩) hH0 ?r3_2
                case y3_2 => (intro w hSw; (try dsimp only at hSw); go_simp; try (with_reducible rfl))
                try simp only [Act.put, List.setIfInBounds_toArray, List.set_cons_zero, List.set_cons_succ]
                refine wpAnyH_take (i := 3) (oi := { dst := some 37, op := Op.load 9 (Operand.tmp 36), type := 9, pos := _, after := #[{ on := 2, ground := Ground.data }], guard := none }) (v := ?v3_3) rfl (by kernel_rfl) (by kernel_rfl) (by kernel_rfl) (fun _ _ _ h => h) (Or.inl ⟨by rfl, ?y3_3⟩) hH0 ?r3_3
                case y3_3 => (intro w hSw; (try dsimp only at hSw); go_simp; try (with_reducible rfl))
                try simp only [Act.put, List.setIfInBounds_toArray, List.set_cons_zero, List.set_cons_succ]
                refine wpAnyH_take (i := 4) (oi := { dst := some 38, op := Op.move (Operand.tmp 0), type := 9, pos := _, after := #[], guard := none }) (v := ?v3_4) rfl (by kernel_rfl) (by kernel_rfl) (by kernel_rfl) (fun _ _ _ h => h) (Or.inl ⟨by rfl, ?y3_4⟩) hH0 ?r3_4
                case y3_4 => (intro w hSw; (try dsimp only at hSw); go_simp; try (with_reducible rfl))
                try simp only [Act.put, List.setIfInBounds_toArray, List.set_cons_zero, List.set_cons_succ]
                refine wpAnyH_ready (rs := [5]) (by kernel_rfl) (by simp) ?_
                refine AllReadyH.cons (o := { dst := some 39, op := Op.call { callee := Callee.value (Operand.func 17), args := #[Operand.tmp 37, Operand.tmp 38], argTypes := #[9, 9] }, type := 4, pos := _, after := #[{ on := 3, ground := Ground.data }, { on := 4, ground := Ground.data }], guard := none }) rfl (fun K hK => ?_) AllReadyH.nil
                go_simp
                refine (HMM.out _).mono ?_
                rintro e w4 ⟨rfl, hb4⟩
                have r1 : w4.cell? ⟨b, off + k, none⟩ = some (.string SL) := (hb4.cell (p := ⟨b, off + k, none⟩) (show b < w3.heap.size by omega)).trans k1
                have r2 : w4.cell? ⟨g, j, none⟩ = some (.string SY) := (hb4.cell (p := ⟨g, j, none⟩) (show g < w3.heap.size by omega)).trans k2
                go_wp2_with fail
                refine hK.out _ _ ⟨r1, r2⟩ (fun hH1 => ?_)
                clear hK K hH0
                try simp only [Act.put, List.setIfInBounds_toArray, List.set_cons_zero, List.set_cons_succ]
                refine wpAnyH_take (i := 6) (oi := { dst := some 40, op := Op.unOp UnOp.not 4 (Operand.tmp 39), type := 4, pos := _, after := #[{ on := 5, ground := Ground.data }], guard := none }) (v := ?v3_6) rfl (by kernel_rfl) (by kernel_rfl) (by kernel_rfl) (fun _ _ _ h => h) (Or.inl ⟨by rfl, ?y3_6⟩) hH1 ?r3_6
                case y3_6 => (intro w hSw; (try dsimp only at hSw); go_simp; try (with_reducible rfl))
                try simp only [Act.put, List.setIfInBounds_toArray, List.set_cons_zero, List.set_cons_succ]
                refine wpAnyH_take (i := 7) (oi := { dst := some 41, op := Op.move (Operand.tmp 40), type := 4, pos := _, after := #[{ on := 6, ground := Ground.data }, { on := 5, ground := Ground.chain }], guard := none }) (v := ?v3_7) rfl (by kernel_rfl) (by kernel_rfl) (by kernel_rfl) (fun _ _ _ h => h) (Or.inl ⟨by rfl, ?y3_7⟩) hH1 ?r3_7
                case y3_7 => (intro w hSw; (try dsimp only at hSw); go_simp; try (with_reducible rfl))
                try simp only [Act.put, List.setIfInBounds_toArray, List.set_cons_zero, List.set_cons_succ]
                refine wpAnyH_take (i := 8) (oi := { dst := some 42, op := Op.move (Operand.tmp 7), type := 3, pos := _, after := #[{ on := 7, ground := Ground.guard }], guard := some (7, false) }) (v := ?v3_8) rfl (by kernel_rfl) (by kernel_rfl) (by kernel_rfl) (fun _ _ _ h => h) (Or.inl ⟨by rfl, ?y3_8⟩) hH1 ?r3_8
                case y3_8 => (intro w hSw; (try dsimp only at hSw); go_simp; try (with_reducible rfl))
                try simp only [Act.put, List.setIfInBounds_toArray, List.set_cons_zero, List.set_cons_succ]
                refine wpAnyH_take (i := 9) (oi := { dst := some 43, op := Op.binOp BinOp.gtr 3 (Operand.tmp 42) (Operand.const (Value.int IntKind.i64 0)) 3, type := 4, pos := _, after := #[{ on := 8, ground := Ground.data }, { on := 7, ground := Ground.guard }], guard := some (7, false) }) (v := ?v3_9) rfl (by kernel_rfl) (by kernel_rfl) (by kernel_rfl) (fun _ _ _ h => h) (Or.inl ⟨by rfl, ?y3_9⟩) hH1 ?r3_9
                case y3_9 => (intro w hSw; (try dsimp only at hSw); go_simp; try (with_reducible rfl))
                try simp only [Act.put, List.setIfInBounds_toArray, List.set_cons_zero, List.set_cons_succ]
                refine wpAnyH_take (i := 10) (oi := { dst := some 44, op := Op.move (Operand.tmp 43), type := 4, pos := _, after := #[{ on := 9, ground := Ground.data }, { on := 7, ground := Ground.chain }, { on := 7, ground := Ground.guard }], guard := some (7, false) }) (v := ?v3_10) rfl (by kernel_rfl) (by kernel_rfl) (by kernel_rfl) (fun _ _ _ h => h) (Or.inl ⟨by rfl, ?y3_10⟩) hH1 ?r3_10
                case y3_10 => (intro w hSw; (try dsimp only at hSw); go_simp; try (with_reducible rfl))
                try simp only [Act.put, List.setIfInBounds_toArray, List.set_cons_zero, List.set_cons_succ]
                refine wpAnyH_take (i := 11) (oi := { dst := some 45, op := Op.move (Operand.tmp 5), type := 31, pos := _, after := #[{ on := 10, ground := Ground.guard }], guard := some (10, true) }) (v := ?v3_11) rfl (by kernel_rfl) (by kernel_rfl) (by kernel_rfl) (fun _ _ _ h => h) (Or.inl ⟨by rfl, ?y3_11⟩) hH1 ?r3_11
                case y3_11 => (intro w hSw; (try dsimp only at hSw); go_simp; try (with_reducible rfl))
                try simp only [Act.put, List.setIfInBounds_toArray, List.set_cons_zero, List.set_cons_succ]
                refine wpAnyH_take (i := 12) (oi := { dst := some 46, op := Op.move (Operand.tmp 7), type := 3, pos := _, after := #[{ on := 10, ground := Ground.guard }], guard := some (10, true) }) (v := ?v3_12) rfl (by kernel_rfl) (by kernel_rfl) (by kernel_rfl) (fun _ _ _ h => h) (Or.inl ⟨by rfl, ?y3_12⟩) hH1 ?r3_12
                case y3_12 => (intro w hSw; (try dsimp only at hSw); go_simp; try (with_reducible rfl))
                try simp only [Act.put, List.setIfInBounds_toArray, List.set_cons_zero, List.set_cons_succ]
                refine wpAnyH_take (i := 13) (oi := { dst := some 47, op := Op.binOp BinOp.sub 3 (Operand.tmp 46) (Operand.const (Value.int IntKind.i64 1)) 3, type := 3, pos := _, after := #[{ on := 12, ground := Ground.data }, { on := 10, ground := Ground.guard }], guard := some (10, true) }) (v := ?v3_13) rfl (by kernel_rfl) (by kernel_rfl) (by kernel_rfl) (fun _ _ _ h => h) (Or.inl ⟨by rfl, ?y3_13⟩) hH1 ?r3_13
                case y3_13 => (intro w hSw; (try dsimp only at hSw); go_simp; try (with_reducible rfl))
                try simp only [Act.put, List.setIfInBounds_toArray, List.set_cons_zero, List.set_cons_succ]
                refine wpAnyH_take (i := 14) (oi := { dst := some 48, op := Op.indexAddr 31 (Operand.tmp 45) (Operand.tmp 47), type := 0, pos := _, after := #[{ on := 11, ground := Ground.data }, { on := 13, ground := Ground.data }, { on := 10, ground := Ground.guard }], guard := some (10, true) }) (v := ?v3_14) rfl (by kernel_rfl) (by kernel_rfl) (by kernel_rfl) (fun _ _ _ h => h) (Or.inl ⟨by rfl, ?y3_14⟩) hH1 ?r3_14
                case y3_14 => (intro w hSw; (try dsimp only at hSw); go_simp; try (with_reducible rfl))
                try simp only [Act.put, List.setIfInBounds_toArray, List.set_cons_zero, List.set_cons_succ]
                refine wpAnyH_take (i := 15) (oi := { dst := some 49, op := Op.load 9 (Operand.tmp 48), type := 9, pos := _, after := #[{ on := 14, ground := Ground.data }, { on := 10, ground := Ground.guard }], guard := some (10, true) }) (v := ?v3_15) rfl (by kernel_rfl) (by kernel_rfl) (by kernel_rfl) (fun _ _ _ h => h) (Or.inl ⟨by rfl, ?y3_15⟩) hH1 ?r3_15
                case y3_15 => (intro w hSw; (try dsimp only at hSw); go_simp; try (with_reducible rfl))
                try simp only [Act.put, List.setIfInBounds_toArray, List.set_cons_zero, List.set_cons_succ]
                refine wpAnyH_take (i := 16) (oi := { dst := some 50, op := Op.move (Operand.tmp 1), type := 31, pos := _, after := #[{ on := 10, ground := Ground.guard }], guard := some (10, true) }) (v := ?v3_16) rfl (by kernel_rfl) (by kernel_rfl) (by kernel_rfl) (fun _ _ _ h => h) (Or.inl ⟨by rfl, ?y3_16⟩) hH1 ?r3_16
                case y3_16 => (intro w hSw; (try dsimp only at hSw); go_simp; try (with_reducible rfl))
                try simp only [Act.put, List.setIfInBounds_toArray, List.set_cons_zero, List.set_cons_succ]
                refine wpAnyH_take (i := 17) (oi := { dst := some 51, op := Op.move (Operand.tmp 6), type := 3, pos := _, after := #[{ on := 10, ground := Ground.guard }], guard := some (10, true) }) (v := ?v3_17) rfl (by kernel_rfl) (by kernel_rfl) (by kernel_rfl) (fun _ _ _ h => h) (Or.inl ⟨by rfl, ?y3_17⟩) hH1 ?r3_17
                case y3_17 => (intro w hSw; (try dsimp only at hSw); go_simp; try (with_reducible rfl))
                try simp only [Act.put, List.setIfInBounds_toArray, List.set_cons_zero, List.set_cons_succ]
                refine wpAnyH_take (i := 18) (oi := { dst := some 52, op := Op.indexAddr 31 (Operand.tmp 50) (Operand.tmp 51), type := 0, pos := _, after := #[{ on := 16, ground := Ground.data }, { on := 17, ground := Ground.data }, { on := 10, ground := Ground.guard }], guard := some (10, true) }) (v := ?v3_18) rfl (by kernel_rfl) (by kernel_rfl) (by kernel_rfl) (fun _ _ _ h => h) (Or.inl ⟨by rfl, ?y3_18⟩) hH1 ?r3_18
                case y3_18 => (intro w hSw; (try dsimp only at hSw); go_simp; try (with_reducible rfl))
                try simp only [Act.put, List.setIfInBounds_toArray, List.set_cons_zero, List.set_cons_succ]
                refine wpAnyH_take (i := 19) (oi := { dst := some 53, op := Op.load 9 (Operand.tmp 52), type := 9, pos := _, after := #[{ on := 18, ground := Ground.data }, { on := 10, ground := Ground.guard }], guard := some (10, true) }) (v := ?v3_19) rfl (by kernel_rfl) (by kernel_rfl) (by kernel_rfl) (fun _ _ _ h => h) (Or.inl ⟨by rfl, ?y3_19⟩) hH1 ?r3_19
                case y3_19 => (intro w hSw; (try dsimp only at hSw); go_simp; try (with_reducible rfl))
                try simp only [Act.put, List.setIfInBounds_toArray, List.set_cons_zero, List.set_cons_succ]
                refine wpAnyH_take (i := 20) (oi := { dst := some 54, op := Op.binOp BinOp.eql 9 (Operand.tmp 49) (Operand.tmp 53) 9, type := 4, pos := _, after := #[{ on := 15, ground := Ground.data }, { on := 19, ground := Ground.data }, { on := 10, ground := Ground.guard }], guard := some (10, true) }) (v := ?v3_20) rfl (by kernel_rfl) (by kernel_rfl) (by kernel_rfl) (fun _ _ _ h => h) (Or.inl ⟨by rfl, ?y3_20⟩) hH1 ?r3_20
                case y3_20 => (intro w hSw; (try dsimp only at hSw); go_simp; try (with_reducible rfl))
                try simp only [Act.put, List.setIfInBounds_toArray, List.set_cons_zero, List.set_cons_succ]
                refine wpAnyH_take (i := 21) (oi := { dst := some 55, op := Op.pick (Operand.tmp 44) (Operand.tmp 54) (Operand.const (Value.bool false)), type := 4, pos := _, after := #[{ on := 10, ground := Ground.data }, { on := 20, ground := Ground.data }, { on := 7, ground := Ground.guard }], guard := some (7, false) }) (v := ?v3_21) rfl (by kernel_rfl) (by kernel_rfl) (by kernel_rfl) (fun _ _ _ h => h) (Or.inl ⟨by rfl, ?y3_21⟩) hH1 ?r3_21
                case y3_21 => (intro w hSw; (try dsimp only at hSw); go_simp; try (with_reducible rfl))
                try simp only [Act.put, List.setIfInBounds_toArray, List.set_cons_zero, List.set_cons_succ]
                refine wpAnyH_take (i := 22) (oi := { dst := some 56, op := Op.pick (Operand.tmp 41) (Operand.const (Value.bool true)) (Operand.tmp 55), type := 4, pos := _, after := #[{ on := 7, ground := Ground.data }, { on := 21, ground := Ground.data }], guard := none }) (v := ?v3_22) rfl (by kernel_rfl) (by kernel_rfl) (by kernel_rfl) (fun _ _ _ h => h) (Or.inl ⟨by rfl, ?y3_22⟩) hH1 ?r3_22
                case y3_22 => (intro w hSw; (try dsimp only at hSw); go_simp; try (with_reducible rfl))
                try simp only [Act.put, List.setIfInBounds_toArray, List.set_cons_zero, List.set_cons_succ]
                refine wpAnyH_done (by kernel_rfl) ?_ _
                have hbw : Below wo.heap.size wo w4 := (below_n hb5 1).trans (hb4.mono hs3)
                have hoN := ho.keepB hbw
                have hbN : Below w.heap.size w w4 := hbr.trans (hbw.mono hso)
                have hsN := hbN.size
                have hswo := hbw.size
                have hcN : w4.cell? ⟨b, off + k, none⟩ = some (.string SL) := r1
                rename World => wN
                clear hb5 hb4 k1 k2 q1 q2 r1 r2 hbw ho hcl0 hbr
                go_wp2
                go_roundw
                case rel => exact ⟨k + 1, m, c', _, O, rfl, by go_num, by omega, by omega, HPUT, hoN, hbN⟩
                case measure => simp [intOf]; omega
              · have heq : (SY.toList == SL.toList) = false := by rw [HEQ.out]; simp [hyl]
                have HPUT := Lib.hid (HP.out.put HX.out hm (HBH.out hyl) HD.out)
                clear hyl
                go_wp2
                refine wp_region_held_drew (S := (fun w' => w'.cell? ⟨b, off + k, none⟩ = some (.string SL) ∧ w'.cell? ⟨g, j, none⟩ = some (.string SY))) (by kernel_rfl) ⟨k1, k2⟩ (fun hH0 => ?_)
                refine wpAnyH_take (i := 0) (oi := { dst := some 34, op := Op.move (Operand.tmp 1), type := 31, pos := _, after := #[], guard := none }) (v := ?v4_0) rfl (by kernel_rfl) (by kernel_rfl) (by kernel_rfl) (fun _ _ _ h => h) (Or.inl ⟨by rfl, ?y4_0⟩) hH0 ?r4_0
                case y4_0 => (intro w hSw; (try dsimp only at hSw); go_simp; try (with_reducible rfl))
                try simp only [Act.put, List.setIfInBounds_toArray, List.set_cons_zero, List.set_cons_succ]
                refine wpAnyH_take (i := 1) (oi := { dst := some 35, op := Op.move (Operand.tmp 6), type := 3, pos := _, after := #[], guard := none }) (v := ?v4_1) rfl (by kernel_rfl) (by kernel_rfl) (by kernel_rfl) (fun _ _ _ h => h) (Or.inl ⟨by rfl, ?y4_1⟩) hH0 ?r4_1
                case y4_1 => (intro w hSw; (try dsimp only at hSw); go_simp; try (with_reducible rfl))
                try simp only [Act.put, List.setIfInBounds_toArray, List.set_cons_zero, List.set_cons_succ]
                refine wpAnyH_take (i := 2) (oi := { dst := some 36, op := Op.indexAddr 31 (Operand.tmp 34) (Operand.tmp 35), type := 0, pos := _, after := #[{ on := 0, ground := Ground.data }, { on := 1, ground := Ground.data }], guard := none }) (v := ?v4_2) rfl (by kernel_rfl) (by kernel_rfl) (by kernel_rfl) (fun _ _ _ h => h) (Or.inl ⟨by rfl, ?y4_2⟩) hH0 ?r4_2
                case y4_2 => (intro w hSw; (try dsimp only at hSw); go_simp; try (with_reducible rfl))
                try simp only [Act.put, List.setIfInBounds_toArray, List.set_cons_zero, List.set_cons_succ]
                refine wpAnyH_take (i := 3) (oi := { dst := some 37, op := Op.load 9 (Operand.tmp 36), type := 9, pos := _, after := #[{ on := 2, ground := Ground.data }], guard := none }) (v := ?v4_3) rfl (by kernel_rfl) (by kernel_rfl) (by kernel_rfl) (fun _ _ _ h => h) (Or.inl ⟨by rfl, ?y4_3⟩) hH0 ?r4_3
                case y4_3 => (intro w hSw; (try dsimp only at hSw); go_simp; try (with_reducible rfl))
                try simp only [Act.put, List.setIfInBounds_toArray, List.set_cons_zero, List.set_cons_succ]
                refine wpAnyH_take (i := 4) (oi := { dst := some 38, op := Op.move (Operand.tmp 0), type := 9, pos := _, after := #[], guard := none }) (v := ?v4_4) rfl (by kernel_rfl) (by kernel_rfl) (by kernel_rfl) (fun _ _ _ h => h) (Or.inl ⟨by rfl, ?y4_4⟩) hH0 ?r4_4
                case y4_4 => (intro w hSw; (try dsimp only at hSw); go_simp; try (with_reducible rfl))
                try simp only [Act.put, List.setIfInBounds_toArray, List.set_cons_zero, List.set_cons_succ]
                refine wpAnyH_ready (rs := [5]) (by kernel_rfl) (by simp) ?_
                refine AllReadyH.cons (o := { dst := some 39, op := Op.call { callee := Callee.value (Operand.func 17), args := #[Operand.tmp 37, Operand.tmp 38], argTypes := #[9, 9] }, type := 4, pos := _, after := #[{ on := 3, ground := Ground.data }, { on := 4, ground := Ground.data }], guard := none }) rfl (fun K hK => ?_) AllReadyH.nil
                go_simp
                refine (HMM.out _).mono ?_
                rintro e w4 ⟨rfl, hb4⟩
                have r1 : w4.cell? ⟨b, off + k, none⟩ = some (.string SL) := (hb4.cell (p := ⟨b, off + k, none⟩) (show b < w3.heap.size by omega)).trans k1
                have r2 : w4.cell? ⟨g, j, none⟩ = some (.string SY) := (hb4.cell (p := ⟨g, j, none⟩) (show g < w3.heap.size by omega)).trans k2
                go_wp2_with fail
                refine hK.out _ _ ⟨r1, r2⟩ (fun hH1 => ?_)
                clear hK K hH0
                try simp only [Act.put, List.setIfInBounds_toArray, List.set_cons_zero, List.set_cons_succ]
                refine wpAnyH_take (i := 6) (oi := { dst := some 40, op := Op.unOp UnOp.not 4 (Operand.tmp 39), type := 4, pos := _, after := #[{ on := 5, ground := Ground.data }], guard := none }) (v := ?v4_6) rfl (by kernel_rfl) (by kernel_rfl) (by kernel_rfl) (fun _ _ _ h => h) (Or.inl ⟨by rfl, ?y4_6⟩) hH1 ?r4_6
                case y4_6 => (intro w hSw; (try dsimp only at hSw); go_simp; try (with_reducible rfl))
                try simp only [Act.put, List.setIfInBounds_toArray, List.set_cons_zero, List.set_cons_succ]
                refine wpAnyH_take (i := 7) (oi := { dst := some 41, op := Op.move (Operand.tmp 40), type := 4, pos := _, after := #[{ on := 6, ground := Ground.data }, { on := 5, ground := Ground.chain }], guard := none }) (v := ?v4_7) rfl (by kernel_rfl) (by kernel_rfl) (by kernel_rfl) (fun _ _ _ h => h) (Or.inl ⟨by rfl, ?y4_7⟩) hH1 ?r4_7
                case y4_7 => (intro w hSw; (try dsimp only at hSw); go_simp; try (with_reducible rfl))
                try simp only [Act.put, List.setIfInBounds_toArray, List.set_cons_zero, List.set_cons_succ]
                refine wpAnyH_take (i := 8) (oi := { dst := some 42, op := Op.move (Operand.tmp 7), type := 3, pos := _, after := #[{ on := 7, ground := Ground.guard }], guard := some (7, false) }) (v := ?v4_8) rfl (by kernel_rfl) (by kernel_rfl) (by kernel_rfl) (fun _ _ _ h => h) (Or.inl ⟨by rfl, ?y4_8⟩) hH1 ?r4_8
                case y4_8 => (intro w hSw; (try dsimp only at hSw); go_simp; try (with_reducible rfl))
                try simp only [Act.put, List.setIfInBounds_toArray, List.set_cons_zero, List.set_cons_succ]
                refine wpAnyH_take (i := 9) (oi := { dst := some 43, op := Op.binOp BinOp.gtr 3 (Operand.tmp 42) (Operand.const (Value.int IntKind.i64 0)) 3, type := 4, pos := _, after := #[{ on := 8, ground := Ground.data }, { on := 7, ground := Ground.guard }], guard := some (7, false) }) (v := ?v4_9) rfl (by kernel_rfl) (by kernel_rfl) (by kernel_rfl) (fun _ _ _ h => h) (Or.inl ⟨by rfl, ?y4_9⟩) hH1 ?r4_9
                case y4_9 => (intro w hSw; (try dsimp only at hSw); go_simp; try (with_reducible rfl))
                try simp only [Act.put, List.setIfInBounds_toArray, List.set_cons_zero, List.set_cons_succ]
                refine wpAnyH_take (i := 10) (oi := { dst := some 44, op := Op.move (Operand.tmp 43), type := 4, pos := _, after := #[{ on := 9, ground := Ground.data }, { on := 7, ground := Ground.chain }, { on := 7, ground := Ground.guard }], guard := some (7, false) }) (v := ?v4_10) rfl (by kernel_rfl) (by kernel_rfl) (by kernel_rfl) (fun _ _ _ h => h) (Or.inl ⟨by rfl, ?y4_10⟩) hH1 ?r4_10
                case y4_10 => (intro w hSw; (try dsimp only at hSw); go_simp; try (with_reducible rfl))
                try simp only [Act.put, List.setIfInBounds_toArray, List.set_cons_zero, List.set_cons_succ]
                refine wpAnyH_take (i := 11) (oi := { dst := some 45, op := Op.move (Operand.tmp 5), type := 31, pos := _, after := #[{ on := 10, ground := Ground.guard }], guard := some (10, true) }) (v := ?v4_11) rfl (by kernel_rfl) (by kernel_rfl) (by kernel_rfl) (fun _ _ _ h => h) (Or.inl ⟨by rfl, ?y4_11⟩) hH1 ?r4_11
                case y4_11 => (intro w hSw; (try dsimp only at hSw); go_simp; try (with_reducible rfl))
                try simp only [Act.put, List.setIfInBounds_toArray, List.set_cons_zero, List.set_cons_succ]
                refine wpAnyH_take (i := 12) (oi := { dst := some 46, op := Op.move (Operand.tmp 7), type := 3, pos := _, after := #[{ on := 10, ground := Ground.guard }], guard := some (10, true) }) (v := ?v4_12) rfl (by kernel_rfl) (by kernel_rfl) (by kernel_rfl) (fun _ _ _ h => h) (Or.inl ⟨by rfl, ?y4_12⟩) hH1 ?r4_12
                case y4_12 => (intro w hSw; (try dsimp only at hSw); go_simp; try (with_reducible rfl))
                try simp only [Act.put, List.setIfInBounds_toArray, List.set_cons_zero, List.set_cons_succ]
                refine wpAnyH_take (i := 13) (oi := { dst := some 47, op := Op.binOp BinOp.sub 3 (Operand.tmp 46) (Operand.const (Value.int IntKind.i64 1)) 3, type := 3, pos := _, after := #[{ on := 12, ground := Ground.data }, { on := 10, ground := Ground.guard }], guard := some (10, true) }) (v := ?v4_13) rfl (by kernel_rfl) (by kernel_rfl) (by kernel_rfl) (fun _ _ _ h => h) (Or.inl ⟨by rfl, ?y4_13⟩) hH1 ?r4_13
                case y4_13 => (intro w hSw; (try dsimp only at hSw); go_simp; try (with_reducible rfl))
                try simp only [Act.put, List.setIfInBounds_toArray, List.set_cons_zero, List.set_cons_succ]
                refine wpAnyH_take (i := 14) (oi := { dst := some 48, op := Op.indexAddr 31 (Operand.tmp 45) (Operand.tmp 47), type := 0, pos := _, after := #[{ on := 11, ground := Ground.data }, { on := 13, ground := Ground.data }, { on := 10, ground := Ground.guard }], guard := some (10, true) }) (v := ?v4_14) rfl (by kernel_rfl) (by kernel_rfl) (by kernel_rfl) (fun _ _ _ h => h) (Or.inl ⟨by rfl, ?y4_14⟩) hH1 ?r4_14
                case y4_14 => (intro w hSw; (try dsimp only at hSw); go_simp; try (with_reducible rfl))
                try simp only [Act.put, List.setIfInBounds_toArray, List.set_cons_zero, List.set_cons_succ]
                refine wpAnyH_take (i := 15) (oi := { dst := some 49, op := Op.load 9 (Operand.tmp 48), type := 9, pos := _, after := #[{ on := 14, ground := Ground.data }, { on := 10, ground := Ground.guard }], guard := some (10, true) }) (v := ?v4_15) rfl (by kernel_rfl) (by kernel_rfl) (by kernel_rfl) (fun _ _ _ h => h) (Or.inl ⟨by rfl, ?y4_15⟩) hH1 ?r4_15
                case y4_15 => (intro w hSw; (try dsimp only at hSw); go_simp; try (with_reducible rfl))
                try simp only [Act.put, List.setIfInBounds_toArray, List.set_cons_zero, List.set_cons_succ]
                refine wpAnyH_take (i := 16) (oi := { dst := some 50, op := Op.move (Operand.tmp 1), type := 31, pos := _, after := #[{ on := 10, ground := Ground.guard }], guard := some (10, true) }) (v := ?v4_16) rfl (by kernel_rfl) (by kernel_rfl) (by kernel_rfl) (fun _ _ _ h => h) (Or.inl ⟨by rfl, ?y4_16⟩) hH1 ?r4_16
                case y4_16 => (intro w hSw; (try dsimp only at hSw); go_simp; try (with_reducible rfl))
                try simp only [Act.put, List.setIfInBounds_toArray, List.set_cons_zero, List.set_cons_succ]
                refine wpAnyH_take (i := 17) (oi := { dst := some 51, op := Op.move (Operand.tmp 6), type := 3, pos := _, after := #[{ on := 10, ground := Ground.guard }], guard := some (10, true) }) (v := ?v4_17) rfl (by kernel_rfl) (by kernel_rfl) (by kernel_rfl) (fun _ _ _ h => h) (Or.inl ⟨by rfl, ?y4_17⟩) hH1 ?r4_17
                case y4_17 => (intro w hSw; (try dsimp only at hSw); go_simp; try (with_reducible rfl))
                try simp only [Act.put, List.setIfInBounds_toArray, List.set_cons_zero, List.set_cons_succ]
                refine wpAnyH_take (i := 18) (oi := { dst := some 52, op := Op.indexAddr 31 (Operand.tmp 50) (Operand.tmp 51), type := 0, pos := _, after := #[{ on := 16, ground := Ground.data }, { on := 17, ground := Ground.data }, { on := 10, ground := Ground.guard }], guard := some (10, true) }) (v := ?v4_18) rfl (by kernel_rfl) (by kernel_rfl) (by kernel_rfl) (fun _ _ _ h => h) (Or.inl ⟨by rfl, ?y4_18⟩) hH1 ?r4_18
                case y4_18 => (intro w hSw; (try dsimp only at hSw); go_simp; try (with_reducible rfl))
                try simp only [Act.put, List.setIfInBounds_toArray, List.set_cons_zero, List.set_cons_succ]
                refine wpAnyH_take (i := 19) (oi := { dst := some 53, op := Op.load 9 (Operand.tmp 52), type := 9, pos := _, after := #[{ on := 18, ground := Ground.data }, { on := 10, ground := Ground.guard }], guard := some (10, true) }) (v := ?v4_19) rfl (by kernel_rfl) (by kernel_rfl) (by kernel_rfl) (fun _ _ _ h => h) (Or.inl ⟨by rfl, ?y4_19⟩) hH1 ?r4_19
                case y4_19 => (intro w hSw; (try dsimp only at hSw); go_simp; try (with_reducible rfl))
                try simp only [Act.put, List.setIfInBounds_toArray, List.set_cons_zero, List.set_cons_succ]
                refine wpAnyH_take (i := 20) (oi := { dst := some 54, op := Op.binOp BinOp.eql 9 (Operand.tmp 49) (Operand.tmp 53) 9, type := 4, pos := _, after := #[{ on := 15, ground := Ground.data }, { on := 19, ground := Ground.data }, { on := 10, ground := Ground.guard }], guard := some (10, true) }) (v := ?v4_20) rfl (by kernel_rfl) (by kernel_rfl) (by kernel_rfl) (fun _ _ _ h => h) (Or.inl ⟨by rfl, ?y4_20⟩) hH1 ?r4_20
                case y4_20 => (intro w hSw; (try dsimp only at hSw); go_simp; try (with_reducible rfl))
                try simp only [Act.put, List.setIfInBounds_toArray, List.set_cons_zero, List.set_cons_succ]
                refine wpAnyH_take (i := 21) (oi := { dst := some 55, op := Op.pick (Operand.tmp 44) (Operand.tmp 54) (Operand.const (Value.bool false)), type := 4, pos := _, after := #[{ on := 10, ground := Ground.data }, { on := 20, ground := Ground.data }, { on := 7, ground := Ground.guard }], guard := some (7, false) }) (v := ?v4_21) rfl (by kernel_rfl) (by kernel_rfl) (by kernel_rfl) (fun _ _ _ h => h) (Or.inl ⟨by rfl, ?y4_21⟩) hH1 ?r4_21
                case y4_21 => (intro w hSw; (try dsimp only at hSw); go_simp; try (with_reducible rfl))
                try simp only [Act.put, List.setIfInBounds_toArray, List.set_cons_zero, List.set_cons_succ]
                refine wpAnyH_take (i := 22) (oi := { dst := some 56, op := Op.pick (Operand.tmp 41) (Operand.const (Value.bool true)) (Operand.tmp 55), type := 4, pos := _, after := #[{ on := 7, ground := Ground.data }, { on := 21, ground := Ground.data }], guard := none }) (v := ?v4_22) rfl (by kernel_rfl) (by kernel_rfl) (by kernel_rfl) (fun _ _ _ h => h) (Or.inl ⟨by rfl, ?y4_22⟩) hH1 ?r4_22
                case y4_22 => (intro w hSw; (try dsimp only at hSw); go_simp; try (with_reducible rfl))
                try simp only [Act.put, List.setIfInBounds_toArray, List.set_cons_zero, List.set_cons_succ]
                refine wpAnyH_done (by kernel_rfl) ?_ _
                have hbw : Below wo.heap.size wo w4 := (below_n hb5 1).trans (hb4.mono hs3)
                have hoN := ho.keepB hbw
                have hbN : Below w.heap.size w w4 := hbr.trans (hbw.mono hso)
                have hsN := hbN.size
                have hswo := hbw.size
                have hcN : w4.cell? ⟨b, off + k, none⟩ = some (.string SL) := r1
                rename World => wN
                clear hb5 hb4 k1 k2 q1 q2 r1 r2 hbw ho hcl0 hbr
                have hcap := hoN.capG
                have hsh := slice_h31 (some ⟨g, 0, none⟩) m c' (j + 1) ((j : Int) + 1) (by omega) (by omega)
                have hsd := slice_l31 (some ⟨g, 0, none⟩) m c' (j + 1) ((j : Int) + 1) (by omega) (by omega)
                have hown : Own (wN.alloc (.cells #[] 9)) wN.heap.size 9 (some ⟨wN.heap.size, 0, none⟩) 0 0 [] := World.ownsRow_made (e := 9) (size := 1) wN #[] 0 (Nat.le_refl _) (Nat.zero_le _) rfl
                have hb0 := below_alloc wN (.cells #[] 9)
                have hrt := ((hoN.keepB hb0).rd).takeS (j := (j + 1)) (by omega)
                go_wp2_with (at_builtin; refine wpList_append_rd rfl _ _ 31 rfl i0 (.string .empty) 16 Tryd.underlying31 hi hz0 hz1 hz2 rfl rfl hown (some ⟨g, 0, none⟩) (j + 1) c' (St (O.take (j + 1))) rfl hrt (St_one _) ?a1 ?a2 ?a3 ?_)
                case a1 => unfold maxLen; omega
                case a2 => omega
                case a3 => simp
                intro A5 c5 w5 ho5 hg5
                have hb5 : Below wN.heap.size wN w5 := hb0.trans (hg5.below (by simp) (fun k hk => (hown.lies k hk).1))
                have hs5 := hb5.size
                have hc5 : w5.cell? ⟨b, off + k, none⟩ = some (.string SL) := (hb5.cell (p := ⟨b, off + k, none⟩) (show b < wN.heap.size by omega)).trans hcN
                have ho5' : Own w5 wN.heap.size 9 A5 (j + 1) c5 (St (O.take (j + 1))) := by simpa using ho5
                have ho6a := ho5'.alloc (.cells #[.string SL] 9)
                clear hown hb0 hrt ho5 hg5 ho5'
                go_wp2_with (at_builtin; refine wpList_append_rd rfl _ _ 31 rfl i0 (.string .empty) 16 Tryd.underlying31 hi hz0 hz1 hz2 rfl rfl ho6a (some ⟨w5.heap.size, 0, none⟩) 1 1 [.string SL] rfl (rd_oneS w5 _ 9) (fun u hu => by rw [List.mem_singleton.1 hu]; rfl) ?b1 ?b2 ?b3 ?_)
                case b1 => unfold maxLen; omega
                case b2 => omega
                case b3 => simp; omega
                intro A6 c6 w6 ho6 hg6
                have hb6 : Below wN.heap.size wN w6 := (hb5.trans ((below_alloc w5 (.cells #[.string SL] 9)).mono hs5)).trans (hg6.below (by simp; omega) (fun k hk => (ho6a.lies k hk).1))
                have hs6 := hb6.size
                have hrt2 := ((hoN.keepB hb6).rd).dropS (c := c') (lo := (j + 1)) (by omega) hcap
                clear ho6a hb5 hg6 hc5
                go_wp2_with (at_builtin; refine wpList_append_rd rfl _ _ 31 rfl i0 (.string .empty) 16 Tryd.underlying31 hi hz0 hz1 hz2 rfl rfl ho6 (cutA (some ⟨g, 0, none⟩) c' (j + 1)) (m - (j + 1)) (c' - (j + 1)) (St (O.drop (j + 1))) rfl hrt2 (St_one _) ?d1 ?d2 ?d3 ?_)
                case d1 => unfold maxLen; omega
                case d2 => omega
                case d3 => exact hs6
                intro A7 c7 w7 ho7 hg7
                have hb7 : Below wN.heap.size wN w7 := hb6.trans (hg7.below hs6 (fun k hk => (ho6.lies k hk).1))
                have hb8 := hbN.trans (hb7.mono hsN)
                have ho8 : Own w7 w.heap.size 9 A7 ((j + 1) + 1 + (m - (j + 1))) c7 (St (O.take (j + 1) ++ l :: O.drop (j + 1))) := by
                  have e1 : St (O.take (j + 1) ++ l :: O.drop (j + 1)) = St (O.take (j + 1)) ++ Value.string SL :: St (O.drop (j + 1)) := by rw [HSL.out]; simp [St]
                  rw [e1]; exact ho7.mono hsN
                clear ho6 hrt2 ho7 hg7 hb6 hb7 hsh hsd
                go_wp2
                go_roundw
                case rel => exact ⟨k + 1, (j + 1) + 1 + (m - (j + 1)), c7, A7, _, rfl, by go_num, by omega, by omega, HPUT, ho8, hb8⟩
                case measure => simp [intOf]; omega
            · have hm : mt p l = false := by simpa using hm
              rw [hm] at HMM
              have HPUT := Lib.hid (HP.out.miss HX.out hm)
              go_wp2
              refine wp_region_held_drew (S := (fun w' => w'.cell? ⟨b, off + k, none⟩ = some (.string SL) ∧ w'.cell? ⟨g, j, none⟩ = some (.string SY))) (by kernel_rfl) ⟨k1, k2⟩ (fun hH0 => ?_)
              refine wpAnyH_take (i := 0) (oi := { dst := some 34, op := Op.move (Operand.tmp 1), type := 31, pos := _, after := #[], guard := none }) (v := ?v5_0) rfl (by kernel_rfl) (by kernel_rfl) (by kernel_rfl) (fun _ _ _ h => h) (Or.inl ⟨by rfl, ?y5_0⟩) hH0 ?r5_0
              case y5_0 => (intro w hSw; (try dsimp only at hSw); go_simp; try (with_reducible rfl))
              try simp only [Act.put, List.setIfInBounds_toArray, List.set_cons_zero, List.set_cons_succ]
              refine wpAnyH_take (i := 1) (oi := { dst := some 35, op := Op.move (Operand.tmp 6), type := 3, pos := _, after := #[], guard := none }) (v := ?v5_1) rfl (by kernel_rfl) (by kernel_rfl) (by kernel_rfl) (fun _ _ _ h => h) (Or.inl ⟨by rfl, ?y5_1⟩) hH0 ?r5_1
              case y5_1 => (intro w hSw; (try dsimp only at hSw); go_simp; try (with_reducible rfl))
              try simp only [Act.put, List.setIfInBounds_toArray, List.set_cons_zero, List.set_cons_succ]
              refine wpAnyH_take (i := 2) (oi := { dst := some 36, op := Op.indexAddr 31 (Operand.tmp 34) (Operand.tmp 35), type := 0, pos := _, after := #[{ on := 0, ground := Ground.data }, { on := 1, ground := Ground.data }], guard := none }) (v := ?v5_2) rfl (by kernel_rfl) (by kernel_rfl) (by kernel_rfl) (fun _ _ _ h => h) (Or.inl ⟨by rfl, ?y5_2⟩) hH0 ?r5_2
              case y5_2 => (intro w hSw; (try dsimp only at hSw); go_simp; try (with_reducible rfl))
              try simp only [Act.put, List.setIfInBounds_toArray, List.set_cons_zero, List.set_cons_succ]
              refine wpAnyH_take (i := 3) (oi := { dst := some 37, op := Op.load 9 (Operand.tmp 36), type := 9, pos := _, after := #[{ on := 2, ground := Ground.data }], guard := none }) (v := ?v5_3) rfl (by kernel_rfl) (by kernel_rfl) (by kernel_rfl) (fun _ _ _ h => h) (Or.inl ⟨by rfl, ?y5_3⟩) hH0 ?r5_3
              case y5_3 => (intro w hSw; (try dsimp only at hSw); go_simp; try (with_reducible rfl))
              try simp only [Act.put, List.setIfInBounds_toArray, List.set_cons_zero, List.set_cons_succ]
              refine wpAnyH_take (i := 4) (oi := { dst := some 38, op := Op.move (Operand.tmp 0), type := 9, pos := _, after := #[], guard := none }) (v := ?v5_4) rfl (by kernel_rfl) (by kernel_rfl) (by kernel_rfl) (fun _ _ _ h => h) (Or.inl ⟨by rfl, ?y5_4⟩) hH0 ?r5_4
              case y5_4 => (intro w hSw; (try dsimp only at hSw); go_simp; try (with_reducible rfl))
              try simp only [Act.put, List.setIfInBounds_toArray, List.set_cons_zero, List.set_cons_succ]
              refine wpAnyH_ready (rs := [5]) (by kernel_rfl) (by simp) ?_
              refine AllReadyH.cons (o := { dst := some 39, op := Op.call { callee := Callee.value (Operand.func 17), args := #[Operand.tmp 37, Operand.tmp 38], argTypes := #[9, 9] }, type := 4, pos := _, after := #[{ on := 3, ground := Ground.data }, { on := 4, ground := Ground.data }], guard := none }) rfl (fun K hK => ?_) AllReadyH.nil
              go_simp
              refine (HMM.out _).mono ?_
              rintro e w4 ⟨rfl, hb4⟩
              have r1 : w4.cell? ⟨b, off + k, none⟩ = some (.string SL) := (hb4.cell (p := ⟨b, off + k, none⟩) (show b < w3.heap.size by omega)).trans k1
              have r2 : w4.cell? ⟨g, j, none⟩ = some (.string SY) := (hb4.cell (p := ⟨g, j, none⟩) (show g < w3.heap.size by omega)).trans k2
              go_wp2_with fail
              refine hK.out _ _ ⟨r1, r2⟩ (fun hH1 => ?_)
              clear hK K hH0
              try simp only [Act.put, List.setIfInBounds_toArray, List.set_cons_zero, List.set_cons_succ]
              refine wpAnyH_take (i := 6) (oi := { dst := some 40, op := Op.unOp UnOp.not 4 (Operand.tmp 39), type := 4, pos := _, after := #[{ on := 5, ground := Ground.data }], guard := none }) (v := ?v5_6) rfl (by kernel_rfl) (by kernel_rfl) (by kernel_rfl) (fun _ _ _ h => h) (Or.inl ⟨by rfl, ?y5_6⟩) hH1 ?r5_6
              case y5_6 => (intro w hSw; (try dsimp only at hSw); go_simp; try (with_reducible rfl))
              try simp only [Act.put, List.setIfInBounds_toArray, List.set_cons_zero, List.set_cons_succ]
              refine wpAnyH_take (i := 7) (oi := { dst := some 41, op := Op.move (Operand.tmp 40), type := 4, pos := _, after := #[{ on := 6, ground := Ground.data }, { on := 5, ground := Ground.chain }], guard := none }) (v := ?v5_7) rfl (by kernel_rfl) (by kernel_rfl) (by kernel_rfl) (fun _ _ _ h => h) (Or.inl ⟨by rfl, ?y5_7⟩) hH1 ?r5_7
              case y5_7 => (intro w hSw; (try dsimp only at hSw); go_simp; try (with_reducible rfl))
              try simp only [Act.put, List.setIfInBounds_toArray, List.set_cons_zero, List.set_cons_succ]
              refine wpAnyH_take (i := 8) (oi := { dst := some 42, op := Op.move (Operand.tmp 7), type := 3, pos := _, after := #[{ on := 7, ground := Ground.guard }], guard := some (7, false) }) (v := undef) rfl (by kernel_rfl) (by kernel_rfl) (by kernel_rfl) (fun _ _ _ h => h) (Or.inr ⟨by rfl, rfl⟩) hH1 ?_
              try simp only [Act.put, List.setIfInBounds_toArray, List.set_cons_zero, List.set_cons_succ]
              refine wpAnyH_take (i := 9) (oi := { dst := some 43, op := Op.binOp BinOp.gtr 3 (Operand.tmp 42) (Operand.const (Value.int IntKind.i64 0)) 3, type := 4, pos := _, after := #[{ on := 8, ground := Ground.data }, { on := 7, ground := Ground.guard }], guard := some (7, false) }) (v := undef) rfl (by kernel_rfl) (by kernel_rfl) (by kernel_rfl) (fun _ _ _ h => h) (Or.inr ⟨by rfl, rfl⟩) hH1 ?_
              try simp only [Act.put, List.setIfInBounds_toArray, List.set_cons_zero, List.set_cons_succ]
              refine wpAnyH_take (i := 10) (oi := { dst := some 44, op := Op.move (Operand.tmp 43), type := 4, pos := _, after := #[{ on := 9, ground := Ground.data }, { on := 7, ground := Ground.chain }, { on := 7, ground := Ground.guard }], guard := some (7, false) }) (v := undef) rfl (by kernel_rfl) (by kernel_rfl) (by kernel_rfl) (fun _ _ _ h => h) (Or.inr ⟨by rfl, rfl⟩) hH1 ?_
              try simp only [Act.put, List.setIfInBounds_toArray, List.set_cons_zero, List.set_cons_succ]
              refine wpAnyH_take (i := 11) (oi := { dst := some 45, op := Op.move (Operand.tmp 5), type := 31, pos := _, after := #[{ on := 10, ground := Ground.guard }], guard := some (10, true) }) (v := undef) rfl (by kernel_rfl) (by kernel_rfl) (by kernel_rfl) (fun _ _ _ h => h) (Or.inr ⟨by rfl, rfl⟩) hH1 ?_
              try simp only [Act.put, List.setIfInBounds_toArray, List.set_cons_zero, List.set_cons_succ]
              refine wpAnyH_take (i := 12) (oi := { dst := some 46, op := Op.move (Operand.tmp 7), type := 3, pos := _, after := #[{ on := 10, ground := Ground.guard }], guard := some (10, true) }) (v := undef) rfl (by kernel_rfl) (by kernel_rfl) (by kernel_rfl) (fun _ _ _ h => h) (Or.inr ⟨by rfl, rfl⟩) hH1 ?_
              try simp only [Act.put, List.setIfInBounds_toArray, List.set_cons_zero, List.set_cons_succ]
              refine wpAnyH_take (i := 13) (oi := { dst := some 47, op := Op.binOp BinOp.sub 3 (Operand.tmp 46) (Operand.const (Value.int IntKind.i64 1)) 3, type := 3, pos := _, after := #[{ on := 12, ground := Ground.data }, { on := 10, ground := Ground.guard }], guard := some (10, true) }) (v := undef) rfl (by kernel_rfl) (by kernel_rfl) (by kernel_rfl) (fun _ _ _ h => h) (Or.inr ⟨by rfl, rfl⟩) hH1 ?_
              try simp only [Act.put, List.setIfInBounds_toArray, List.set_cons_zero, List.set_cons_succ]
              refine wpAnyH_take (i := 14) (oi := { dst := some 48, op := Op.indexAddr 31 (Operand.tmp 45) (Operand.tmp 47), type := 0, pos := _, after := #[{ on := 11, ground := Ground.data }, { on := 13, ground := Ground.data }, { on := 10, ground := Ground.guard }], guard := some (10, true) }) (v := undef) rfl (by kernel_rfl) (by kernel_rfl) (by kernel_rfl) (fun _ _ _ h => h) (Or.inr ⟨by rfl, rfl⟩) hH1 ?_
              try simp only [Act.put, List.setIfInBounds_toArray, List.set_cons_zero, List.set_cons_succ]
              refine wpAnyH_take (i := 15) (oi := { dst := some 49, op := Op.load 9 (Operand.tmp 48), type := 9, pos := _, after := #[{ on := 14, ground := Ground.data }, { on := 10, ground := Ground.guard }], guard := some (10, true) }) (v := undef) rfl (by kernel_rfl) (by kernel_rfl) (by kernel_rfl) (fun _ _ _ h => h) (Or.inr ⟨by rfl, rfl⟩) hH1 ?_
              try simp only [Act.put, List.setIfInBounds_toArray, List.set_cons_zero, List.set_cons_succ]
              refine wpAnyH_take (i := 16) (oi := { dst := some 50, op := Op.move (Operand.tmp 1), type := 31, pos := _, after := #[{ on := 10, ground := Ground.guard }], guard := some (10, true) }) (v := undef) rfl (by kernel_rfl) (by kernel_rfl) (by kernel_rfl) (fun _ _ _ h => h) (Or.inr ⟨by rfl, rfl⟩) hH1 ?_
              try simp only [Act.put, List.setIfInBounds_toArray, List.set_cons_zero, List.set_cons_succ]
              refine wpAnyH_take (i := 17) (oi := { dst := some 51, op := Op.move (Operand.tmp 6), type := 3, pos := _, after := #[{ on := 10, ground := Ground.guard }], guard := some (10, true) }) (v := undef) rfl (by kernel_rfl) (by kernel_rfl) (by kernel_rfl) (fun _ _ _ h => h) (Or.inr ⟨by rfl, rfl⟩) hH1 ?_
              try simp only [Act.put, List.setIfInBounds_toArray, List.set_cons_zero, List.set_cons_succ]
              refine wpAnyH_take (i := 18) (oi := { dst := some 52, op := Op.indexAddr 31 (Operand.tmp 50) (Operand.tmp 51), type := 0, pos := _, after := #[{ on := 16, ground := Ground.data }, { on := 17, ground := Ground.data }, { on := 10, ground := Ground.guard }], guard := some (10, true) }) (v := undef) rfl (by kernel_rfl) (by kernel_rfl) (by kernel_rfl) (fun _ _ _ h => h) (Or.inr ⟨by rfl, rfl⟩) hH1 ?_
              try simp only [Act.put, List.setIfInBounds_toArray, List.set_cons_zero, List.set_cons_succ]
              refine wpAnyH_take (i := 19) (oi := { dst := some 53, op := Op.load 9 (Operand.tmp 52), type := 9, pos := _, after := #[{ on := 18, ground := Ground.data }, { on := 10, ground := Ground.guard }], guard := some (10, true) }) (v := undef) rfl (by kernel_rfl) (by kernel_rfl) (by kernel_rfl) (fun _ _ _ h => h) (Or.inr ⟨by rfl, rfl⟩) hH1 ?_
              try simp only [Act.put, List.setIfInBounds_toArray, List.set_cons_zero, List.set_cons_succ]
              refine wpAnyH_take (i := 20) (oi := { dst := some 54, op := Op.binOp BinOp.eql 9 (Operand.tmp 49) (Operand.tmp 53) 9, type := 4, pos := _, after := #[{ on := 15, ground := Ground.data }, { on := 19, ground := Ground.data }, { on := 10, ground := Ground.guard }], guard := some (10, true) }) (v := undef) rfl (by kernel_rfl) (by kernel_rfl) (by kernel_rfl) (fun _ _ _ h => h) (Or.inr ⟨by rfl, rfl⟩) hH1 ?_
              try simp only [Act.put, List.setIfInBounds_toArray, List.set_cons_zero, List.set_cons_succ]
              refine wpAnyH_take (i := 21) (oi := { dst := some 55, op := Op.pick (Operand.tmp 44) (Operand.tmp 54) (Operand.const (Value.bool false)), type := 4, pos := _, after := #[{ on := 10, ground := Ground.data }, { on := 20, ground := Ground.data }, { on := 7, ground := Ground.guard }], guard := some (7, false) }) (v := undef) rfl (by kernel_rfl) (by kernel_rfl) (by kernel_rfl) (fun _ _ _ h => h) (Or.inr ⟨by rfl, rfl⟩) hH1 ?_
              try simp only [Act.put, List.setIfInBounds_toArray, List.set_cons_zero, List.set_cons_succ]
              refine wpAnyH_take (i := 22) (oi := { dst := some 56, op := Op.pick (Operand.tmp 41) (Operand.const (Value.bool true)) (Operand.tmp 55), type := 4, pos := _, after := #[{ on := 7, ground := Ground.data }, { on := 21, ground := Ground.data }], guard := none }) (v := ?v5_22) rfl (by kernel_rfl) (by kernel_rfl) (by kernel_rfl) (fun _ _ _ h => h) (Or.inl ⟨by rfl, ?y5_22⟩) hH1 ?r5_22
              case y5_22 => (intro w hSw; (try dsimp only at hSw); go_simp; try (with_reducible rfl))
              try simp only [Act.put, List.setIfInBounds_toArray, List.set_cons_zero, List.set_cons_succ]
              refine wpAnyH_done (by kernel_rfl) ?_ _
              have hbw : Below wo.heap.size wo w4 := (below_n hb5 1).trans (hb4.mono hs3)
              have hoN := ho.keepB hbw
              have hbN : Below w.heap.size w w4 := hbr.trans (hbw.mono hso)
              have hsN := hbN.size
              have hswo := hbw.size
              have hcN : w4.cell? ⟨b, off + k, none⟩ = some (.string SL) := r1
              rename World => wN
              clear hb5 hb4 k1 k2 q1 q2 r1 r2 hbw ho hcl0 hbr
              go_wp2
              go_roundw
              case rel => exact ⟨k + 1, m, c', _, O, rfl, by go_num, by omega, by omega, HPUT, hoN, hbN⟩
              case measure => simp [intOf]; omega
    · have HT := Lib.hid (show ns.take k = ns from List.take_of_length_le (by rw [HNL.out]; omega))
      have HM : Hid (∀ x, x ∈ O ↔ x ∈ ns ∧ mt p x = true) := fun x => by have := HP.out.2 x; rwa [HT.out] at this
      have hss := HP.out.1
      go_wp2
      go_ret
      exact ⟨A', c', m, O, rfl, ho, hss, HM.out, hbr⟩
end Go.Proofs.YtdlbghjclcdfmaaDoor
