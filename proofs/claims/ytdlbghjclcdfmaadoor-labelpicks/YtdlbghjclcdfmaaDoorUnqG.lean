/- label.Unquote of any text. -/
import Derived.Test.YtdlbghjclcdfmaaDoorUnquW
import Derived.Test.YtdlbghjclcdfmaaDoorUq
namespace Go.Proofs.YtdlbghjclcdfmaaDoor
set_option linter.unusedVariables false
set_option linter.unusedSimpArgs false
open Go.RowKit

theorem hex_find_all : ∀ i : Fin 256, Lib.indexByte [48, 49, 50, 51, 52, 53, 54, 55, 56, 57, 97, 98, 99, 100, 101, 102] ((i.val : Int)).toNat.toUInt8 = hexV (i.val : Int) := by decide +kernel
theorem index_any (c : Int) (h0 : 0 ≤ c) (h1 : c ≤ 255) (w : World) :
    Calls Tryd.prog 77 #[.string ⟨#[48, 49, 50, 51, 52, 53, 54, 55, 56, 57, 97, 98, 99, 100, 101, 102]⟩, .int .u8 c] w fun e w' => e = .returned (.int .i64 (hexV c)) ∧ w = w' := by
  have h := hex_find_all ⟨c.toNat, by omega⟩
  have e : ((c.toNat : Nat) : Int) = c := by omega
  simp only [e] at h
  have HF := Lib.hid h; clear h
  go_enter Tryd.func77, Tryd.ntmps77
  go_wp2_with fail
  refine (slite_any _ _ _).mono ?_
  rintro e w' ⟨rfl, rfl⟩
  go_wp2
  go_ret
  exact ⟨ret_int HF.out, rfl⟩

set_option maxRecDepth 100000 in
set_option maxHeartbeats 2000000 in
theorem unhex_gen (l : List Int) (w : World) (hr : Ran l) :
    Calls Tryd.prog 57 #[.string (strOfNums l)] w fun e w' => e = .returned (.tuple #[.int .u8 (uhx l).1, .int .i64 (uhx l).2]) ∧ w = w' := by
  match l, hr with
  | [], hr =>
    have HU : uhx ([]) = (0, 5) := by simp only [uhx]
    rw [HU]
    have hsz : (strOfNums ([])).size = 0 := by rw [strOfNums_size]; rfl
    clear HU
    generalize strOfNums ([]) = s at *
    go_enter Tryd.func57, Tryd.ntmps57
    go_wp2
    refine wp_loop_rounds 3 ?_
    rw [rounds_succ]
    go_wp2
    go_ret2
    exact ⟨rfl, rfl⟩
  | [a], hr =>
    have ha := hr a (by simp)
    obtain ⟨ha0, ha1⟩ := ha
    by_cases h1 : hexV a < 0
    · have HU : uhx ([a]) = (0, 3) := by simp only [uhx]; rw [if_pos h1]
      rw [HU]
      have hsz : (strOfNums ([a])).size = 1 := by rw [strOfNums_size]; rfl
      have i0 : ∀ W, (Instr.index 9 (.string (strOfNums ([a]))) (.int .i64 0)).run Tryd.prog W = .ok (.int .u8 (a)) W := str_index 9 Tryd.underlying9 _ 0 (a) rfl (by omega) (by omega)
      clear HU
      generalize strOfNums ([a]) = s at *
      go_enter Tryd.func57, Tryd.ntmps57
      go_wp2
      refine wp_loop_rounds 3 ?_
      rw [rounds_succ]
      go_wp2_with fail
      refine (index_any a (by omega) (by omega) _).mono ?_
      rintro e w1 ⟨rfl, rfl⟩
      go_wp2
      go_ret2
      exact ⟨rfl, rfl⟩
    · have h2 : 0 ≤ hexV a := by omega
      have hle := hexV_le a
      have HU : uhx ([a]) = (0, 5) := by simp only [uhx]; rw [if_neg h1]
      rw [HU]
      have hsz : (strOfNums ([a])).size = 1 := by rw [strOfNums_size]; rfl
      have i0 : ∀ W, (Instr.index 9 (.string (strOfNums ([a]))) (.int .i64 0)).run Tryd.prog W = .ok (.int .u8 (a)) W := str_index 9 Tryd.underlying9 _ 0 (a) rfl (by omega) (by omega)
      clear HU
      generalize strOfNums ([a]) = s at *
      go_enter Tryd.func57, Tryd.ntmps57
      go_wp2
      refine wp_loop_rounds 3 ?_
      rw [rounds_succ]
      go_wp2_with fail
      refine (index_any a (by omega) (by omega) _).mono ?_
      rintro e w1 ⟨rfl, rfl⟩
      go_wp2
      rw [rounds_succ]
      go_wp2
      go_ret2
      exact ⟨rfl, rfl⟩
  | a :: b :: t, hr =>
    obtain ⟨ha0, ha1⟩ := hr a (by simp)
    obtain ⟨hb0, hb1⟩ := hr b (by simp)
    by_cases h1 : hexV a < 0
    · have HU : uhx (a :: b :: t) = (0, 3) := by simp only [uhx]; rw [if_pos h1]
      rw [HU]
      have hsz : (strOfNums (a :: b :: t)).size = t.length + 2 := by rw [strOfNums_size]; rfl
      have i0 : ∀ W, (Instr.index 9 (.string (strOfNums (a :: b :: t))) (.int .i64 0)).run Tryd.prog W = .ok (.int .u8 (a)) W := str_index 9 Tryd.underlying9 _ 0 (a) rfl (by omega) (by omega)
      have i1 : ∀ W, (Instr.index 9 (.string (strOfNums (a :: b :: t))) (.int .i64 1)).run Tryd.prog W = .ok (.int .u8 (b)) W := str_index 9 Tryd.underlying9 _ 1 (b) rfl (by omega) (by omega)
      clear HU
      generalize strOfNums (a :: b :: t) = s at *
      go_enter Tryd.func57, Tryd.ntmps57
      go_wp2
      refine wp_loop_rounds 3 ?_
      rw [rounds_succ]
      go_wp2_with fail
      refine (index_any a (by omega) (by omega) _).mono ?_
      rintro e w1 ⟨rfl, rfl⟩
      go_wp2
      go_ret2
      exact ⟨rfl, rfl⟩
    · have h2 : 0 ≤ hexV a := by omega
      have hle := hexV_le a
      have hle2 := hexV_le b
      by_cases h3 : hexV b < 0
      · have HU : uhx (a :: b :: t) = (0, 3) := by simp only [uhx]; rw [if_neg h1, if_pos h3]
        rw [HU]
        have hsz : (strOfNums (a :: b :: t)).size = t.length + 2 := by rw [strOfNums_size]; rfl
        have i0 : ∀ W, (Instr.index 9 (.string (strOfNums (a :: b :: t))) (.int .i64 0)).run Tryd.prog W = .ok (.int .u8 (a)) W := str_index 9 Tryd.underlying9 _ 0 (a) rfl (by omega) (by omega)
        have i1 : ∀ W, (Instr.index 9 (.string (strOfNums (a :: b :: t))) (.int .i64 1)).run Tryd.prog W = .ok (.int .u8 (b)) W := str_index 9 Tryd.underlying9 _ 1 (b) rfl (by omega) (by omega)
        clear HU
        generalize strOfNums (a :: b :: t) = s at *
        go_enter Tryd.func57, Tryd.ntmps57
        go_wp2
        refine wp_loop_rounds 3 ?_
        rw [rounds_succ]
        go_wp2_with fail
        refine (index_any a (by omega) (by omega) _).mono ?_
        rintro e w1 ⟨rfl, rfl⟩
        go_wp2
        rw [rounds_succ]
        go_wp2_with fail
        refine (index_any b (by omega) (by omega) _).mono ?_
        rintro e w1 ⟨rfl, rfl⟩
        go_wp2
        go_ret2
        exact ⟨rfl, rfl⟩
      · have h4 : 0 ≤ hexV b := by omega
        have hor0 : bits .or .u8 0 (hexV a) = hexV a := by have := or_low 0 (hexV a) (by omega) (by omega) h2 (by omega); simpa using this
        have hor1 := or_low (hexV a) (hexV b) h2 (by omega) h4 (by omega)
        by_cases h5 : pr (hexV a * 16 + hexV b) = true
        · have HU : uhx (a :: b :: t) = (0, 3) := by simp only [uhx]; rw [if_neg h1, if_neg h3, if_pos h5]
          rw [HU]
          have hsz : (strOfNums (a :: b :: t)).size = t.length + 2 := by rw [strOfNums_size]; rfl
          have i0 : ∀ W, (Instr.index 9 (.string (strOfNums (a :: b :: t))) (.int .i64 0)).run Tryd.prog W = .ok (.int .u8 (a)) W := str_index 9 Tryd.underlying9 _ 0 (a) rfl (by omega) (by omega)
          have i1 : ∀ W, (Instr.index 9 (.string (strOfNums (a :: b :: t))) (.int .i64 1)).run Tryd.prog W = .ok (.int .u8 (b)) W := str_index 9 Tryd.underlying9 _ 1 (b) rfl (by omega) (by omega)
          clear HU
          generalize strOfNums (a :: b :: t) = s at *
          go_enter Tryd.func57, Tryd.ntmps57
          go_wp2
          refine wp_loop_rounds 3 ?_
          rw [rounds_succ]
          go_wp2_with fail
          refine (index_any a (by omega) (by omega) _).mono ?_
          rintro e w1 ⟨rfl, rfl⟩
          go_wp2
          rw [rounds_succ]
          go_wp2_with fail
          refine (index_any b (by omega) (by omega) _).mono ?_
          rintro e w1 ⟨rfl, rfl⟩
          go_wp2
          rw [rounds_succ]
          go_wp2_with fail
          refine (printable_any _ _).mono ?_
          rintro e w1 ⟨rfl, rfl⟩
          go_wp2
          go_ret2
          exact ⟨rfl, rfl⟩
        · have h6 : pr (hexV a * 16 + hexV b) = false := by simpa using h5
          have HU : uhx (a :: b :: t) = (hexV a * 16 + hexV b, 0) := by simp only [uhx]; rw [if_neg h1, if_neg h3, if_neg h5]
          rw [HU]
          have hsz : (strOfNums (a :: b :: t)).size = t.length + 2 := by rw [strOfNums_size]; rfl
          have i0 : ∀ W, (Instr.index 9 (.string (strOfNums (a :: b :: t))) (.int .i64 0)).run Tryd.prog W = .ok (.int .u8 (a)) W := str_index 9 Tryd.underlying9 _ 0 (a) rfl (by omega) (by omega)
          have i1 : ∀ W, (Instr.index 9 (.string (strOfNums (a :: b :: t))) (.int .i64 1)).run Tryd.prog W = .ok (.int .u8 (b)) W := str_index 9 Tryd.underlying9 _ 1 (b) rfl (by omega) (by omega)
          clear HU
          generalize strOfNums (a :: b :: t) = s at *
          go_enter Tryd.func57, Tryd.ntmps57
          go_wp2
          refine wp_loop_rounds 3 ?_
          rw [rounds_succ]
          go_wp2_with fail
          refine (index_any a (by omega) (by omega) _).mono ?_
          rintro e w1 ⟨rfl, rfl⟩
          go_wp2
          rw [rounds_succ]
          go_wp2_with fail
          refine (index_any b (by omega) (by omega) _).mono ?_
          rintro e w1 ⟨rfl, rfl⟩
          go_wp2
          rw [rounds_succ]
          go_wp2_with fail
          refine (printable_any _ _).mono ?_
          rintro e w1 ⟨rfl, rfl⟩
          go_wp2
          go_ret2
          exact ⟨rfl, rfl⟩
set_option maxRecDepth 100000 in
set_option maxHeartbeats 2000000 in
theorem unqb_gen (c : Int) (r : List Int) (w : World) (hr : Ran (c :: r)) :
    Calls Tryd.prog 43 #[.string (strOfNums (c :: r))] w fun e w' => e = .returned (.tuple #[.int .u8 (uqb (c :: r)).1, .int .i64 (uqb (c :: r)).2.1, .int .i64 (uqb (c :: r)).2.2]) ∧ w = w' := by
  obtain ⟨hc0, hc1⟩ := hr c (by simp)
  by_cases hp : pr c = false
  · have HU : uqb (c :: r) = (0, 0, 3) := by simp only [uqb]; rw [if_pos hp]
    rw [HU]
    have hsz : (strOfNums (c :: r)).size = r.length + 1 := by rw [strOfNums_size]; rfl
    have i0 : ∀ W, (Instr.index 9 (.string (strOfNums (c :: r))) (.int .i64 0)).run Tryd.prog W = .ok (.int .u8 (c)) W := str_index 9 Tryd.underlying9 _ 0 (c) rfl (by omega) (by omega)
    clear HU
    generalize strOfNums (c :: r) = s at *
    go_enter Tryd.func43, Tryd.ntmps43
    go_wp2_with fail
    refine (printable_any _ _).mono ?_
    rintro e w1 ⟨rfl, rfl⟩
    go_wp2
    go_ret3
    exact ⟨rfl, rfl⟩
  · have hp2 : pr c = true := by simpa using hp
    by_cases h92 : c = 92
    · subst h92
      match r, hr with
      | [], hr =>
        have HU : uqb ([92]) = (0, 0, 5) := by simp only [uqb]; rw [if_neg hp, if_neg (by simp)]
        rw [HU]
        have hsz : (strOfNums ([92])).size = 1 := by rw [strOfNums_size]; rfl
        have i0 : ∀ W, (Instr.index 9 (.string (strOfNums ([92]))) (.int .i64 0)).run Tryd.prog W = .ok (.int .u8 (92)) W := str_index 9 Tryd.underlying9 _ 0 (92) rfl (by omega) (by omega)
        clear HU
        generalize strOfNums ([92]) = s at *
        go_enter Tryd.func43, Tryd.ntmps43
        go_wp2_with fail
        refine (printable_any _ _).mono ?_
        rintro e w1 ⟨rfl, rfl⟩
        go_wp2
        go_ret3
        exact ⟨rfl, rfl⟩
      | d :: t, hr =>
        obtain ⟨hd0, hd1⟩ := hr d (by simp)
        by_cases h1 : d = 92 ∨ d = 34
        · have h1' := h1
          rcases h1 with rfl | rfl
          · have HU : uqb (92 :: 92 :: t) = (92, 2, 0) := by simp only [uqb]; rw [if_neg hp, if_neg (by simp)]; simp
            rw [HU]
            have hsz : (strOfNums (92 :: 92 :: t)).size = t.length + 2 := by rw [strOfNums_size]; rfl
            have i0 : ∀ W, (Instr.index 9 (.string (strOfNums (92 :: 92 :: t))) (.int .i64 0)).run Tryd.prog W = .ok (.int .u8 (92)) W := str_index 9 Tryd.underlying9 _ 0 (92) rfl (by omega) (by omega)
            have i1 : ∀ W, (Instr.index 9 (.string (strOfNums (92 :: 92 :: t))) (.int .i64 1)).run Tryd.prog W = .ok (.int .u8 (92)) W := str_index 9 Tryd.underlying9 _ 1 (92) rfl (by omega) (by omega)
            clear HU
            generalize strOfNums (92 :: 92 :: t) = s at *
            go_enter Tryd.func43, Tryd.ntmps43
            go_wp2_with fail
            refine (printable_any _ _).mono ?_
            rintro e w1 ⟨rfl, rfl⟩
            go_wp2
            go_ret3
            exact ⟨rfl, rfl⟩
          · have HU : uqb (92 :: 34 :: t) = (34, 2, 0) := by simp only [uqb]; rw [if_neg hp, if_neg (by simp)]; simp
            rw [HU]
            have hsz : (strOfNums (92 :: 34 :: t)).size = t.length + 2 := by rw [strOfNums_size]; rfl
            have i0 : ∀ W, (Instr.index 9 (.string (strOfNums (92 :: 34 :: t))) (.int .i64 0)).run Tryd.prog W = .ok (.int .u8 (92)) W := str_index 9 Tryd.underlying9 _ 0 (92) rfl (by omega) (by omega)
            have i1 : ∀ W, (Instr.index 9 (.string (strOfNums (92 :: 34 :: t))) (.int .i64 1)).run Tryd.prog W = .ok (.int .u8 (34)) W := str_index 9 Tryd.underlying9 _ 1 (34) rfl (by omega) (by omega)
            clear HU
            generalize strOfNums (92 :: 34 :: t) = s at *
            go_enter Tryd.func43, Tryd.ntmps43
            go_wp2_with fail
            refine (printable_any _ _).mono ?_
            rintro e w1 ⟨rfl, rfl⟩
            go_wp2
            go_ret3
            exact ⟨rfl, rfl⟩
        · have n1 : (d == 92) = false := by simp; omega
          have n2 : (d == 34) = false := by simp; omega
          by_cases h2 : d = 120
          · subst h2
            have hu := fun w => unhex_gen t w (hr.sub (fun y hy => List.mem_cons_of_mem _ (List.mem_cons_of_mem _ hy)))
            have HU : uqb (92 :: 120 :: t) = ((uhx t).1, 4, (uhx t).2) := by simp only [uqb]; rw [if_neg hp, if_neg (by simp), if_neg h1]; simp
            rw [HU]
            have hsz : (strOfNums (92 :: 120 :: t)).size = t.length + 2 := by rw [strOfNums_size]; rfl
            have i0 : ∀ W, (Instr.index 9 (.string (strOfNums (92 :: 120 :: t))) (.int .i64 0)).run Tryd.prog W = .ok (.int .u8 (92)) W := str_index 9 Tryd.underlying9 _ 0 (92) rfl (by omega) (by omega)
            have i1 : ∀ W, (Instr.index 9 (.string (strOfNums (92 :: 120 :: t))) (.int .i64 1)).run Tryd.prog W = .ok (.int .u8 (120)) W := str_index 9 Tryd.underlying9 _ 1 (120) rfl (by omega) (by omega)
            have f2 : ∀ W, (Instr.slice 9 (.string (strOfNums (92 :: 120 :: t))) (some (.int .i64 2)) none none).run Tryd.prog W = .ok (.string (strOfNums t)) W := str_from 9 Tryd.underlying9 _ 2 (by simp)
            clear HU
            generalize strOfNums (92 :: 120 :: t) = s at *
            go_enter Tryd.func43, Tryd.ntmps43
            go_wp2_with fail
            refine (printable_any _ _).mono ?_
            rintro e w1 ⟨rfl, rfl⟩
            generalize strOfNums t = s2 at *
            go_wp2_with fail
            refine (hu _).mono ?_
            rintro e w1 ⟨rfl, rfl⟩
            go_wp2
            go_ret3
            exact ⟨rfl, rfl⟩
          · have n3 : (d == 120) = false := by simp; omega
            have HU : uqb (92 :: d :: t) = (0, 0, 3) := by simp only [uqb]; rw [if_neg hp, if_neg (by simp), if_neg h1, if_neg h2]
            rw [HU]
            have hsz : (strOfNums (92 :: d :: t)).size = t.length + 2 := by rw [strOfNums_size]; rfl
            have i0 : ∀ W, (Instr.index 9 (.string (strOfNums (92 :: d :: t))) (.int .i64 0)).run Tryd.prog W = .ok (.int .u8 (92)) W := str_index 9 Tryd.underlying9 _ 0 (92) rfl (by omega) (by omega)
            have i1 : ∀ W, (Instr.index 9 (.string (strOfNums (92 :: d :: t))) (.int .i64 1)).run Tryd.prog W = .ok (.int .u8 (d)) W := str_index 9 Tryd.underlying9 _ 1 (d) rfl (by omega) (by omega)
            clear HU
            generalize strOfNums (92 :: d :: t) = s at *
            go_enter Tryd.func43, Tryd.ntmps43
            go_wp2_with fail
            refine (printable_any _ _).mono ?_
            rintro e w1 ⟨rfl, rfl⟩
            go_wp2
            go_ret3
            exact ⟨rfl, rfl⟩
    · have n1 : (c == 92) = false := by simp; omega
      have n2 : (c != 92) = true := by simp; omega
      have HU : uqb (c :: r) = (c, 1, 0) := by simp only [uqb]; rw [if_neg hp, if_pos h92]
      rw [HU]
      have hsz : (strOfNums (c :: r)).size = r.length + 1 := by rw [strOfNums_size]; rfl
      have i0 : ∀ W, (Instr.index 9 (.string (strOfNums (c :: r))) (.int .i64 0)).run Tryd.prog W = .ok (.int .u8 (c)) W := str_index 9 Tryd.underlying9 _ 0 (c) rfl (by omega) (by omega)
      clear HU
      generalize strOfNums (c :: r) = s at *
      go_enter Tryd.func43, Tryd.ntmps43
      go_wp2_with fail
      refine (printable_any _ _).mono ?_
      rintro e w1 ⟨rfl, rfl⟩
      go_wp2
      go_ret3
      exact ⟨rfl, rfl⟩

set_option maxRecDepth 100000 in
set_option maxHeartbeats 2000000 in
theorem unquote_gen (l0 : List Int) (w : World) (hr : Ran l0) (hn : l0.length ≤ 140737488355328) :
    Calls Tryd.prog 23 #[.string (strOfNums l0)] w fun e w' => ∃ A' n' c', e = .returned (.tuple #[.slice A' n' c', .int .i64 (uq l0).2]) ∧ n' = (uq l0).1.length ∧ Own w' w.heap.size 5 A' n' c' (By (uq l0).1) ∧ Below w.heap.size w w' := by
  obtain ⟨i0, hi, hz0, hz1, hz2⟩ := info_parts info5
  match l0, hr, hn with
  | [], hr, hn =>
    have hem : (strOfNums []).toList.isEmpty = true := by rw [str_list]; rfl
    generalize strOfNums [] = s at *
    go_enter Tryd.func23, Tryd.ntmps23
    go_wp2
    go_ret2
    exact ⟨none, 0, 0, rfl, rfl, Own.nil_, Below.refl _ _⟩
  | c0 :: r0, hr, hn =>
    obtain ⟨hc0, hc1⟩ := hr c0 (by simp)
    have hne0 := str_nonempty' (l := c0 :: r0) (by simp)
    have hi0 : ∀ W, (Instr.index 9 (.string (strOfNums (c0 :: r0))) (.int .i64 0)).run Tryd.prog W = .ok (.int .u8 c0) W := str_index 9 Tryd.underlying9 _ 0 c0 rfl hc0 hc1
    have hf0 : ∀ W, (Instr.slice 9 (.string (strOfNums (c0 :: r0))) (some (.int .i64 1)) none none).run Tryd.prog W = .ok (.string (strOfNums r0)) W := str_from 9 Tryd.underlying9 _ 1 (by simp)
    have hrr : Ran r0 := hr.sub (fun y hy => List.mem_cons_of_mem _ hy)
    generalize strOfNums (c0 :: r0) = s0 at *
    by_cases h34 : c0 = 34
    · subst h34
      have HUQ := Lib.hid (show uq (34 :: r0) = uqL (r0.length + 1) r0 [] by simp [uq])
      simp only [List.length_cons] at hn
      go_enter Tryd.func23, Tryd.ntmps23
      go_wp2
      go_loopw [4, 5] (fun o r wr => ∃ (f k c' : Nat) (A' : Option Addr) (l x : List Int), o = .slice A' k c' ∧ r = .string (strOfNums l) ∧ Hid (x.length = k) ∧ Hid (Ran l) ∧ l.length < f ∧ Hid (uqL f l x = uqL (r0.length + 1) r0 []) ∧ k + l.length ≤ r0.length ∧ Own wr w.heap.size 5 A' k c' (By x) ∧ Below w.heap.size w wr) (fun o _ _ => r0.length + 1 - lenV o)
      case atStart => exact ⟨r0.length + 1, 0, 0, none, r0, [], rfl, rfl, rfl, hrr, by omega, rfl, by omega, Own.nil_, Below.refl _ _⟩
      case round =>
        obtain ⟨f, k, c', A', l, x, rfl, rfl, HK, HR, hlf, HE, hkl, ho, hb⟩ := hrel
        have hsz := hb.size
        match f, l, hlf, HR, HE, hkl with
        | f + 1, [], hlf, HR, HE, hkl =>
          have hem : (strOfNums []).toList.isEmpty = true := by rw [str_list]; rfl
          have HRES := Lib.hid (HUQ.out.trans HE.out.symm)
          have HFIN := Lib.hid (HRES.out.trans (show uqL (f + 1) [] x = ([], 5) by simp [uqL]))
          generalize strOfNums [] = s at *
          clear HRES HE HUQ
          go_wp2
          go_ret2
          rw [HFIN.out]
          exact ⟨none, 0, 0, rfl, rfl, Own.nil_, hb⟩
        | f + 1, c :: r, hlf, HR, HE, hkl =>
          have HRES := Lib.hid (HUQ.out.trans HE.out.symm)
          obtain ⟨hcc0, hcc1⟩ := HR.out c (by simp)
          simp only [List.length_cons] at hkl hlf
          have hne1 := str_nonempty' (l := c :: r) (by simp)
          have hj0 : ∀ W, (Instr.index 9 (.string (strOfNums (c :: r))) (.int .i64 0)).run Tryd.prog W = .ok (.int .u8 c) W := str_index 9 Tryd.underlying9 _ 0 c rfl hcc0 hcc1
          have hsl : (strOfNums (c :: r)).size = r.length + 1 := by rw [strOfNums_size]; rfl
          by_cases h34 : c = 34
          · subst h34
            by_cases hrn : r = []
            · subst hrn
              have HV : uqL (f + 1) [34] x = (x, 0) := by simp [uqL]
              have HFIN := Lib.hid (HRES.out.trans HV)
              have hsl1 : (strOfNums [34]).size = 1 := hsl
              clear hsl
              generalize strOfNums [34] = s at *
              clear HV HRES HE HUQ
              go_wp2
              go_ret2
              have hk := HK.out
              rw [HFIN.out]
              exact ⟨A', k, c', rfl, hk.symm, ho, hb⟩
            · have HV : uqL (f + 1) (34 :: r) x = ([], 3) := by simp [uqL, hrn]
              have HFIN := Lib.hid (HRES.out.trans HV)
              have hrl : 1 < r.length + 1 := by
                cases r with
                | nil => exact absurd rfl hrn
                | cons a b => simp
              generalize strOfNums (34 :: r) = s at *
              clear HV HRES HE HUQ hrn
              go_wp2
              go_ret2
              rw [HFIN.out]
              exact ⟨none, 0, 0, rfl, rfl, Own.nil_, hb⟩
          · have n34 : (c == 34) = false := by simpa using h34
            have hcall := fun w => unqb_gen c r w HR.out
            by_cases he : (uqb (c :: r)).2.2 = 0
            · have HV : uqL (f + 1) (c :: r) x = uqL f ((c :: r).drop (uqb (c :: r)).2.1.toNat) (x ++ [(uqb (c :: r)).1]) := by simp [uqL, h34, he]
              obtain ⟨q1, q2, q3, q4, q5, q6⟩ := uqb_ok (l := c :: r) (x := (uqb (c :: r)).1) (sz := (uqb (c :: r)).2.1) HR.out (by simpa using h34) (by rw [← he])
              have hdl : ((c :: r).drop (uqb (c :: r)).2.1.toNat).length + (uqb (c :: r)).2.1.toNat = r.length + 1 := by
                have := congrArg List.length q1
                rw [List.length_append, q4, List.length_cons] at this
                omega
              have hfk : ∀ W, (Instr.slice 9 (.string (strOfNums (c :: r))) (some (.int .i64 (uqb (c :: r)).2.1)) none none).run Tryd.prog W = .ok (.string (strOfNums ((c :: r).drop (uqb (c :: r)).2.1.toNat))) W := fun W => by
                have := str_from (P := Tryd.prog) 9 Tryd.underlying9 (c :: r) (uqb (c :: r)).2.1.toNat (by rw [List.length_cons]; omega) W
                rw [show (((uqb (c :: r)).2.1.toNat : Nat) : Int) = (uqb (c :: r)).2.1 by omega] at this
                exact this
              have HR2 : Hid (Ran ((c :: r).drop (uqb (c :: r)).2.1.toNat)) := HR.out.sub (fun y hy => List.mem_of_mem_drop hy)
              have HE2 := Lib.hid (HV.symm.trans HE.out)
              rw [he] at hcall
              clear q1 q4 HV HE HRES HUQ
              generalize hdd : (c :: r).drop (uqb (c :: r)).2.1.toNat = l2 at *
              generalize (uqb (c :: r)).1 = y at *
              generalize (uqb (c :: r)).2.1 = sz at *
              generalize strOfNums (c :: r) = s at *
              clear hdd he
              generalize hs2 : strOfNums l2 = s2 at *
              have HS2 := Lib.hid hs2; clear hs2
              have ho2 := ho.alloc (.cells (By [y]).toArray 5)
              have hr2 := rd_new wr [y]
              have hbb := hb.alloc hsz (.cells (By [y]).toArray 5)
              go_wp2_with fail
              refine (hcall _).mono ?_
              rintro e w1 ⟨rfl, rfl⟩
              go_wp2_with (at_builtin; refine wpList_append_rd rfl _ _ 36 rfl i0 (.int .u8 0) 1 Tryd.underlying36 hi hz0 hz1 hz2 rfl rfl ho2 (some ⟨wr.heap.size, 0, none⟩) 1 1 (By [y]) rfl hr2 (By_one _) ?c1 ?c2 ?c3 ?_)
              case c1 => unfold maxLen; omega
              case c2 => omega
              case c3 => simp; omega
              intro A2 c2 w2 ho3 hg
              have hb2 := hbb.trans (hg.below (by simp; omega) (fun k hk => (ho.lies k hk).1))
              rw [← By_append] at ho3
              clear ho2 hr2 hbb hb ho hg
              go_wp2
              go_roundw
              case rel => exact ⟨f, k + 1, c2, A2, l2, x ++ [y], rfl, by rw [HS2.out], (by have := HK.out; show (x ++ [y]).length = k + 1; simp; omega), HR2, by omega, HE2, by omega, ho3, hb2⟩
              case measure => simp [lenV]; omega
            · have HV : uqL (f + 1) (c :: r) x = ([], (uqb (c :: r)).2.2) := by simp [uqL, h34, he]
              have HFIN := Lib.hid (HRES.out.trans HV)
              clear HV HE HRES HUQ
              generalize (uqb (c :: r)).1 = y at *
              generalize (uqb (c :: r)).2.1 = sz at *
              generalize (uqb (c :: r)).2.2 = er at *
              generalize strOfNums (c :: r) = s at *
              have ne : (er != 0) = true := by simpa using he
              have ne2 : (er == 0) = false := by simpa using he
              go_wp2_with fail
              refine (hcall _).mono ?_
              rintro e w1 ⟨rfl, rfl⟩
              go_wp2
              go_ret2
              rw [HFIN.out]
              exact ⟨none, 0, 0, rfl, rfl, Own.nil_, hb⟩
    · have HUQ : uq (c0 :: r0) = ([], 3) := by simp [uq, h34]
      rw [HUQ]
      have n34 : (c0 == 34) = false := by simpa using h34
      have n34' : (c0 != 34) = true := by simpa using h34
      go_enter Tryd.func23, Tryd.ntmps23
      go_wp2
      go_ret2
      exact ⟨none, 0, 0, rfl, rfl, Own.nil_, Below.refl _ _⟩
end Go.Proofs.YtdlbghjclcdfmaaDoor
