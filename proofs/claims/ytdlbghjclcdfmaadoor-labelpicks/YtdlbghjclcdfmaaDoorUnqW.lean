/- label.Unquote of what Quote gives. -/
import Derived.Test.YtdlbghjclcdfmaaDoorQuoteW
import Derived.Lib.Bytealg
import Derived.LoopN
namespace Go.Proofs.YtdlbghjclcdfmaaDoor
set_option linter.unusedVariables false
set_option linter.unusedSimpArgs false
open Go.RowKit

theorem slite_any (s : ByteArray) (c : Int) (w : World) : Calls Tryd.prog 86 #[.string s, .int .u8 c] w fun e w' => e = .returned (.int .i64 (Lib.indexByte s.data.toList c.toNat.toUInt8)) ∧ w = w' := by
  go_enter Tryd.func86, Tryd.ntmps86
  go_wp2
  rw [run_callFunc_extern Tryd.func92 (by kernel_rfl) (by kernel_rfl) (by kernel_rfl) (e := Extern.BytealgIndexByte.indexByte) (by kernel_rfl), Lib.run_indexByteString]
  simp only [Result.andThen]
  rw [Oper.upon_value]
  go_wp2
  go_ret
  exact ⟨rfl, rfl⟩
theorem hex_find : ∀ i : Fin 16, Lib.indexByte [48, 49, 50, 51, 52, 53, 54, 55, 56, 57, 97, 98, 99, 100, 101, 102] (hxd i.val).toNat.toUInt8 = (i.val : Int) := by decide
theorem index_hex (d : Int) (h0 : 0 ≤ d) (h1 : d ≤ 15) (w : World) :
    Calls Tryd.prog 77 #[.string ⟨#[48, 49, 50, 51, 52, 53, 54, 55, 56, 57, 97, 98, 99, 100, 101, 102]⟩, .int .u8 (hxd d)] w fun e w' => e = .returned (.int .i64 d) ∧ w = w' := by
  have h := hex_find ⟨d.toNat, by omega⟩
  have e : ((d.toNat : Nat) : Int) = d := by omega
  simp only [e] at h
  have HF := Lib.hid h; clear h
  go_enter Tryd.func77, Tryd.ntmps77
  go_wp2_with fail
  refine (slite_any _ _ _).mono ?_
  rintro e w' ⟨rfl, rfl⟩
  go_wp2
  go_ret
  exact ⟨ret_int HF.out, rfl⟩

theorem or_low (h l : Int) (h0 : 0 ≤ h) (h1 : h ≤ 15) (l0 : 0 ≤ l) (l1 : l ≤ 15) : bits .or .u8 (h * 16) l = h * 16 + l := by
  rw [u8_or (h * 16) l (by omega) (by omega) l0 (by omega)]
  have : (h * 16).toNat ||| l.toNat = h.toNat * 2 ^ 4 + l.toNat := by
    have e : (h * 16).toNat = 2 ^ 4 * h.toNat := by omega
    rw [e, ← Nat.two_pow_add_eq_or_of_lt (by omega)]
    omega
  rw [this]; omega

set_option maxRecDepth 100000 in
set_option maxHeartbeats 1000000 in
theorem unhex_any (h l : Int) (t : List Int) (w : World) (h0 : 0 ≤ h) (h1 : h ≤ 15) (l0 : 0 ≤ l) (l1 : l ≤ 15) (hb : h * 16 + l < 32 ∨ 126 < h * 16 + l) :
    Calls Tryd.prog 57 #[.string (strOfNums (hxd h :: hxd l :: t))] w fun e w' => e = .returned (.tuple #[.int .u8 (h * 16 + l), .int .i64 0]) ∧ w = w' := by
  have hsz : (strOfNums (hxd h :: hxd l :: t)).size = t.length + 2 := by rw [strOfNums_size]; rfl
  have r0 := hxd_ran h0 h1
  have r1 := hxd_ran l0 l1
  have i0 : ∀ W, (Instr.index 9 (.string (strOfNums (hxd h :: hxd l :: t))) (.int .i64 0)).run Tryd.prog W = .ok (.int .u8 (hxd h)) W := str_index 9 Tryd.underlying9 (hxd h :: hxd l :: t) 0 (hxd h) rfl (by omega) (by omega)
  have i1 : ∀ W, (Instr.index 9 (.string (strOfNums (hxd h :: hxd l :: t))) (.int .i64 1)).run Tryd.prog W = .ok (.int .u8 (hxd l)) W := str_index 9 Tryd.underlying9 (hxd h :: hxd l :: t) 1 (hxd l) rfl (by omega) (by omega)
  have hp := pr_false hb
  generalize hs : strOfNums (hxd h :: hxd l :: t) = s at *
  have hor0 : bits .or .u8 0 h = h := by have := or_low 0 h (by omega) (by omega) h0 h1; simpa using this
  have hor1 := or_low h l h0 h1 l0 l1
  clear hb hs
  go_enter Tryd.func57, Tryd.ntmps57
  go_wp2
  refine wp_loop_rounds 3 ?_
  rw [rounds_succ]
  go_wp2_with fail
  refine (index_hex h h0 h1 _).mono ?_
  rintro e w1 ⟨rfl, rfl⟩
  go_wp2
  rw [rounds_succ]
  go_wp2_with fail
  refine (index_hex l l0 l1 _).mono ?_
  rintro e w1 ⟨rfl, rfl⟩
  go_wp2
  rw [rounds_succ]
  go_wp2_with fail
  refine (printable_any _ _).mono ?_
  rintro e w1 ⟨rfl, rfl⟩
  go_wp2
  go_ret2
  exact ⟨rfl, rfl⟩
theorem str_nonempty {l : List Int} (h : l ≠ []) : ((strOfNums l).toList == ByteArray.toList ⟨#[]⟩) = false := by
  rw [str_list]
  have : ByteArray.toList ⟨#[]⟩ = [] := by rw [ByteArray.toList_eq]
  rw [this]
  cases l with
  | nil => exact absurd rfl h
  | cons a r => rfl

set_option maxRecDepth 100000 in
set_option maxHeartbeats 1000000 in
theorem unqb_any (x : Int) (t : List Int) (w : World) (hx0 : 0 ≤ x) (hx1 : x ≤ 255) :
    Calls Tryd.prog 43 #[.string (strOfNums (qb x ++ t))] w fun e w' => e = .returned (.tuple #[.int .u8 x, .int .i64 (qb x).length, .int .i64 0]) ∧ w = w' := by
  by_cases h1 : x < 32 ∨ 126 < x
  · have hq := qb_bad h1
    have hq2 : qb x ++ t = 92 :: 120 :: hxd (x / 16) :: hxd (x % 16) :: t := by rw [hq]; rfl
    have hq3 : ((qb x).length : Int) = 4 := by rw [hq]; rfl
    have hu := fun w => unhex_any (x / 16) (x % 16) t w (by omega) (by omega) (by omega) (by omega) (by omega)
    have hxx : x / 16 * 16 + x % 16 = x := by omega
    rw [hxx] at hu
    rw [hq2, hq3]
    have hsz : (strOfNums (92 :: 120 :: hxd (x / 16) :: hxd (x % 16) :: t)).size = t.length + 4 := by rw [strOfNums_size]; rfl
    have i0 : ∀ W, (Instr.index 9 (.string (strOfNums (92 :: 120 :: hxd (x / 16) :: hxd (x % 16) :: t))) (.int .i64 0)).run Tryd.prog W = .ok (.int .u8 92) W := str_index 9 Tryd.underlying9 _ 0 92 rfl (by omega) (by omega)
    have i1 : ∀ W, (Instr.index 9 (.string (strOfNums (92 :: 120 :: hxd (x / 16) :: hxd (x % 16) :: t))) (.int .i64 1)).run Tryd.prog W = .ok (.int .u8 120) W := str_index 9 Tryd.underlying9 _ 1 120 rfl (by omega) (by omega)
    have f2 : ∀ W, (Instr.slice 9 (.string (strOfNums (92 :: 120 :: hxd (x / 16) :: hxd (x % 16) :: t))) (some (.int .i64 2)) none none).run Tryd.prog W = .ok (.string (strOfNums (hxd (x / 16) :: hxd (x % 16) :: t))) W := str_from 9 Tryd.underlying9 _ 2 (by simp)
    have hp := pr_true (c := 92) (by omega) (by omega)
    generalize strOfNums (92 :: 120 :: hxd (x / 16) :: hxd (x % 16) :: t) = s at *
    generalize strOfNums (hxd (x / 16) :: hxd (x % 16) :: t) = s2 at *
    clear hq hq2 hq3 h1 hxx
    go_enter Tryd.func43, Tryd.ntmps43
    go_wp2_with fail
    refine (printable_any _ _).mono ?_
    rintro e w1 ⟨rfl, rfl⟩
    go_wp2_with fail
    refine (hu _).mono ?_
    rintro e w1 ⟨rfl, rfl⟩
    go_wp2
    go_ret3
    exact ⟨rfl, rfl⟩
  · have hp := pr_true (c := x) (by omega) (by omega)
    by_cases h2 : x = 92 ∨ x = 34
    · have hq := qb_esc h2
      have hq2 : qb x ++ t = 92 :: x :: t := by rw [hq]; rfl
      have hq3 : ((qb x).length : Int) = 2 := by rw [hq]; rfl
      rw [hq2, hq3]
      have hsz : (strOfNums (92 :: x :: t)).size = t.length + 2 := by rw [strOfNums_size]; rfl
      have i0 : ∀ W, (Instr.index 9 (.string (strOfNums (92 :: x :: t))) (.int .i64 0)).run Tryd.prog W = .ok (.int .u8 92) W := str_index 9 Tryd.underlying9 _ 0 92 rfl (by omega) (by omega)
      have i1 : ∀ W, (Instr.index 9 (.string (strOfNums (92 :: x :: t))) (.int .i64 1)).run Tryd.prog W = .ok (.int .u8 x) W := str_index 9 Tryd.underlying9 _ 1 x rfl (by omega) (by omega)
      have hp := pr_true (c := 92) (by omega) (by omega)
      generalize strOfNums (92 :: x :: t) = s at *
      clear hq hq2 hq3 h1
      rcases h2 with rfl | rfl
      · go_enter Tryd.func43, Tryd.ntmps43
        go_wp2_with fail
        refine (printable_any _ _).mono ?_
        rintro e w1 ⟨rfl, rfl⟩
        go_wp2
        go_ret3
        exact ⟨rfl, rfl⟩
      · go_enter Tryd.func43, Tryd.ntmps43
        go_wp2_with fail
        refine (printable_any _ _).mono ?_
        rintro e w1 ⟨rfl, rfl⟩
        go_wp2
        go_ret3
        exact ⟨rfl, rfl⟩
    · have hq := qb_own (c := x) (by omega) (by omega) (by omega) (by omega)
      have hq2 : qb x ++ t = x :: t := by rw [hq]; rfl
      have hq3 : ((qb x).length : Int) = 1 := by rw [hq]; rfl
      rw [hq2, hq3]
      have hsz : (strOfNums (x :: t)).size = t.length + 1 := by rw [strOfNums_size]; rfl
      have i0 : ∀ W, (Instr.index 9 (.string (strOfNums (x :: t))) (.int .i64 0)).run Tryd.prog W = .ok (.int .u8 x) W := str_index 9 Tryd.underlying9 _ 0 x rfl (by omega) (by omega)
      generalize strOfNums (x :: t) = s at *
      have h5 : (x == 92) = false := by simp; omega
      have h6 : (x != 92) = true := by simp; omega
      clear hq hq2 hq3 h1 h2
      go_enter Tryd.func43, Tryd.ntmps43
      go_wp2_with fail
      refine (printable_any _ _).mono ?_
      rintro e w1 ⟨rfl, rfl⟩
      go_wp2
      go_ret3
      exact ⟨rfl, rfl⟩
end Go.Proofs.YtdlbghjclcdfmaaDoor
