/- vault.Number, and the reference's. -/
import Derived.Test.YtlphlogliphhdaaDoorFmtW
import Derived.Test.YtlphlogliphhdaaDoorShelf
namespace Go.Proofs.YtlphlogliphhdaaDoor
set_option linter.unusedVariables false
set_option linter.unusedSimpArgs false
open Go.RowKit

theorem sn_append (xs ys : List Int) : strOfNums xs ++ strOfNums ys = strOfNums (xs ++ ys) := by
  apply ByteArray.ext
  simp [strOfNums]
theorem repeat_zero (c : Nat) : (⟨(Lib.repeatL (⟨#[48]⟩ : ByteArray).data.toList c).toArray⟩ : ByteArray) = strOfNums (List.replicate c 48) := by
  apply ByteArray.ext
  apply Array.toList_inj.1
  induction c with
  | zero => rfl
  | succ c ih => 
    simp [strOfNums, Lib.repeatL, List.replicate_succ] at ih ⊢
    exact ih

theorem number_any (n : Nat) (w : World) (hn : n < 18446744073709551616) (ht : Tz w) :
    Calls Tryd.prog 27 #[.int .u64 (n : Int)] w fun e w' => e = .returned (.string (strOfNums (hx 16 n))) ∧ Below w.heap.size w w' := by
  go_enter Tryd.func27, Tryd.ntmps27
  go_wp2_with fail
  refine (formatUint_any n w hn ht).mono ?_
  rintro e w1 ⟨j, rfl, h1, h2, h3, hb⟩
  have hsz : (strOfNums (hx j n)).size = j := by rw [strOfNums_size, hx_len]
  have HP := Lib.hid (hx_pad h2 h3)
  clear h3
  obtain ⟨m, hm⟩ : ∃ m, 16 - j = m := ⟨_, rfl⟩
  have hmi : (16 : Int) - (j : Int) = (m : Int) := by omega
  rw [hm] at HP
  generalize hS : strOfNums (hx j n) = S at *
  have HS := Lib.hid hS; clear hS
  go_wp2_with fail
  refine (Tryd.strings_Repeat ⟨#[48]⟩ m _ (by omega) (by have : (⟨#[48]⟩ : ByteArray).size = 1 := rfl; rw [this]; omega)).mono ?_
  rintro e w2 ⟨rfl, hb2⟩
  rw [repeat_zero]
  have hb3 := hb.trans (hb2.mono hb.size)
  have HE : Hid (strOfNums (List.replicate m 48) ++ S = strOfNums (hx 16 n)) := by
    show _ = _
    rw [← HS.out, sn_append, HP.out]
  have hrz : (strOfNums (List.replicate m 48)).size = m := by rw [strOfNums_size, List.length_replicate]
  generalize strOfNums (List.replicate m 48) = R at *
  have hns : ¬ (9223372036854775807 < R.size + j) := by omega
  go_wp2
  go_ret
  exact ⟨congrArg (fun s => Ending.returned (.string s)) HE.out, hb3⟩

theorem u8add (a b : Nat) (h : a + b < 256) : IntKind.u8.wrap ((a : Int) + (b : Int)) = ((a + b : Nat) : Int) := by simp [IntKind.wrap, IntKind.bits, IntKind.signed]; omega
theorem set_drop_next {ys : List Int} {k : Nat} {v : Int} {t : List Int} (hk : k < ys.length) (h : ys.drop (k + 1) = t) : (ys.set k v).drop k = v :: t := by rw [drop_set_lo hk, h]

set_option maxHeartbeats 2000000 in
set_option maxRecDepth 100000 in
/-- The reference's: digit by digit. -/
theorem rnumber_any (n : Nat) (w : World) (hn : n < 18446744073709551616) :
    Calls Tryd.prog 29 #[.int .u64 (n : Int)] w fun e w' => e = .returned (.string (strOfNums (hx 16 n))) ∧ Below w.heap.size w w' := by
  obtain ⟨i0, hi, hz0, hz1, hz2⟩ := info_parts info5
  have hmk := fun W => run_make_bytes (P := Tryd.prog) 28 5 i0 Tryd.underlying28 hi hz0 hz1 hz2 16 16 rfl (by omega) W
  have hb0 := below_alloc w (.cells (zerA 16) 5)
  have hh := heap_alloc_new w (.cells (zerA 16) 5)
  have hr0 : Rw (w.alloc (.cells (zerA 16) 5)) w.heap.size 16 (List.replicate 16 0) := by
    refine ⟨rfl, fun j x hx => ?_, fun j hj => ?_⟩
    · rw [cell_of_row _ _ j _ _ _ hh]
      have hj := (List.getElem?_eq_some_iff.1 hx).1
      rw [List.getElem?_replicate, if_pos (by simpa using hj)] at hx
      injection hx with hx
      subst hx
      simp only [zerA, zer, List.getElem?_toArray, List.getElem?_replicate]
      rw [if_pos (by simpa using hj)]
    · unfold World.frozen?
      rw [hh]
      simp
  clear hh
  go_enter Tryd.func29, Tryd.ntmps29
  go_wp2
  generalize w.alloc (.cells (zerA 16) 5) = w1 at *
  go_loopw [0, 4] (fun uv iv wr => ∃ (j u : Nat) (i : Int) (ys : List Int), uv = .int .u64 (u : Int) ∧ iv = .int .i64 i ∧ Hid (i = 15 - j) ∧ -1 ≤ i ∧ i ≤ 15 ∧ u < 18446744073709551616 ∧ Hid (u = n / 16 ^ j) ∧ Rw wr w.heap.size 16 ys ∧ Hid (ys.drop (i + 1).toNat = hx j n) ∧ Below w.heap.size w wr) (fun _ iv _ => (intOf iv + 1).toNat)
  case atStart => exact ⟨0, n, 15, _, rfl, rfl, rfl, by omega, by omega, hn, by show _ = _; simp, hr0, rfl, hb0⟩
  case round =>
    obtain ⟨j, u, i, ys, rfl, rfl, HI, hi1, hi2, hu, HU, hrw, HY, hbr⟩ := hrel
    clear hr0 hb0
    have HYL := Lib.hid hrw.1
    by_cases hge : 0 ≤ i
    · obtain ⟨k, hk⟩ : ∃ k : Nat, i = (k : Int) := ⟨i.toNat, by omega⟩
      subst hk
      have hk16 : k ≤ 15 := by omega
      have hm : u % 16 < 16 := Nat.mod_lt _ (by omega)
      have hfz := hrw.2.2 k (by omega)
      obtain ⟨x0, HX0, hc0⟩ := hrw.cell (j := k) (by omega)
      obtain ⟨d, hdd⟩ : ∃ d, u % 16 = d := ⟨_, rfl⟩
      have HD := Lib.hid hdd
      have hdi : (u : Int) % 16 = (d : Int) := by omega
      have hd16 : d < 16 := by omega
      have HDR : Hid (∀ v : Int, v = hd d → (ys.set k v).drop k = hx (j + 1) n) := by
        intro v hv
        subst hv
        have hy := HY.out
        rw [show ((k : Int) + 1).toNat = k + 1 by omega] at hy
        rw [set_drop_next (by rw [HYL.out]; omega) hy, show j + 1 = 1 + j by omega, hx_app 1 j n, ← HU.out]
        show _ = ([] ++ [hd (u % 16)]) ++ _
        rw [HD.out]; rfl
      clear hdd hm
      by_cases h9 : d ≤ 9
      · have hw1 : IntKind.u8.wrap (48 + (d : Int)) = 48 + (d : Int) := by simp [IntKind.wrap, IntKind.bits, IntKind.signed]; omega
        have HS := Lib.hid (hrw.set (k := k) (by omega) (48 + (d : Int)))
        have HB := Lib.hid (show Below w.heap.size w (wr.setCell ⟨w.heap.size, k, none⟩ (.int .u8 (48 + (d : Int)))) from hbr.setCell (by simp) _)
        have HV := Lib.hid (HDR.out (48 + (d : Int)) (by unfold hd; rw [if_pos (by omega)]))
        clear hrw hbr HDR
        go_wp2
        go_roundw
        case rel => exact ⟨j + 1, u / 16, (k : Int) - 1, _, by go_num, rfl, by show _ = _; have := HI.out; omega, by omega, by omega, by omega, shr4 u j n HU.out, HS.out, by rw [show ((k : Int) - 1 + 1).toNat = k by omega]; exact HV, HB.out⟩
        case measure => simp [intOf]
      · have hw1 : IntKind.u8.wrap (48 + (d : Int)) = 48 + (d : Int) := by simp [IntKind.wrap, IntKind.bits, IntKind.signed]; omega
        have hw2 : IntKind.u8.wrap (97 + (d : Int)) = 97 + (d : Int) := by simp [IntKind.wrap, IntKind.bits, IntKind.signed]; omega
        have hw3 : IntKind.u8.wrap (97 + (d : Int) - 10) = 97 + (d : Int) - 10 := by simp [IntKind.wrap, IntKind.bits, IntKind.signed]; omega
        have hr1 := hrw.set (k := k) (by omega) (48 + (d : Int))
        have hr2 := hr1.set (k := k) (by omega) (97 + (d : Int) - 10)
        rw [List.set_set] at hr2
        have HS := Lib.hid hr2
        have hfz2 := hr1.2.2 k (by omega)
        obtain ⟨x1, HX1, hc1⟩ := hr1.cell (j := k) (by omega)
        have hb1 : Below w.heap.size w (wr.setCell ⟨w.heap.size, k, none⟩ (.int .u8 (48 + (d : Int)))) := hbr.setCell (by simp) _
        have HB := Lib.hid (show Below w.heap.size w ((wr.setCell ⟨w.heap.size, k, none⟩ (.int .u8 (48 + (d : Int)))).setCell ⟨w.heap.size, k, none⟩ (.int .u8 (97 + (d : Int) - 10))) from hb1.setCell (by simp) _)
        have HV := Lib.hid (HDR.out (97 + (d : Int) - 10) (by unfold hd; rw [if_neg (by omega)]; omega))
        clear hrw hbr HDR hr1 hr2 hb1
        go_wp2
        go_roundw
        case rel => exact ⟨j + 1, u / 16, (k : Int) - 1, _, by go_num, rfl, by show _ = _; have := HI.out; omega, by omega, by omega, by omega, shr4 u j n HU.out, HS.out, by rw [show ((k : Int) - 1 + 1).toNat = k by omega]; exact HV, HB.out⟩
        case measure => simp [intOf]
    · obtain rfl : i = -1 := by omega
      obtain rfl : j = 16 := by have := HI.out; omega
      have hcv := hrw.conv (o := 0) (m := 16) (c := 16) rfl
      have hy : ys.drop 0 = hx 16 n := HY.out
      rw [hy] at hcv
      clear hrw hge
      go_wp2
      go_ret
      exact ⟨rfl, hbr⟩
end Go.Proofs.YtlphlogliphhdaaDoor
