/- strconv.FormatUint at sixteen. -/
import Derived.Test.YtlphlogliphhdaaDoorHex
import Derived.Test.YtlphlogliphhdaaDoorSlc
namespace Go.Proofs.YtlphlogliphhdaaDoor
set_option linter.unusedVariables false
set_option linter.unusedSimpArgs false
open Go.RowKit

/-- The one entry of the table that is read. -/
def Tz (w : World) : Prop := w.cell? ⟨5, 15, none⟩ = some (.int .u8 4) ∧ 5 < w.heap.size
theorem Tz.below {w w' : World} (h : Tz w) (k : Below w.heap.size w w') : Tz w' :=
  ⟨(k.cell (p := ⟨5, 15, none⟩) h.2).trans h.1, Nat.lt_of_lt_of_le h.2 k.size⟩

theorem tz64_any (w : World) (ht : Tz w) : Calls Tryd.prog 97 #[.int .u64 16] w fun e w' => e = .returned (.int .i64 4) ∧ w = w' := by
  have hc := ht.1
  have hI : IntKind.u64.wrap (bits BinOp.and IntKind.u64 16 (IntKind.u64.wrap (-16)) * 285870213051353865) / 288230376151711744 = 15 := by decide +kernel
  go_enter Tryd.func97, Tryd.ntmps97
  go_wp2
  go_ret
  exact ⟨rfl, rfl⟩
theorem tz_any (w : World) (ht : Tz w) : Calls Tryd.prog 91 #[.int .u64 16] w fun e w' => e = .returned (.int .i64 4) ∧ w = w' := by
  go_enter Tryd.func91, Tryd.ntmps91
  go_wp2_with fail
  refine (tz64_any w ht).mono ?_
  rintro e w' ⟨rfl, rfl⟩
  go_wp2
  go_ret
  exact ⟨rfl, rfl⟩
theorem pow2_any (w : World) : Calls Tryd.prog 90 #[.int .i64 16] w fun e w' => e = .returned (.bool true) ∧ w = w' := by
  go_enter Tryd.func90, Tryd.ntmps90
  go_wp2
  go_ret
  exact ⟨rfl, rfl⟩
def digs : ByteArray := ⟨#[48, 49, 50, 51, 52, 53, 54, 55, 56, 57, 97, 98, 99, 100, 101, 102, 103, 104, 105, 106, 107, 108, 109, 110, 111, 112, 113, 114, 115, 116, 117, 118, 119, 120, 121, 122]⟩
theorem digs_at : ∀ v : Fin 16, (digs.data[v.val]?).map (fun b => ((b.toNat : Nat) : Int)) = some (hd v.val) := by decide +kernel
theorem digs_size : digs.size = 36 := by decide +kernel
theorem dig_get {u : Nat} (hu : u < 16) (h : u < digs.size) : (((digs[u]'h).toNat : Nat) : Int) = hd u := by
  have h1 := digs_at ⟨u, hu⟩
  simp only at h1
  rw [Array.getElem?_eq_getElem (show u < digs.data.size from h)] at h1
  simp only [Option.map_some, Option.some.injEq] at h1
  exact h1
theorem arr137 : Tryd.prog.underlying 137 = some (.array 65 5) := by kernel_rfl
theorem slice137 (g k : Nat) (hk : k ≤ 64) (W : World) : (Instr.sliceAt 137 (.pointer (some ⟨g, 0, none⟩)) (some (.int .i64 (k : Int))) none none).run Tryd.prog W = .ok (.slice (some ⟨g, k, none⟩) (65 - k) (65 - k)) W := by
  have ha : Tryd.prog.arrayLen 137 = 65 := by kernel_rfl
  have he : Tryd.prog.elem 137 = 5 := by kernel_rfl
  rw [run_sliceAt_array_l (P := Tryd.prog) W 137 ⟨g, 0, none⟩ (by rw [ha, he]; exact arr137) .i64 (k : Int) (by omega) (by rw [ha]; omega)]
  have hn : ((k : Int)).toNat = k := rfl
  rw [ha, he, Tryd.sizeOf5, hn]
  simp only [Result.andThen_ok, slicedAt, Nat.mul_one]
  rw [if_neg (by omega)]
  simp [Addr.add]
  omega
theorem and15 (u : Nat) (hu : u < 18446744073709551616) : bits .and .u64 (u : Int) 15 = ((u % 16 : Nat) : Int) := by
  have h := bits_and_u64_nat u 15 hu (by omega)
  have e : u &&& 15 = u % 16 := Nat.and_two_pow_sub_one_eq_mod u 4
  rw [e] at h
  exact h

theorem zc_len : Tryd.zeroCells137 = (By (List.replicate 65 0)).toArray := by kernel_rfl
theorem Rw.start (w : World) : Rw (w.alloc (.cells Tryd.zeroCells137 137)) w.heap.size 65 (List.replicate 65 0) := by
  have hh := heap_alloc_new w (.cells Tryd.zeroCells137 137)
  refine ⟨rfl, fun j x hx => ?_, fun j hj => ?_⟩
  · rw [cell_of_row _ _ j _ _ _ hh, zc_len]
    have hj := (List.getElem?_eq_some_iff.1 hx).1
    simp only [By, List.getElem?_toArray, List.getElem?_map, hx, Option.map_some]
  · unfold World.frozen?
    rw [hh]
    simp
theorem shr4 (x : Nat) (j n : Nat) (h : x = n / 16 ^ j) : x / 16 = n / 16 ^ (j + 1) := by rw [h, Nat.div_div_eq_div_mul, Nat.pow_succ]

set_option maxHeartbeats 2000000 in
set_option maxRecDepth 100000 in
theorem fmtBits_any (n : Nat) (w : World) (hn : n < 18446744073709551616) (ht : Tz w) :
    Calls Tryd.prog 71 #[.slice none 0 0, .int .u64 (n : Int), .int .i64 16, .bool false, .bool false] w fun e w' => ∃ j, e = .returned (.tuple #[.slice none 0 0, .string (strOfNums (hx j n))]) ∧ 1 ≤ j ∧ j ≤ 16 ∧ n < 16 ^ j ∧ Below w.heap.size w w' := by
  have hb0 := below_alloc w (.cells Tryd.zeroCells137 137)
  have ht0 := ht.below hb0
  have hr0 := Rw.start w
  go_enter Tryd.func71, Tryd.ntmps71
  go_wp2_with fail
  refine (pow2_any _).mono ?_
  rintro e w' ⟨rfl, rfl⟩
  go_wp2_with fail
  refine (tz_any _ ht0).mono ?_
  rintro e w' ⟨rfl, rfl⟩
  generalize w.alloc (.cells Tryd.zeroCells137 137) = w1 at *
  go_wp2_with fail
  go_loopw [1, 13] (fun uv iv wr => ∃ (j u i : Nat) (ys : List Int), uv = .int .u64 (u : Int) ∧ iv = .int .i64 (i : Int) ∧ i ≤ 65 ∧ 50 ≤ i ∧ u < 18446744073709551616 ∧ Hid (j + i = 65) ∧ Hid (u = n / 16 ^ j) ∧ Rw wr w.heap.size 65 ys ∧ Hid (ys.drop i = hx j n) ∧ Below w.heap.size w wr) (fun uv _ _ => (intOf uv).toNat)
  case atStart => exact ⟨0, n, 65, _, rfl, rfl, by omega, by omega, hn, rfl, by show _ = _; simp, hr0, rfl, hb0⟩
  case round =>
    obtain ⟨j, u, i, ys, rfl, rfl, hi, hi2, hu, HJ, HU, hrw, HY, hbr⟩ := hrel
    clear hr0 hb0 ht0
    have HYL := Lib.hid hrw.1
    by_cases hlt : 16 ≤ u
    · have HJ14 : Hid (j ≤ 14) := by
        show _ ≤ _
        rcases Nat.lt_or_ge 14 j with h | h
        · have h1 : 16 ^ 15 ≤ 16 ^ j := Nat.pow_le_pow_right (by omega) h
          have h2 := HU.out
          have h3 : n / 16 ^ j ≤ n / 16 ^ 15 := Nat.div_le_div_left h1 (by decide)
          have h4 : n / 16 ^ 15 < 16 := by rw [Nat.div_lt_iff_lt_mul (by decide)]; omega
          omega
        · exact h
      obtain ⟨k, hk⟩ : ∃ k, i = k + 1 := ⟨i - 1, by omega⟩
      subst hk
      have hk50 : 50 ≤ k := by have := HJ.out; have := HJ14.out; omega
      have hAnd := and15 u hu
      have hm : u % 16 < 16 := Nat.mod_lt _ (by omega)
      have hfz := hrw.2.2 k (by omega)
      obtain ⟨x0, HX0, hc0⟩ := hrw.cell (j := k) (by omega)
      have HSET : Hid (∀ v : Int, v = hd (u % 16) → Rw (wr.setCell ⟨w.heap.size, k, none⟩ (.int .u8 v)) w.heap.size 65 (ys.set k (hd (u % 16)))) := fun v hv => by
        subst hv; exact hrw.set (k := k) (by omega) (hd (u % 16))
      have HBE : Hid (∀ v : Value, Below w.heap.size w (wr.setCell ⟨w.heap.size, k, none⟩ v)) := fun v => hbr.setCell (by simp) v
      have HDG : Hid (∀ h : u % 16 < digs.size, (((digs[u % 16]'h).toNat : Nat) : Int) = hd (u % 16)) := fun h => dig_get hm h
      have HDR : Hid ((ys.set k (hd (u % 16))).drop k = hx (j + 1) n) := by
        show _ = _
        rw [drop_set_lo (by rw [HYL.out]; omega), HY.out, show j + 1 = 1 + j by omega, hx_app 1 j n, ← HU.out]
        rfl
      clear hrw
      go_wp2
      go_roundw
      case rel => exact ⟨j + 1, u / 16, k, _, by go_num, by go_num, by omega, hk50, by omega, by show _ = _; have := HJ.out; omega, shr4 u j n HU.out, HSET.out _ (HDG.out _), HDR.out, HBE.out _⟩
      case measure => simp [intOf]; omega
    · have hu16 : u < 16 := by omega
      obtain ⟨k, hk⟩ : ∃ k, i = k + 1 := ⟨i - 1, by omega⟩
      subst hk
      have HJK := Lib.hid (show j + 1 = 65 - k by have := HJ.out; omega)
      have hk64 : k ≤ 64 := by omega
      have hfz := hrw.2.2 k (by omega)
      obtain ⟨x0, HX0, hc0⟩ := hrw.cell (j := k) (by omega)
      have hR2 := hrw.set (k := k) (by omega) (hd u)
      have hcv := hR2.conv (o := k) (m := 65 - k) (c := 65 - k) (by omega)
      have HDG : Hid (∀ h : u < digs.size, (((digs[u]'h).toNat : Nat) : Int) = hd u) := fun h => dig_get hu16 h
      have hsz : u < digs.size := by rw [digs_size]; omega
      have HDR : Hid ((ys.set k (hd u)).drop k = hx (j + 1) n) := by
        show _ = _
        rw [drop_set_lo (by rw [HYL.out]; omega), HY.out, show j + 1 = 1 + j by omega, hx_app 1 j n, ← HU.out]
        show _ = ([] ++ [hd (u % 16)]) ++ _
        rw [Nat.mod_eq_of_lt hu16]; rfl
      rw [HDR.out] at hcv
      have HBE : Hid (∀ v : Value, Below w.heap.size w (wr.setCell ⟨w.heap.size, k, none⟩ v)) := fun v => hbr.setCell (by simp) v
      have HLT : Hid (n < 16 ^ (j + 1)) := by
        show _ < _
        have h1 := HU.out
        rw [Nat.pow_succ, Nat.mul_comm]
        refine (Nat.div_lt_iff_lt_mul (Nat.pow_pos (by omega))).1 ?_
        rw [← h1]; omega
      have HJ16 : Hid (j + 1 ≤ 16) := by
        show _ ≤ _
        have := HJ.out; omega
      clear hrw hR2
      have key : ∀ v : Int, v = hd u → (convert 28 9 (.slice (some ⟨w.heap.size, k, none⟩) (65 - k) (65 - k))).run Tryd.prog (wr.setCell ⟨w.heap.size, k, none⟩ (.int .u8 v)) = .ok (.string (strOfNums (hx (j + 1) n))) (wr.setCell ⟨w.heap.size, k, none⟩ (.int .u8 v)) := fun v hv => by subst hv; exact hcv
      have HKEY := Lib.hid key
      clear hcv key
      have hsl := slice137 w.heap.size k (by omega)
      go_wp2
      rw [HKEY.out _ ?hv]
      case hv => exact HDG.out _
      go_wp2
      go_ret2
      exact ⟨j + 1, rfl, by omega, HJ16.out, HLT.out, HBE.out _⟩

theorem fmt16_any (n : Nat) (w : World) (hn : n < 18446744073709551616) (ht : Tz w) :
    Calls Tryd.prog 50 #[.int .u64 (n : Int), .int .i64 16] w fun e w' => ∃ j, e = .returned (.string (strOfNums (hx j n))) ∧ 1 ≤ j ∧ j ≤ 16 ∧ n < 16 ^ j ∧ Below w.heap.size w w' := by
  go_enter Tryd.func50, Tryd.ntmps50
  go_wp2_with fail
  refine (fmtBits_any n w hn ht).mono ?_
  rintro e w' ⟨j, rfl, h1, h2, h3, hb⟩
  go_wp2
  go_ret
  exact ⟨j, rfl, h1, h2, h3, hb⟩
theorem formatUint_any (n : Nat) (w : World) (hn : n < 18446744073709551616) (ht : Tz w) :
    Calls Tryd.prog 39 #[.int .u64 (n : Int), .int .i64 16] w fun e w' => ∃ j, e = .returned (.string (strOfNums (hx j n))) ∧ 1 ≤ j ∧ j ≤ 16 ∧ n < 16 ^ j ∧ Below w.heap.size w w' := by
  go_enter Tryd.func39, Tryd.ntmps39
  go_wp2_with fail
  refine (fmt16_any n w hn ht).mono ?_
  rintro e w' ⟨j, rfl, h1, h2, h3, hb⟩
  go_wp2
  go_ret
  exact ⟨j, rfl, h1, h2, h3, hb⟩
end Go.Proofs.YtlphlogliphhdaaDoor
