/- The reference's Mul, and Pow. -/
import Derived.Test.YtmckgdjipkkklaaDoorFieldW
import Derived.Test.YtmckgdjipkkklaaDoorRMul
namespace Go.Proofs.YtmckgdjipkkklaaDoor
set_option linter.unusedVariables false
set_option linter.unusedSimpArgs false
open Go.RowKit

set_option maxHeartbeats 1000000 in
theorem rmul_any (a b : Nat) (w : World) (ha : a < 256) (hb : b < 256) : Calls Tryd.prog 14 #[.int .u8 (a : Int), .int .u8 (b : Int)] w fun e w' => e = .returned (.int .u8 (mul a b : Nat)) ∧ w = w' := by
  go_enter Tryd.func14, Tryd.ntmps14
  go_wp2
  go_loop [5, 6] (fun s t => ∃ k p : Nat, k ≤ 8 ∧ p < 32768 ∧ s = .int .i64 p ∧ t = .int .i64 k ∧ Hid (p = cl a b k)) (fun _ t => 8 - (intOf t).toNat)
  case atStart => exact ⟨0, 0, by omega, by omega, rfl, rfl, rfl⟩
  case round =>
    obtain ⟨k, p, hk, hp, rfl, rfl, HP⟩ := hrel
    have hn : k = 0 ∨ k = 1 ∨ k = 2 ∨ k = 3 ∨ k = 4 ∨ k = 5 ∨ k = 6 ∨ k = 7 ∨ k = 8 := by omega
    rcases hn with rfl | rfl | rfl | rfl | rfl | rfl | rfl | rfl | rfl
    · have hand : bits .and .u8 (b : Int) 1 = ((b % 2 : Nat) : Int) := by
        have := and_one_u8 (b) (by omega)
        simpa using this
      have hcl := cl_lt b ha 1 (by omega)
      rcases Nat.mod_two_eq_zero_or_one (b) with hm | hm
      · have HN := Lib.hid (show p = cl a b 1 from HP.out.trans (cl_step0 (k := 0) (by simpa using hm)).symm)
        rw [hm] at hand
        clear HP hm hcl
        go_wp2
        go_round
        case rel => exact ⟨1, p, by omega, hp, rfl, by go_num, HN⟩
        case measure => simp [intOf]
      · have HN := Lib.hid (show p ^^^ (a) = cl a b 1 by rw [cl_step1 (k := 0) (by simpa using hm), HP.out]; simp)
        have hxl : p ^^^ (a) < 32768 := by rw [HN.out]; exact hcl
        have hxor : bits .xor .i64 (p : Int) (a : Int) = ((p ^^^ (a) : Nat) : Int) := by
          have := xor_i64 p (a) (by omega) (by omega)
          simpa using this
        rw [hm] at hand
        clear HP hm hcl
        go_wp2
        go_round
        case rel => exact ⟨1, p ^^^ (a), by omega, hxl, rfl, by go_num, HN⟩
        case measure => simp [intOf]
    · have hand : bits .and .u8 ((b : Int) / 2) 1 = ((b / 2 % 2 : Nat) : Int) := by
        have := and_one_u8 (b / 2) (by omega)
        simpa using this
      have hcl := cl_lt b ha 2 (by omega)
      rcases Nat.mod_two_eq_zero_or_one (b / 2) with hm | hm
      · have HN := Lib.hid (show p = cl a b 2 from HP.out.trans (cl_step0 (k := 1) (by simpa using hm)).symm)
        rw [hm] at hand
        clear HP hm hcl
        go_wp2
        go_round
        case rel => exact ⟨2, p, by omega, hp, rfl, by go_num, HN⟩
        case measure => simp [intOf]
      · have HN := Lib.hid (show p ^^^ (a * 2) = cl a b 2 by rw [cl_step1 (k := 1) (by simpa using hm), HP.out])
        have hxl : p ^^^ (a * 2) < 32768 := by rw [HN.out]; exact hcl
        have hxor : bits .xor .i64 (p : Int) ((a : Int) * 2) = ((p ^^^ (a * 2) : Nat) : Int) := by
          have := xor_i64 p (a * 2) (by omega) (by omega)
          simpa using this
        rw [hm] at hand
        clear HP hm hcl
        go_wp2
        go_round
        case rel => exact ⟨2, p ^^^ (a * 2), by omega, hxl, rfl, by go_num, HN⟩
        case measure => simp [intOf]
    · have hand : bits .and .u8 ((b : Int) / 4) 1 = ((b / 4 % 2 : Nat) : Int) := by
        have := and_one_u8 (b / 4) (by omega)
        simpa using this
      have hcl := cl_lt b ha 3 (by omega)
      rcases Nat.mod_two_eq_zero_or_one (b / 4) with hm | hm
      · have HN := Lib.hid (show p = cl a b 3 from HP.out.trans (cl_step0 (k := 2) (by simpa using hm)).symm)
        rw [hm] at hand
        clear HP hm hcl
        go_wp2
        go_round
        case rel => exact ⟨3, p, by omega, hp, rfl, by go_num, HN⟩
        case measure => simp [intOf]
      · have HN := Lib.hid (show p ^^^ (a * 4) = cl a b 3 by rw [cl_step1 (k := 2) (by simpa using hm), HP.out])
        have hxl : p ^^^ (a * 4) < 32768 := by rw [HN.out]; exact hcl
        have hxor : bits .xor .i64 (p : Int) ((a : Int) * 4) = ((p ^^^ (a * 4) : Nat) : Int) := by
          have := xor_i64 p (a * 4) (by omega) (by omega)
          simpa using this
        rw [hm] at hand
        clear HP hm hcl
        go_wp2
        go_round
        case rel => exact ⟨3, p ^^^ (a * 4), by omega, hxl, rfl, by go_num, HN⟩
        case measure => simp [intOf]
    · have hand : bits .and .u8 ((b : Int) / 8) 1 = ((b / 8 % 2 : Nat) : Int) := by
        have := and_one_u8 (b / 8) (by omega)
        simpa using this
      have hcl := cl_lt b ha 4 (by omega)
      rcases Nat.mod_two_eq_zero_or_one (b / 8) with hm | hm
      · have HN := Lib.hid (show p = cl a b 4 from HP.out.trans (cl_step0 (k := 3) (by simpa using hm)).symm)
        rw [hm] at hand
        clear HP hm hcl
        go_wp2
        go_round
        case rel => exact ⟨4, p, by omega, hp, rfl, by go_num, HN⟩
        case measure => simp [intOf]
      · have HN := Lib.hid (show p ^^^ (a * 8) = cl a b 4 by rw [cl_step1 (k := 3) (by simpa using hm), HP.out])
        have hxl : p ^^^ (a * 8) < 32768 := by rw [HN.out]; exact hcl
        have hxor : bits .xor .i64 (p : Int) ((a : Int) * 8) = ((p ^^^ (a * 8) : Nat) : Int) := by
          have := xor_i64 p (a * 8) (by omega) (by omega)
          simpa using this
        rw [hm] at hand
        clear HP hm hcl
        go_wp2
        go_round
        case rel => exact ⟨4, p ^^^ (a * 8), by omega, hxl, rfl, by go_num, HN⟩
        case measure => simp [intOf]
    · have hand : bits .and .u8 ((b : Int) / 16) 1 = ((b / 16 % 2 : Nat) : Int) := by
        have := and_one_u8 (b / 16) (by omega)
        simpa using this
      have hcl := cl_lt b ha 5 (by omega)
      rcases Nat.mod_two_eq_zero_or_one (b / 16) with hm | hm
      · have HN := Lib.hid (show p = cl a b 5 from HP.out.trans (cl_step0 (k := 4) (by simpa using hm)).symm)
        rw [hm] at hand
        clear HP hm hcl
        go_wp2
        go_round
        case rel => exact ⟨5, p, by omega, hp, rfl, by go_num, HN⟩
        case measure => simp [intOf]
      · have HN := Lib.hid (show p ^^^ (a * 16) = cl a b 5 by rw [cl_step1 (k := 4) (by simpa using hm), HP.out])
        have hxl : p ^^^ (a * 16) < 32768 := by rw [HN.out]; exact hcl
        have hxor : bits .xor .i64 (p : Int) ((a : Int) * 16) = ((p ^^^ (a * 16) : Nat) : Int) := by
          have := xor_i64 p (a * 16) (by omega) (by omega)
          simpa using this
        rw [hm] at hand
        clear HP hm hcl
        go_wp2
        go_round
        case rel => exact ⟨5, p ^^^ (a * 16), by omega, hxl, rfl, by go_num, HN⟩
        case measure => simp [intOf]
    · have hand : bits .and .u8 ((b : Int) / 32) 1 = ((b / 32 % 2 : Nat) : Int) := by
        have := and_one_u8 (b / 32) (by omega)
        simpa using this
      have hcl := cl_lt b ha 6 (by omega)
      rcases Nat.mod_two_eq_zero_or_one (b / 32) with hm | hm
      · have HN := Lib.hid (show p = cl a b 6 from HP.out.trans (cl_step0 (k := 5) (by simpa using hm)).symm)
        rw [hm] at hand
        clear HP hm hcl
        go_wp2
        go_round
        case rel => exact ⟨6, p, by omega, hp, rfl, by go_num, HN⟩
        case measure => simp [intOf]
      · have HN := Lib.hid (show p ^^^ (a * 32) = cl a b 6 by rw [cl_step1 (k := 5) (by simpa using hm), HP.out])
        have hxl : p ^^^ (a * 32) < 32768 := by rw [HN.out]; exact hcl
        have hxor : bits .xor .i64 (p : Int) ((a : Int) * 32) = ((p ^^^ (a * 32) : Nat) : Int) := by
          have := xor_i64 p (a * 32) (by omega) (by omega)
          simpa using this
        rw [hm] at hand
        clear HP hm hcl
        go_wp2
        go_round
        case rel => exact ⟨6, p ^^^ (a * 32), by omega, hxl, rfl, by go_num, HN⟩
        case measure => simp [intOf]
    · have hand : bits .and .u8 ((b : Int) / 64) 1 = ((b / 64 % 2 : Nat) : Int) := by
        have := and_one_u8 (b / 64) (by omega)
        simpa using this
      have hcl := cl_lt b ha 7 (by omega)
      rcases Nat.mod_two_eq_zero_or_one (b / 64) with hm | hm
      · have HN := Lib.hid (show p = cl a b 7 from HP.out.trans (cl_step0 (k := 6) (by simpa using hm)).symm)
        rw [hm] at hand
        clear HP hm hcl
        go_wp2
        go_round
        case rel => exact ⟨7, p, by omega, hp, rfl, by go_num, HN⟩
        case measure => simp [intOf]
      · have HN := Lib.hid (show p ^^^ (a * 64) = cl a b 7 by rw [cl_step1 (k := 6) (by simpa using hm), HP.out])
        have hxl : p ^^^ (a * 64) < 32768 := by rw [HN.out]; exact hcl
        have hxor : bits .xor .i64 (p : Int) ((a : Int) * 64) = ((p ^^^ (a * 64) : Nat) : Int) := by
          have := xor_i64 p (a * 64) (by omega) (by omega)
          simpa using this
        rw [hm] at hand
        clear HP hm hcl
        go_wp2
        go_round
        case rel => exact ⟨7, p ^^^ (a * 64), by omega, hxl, rfl, by go_num, HN⟩
        case measure => simp [intOf]
    · have hand : bits .and .u8 ((b : Int) / 128) 1 = ((b / 128 % 2 : Nat) : Int) := by
        have := and_one_u8 (b / 128) (by omega)
        simpa using this
      have hcl := cl_lt b ha 8 (by omega)
      rcases Nat.mod_two_eq_zero_or_one (b / 128) with hm | hm
      · have HN := Lib.hid (show p = cl a b 8 from HP.out.trans (cl_step0 (k := 7) (by simpa using hm)).symm)
        rw [hm] at hand
        clear HP hm hcl
        go_wp2
        go_round
        case rel => exact ⟨8, p, by omega, hp, rfl, by go_num, HN⟩
        case measure => simp [intOf]
      · have HN := Lib.hid (show p ^^^ (a * 128) = cl a b 8 by rw [cl_step1 (k := 7) (by simpa using hm), HP.out])
        have hxl : p ^^^ (a * 128) < 32768 := by rw [HN.out]; exact hcl
        have hxor : bits .xor .i64 (p : Int) ((a : Int) * 128) = ((p ^^^ (a * 128) : Nat) : Int) := by
          have := xor_i64 p (a * 128) (by omega) (by omega)
          simpa using this
        rw [hm] at hand
        clear HP hm hcl
        go_wp2
        go_round
        case rel => exact ⟨8, p ^^^ (a * 128), by omega, hxl, rfl, by go_num, HN⟩
        case measure => simp [intOf]
    · have HM := Lib.hid (show redF 7 p = mul a b by rw [HP.out]; exact redF_mul b ha)
      clear HP
      go_wp2
      go_loop [5, 7] (fun s t => ∃ j q : Nat, j ≤ 7 ∧ q < 32768 ∧ s = .int .i64 q ∧ t = .int .i64 ((j : Int) + 7) ∧ Hid (redF j q = mul a b)) (fun _ t => (intOf t).toNat)
      case atStart => exact ⟨7, p, by omega, hp, rfl, rfl, HM⟩
      case round =>
        obtain ⟨j, q, hj, hq, rfl, rfl, HQ⟩ := hrel
        have hn : j = 0 ∨ j = 1 ∨ j = 2 ∨ j = 3 ∨ j = 4 ∨ j = 5 ∨ j = 6 ∨ j = 7 := by omega
        rcases hn with rfl | rfl | rfl | rfl | rfl | rfl | rfl | rfl
        · have hql : q < 256 := by
            have := HQ.out; simp only [redF] at this; rw [this]; exact mul_lt _ ha
          have HE := Lib.hid (show q = mul a b from HQ.out)
          clear HQ HM
          have hwr : IntKind.u8.wrap (q : Int) = (q : Int) := by rw [IntKind.wrap_u8]; omega
          go_wp2
          go_ret
          exact ⟨ret_int (by rw [HE.out]), rfl⟩
        · have hand : bits .and .i64 ((q : Int) / 256) 1 = ((q / 256 % 2 : Nat) : Int) := by
            have := and_one_i64 (q / 256) (by omega)
            simpa using this
          rcases Nat.mod_two_eq_zero_or_one (q / 256) with hm | hm
          · have HN := Lib.hid (show redF 0 q = mul a b from (redF_step0 (k := 0) (by simpa using hm)).symm.trans HQ.out)
            rw [hm] at hand
            clear HQ hm HM
            go_wp2
            go_round
            case rel => exact ⟨0, q, by omega, hq, rfl, by go_num, HN⟩
            case measure => simp [intOf]
          · have HN := Lib.hid (show redF 0 (q ^^^ 285) = mul a b from (redF_step1 (k := 0) (by simpa using hm)).symm.trans HQ.out)
            have hxl : q ^^^ 285 < 32768 := Nat.xor_lt_two_pow (n := 15) hq (by omega)
            have hxor : bits .xor .i64 (q : Int) 285 = ((q ^^^ 285 : Nat) : Int) := by
              have := xor_i64 q 285 (by omega) (by omega)
              simpa using this
            rw [hm] at hand
            clear HQ hm HM
            go_wp2
            go_round
            case rel => exact ⟨0, q ^^^ 285, by omega, hxl, rfl, by go_num, HN⟩
            case measure => simp [intOf]
        · have hand : bits .and .i64 ((q : Int) / 512) 1 = ((q / 512 % 2 : Nat) : Int) := by
            have := and_one_i64 (q / 512) (by omega)
            simpa using this
          rcases Nat.mod_two_eq_zero_or_one (q / 512) with hm | hm
          · have HN := Lib.hid (show redF 1 q = mul a b from (redF_step0 (k := 1) (by simpa using hm)).symm.trans HQ.out)
            rw [hm] at hand
            clear HQ hm HM
            go_wp2
            go_round
            case rel => exact ⟨1, q, by omega, hq, rfl, by go_num, HN⟩
            case measure => simp [intOf]
          · have HN := Lib.hid (show redF 1 (q ^^^ 570) = mul a b from (redF_step1 (k := 1) (by simpa using hm)).symm.trans HQ.out)
            have hxl : q ^^^ 570 < 32768 := Nat.xor_lt_two_pow (n := 15) hq (by omega)
            have hxor : bits .xor .i64 (q : Int) 570 = ((q ^^^ 570 : Nat) : Int) := by
              have := xor_i64 q 570 (by omega) (by omega)
              simpa using this
            rw [hm] at hand
            clear HQ hm HM
            go_wp2
            go_round
            case rel => exact ⟨1, q ^^^ 570, by omega, hxl, rfl, by go_num, HN⟩
            case measure => simp [intOf]
        · have hand : bits .and .i64 ((q : Int) / 1024) 1 = ((q / 1024 % 2 : Nat) : Int) := by
            have := and_one_i64 (q / 1024) (by omega)
            simpa using this
          rcases Nat.mod_two_eq_zero_or_one (q / 1024) with hm | hm
          · have HN := Lib.hid (show redF 2 q = mul a b from (redF_step0 (k := 2) (by simpa using hm)).symm.trans HQ.out)
            rw [hm] at hand
            clear HQ hm HM
            go_wp2
            go_round
            case rel => exact ⟨2, q, by omega, hq, rfl, by go_num, HN⟩
            case measure => simp [intOf]
          · have HN := Lib.hid (show redF 2 (q ^^^ 1140) = mul a b from (redF_step1 (k := 2) (by simpa using hm)).symm.trans HQ.out)
            have hxl : q ^^^ 1140 < 32768 := Nat.xor_lt_two_pow (n := 15) hq (by omega)
            have hxor : bits .xor .i64 (q : Int) 1140 = ((q ^^^ 1140 : Nat) : Int) := by
              have := xor_i64 q 1140 (by omega) (by omega)
              simpa using this
            rw [hm] at hand
            clear HQ hm HM
            go_wp2
            go_round
            case rel => exact ⟨2, q ^^^ 1140, by omega, hxl, rfl, by go_num, HN⟩
            case measure => simp [intOf]
        · have hand : bits .and .i64 ((q : Int) / 2048) 1 = ((q / 2048 % 2 : Nat) : Int) := by
            have := and_one_i64 (q / 2048) (by omega)
            simpa using this
          rcases Nat.mod_two_eq_zero_or_one (q / 2048) with hm | hm
          · have HN := Lib.hid (show redF 3 q = mul a b from (redF_step0 (k := 3) (by simpa using hm)).symm.trans HQ.out)
            rw [hm] at hand
            clear HQ hm HM
            go_wp2
            go_round
            case rel => exact ⟨3, q, by omega, hq, rfl, by go_num, HN⟩
            case measure => simp [intOf]
          · have HN := Lib.hid (show redF 3 (q ^^^ 2280) = mul a b from (redF_step1 (k := 3) (by simpa using hm)).symm.trans HQ.out)
            have hxl : q ^^^ 2280 < 32768 := Nat.xor_lt_two_pow (n := 15) hq (by omega)
            have hxor : bits .xor .i64 (q : Int) 2280 = ((q ^^^ 2280 : Nat) : Int) := by
              have := xor_i64 q 2280 (by omega) (by omega)
              simpa using this
            rw [hm] at hand
            clear HQ hm HM
            go_wp2
            go_round
            case rel => exact ⟨3, q ^^^ 2280, by omega, hxl, rfl, by go_num, HN⟩
            case measure => simp [intOf]
        · have hand : bits .and .i64 ((q : Int) / 4096) 1 = ((q / 4096 % 2 : Nat) : Int) := by
            have := and_one_i64 (q / 4096) (by omega)
            simpa using this
          rcases Nat.mod_two_eq_zero_or_one (q / 4096) with hm | hm
          · have HN := Lib.hid (show redF 4 q = mul a b from (redF_step0 (k := 4) (by simpa using hm)).symm.trans HQ.out)
            rw [hm] at hand
            clear HQ hm HM
            go_wp2
            go_round
            case rel => exact ⟨4, q, by omega, hq, rfl, by go_num, HN⟩
            case measure => simp [intOf]
          · have HN := Lib.hid (show redF 4 (q ^^^ 4560) = mul a b from (redF_step1 (k := 4) (by simpa using hm)).symm.trans HQ.out)
            have hxl : q ^^^ 4560 < 32768 := Nat.xor_lt_two_pow (n := 15) hq (by omega)
            have hxor : bits .xor .i64 (q : Int) 4560 = ((q ^^^ 4560 : Nat) : Int) := by
              have := xor_i64 q 4560 (by omega) (by omega)
              simpa using this
            rw [hm] at hand
            clear HQ hm HM
            go_wp2
            go_round
            case rel => exact ⟨4, q ^^^ 4560, by omega, hxl, rfl, by go_num, HN⟩
            case measure => simp [intOf]
        · have hand : bits .and .i64 ((q : Int) / 8192) 1 = ((q / 8192 % 2 : Nat) : Int) := by
            have := and_one_i64 (q / 8192) (by omega)
            simpa using this
          rcases Nat.mod_two_eq_zero_or_one (q / 8192) with hm | hm
          · have HN := Lib.hid (show redF 5 q = mul a b from (redF_step0 (k := 5) (by simpa using hm)).symm.trans HQ.out)
            rw [hm] at hand
            clear HQ hm HM
            go_wp2
            go_round
            case rel => exact ⟨5, q, by omega, hq, rfl, by go_num, HN⟩
            case measure => simp [intOf]
          · have HN := Lib.hid (show redF 5 (q ^^^ 9120) = mul a b from (redF_step1 (k := 5) (by simpa using hm)).symm.trans HQ.out)
            have hxl : q ^^^ 9120 < 32768 := Nat.xor_lt_two_pow (n := 15) hq (by omega)
            have hxor : bits .xor .i64 (q : Int) 9120 = ((q ^^^ 9120 : Nat) : Int) := by
              have := xor_i64 q 9120 (by omega) (by omega)
              simpa using this
            rw [hm] at hand
            clear HQ hm HM
            go_wp2
            go_round
            case rel => exact ⟨5, q ^^^ 9120, by omega, hxl, rfl, by go_num, HN⟩
            case measure => simp [intOf]
        · have hand : bits .and .i64 ((q : Int) / 16384) 1 = ((q / 16384 % 2 : Nat) : Int) := by
            have := and_one_i64 (q / 16384) (by omega)
            simpa using this
          rcases Nat.mod_two_eq_zero_or_one (q / 16384) with hm | hm
          · have HN := Lib.hid (show redF 6 q = mul a b from (redF_step0 (k := 6) (by simpa using hm)).symm.trans HQ.out)
            rw [hm] at hand
            clear HQ hm HM
            go_wp2
            go_round
            case rel => exact ⟨6, q, by omega, hq, rfl, by go_num, HN⟩
            case measure => simp [intOf]
          · have HN := Lib.hid (show redF 6 (q ^^^ 18240) = mul a b from (redF_step1 (k := 6) (by simpa using hm)).symm.trans HQ.out)
            have hxl : q ^^^ 18240 < 32768 := Nat.xor_lt_two_pow (n := 15) hq (by omega)
            have hxor : bits .xor .i64 (q : Int) 18240 = ((q ^^^ 18240 : Nat) : Int) := by
              have := xor_i64 q 18240 (by omega) (by omega)
              simpa using this
            rw [hm] at hand
            clear HQ hm HM
            go_wp2
            go_round
            case rel => exact ⟨6, q ^^^ 18240, by omega, hxl, rfl, by go_num, HN⟩
            case measure => simp [intOf]

/-- The remainder that isn't below nought. -/
def rem255 (n : Int) : Nat := (n % 255).toNat
theorem rem255_lt (n : Int) : rem255 n < 255 := by unfold rem255; omega

theorem pow_any (n : Int) (w : World) (h0 : -9223372036854775808 ≤ n) (h1 : n ≤ 9223372036854775807) : Calls Tryd.prog 15 #[.int .i64 n] w fun e w' => e = .returned (.int .u8 (pw (rem255 n) : Nat)) ∧ w = w' := by
  have key : ∀ (r : Nat), r < 255 → Hid (r = rem255 n) → (0 ≤ n ∧ n % 255 = (r : Int)) ∨ (n < 0 ∧ r = 0 ∧ n.tmod 255 = 0) ∨ (n < 0 ∧ n.tmod 255 = (r : Int) - 255 ∧ 0 < r) := by
    intro r hr HR
    have hre := HR.out
    unfold rem255 at hre
    by_cases hn : 0 ≤ n
    · exact .inl ⟨hn, by omega⟩
    · have ht : n.tmod 255 = -((-n) % 255) := by
        have := Int.neg_tmod (-n) 255
        rw [Int.neg_neg] at this
        rw [this, Int.tmod_eq_emod_of_nonneg (by omega)]
      by_cases h2 : r = 0
      · exact .inr (.inl ⟨by omega, h2, by omega⟩)
      · exact .inr (.inr ⟨by omega, by omega, by omega⟩)
  obtain ⟨r, HR⟩ : ∃ r, Hid (r = rem255 n) := ⟨_, Lib.hid rfl⟩
  have hr : r < 255 := by rw [HR.out]; exact rem255_lt n
  have hk := key r hr HR
  clear key
  rcases hk with ⟨hn, he⟩ | ⟨hn, rfl, he⟩ | ⟨hn, he, hpos⟩
  · have hd : decide ((r : Int) < 0) = false := by simp
    go_enter Tryd.func15, Tryd.ntmps15
    go_wp2
    generalize n % 255 = z at he ⊢
    subst he
    clear hd
    go_loop [3, 11] (fun s t => ∃ k : Nat, k ≤ r ∧ s = .int .u8 (pw k : Nat) ∧ t = .int .i64 k) (fun _ t => r - (intOf t).toNat)
    case atStart => exact ⟨0, by omega, rfl, rfl⟩
    case round =>
      obtain ⟨k, hk, rfl, rfl⟩ := hrel
      by_cases hlt : k < r
      · go_wp2_with (go_at_call 37; refine (double_any _ _ (pw_lt k)).mono ?_; rintro e w' ⟨rfl, rfl⟩)
        go_round
        case rel => exact ⟨k + 1, by omega, rfl, by go_num⟩
        case measure => simp [intOf]; omega
      · obtain rfl : k = r := by omega
        go_wp2
        go_ret
        exact ⟨ret_int (by rw [HR.out]), rfl⟩
  · go_enter Tryd.func15, Tryd.ntmps15
    go_wp2
    refine wp_loop_rounds 1 ?_
    rw [rounds_succ]
    go_wp2
    go_ret
    exact ⟨ret_int (by rw [← HR.out]; rfl), rfl⟩
  · have hd : decide ((r : Int) - 255 < 0) = true := by simp; omega
    go_enter Tryd.func15, Tryd.ntmps15
    go_wp2
    clear he hd
    go_loop [3, 11] (fun s t => ∃ k : Nat, k ≤ r ∧ s = .int .u8 (pw k : Nat) ∧ t = .int .i64 k) (fun _ t => r - (intOf t).toNat)
    case atStart => exact ⟨0, by omega, rfl, rfl⟩
    case round =>
      obtain ⟨k, hk, rfl, rfl⟩ := hrel
      by_cases hlt : k < r
      · go_wp2_with (go_at_call 37; refine (double_any _ _ (pw_lt k)).mono ?_; rintro e w' ⟨rfl, rfl⟩)
        go_round
        case rel => exact ⟨k + 1, by omega, rfl, by go_num⟩
        case measure => simp [intOf]; omega
      · obtain rfl : k = r := by omega
        go_wp2
        go_ret
        exact ⟨ret_int (by rw [HR.out]), rfl⟩
end Go.Proofs.YtmckgdjipkkklaaDoor
