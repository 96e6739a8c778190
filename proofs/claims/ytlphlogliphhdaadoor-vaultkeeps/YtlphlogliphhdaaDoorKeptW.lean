/- Lists with tinted spare room: Kept of the reference. -/
import Derived.Test.YtlphlogliphhdaaDoorSpareW
namespace Go.Proofs.YtlphlogliphhdaaDoor
set_option linter.unusedVariables false
set_option linter.unusedSimpArgs false
open Go.RowKit

set_option maxHeartbeats 1000000 in
theorem kept_any (A B : Option Addr) (m c d : Nat) (xs : List Int) (w : World) (ha : Bs w A (m + 33) (sp xs)) (hb : Bs w B m xs) (hm : m ≤ 1000000000000) :
    Calls Tryd.prog 31 #[.slice A (m + 33) c, .slice B m d] w fun e w' => e = .returned (.bool true) ∧ Dr w w' := by
  have HL := Lib.hid hb.len
  have hq : (((m + 33 : Nat) : Int) != (m : Int) + 33) = false := by simp
  obtain ⟨b, off, rfl, hbl, _⟩ := ha.1.2 (by omega)
  go_enter Tryd.func31, Tryd.ntmps31
  go_wp2
  go_loopw [5] (fun i wr => ∃ (k q : Nat), i = .int .i64 k ∧ k ≤ m + 33 ∧ wr = w.drewN q) (fun i _ => m + 33 - (intOf i).toNat)
  case atStart => exact ⟨0, 0, rfl, Nat.zero_le _, rfl⟩
  case round =>
    obtain ⟨k, q, rfl, hk, rfl⟩ := hrel
    by_cases hlt : k < m + 33
    · obtain ⟨y, hy, hy0, HY⟩ := ha.nat_at (k := k) hlt
      have hy' : (w.drewN q).cell? ⟨b, off + k, none⟩ = some (.int .u8 (y : Int)) := hy
      by_cases hkm : k < m
      · obtain ⟨b2, off2, x, rfl, hb2, hx0, hx1, hcx, HX⟩ := hb.at_ hkm
        have hcx' : (w.drewN q).cell? ⟨b2, off2 + k, none⟩ = some (.int .u8 x) := hcx
        have hxy : x = (y : Int) := by
          have h1 := HY.out
          rw [sp_lo (by rw [HL.out]; exact hkm), HX.out] at h1
          injection h1
        subst hxy
        clear HX HY
        have cg : decide (m ≤ k) = false := by simp; omega
        have cl : decide (k < m) = true := by simp; omega
        go_wp2
        go_quiet ((go_at_call 42; first | exact still_call_add (fun W => tint_any k (by omega) W) | exact still_call (fun W => tint_any k (by omega) W)))
        go_wp2
        go_roundw
        case rel => exact ⟨k + 1, _, by go_num, by omega, rfl⟩
        case measure => simp [intOf]; omega
      · obtain rfl : y = tn k := by
          have h1 := HY.out
          rw [sp_hi (by rw [HL.out]; omega) (by rw [HL.out]; omega)] at h1
          injection h1 with h1
          omega
        have cg : decide (m ≤ k) = true := by simp; omega
        have cl : decide (k < m) = false := by simp; omega
        go_wp2
        go_quiet ((go_at_call 42; first | exact still_call_add (fun W => tint_any k (by omega) W) | exact still_call (fun W => tint_any k (by omega) W)))
        go_wp2
        go_roundw
        case rel => exact ⟨k + 1, _, by go_num, by omega, rfl⟩
        case measure => simp [intOf]; omega
    · obtain rfl : k = m + 33 := by omega
      go_wp2
      go_ret
      exact ⟨rfl, (Dr.refl w).n _⟩
end Go.Proofs.YtlphlogliphhdaaDoor
