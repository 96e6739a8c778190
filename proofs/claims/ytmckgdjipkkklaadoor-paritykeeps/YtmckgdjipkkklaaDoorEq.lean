/- Arrays of four bytes, held against each other. -/
import Derived.Test.YtmckgdjipkkklaaDoorCheckW
import Derived.Stop.BytesEq
import Derived.Laws.Cover3
namespace Go.Proofs.YtmckgdjipkkklaaDoor
set_option linter.unusedVariables false
set_option linter.unusedSimpArgs false
open Go.RowKit
open Extern.Stop (cell)

theorem arr30 : Tryd.prog.underlying 30 = some (.array 4 5) := by kernel_rfl
theorem cell_nat {b : Nat} (h : b < 256) : cell (UInt8.ofNat b) = .int .u8 (b : Int) := by
  unfold cell
  rw [UInt8.toNat_ofNat_of_lt' h]; rfl
theorem beq_nat {a b : Nat} (ha : a < 256) (hb : b < 256) : (UInt8.ofNat a == UInt8.ofNat b) = (a == b) := by
  rw [Bool.eq_iff_iff]
  simp [← UInt8.toNat_inj, Nat.mod_eq_of_lt ha, Nat.mod_eq_of_lt hb]
/-- Are two lists alike? (behind a name) -/
def eq4 (l m : List Nat) : Bool := l == m
theorem eq4_self (l : List Nat) : eq4 l l = true := by simp [eq4]
theorem eql30 {a0 a1 a2 a3 b0 b1 b2 b3 : Nat} (ha : a0 < 256 ∧ a1 < 256 ∧ a2 < 256 ∧ a3 < 256) (hb : b0 < 256 ∧ b1 < 256 ∧ b2 < 256 ∧ b3 < 256) (W : World) :
    (binOp .eql 30 (.agg #[.int .u8 (a0 : Int), .int .u8 (a1 : Int), .int .u8 (a2 : Int), .int .u8 (a3 : Int)]) (.agg #[.int .u8 (b0 : Int), .int .u8 (b1 : Int), .int .u8 (b2 : Int), .int .u8 (b3 : Int)])).run Tryd.prog W =
      .ok (.bool (eq4 [a0, a1, a2, a3] [b0, b1, b2, b3])) W := by
  unfold eq4
  have h := run_eql_bytes (P := Tryd.prog) W 30 5 4 arr30 Tryd.underlying5 (fun w => Tryd.sizeOf5 w) [UInt8.ofNat a0, UInt8.ofNat a1, UInt8.ofNat a2, UInt8.ofNat a3] [UInt8.ofNat b0, UInt8.ofNat b1, UInt8.ofNat b2, UInt8.ofNat b3] rfl rfl
  simp only [List.map_cons, List.map_nil, cell_nat ha.1, cell_nat ha.2.1, cell_nat ha.2.2.1, cell_nat ha.2.2.2, cell_nat hb.1, cell_nat hb.2.1, cell_nat hb.2.2.1, cell_nat hb.2.2.2] at h
  rw [h]
  simp only [List.cons_beq_cons, beq_nat ha.1 hb.1, beq_nat ha.2.1 hb.2.1, beq_nat ha.2.2.1 hb.2.2.1, beq_nat ha.2.2.2 hb.2.2.2]
  rfl
end Go.Proofs.YtmckgdjipkkklaaDoor
