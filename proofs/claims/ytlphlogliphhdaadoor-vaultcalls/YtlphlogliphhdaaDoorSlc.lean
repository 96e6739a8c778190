/- Slice expressions of byte slices, run. -/
import Derived.Test.YtlphlogliphhdaaDoorBss
import Derived.Test.YtlphlogliphhdaaDoorRows
namespace Go.Proofs.YtlphlogliphhdaaDoor
set_option linter.unusedVariables false
set_option linter.unusedSimpArgs false
open Go.RowKit

theorem elem28 : Tryd.prog.underlying 28 = some (.slice (Tryd.prog.elem 28)) := by kernel_rfl
theorem elem28' : Tryd.prog.elem 28 = 5 := by kernel_rfl
theorem add_zero' (A : Option Addr) : A.map (fun x => x.add 0) = A := by
  cases A with
  | none => rfl
  | some a => simp only [Option.map_some, Option.some.injEq]; unfold Addr.add; simp
theorem add_off (b off k : Nat) : (⟨b, off, none⟩ : Addr).add k = ⟨b, off + k, none⟩ := by unfold Addr.add; split <;> simp_all
theorem slice_h28 (A : Option Addr) (n c h : Nat) (hh : h ≤ c) (W : World) :
    (Instr.slice 28 (.slice A n c) none (some (.int .i64 (h : Int))) none).run Tryd.prog W = .ok (.slice A h c) W := by
  rw [run_slice_h (P := Tryd.prog) W 28 A n c elem28 .i64 h (by omega) (by omega), elem28', Tryd.sizeOf5]
  simp only [sliced, Result.andThen, Nat.zero_mul, add_zero', ite_self, Int.toNat_natCast]; rfl
theorem slice_l28 (b off n c l : Nat) (hl : l ≤ n) (hc : l < c) (W : World) :
    (Instr.slice 28 (.slice (some ⟨b, off, none⟩) n c) (some (.int .i64 (l : Int))) none none).run Tryd.prog W = .ok (.slice (some ⟨b, off + l, none⟩) (n - l) (c - l)) W := by
  rw [run_slice_l (P := Tryd.prog) W 28 (some ⟨b, off, none⟩) n c elem28 .i64 l (by omega) (by omega), elem28', Tryd.sizeOf5]
  simp only [sliced, Result.andThen, Int.toNat_natCast, Nat.mul_one, Option.map_some, add_off]
  rw [if_neg (by omega)]
theorem slice_lh28 (b off n c l h : Nat) (hl : l ≤ h) (hh : h ≤ c) (hc : l < c) (W : World) :
    (Instr.slice 28 (.slice (some ⟨b, off, none⟩) n c) (some (.int .i64 (l : Int))) (some (.int .i64 (h : Int))) none).run Tryd.prog W = .ok (.slice (some ⟨b, off + l, none⟩) (h - l) (c - l)) W := by
  rw [run_slice_lh (P := Tryd.prog) W 28 (some ⟨b, off, none⟩) n c elem28 .i64 .i64 l h (by omega) (by omega) (by omega), elem28', Tryd.sizeOf5]
  simp only [sliced, Result.andThen, Int.toNat_natCast, Nat.mul_one, Option.map_some, add_off]
  rw [if_neg (by omega)]

theorem Bs.first {w : World} {A : Option Addr} {n : Nat} {xs : List Int} (h : Bs w A n xs) {m : Nat} (hm : m ≤ n) : Bs w A m (xs.take m) := by
  have hl := h.len
  refine ⟨⟨by rw [By_length, List.length_take]; omega, fun h0 => ?_⟩, h.2.sub fun x hx => List.mem_of_mem_take hx⟩
  obtain ⟨b, off, rfl, hb, hc⟩ := h.1.2 (by omega)
  refine ⟨b, off, rfl, hb, fun j u hu => hc j u ?_⟩
  simp only [By, List.getElem?_map, List.getElem?_take] at hu ⊢
  split at hu
  · exact hu
  · simp at hu
theorem Bs.rest {w : World} {b off n : Nat} {xs : List Int} (h : Bs w (some ⟨b, off, none⟩) n xs) {m : Nat} (hm : m ≤ n) : Bs w (some ⟨b, off + m, none⟩) (n - m) (xs.drop m) := by
  have hl := h.len
  refine ⟨⟨by rw [By_length, List.length_drop]; omega, fun h0 => ?_⟩, h.2.sub fun x hx => List.mem_of_mem_drop hx⟩
  obtain ⟨b', off', he, hb, hc⟩ := h.1.2 (by omega)
  injection he with he
  injection he with e1 e2
  subst e1; subst e2
  refine ⟨b, off + m, rfl, hb, fun j u hu => ?_⟩
  have := hc (m + j) u (by simpa [By, List.getElem?_drop] using hu)
  rwa [← Nat.add_assoc] at this
theorem Bs.nat_at {w : World} {b off n : Nat} {xs : List Int} {k : Nat} (h : Bs w (some ⟨b, off, none⟩) n xs) (hk : k < n) : ∃ y : Nat, w.cell? ⟨b, off + k, none⟩ = some (.int .u8 (y : Int)) ∧ y < 256 ∧ Hid (xs[k]? = some (y : Int)) := by
  obtain ⟨b', off', x, he, hb, h0, h1, hc, HX⟩ := h.at_ hk
  injection he with he
  injection he with e1 e2
  subst e1; subst e2
  obtain ⟨y, rfl⟩ := Int.eq_ofNat_of_zero_le h0
  exact ⟨y, hc, by omega, HX⟩
theorem Bs.blt {w : World} {b off n : Nat} {xs : List Int} (h : Bs w (some ⟨b, off, none⟩) n xs) (hn : 0 < n) : b < w.heap.size := by
  obtain ⟨b', off', he, hb', _⟩ := h.1.2 hn
  injection he with he
  injection he with he1
  rw [he1]; exact hb'
end Go.Proofs.YtlphlogliphhdaaDoor
