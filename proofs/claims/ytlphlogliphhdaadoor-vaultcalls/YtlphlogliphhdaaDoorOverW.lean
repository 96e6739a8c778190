/- The reference's Over: each byte is turned; what it holds then is not said. -/
import Derived.Test.YtlphlogliphhdaaDoorSpareW
namespace Go.Proofs.YtlphlogliphhdaaDoor
set_option linter.unusedVariables false
set_option linter.unusedSimpArgs false
open Go.RowKit

theorem xor_all : ∀ v : Fin 256, 0 ≤ bits .xor .u8 ((v.val : Nat) : Int) 255 ∧ bits .xor .u8 ((v.val : Nat) : Int) 255 ≤ 255 := by decide +kernel
theorem xor_ran {c : Int} (h0 : 0 ≤ c) (h1 : c ≤ 255) : 0 ≤ bits .xor .u8 c 255 ∧ bits .xor .u8 c 255 ≤ 255 := by
  have h := xor_all ⟨c.toNat, by omega⟩
  have e : ((c.toNat : Nat) : Int) = c := by omega
  simp only [e] at h
  exact h

set_option maxHeartbeats 1000000 in
theorem over_any (g n c N C base : Nat) (zs : List Int) (w : World) (ho : Own w base 5 (some ⟨g, 0, none⟩) N C (By zs)) (hr : Ran zs) (hn : n ≤ N) (hN : N ≤ 9223372036854775807) :
    Calls Tryd.prog 11 #[.slice (some ⟨g, 0, none⟩) n c] w fun e w' => e = .returned (.tuple #[]) ∧ ∃ ys, Own w' base 5 (some ⟨g, 0, none⟩) N C (By ys) ∧ Ran ys ∧ Onl g w w' := by
  go_enter Tryd.func11, Tryd.ntmps11
  go_wp2
  go_loopw [2] (fun iv wr => ∃ (k : Nat) (ys : List Int), iv = .int .i64 (k : Int) ∧ k ≤ n ∧ Own wr base 5 (some ⟨g, 0, none⟩) N C (By ys) ∧ Ran ys ∧ Onl g w wr) (fun iv _ => n - (intOf iv).toNat)
  case atStart => exact ⟨0, zs, rfl, Nat.zero_le _, ho, hr, Onl.refl _ _⟩
  case round =>
    obtain ⟨k, ys, rfl, hk, ho', hr', hon⟩ := hrel
    by_cases hlt : k < n
    · have hl : ys.length = N := by have := ho'.len; rwa [By_length] at this
      obtain ⟨x, hx⟩ : ∃ x, ys[k]? = some x := ⟨_, List.getElem?_eq_getElem (by omega)⟩
      have hxr := hr' x (List.mem_of_getElem? hx)
      have hc := ho'.cellI hx
      have hfz : wr.frozen? ⟨g, k, none⟩ = false := ho'.frozenAt k
      have HX := Lib.hid (xor_ran hxr.1 hxr.2)
      have HO : Hid (∀ v : Int, Own (wr.setCell ⟨g, k, none⟩ (.int .u8 v)) base 5 (some ⟨g, 0, none⟩) N C (By (ys.set k v))) := fun v => ho'.put v
      have HR : Hid (∀ v : Int, 0 ≤ v → v ≤ 255 → Ran (ys.set k v)) := fun v h0 h1 => ran_setI hr' k h0 h1
      have HB : Hid (∀ v : Value, Onl g w (wr.setCell ⟨g, k, none⟩ v)) := fun v => hon.trans (onl_set wr g k v)
      clear ho ho' hr hr' hon hx hl
      go_wp2
      go_roundw
      case rel => exact ⟨k + 1, _, by go_num, by omega, HO.out _, HR.out _ HX.out.1 HX.out.2, HB.out _⟩
      case measure => simp [intOf]; omega
    · have HH := Lib.hid (And.intro ho' (And.intro hr' hon))
      clear ho ho' hr hr' hon
      go_wp2
      go_end0
      exact ⟨rfl, _, HH.out.1, HH.out.2.1, HH.out.2.2⟩
end Go.Proofs.YtlphlogliphhdaaDoor
