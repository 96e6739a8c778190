/- Newton's divided differences over the field, at 1, 2, 4, 8: they give the check bytes. No program is named here. -/
import Derived.Test.YtmckgdjipkkklaaDoorChk
namespace Go.Proofs.YtmckgdjipkkklaaDoor
set_option linter.unusedVariables false
set_option linter.unusedSimpArgs false

/-- Additive in four numbers. -/
def Lin4 (f : Nat → Nat → Nat → Nat → Nat) : Prop := ∀ a b c d a' b' c' d', f (a ^^^ a') (b ^^^ b') (c ^^^ c') (d ^^^ d') = f a b c d ^^^ f a' b' c' d'
theorem Lin4.xor {f g : Nat → Nat → Nat → Nat → Nat} (hf : Lin4 f) (hg : Lin4 g) : Lin4 fun a b c d => f a b c d ^^^ g a b c d := by
  intro a b c d a' b' c' d'
  show f _ _ _ _ ^^^ g _ _ _ _ = _
  rw [hf, hg, xor4]
theorem Lin4.mul {f : Nat → Nat → Nat → Nat → Nat} (k : Nat) (hf : Lin4 f) : Lin4 fun a b c d => mul k (f a b c d) := by
  intro a b c d a' b' c' d'
  show YtmckgdjipkkklaaDoor.mul k (f _ _ _ _) = _
  rw [hf, mul_xor_right]
theorem Lin4.p0 : Lin4 fun a _ _ _ => a := fun _ _ _ _ _ _ _ _ => rfl
theorem Lin4.p1 : Lin4 fun _ b _ _ => b := fun _ _ _ _ _ _ _ _ => rfl
theorem Lin4.p2 : Lin4 fun _ _ c _ => c := fun _ _ _ _ _ _ _ _ => rfl
theorem Lin4.p3 : Lin4 fun _ _ _ d => d := fun _ _ _ _ _ _ _ _ => rfl
theorem Lin4.part {f : Nat → Nat → Nat → Nat → Nat} (hf : Lin4 f) (a b c d : Nat) : f a b c d = ((f a 0 0 0 ^^^ f 0 b 0 0) ^^^ (f 0 0 c 0 ^^^ f 0 0 0 d)) := by
  have h1 := hf a 0 0 0 0 b 0 0
  have h2 := hf 0 0 c 0 0 0 0 d
  have h3 := hf a b 0 0 0 0 c d
  simp only [Nat.xor_zero, Nat.zero_xor] at h1 h2 h3
  rw [h3, h1, h2]

/-- The divided differences, the factors of Newton's form. -/
def ne1 (D0 D1 D2 D3 : Nat) : Nat := mul (invL 3) (D1 ^^^ D0)
def ne2 (D0 D1 D2 D3 : Nat) : Nat := mul (invL 6) (D2 ^^^ D1)
def ne3 (D0 D1 D2 D3 : Nat) : Nat := mul (invL 12) (D3 ^^^ D2)
def nf2 (D0 D1 D2 D3 : Nat) : Nat := mul (invL 5) (ne2 D0 D1 D2 D3 ^^^ ne1 D0 D1 D2 D3)
def nf3 (D0 D1 D2 D3 : Nat) : Nat := mul (invL 10) (ne3 D0 D1 D2 D3 ^^^ ne2 D0 D1 D2 D3)
def nh3 (D0 D1 D2 D3 : Nat) : Nat := mul (invL 9) (nf3 D0 D1 D2 D3 ^^^ nf2 D0 D1 D2 D3)
/-- Newton's form at a place. -/
def nat' (x : Nat) (D0 D1 D2 D3 : Nat) : Nat := mul (x ^^^ 1) (mul (x ^^^ 2) (mul (x ^^^ 4) (nh3 D0 D1 D2 D3) ^^^ nf2 D0 D1 D2 D3) ^^^ ne1 D0 D1 D2 D3) ^^^ D0
theorem lin_e1 : Lin4 ne1 := (Lin4.p1.xor Lin4.p0).mul _
theorem lin_e2 : Lin4 ne2 := (Lin4.p2.xor Lin4.p1).mul _
theorem lin_e3 : Lin4 ne3 := (Lin4.p3.xor Lin4.p2).mul _
theorem lin_f2 : Lin4 nf2 := (lin_e2.xor lin_e1).mul _
theorem lin_f3 : Lin4 nf3 := (lin_e3.xor lin_e2).mul _
theorem lin_h3 : Lin4 nh3 := (lin_f3.xor lin_f2).mul _
theorem lin_at (x : Nat) : Lin4 (nat' x) := (((((lin_h3.mul (x ^^^ 4)).xor lin_f2).mul (x ^^^ 2)).xor lin_e1).mul (x ^^^ 1)).xor Lin4.p0
theorem newt_all : (allB 256 fun v =>
    (nat' 1 v 0 0 0 == v && nat' 1 0 v 0 0 == 0 && nat' 1 0 0 v 0 == 0 && nat' 1 0 0 0 v == 0) &&
    (nat' 2 v 0 0 0 == 0 && nat' 2 0 v 0 0 == v && nat' 2 0 0 v 0 == 0 && nat' 2 0 0 0 v == 0) &&
    (nat' 4 v 0 0 0 == 0 && nat' 4 0 v 0 0 == 0 && nat' 4 0 0 v 0 == v && nat' 4 0 0 0 v == 0) &&
    (nat' 8 v 0 0 0 == 0 && nat' 8 0 v 0 0 == 0 && nat' 8 0 0 v 0 == 0 && nat' 8 0 0 0 v == v)) = true := by decide +kernel
theorem newt_at {D0 D1 D2 D3 : Nat} (h0 : D0 < 256) (h1 : D1 < 256) (h2 : D2 < 256) (h3 : D3 < 256) :
    nat' 1 D0 D1 D2 D3 = D0 ∧ nat' 2 D0 D1 D2 D3 = D1 ∧ nat' 4 D0 D1 D2 D3 = D2 ∧ nat' 8 D0 D1 D2 D3 = D3 := by
  have k0 := allB_at newt_all h0
  have k1 := allB_at newt_all h1
  have k2 := allB_at newt_all h2
  have k3 := allB_at newt_all h3
  simp only [Bool.and_eq_true, beq_iff_eq] at k0 k1 k2 k3
  refine ⟨?_, ?_, ?_, ?_⟩
  · rw [(lin_at 1).part, k0.1.1.1.1.1.1, k1.1.1.1.1.1.2, k2.1.1.1.1.2, k3.1.1.1.2]; simp
  · rw [(lin_at 2).part, k0.1.1.2.1.1.1, k1.1.1.2.1.1.2, k2.1.1.2.1.2, k3.1.1.2.2]; simp
  · rw [(lin_at 4).part, k0.1.2.1.1.1, k1.1.2.1.1.2, k2.1.2.1.2, k3.1.2.2]; simp
  · rw [(lin_at 8).part, k0.2.1.1.1, k1.2.1.1.2, k2.2.1.2, k3.2.2]; simp
end Go.Proofs.YtmckgdjipkkklaaDoor
