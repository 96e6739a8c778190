/- The product by a long product and its reduction is the field's. No program is named here. -/
import Derived.Test.YtmckgdjipkkklaaDoorGf
namespace Go.Proofs.YtmckgdjipkkklaaDoor
set_option linter.unusedVariables false
set_option linter.unusedSimpArgs false
/-- The long product of the first bits. -/
def cl (a b : Nat) : Nat → Nat
  | 0 => 0
  | i + 1 => cl a b i ^^^ (if b / 2 ^ i % 2 = 1 then a * 2 ^ i else 0)
/-- Reduced from bit k + 7 down to bit 8. -/
def redF : Nat → Nat → Nat
  | 0, p => p
  | k + 1, p => redF k (if p / 2 ^ (k + 8) % 2 = 1 then p ^^^ (285 * 2 ^ k) else p)
def sumM (a b : Nat) : Nat → Nat
  | 0 => 0
  | i + 1 => sumM a b i ^^^ (if b / 2 ^ i % 2 = 1 then pwIt i a else 0)
theorem sumM_succ (a b : Nat) : ∀ n, sumM a b (n + 1) = (if b % 2 = 1 then a else 0) ^^^ sumM (dbl a) (b / 2) n
  | 0 => by simp [sumM, pwIt]
  | n + 1 => by
    have e : b / 2 ^ (n + 1) = b / 2 / 2 ^ n := by rw [Nat.div_div_eq_div_mul, Nat.pow_succ, Nat.mul_comm]
    rw [sumM, sumM_succ a b n, sumM, Nat.xor_assoc, e]; rfl
theorem mulF_sumM : ∀ n a b, mulF n a b = sumM a b n
  | 0, _, _ => rfl
  | n + 1, a, b => by rw [sumM_succ, mulF, mulF_sumM n]
theorem redF_zero : ∀ k, redF k 0 = 0
  | 0 => rfl
  | k + 1 => by simp [redF, redF_zero k]
theorem redF_xor : ∀ k p q, redF k (p ^^^ q) = redF k p ^^^ redF k q
  | 0, _, _ => rfl
  | k + 1, p, q => by
    simp only [redF]
    rw [← redF_xor k]
    congr 1
    rw [Nat.xor_div_two_pow, xor_mod2]
    rcases Nat.mod_two_eq_zero_or_one (p / 2 ^ (k + 8)) with hp | hp <;> rcases Nat.mod_two_eq_zero_or_one (q / 2 ^ (k + 8)) with hq | hq <;> rw [hp, hq] <;> simp
    · rw [Nat.xor_assoc]
    · rw [Nat.xor_assoc p q, Nat.xor_comm q, ← Nat.xor_assoc]
    · rw [xor4, Nat.xor_self, Nat.xor_zero]
theorem redF_shift_all : (allB 8 fun i => allB 256 fun a => redF 7 (a * 2 ^ i) == pwIt i a) = true := by decide +kernel
theorem redF_cl {a : Nat} (b : Nat) (ha : a < 256) : ∀ n, n ≤ 8 → redF 7 (cl a b n) = sumM a b n
  | 0, _ => redF_zero 7
  | n + 1, h => by
    rw [cl, sumM, redF_xor, redF_cl b ha n (by omega)]
    congr 1
    split
    · simpa using allB_at (allB_at redF_shift_all (i := n) (by omega)) ha
    · exact redF_zero 7
theorem redF_mul {a : Nat} (b : Nat) (ha : a < 256) : redF 7 (cl a b 8) = mul a b := by
  rw [redF_cl b ha 8 (Nat.le_refl _), ← mulF_sumM]; rfl
theorem cl_lt {a : Nat} (b : Nat) (ha : a < 256) : ∀ n, n ≤ 8 → cl a b n < 32768
  | 0, _ => by simp [cl]
  | n + 1, h => by
    refine Nat.xor_lt_two_pow (n := 15) (cl_lt b ha n (by omega)) ?_
    split
    · have h1 : 2 ^ n ≤ 2 ^ 7 := Nat.pow_le_pow_right (by omega) (by omega)
      have h2 : a * 2 ^ n ≤ 255 * 2 ^ 7 := Nat.mul_le_mul (by omega) h1
      omega
    · omega
theorem cl_step0 {a b k : Nat} (h : b / 2 ^ k % 2 = 0) : cl a b (k + 1) = cl a b k := by simp [cl, h]
theorem cl_step1 {a b k : Nat} (h : b / 2 ^ k % 2 = 1) : cl a b (k + 1) = cl a b k ^^^ (a * 2 ^ k) := by simp [cl, h]
theorem redF_step0 {k q : Nat} (h : q / 2 ^ (k + 8) % 2 = 0) : redF (k + 1) q = redF k q := by simp [redF, h]
theorem redF_step1 {k q : Nat} (h : q / 2 ^ (k + 8) % 2 = 1) : redF (k + 1) q = redF k (q ^^^ (285 * 2 ^ k)) := by simp [redF, h]
end Go.Proofs.YtmckgdjipkkklaaDoor
