/- The field of 256 elements, as numbers below 256. No program is named here. -/
import Derived.Lib.Hide
namespace Go.Proofs.YtmckgdjipkkklaaDoor
set_option linter.unusedVariables false
set_option linter.unusedSimpArgs false

/-- Two times an element. -/
def dbl (a : Nat) : Nat := if a < 128 then 2 * a else (2 * a - 256) ^^^ 29
/-- The product, bit by bit of the second. -/
def mulF : Nat → Nat → Nat → Nat
  | 0, _, _ => 0
  | n + 1, a, b => (if b % 2 = 1 then a else 0) ^^^ mulF n (dbl a) (b / 2)
def mul (a b : Nat) : Nat := mulF 8 a b

def allB (n : Nat) (p : Nat → Bool) : Bool := (List.range n).all p
theorem allB_at {n : Nat} {p : Nat → Bool} (h : allB n p = true) {i : Nat} (hi : i < n) : p i = true :=
  List.all_eq_true.1 h i (List.mem_range.2 hi)

theorem xor_lt (a b : Nat) (ha : a < 256) (hb : b < 256) : a ^^^ b < 256 := Nat.xor_lt_two_pow (n := 8) ha hb
theorem dbl_lt_all : (allB 256 fun a => decide (dbl a < 256)) = true := by decide +kernel
theorem dbl_lt {a : Nat} (ha : a < 256) : dbl a < 256 := of_decide_eq_true (allB_at dbl_lt_all ha)
theorem dbl_xor_all : (allB 256 fun a => allB 256 fun b => dbl (a ^^^ b) == dbl a ^^^ dbl b) = true := by decide +kernel
theorem dbl_xor {a b : Nat} (ha : a < 256) (hb : b < 256) : dbl (a ^^^ b) = dbl a ^^^ dbl b := by
  simpa using allB_at (allB_at dbl_xor_all ha) hb
theorem dbl_zero : dbl 0 = 0 := rfl

theorem xor_mod2 (b c : Nat) : (b ^^^ c) % 2 = (b % 2 + c % 2) % 2 := by
  have h := Nat.xor_mod_two_pow (a := b) (b := c) (n := 1)
  simp only [Nat.pow_one] at h
  rw [h]
  rcases Nat.mod_two_eq_zero_or_one b with hb | hb <;> rcases Nat.mod_two_eq_zero_or_one c with hc | hc <;> rw [hb, hc] <;> rfl
theorem xor_div2 (b c : Nat) : (b ^^^ c) / 2 = b / 2 ^^^ c / 2 := Nat.xor_div_two

theorem xor4 (a b c d : Nat) : (a ^^^ b) ^^^ (c ^^^ d) = (a ^^^ c) ^^^ (b ^^^ d) := by
  rw [Nat.xor_assoc, Nat.xor_assoc, ← Nat.xor_assoc b c d, Nat.xor_comm b c, Nat.xor_assoc c b d]

theorem mulF_lt : ∀ (n a b : Nat), a < 256 → mulF n a b < 256
  | 0, _, _, _ => by simp [mulF]
  | n + 1, a, b, h => by
    simp only [mulF]
    refine xor_lt _ _ ?_ (mulF_lt n _ _ (dbl_lt h))
    split <;> omega
theorem mulF_zero_right : ∀ (n a : Nat), mulF n a 0 = 0
  | 0, _ => rfl
  | n + 1, a => by simp [mulF, mulF_zero_right n]
theorem mulF_zero_left : ∀ (n b : Nat), mulF n 0 b = 0
  | 0, _ => rfl
  | n + 1, b => by simp [mulF, dbl_zero, mulF_zero_left n]
theorem mulF_xor_right : ∀ (n a b c : Nat), mulF n a (b ^^^ c) = mulF n a b ^^^ mulF n a c
  | 0, _, _, _ => by simp [mulF]
  | n + 1, a, b, c => by
    simp only [mulF]
    rw [xor_div2, mulF_xor_right n, xor4]
    congr 1
    have h := xor_mod2 b c
    rcases Nat.mod_two_eq_zero_or_one b with hb | hb <;> rcases Nat.mod_two_eq_zero_or_one c with hc | hc <;> rw [h, hb, hc] <;> simp
theorem mulF_xor_left : ∀ (n a b c : Nat), a < 256 → b < 256 → mulF n (a ^^^ b) c = mulF n a c ^^^ mulF n b c
  | 0, _, _, _, _, _ => by simp [mulF]
  | n + 1, a, b, c, ha, hb => by
    simp only [mulF]
    rw [dbl_xor ha hb, mulF_xor_left n _ _ _ (dbl_lt ha) (dbl_lt hb), xor4]
    congr 1
    split <;> simp
theorem mulF_dbl : ∀ (n a b : Nat), a < 256 → mulF n (dbl a) b = dbl (mulF n a b)
  | 0, _, _, _ => by simp [mulF, dbl_zero]
  | n + 1, a, b, ha => by
    simp only [mulF]
    rw [dbl_xor (by split <;> omega) (mulF_lt n _ _ (dbl_lt ha)), mulF_dbl n (dbl a) _ (dbl_lt ha)]
    congr 1
    split <;> simp [dbl_zero]

theorem mul_lt {a : Nat} (b : Nat) (ha : a < 256) : mul a b < 256 := mulF_lt 8 a b ha
theorem mul_xor_right (a b c : Nat) : mul a (b ^^^ c) = mul a b ^^^ mul a c := mulF_xor_right 8 a b c
theorem mul_xor_left {a b : Nat} (c : Nat) (ha : a < 256) (hb : b < 256) : mul (a ^^^ b) c = mul a c ^^^ mul b c := mulF_xor_left 8 a b c ha hb
theorem mul_zero_right (a : Nat) : mul a 0 = 0 := mulF_zero_right 8 a
theorem mul_zero_left (a : Nat) : mul 0 a = 0 := mulF_zero_left 8 a
theorem one_mul_all : (allB 256 fun a => mul 1 a == a) = true := by decide +kernel
theorem one_mul {a : Nat} (ha : a < 256) : mul 1 a = a := by simpa using allB_at one_mul_all ha
theorem mulF_swap (c : Nat) : ∀ (n a b : Nat), a < 256 → mul (mulF n a b) c = mulF n (mul a c) b
  | 0, _, _, _ => by simp [mulF, mul_zero_left]
  | n + 1, a, b, ha => by
    simp only [mulF]
    rw [mul_xor_left c (by split <;> omega) (mulF_lt n _ _ (dbl_lt ha)), mulF_swap c n (dbl a) _ (dbl_lt ha)]
    have : mul (dbl a) c = dbl (mul a c) := mulF_dbl 8 a c ha
    rw [this]
    congr 1
    split <;> simp [mul_zero_left]
theorem mul_swap {a : Nat} (b c : Nat) (ha : a < 256) : mul (mul a b) c = mul (mul a c) b := mulF_swap c 8 a b ha
theorem mul_comm {a b : Nat} (ha : a < 256) (hb : b < 256) : mul a b = mul b a := by
  have h := mul_swap (a := 1) a b (by omega)
  rwa [one_mul ha, one_mul hb] at h
theorem mul_assoc {a b c : Nat} (ha : a < 256) (hb : b < 256) (hc : c < 256) : mul (mul a b) c = mul a (mul b c) := by
  rw [mul_comm ha (mul_lt c hb), mul_swap c a hb, mul_comm hb ha]
theorem mul_one {a : Nat} (ha : a < 256) : mul a 1 = a := by rw [mul_comm ha (by omega), one_mul ha]
theorem mul_dbl_left {a : Nat} (b : Nat) (ha : a < 256) : mul (dbl a) b = dbl (mul a b) := mulF_dbl 8 a b ha
theorem mul_dbl_right {a b : Nat} (ha : a < 256) (hb : b < 256) : mul a (dbl b) = dbl (mul a b) := by
  rw [mul_comm ha (dbl_lt hb), mul_dbl_left a hb, mul_comm hb ha]
theorem mul_two {a : Nat} (ha : a < 256) : mul a 2 = dbl a := by
  have : (2 : Nat) = dbl 1 := rfl
  rw [this, mul_dbl_right ha (by omega), mul_one ha]

/-- Some inverse, looked for. -/
def invL (a : Nat) : Nat := ((List.range 256).find? fun i => mul a i == 1).getD 0
theorem inv_all : (allB 256 fun a => a == 0 || (decide (invL a < 256) && mul a (invL a) == 1)) = true := by decide +kernel
theorem inv_ok {a : Nat} (ha : a < 256) (h : a ≠ 0) : invL a < 256 ∧ mul a (invL a) = 1 := by
  have := allB_at inv_all ha
  simpa [h] using this
theorem mul_eq_zero {a b : Nat} (ha : a < 256) (hb : b < 256) (h : mul a b = 0) : a = 0 ∨ b = 0 := by
  by_cases h0 : a = 0
  · exact .inl h0
  · obtain ⟨hi, hm⟩ := inv_ok ha h0
    refine .inr ?_
    have h1 : mul (invL a) (mul a b) = b := by rw [← mul_assoc hi ha hb, mul_comm hi ha, hm, one_mul hb]
    rw [h, mul_zero_right] at h1
    exact h1.symm
theorem xor_self_zero {a b : Nat} (h : a ^^^ b = 0) : a = b := by
  have : a ^^^ b ^^^ b = b := by rw [h]; simp
  rwa [Nat.xor_assoc, Nat.xor_self, Nat.xor_zero] at this

/-- Powers of two. -/
def pw : Nat → Nat
  | 0 => 1
  | n + 1 => dbl (pw n)
theorem pw_lt : ∀ n, pw n < 256
  | 0 => by simp [pw]
  | n + 1 => dbl_lt (pw_lt n)
theorem pw_add : ∀ m n, mul (pw m) (pw n) = pw (m + n)
  | m, 0 => by rw [pw, mul_one (pw_lt m)]; rfl
  | m, n + 1 => by rw [pw, mul_dbl_right (pw_lt m) (pw_lt n), pw_add m n]; rfl
def pwIt : Nat → Nat → Nat
  | 0, a => a
  | n + 1, a => pwIt n (dbl a)
theorem pwIt_dbl : ∀ n a, pwIt n (dbl a) = dbl (pwIt n a)
  | 0, _ => rfl
  | n + 1, a => by simp only [pwIt]; rw [pwIt_dbl n (dbl a)]
theorem pwIt_pw : ∀ n, pwIt n 1 = pw n
  | 0 => rfl
  | n + 1 => by simp only [pwIt, pw]; rw [pwIt_dbl n 1, pwIt_pw n]
theorem pwIt_add : ∀ m n a, pwIt n (pwIt m a) = pwIt (m + n) a
  | 0, n, a => by simp [pwIt]
  | m + 1, n, a => by rw [Nat.add_right_comm]; simp only [pwIt]; exact pwIt_add m n (dbl a)
theorem pw255 : pw 255 = 1 := by rw [← pwIt_pw]; decide +kernel
theorem pw_period (n : Nat) : pw (n + 255) = pw n := by rw [← pw_add, pw255, mul_one (pw_lt n)]
theorem pw_mul255 (n : Nat) : ∀ k, pw (n + 255 * k) = pw n
  | 0 => rfl
  | k + 1 => by rw [Nat.mul_succ, ← Nat.add_assoc, pw_period, pw_mul255 n k]
theorem pw_mod (n : Nat) : pw (n % 255) = pw n := by
  conv => rhs; rw [← Nat.mod_add_div n 255]
  rw [pw_mul255]
theorem pw_ne_one_all : (allB 255 fun n => n == 0 || pwIt n 1 != 1) = true := by decide +kernel
theorem pw_eq_one {n : Nat} (h : n < 255) (h1 : pw n = 1) : n = 0 := by
  have := allB_at pw_ne_one_all h
  rw [pwIt_pw, h1] at this
  simpa using this
theorem pw_ne_zero (n : Nat) : pw n ≠ 0 := by
  intro h
  have h1 : mul (pw n) (pw (255 * (n + 1) - n)) = 1 := by
    rw [pw_add]
    have : n + (255 * (n + 1) - n) = 0 + 255 * (n + 1) := by omega
    rw [this, pw_mul255]; rfl
  rw [h, mul_zero_left] at h1
  omega
theorem pw_inj {m n : Nat} (hm : m < 255) (hn : n < 255) (h : pw m = pw n) : m = n := by
  suffices key : ∀ m n : Nat, m ≤ n → n < 255 → pw m = pw n → m = n by
    rcases Nat.le_total m n with hl | hl
    · exact key m n hl hn h
    · exact (key n m hl hm h.symm).symm
  intro m n hl hn h
  have h1 : mul (pw m) (pw (n - m)) = mul (pw m) 1 := by
    rw [pw_add, mul_one (pw_lt m), Nat.add_sub_cancel' hl, h]
  have h2 : mul (pw m) (pw (n - m) ^^^ 1) = 0 := by rw [mul_xor_right, h1, Nat.xor_self]
  rcases mul_eq_zero (pw_lt m) (xor_lt _ _ (pw_lt _) (by omega)) h2 with h3 | h3
  · exact absurd h3 (pw_ne_zero m)
  · have := pw_eq_one (by omega) (xor_self_zero h3)
    omega
end Go.Proofs.YtmckgdjipkkklaaDoor
