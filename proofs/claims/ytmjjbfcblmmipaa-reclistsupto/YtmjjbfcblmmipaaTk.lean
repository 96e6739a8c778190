/- Taking numbers out of bytes: plain mathematics, no program. -/
import Derived.Test.YtmjjbfcblmmipaaNum
import Derived.Laws.BitsAllLaws
namespace Go.Proofs.Ytmjjbfcblmmipaa
set_option linter.unusedVariables false
set_option linter.unusedSimpArgs false

/-- What digits to the base 256 are worth. -/
def val (l : List Int) : Int := l.foldl (fun a x => a * 256 + x) 0
theorem val_nil : val [] = 0 := rfl
theorem val_snoc (l : List Int) (x : Int) : val (l ++ [x]) = val l * 256 + x := by simp [val]
theorem take_snoc {l : List Int} {k : Nat} {x : Int} (h : l[k]? = some x) : l.take (k + 1) = l.take k ++ [x] := by
  obtain ⟨hk, rfl⟩ := List.getElem?_eq_some_iff.1 h
  exact List.take_succ_eq_append_getElem hk
theorem val_lt : ∀ (k : Nat) (l : List Int), Ran l → l.length = k → 0 ≤ val l ∧ val l < 256 ^ k
  | 0, l, _, h => by
    have : l = [] := List.eq_nil_of_length_eq_zero h
    subst this; simp [val]
  | k + 1, l, hr, h => by
    have hne : l ≠ [] := by intro e; rw [e] at h; cases h
    have e : l = l.dropLast ++ [l.getLast hne] := (List.dropLast_concat_getLast hne).symm
    have hx := hr _ (List.getLast_mem hne)
    have ih := val_lt k l.dropLast (hr.sub fun x hx => (List.dropLast_sublist l).mem hx) (by simp [h])
    rw [e, val_snoc, Int.pow_succ]
    omega
theorem val_be : ∀ (k : Nat) (n : Int), 0 ≤ n → n < 256 ^ k → val (be k n) = n
  | 0, n, h, h1 => by
    have : n = 0 := by simp at h1; omega
    subst this; rfl
  | k + 1, n, h, h1 => by
    rw [be, val_snoc, val_be k (n / 256) (by omega) (by rw [Int.pow_succ] at h1; omega)]
    omega
theorem pow256 (k : Nat) (h : k ≤ 8) : (256 : Int) ^ k ≤ 18446744073709551616 := by
  match k, h with
  | 0, _ => decide
  | 1, _ => decide
  | 2, _ => decide
  | 3, _ => decide
  | 4, _ => decide
  | 5, _ => decide
  | 6, _ => decide
  | 7, _ => decide
  | 8, _ => decide
theorem pow256' (k : Nat) (h : k ≤ 7) : (256 : Int) ^ k ≤ 72057594037927936 := by
  match k, h with
  | 0, _ => decide
  | 1, _ => decide
  | 2, _ => decide
  | 3, _ => decide
  | 4, _ => decide
  | 5, _ => decide
  | 6, _ => decide
  | 7, _ => decide
theorem nb_of_lt : ∀ (k : Nat) (v : Int), k ≤ 8 → v < 256 ^ k → nb v ≤ k
  | 0, v, _, h => by
    have : v < 1 := by simpa using h
    simp [nb, this]
  | k + 1, v, hk, h => by
    by_cases h1 : v < 1
    · simp [nb, h1]
    · have hp := pow256 (k + 1) hk
      rw [nb_div v (by omega) (by omega)]
      have := nb_of_lt k (v / 256) (by omega) (by rw [Int.pow_succ] at h; omega)
      omega
theorem lt_of_nb : ∀ (k : Nat) (v : Int), 0 ≤ v → v < 18446744073709551616 → nb v = k → v < 256 ^ k
  | 0, v, h0, h1, h => by
    by_cases hv : v < 1
    · simp; omega
    · have := nb_pos v (by omega); omega
  | k + 1, v, h0, h1, h => by
    have hv : 1 ≤ v := by
      by_cases hv : v < 1
      · simp [nb, hv] at h
      · omega
    have := nb_div v hv h1
    have ih := lt_of_nb k (v / 256) (by omega) (by omega) (by omega)
    rw [Int.pow_succ]; omega

/-- The number at a place: it, the place behind it, the error. -/
def tkN (xs : List Int) (i : Nat) : Int × Int × Int :=
  match xs[i]? with
  | none => (0, 0, 5)
  | some b =>
    if b < 248 then (b, (i : Int) + 1, 0)
    else if xs.length < i + 1 + (b - 247).toNat then (0, 0, 5)
    else if val ((xs.drop (i + 1)).take (b - 247).toNat) < 248 ∨ nb (val ((xs.drop (i + 1)).take (b - 247).toNat)) < (b - 247).toNat then (0, 0, 3)
    else (val ((xs.drop (i + 1)).take (b - 247).toNat), (i : Int) + 1 + (b - 247), 0)
def tk (xs : List Int) (i : Int) : Int × Int × Int := if i < 0 ∨ (xs.length : Int) < i then (0, 0, 1) else tkN xs i.toNat

theorem tk_arg {xs : List Int} {i : Int} (h : i < 0 ∨ (xs.length : Int) < i) : tk xs i = (0, 0, 1) := by simp [tk, h]
theorem tk_nat {xs : List Int} {i : Nat} (h : i ≤ xs.length) : tk xs (i : Int) = tkN xs i := by
  unfold tk; rw [if_neg (by omega), Int.toNat_natCast]
theorem tkN_end {xs : List Int} {i : Nat} (h : i = xs.length) : tkN xs i = (0, 0, 5) := by
  have : xs[i]? = none := List.getElem?_eq_none (by omega)
  simp [tkN, this]
theorem tkN_small {xs : List Int} {i : Nat} {b : Int} (h : xs[i]? = some b) (hb : b < 248) : tkN xs i = (b, (i : Int) + 1, 0) := by simp [tkN, h, hb]
theorem tkN_short {xs : List Int} {i : Nat} {b : Int} (h : xs[i]? = some b) (hb : ¬ b < 248) (hs : xs.length < i + 1 + (b - 247).toNat) : tkN xs i = (0, 0, 5) := by simp [tkN, h, hb, hs]
theorem tkN_form {xs : List Int} {i : Nat} {b : Int} (h : xs[i]? = some b) (hb : ¬ b < 248) (hs : ¬ xs.length < i + 1 + (b - 247).toNat)
    (hf : val ((xs.drop (i + 1)).take (b - 247).toNat) < 248 ∨ nb (val ((xs.drop (i + 1)).take (b - 247).toNat)) < (b - 247).toNat) : tkN xs i = (0, 0, 3) := by
  simp only [tkN, h, hb, hs, if_false]; rw [if_pos hf]
theorem tkN_ok {xs : List Int} {i : Nat} {b : Int} (h : xs[i]? = some b) (hb : ¬ b < 248) (hs : ¬ xs.length < i + 1 + (b - 247).toNat)
    (hf : ¬ (val ((xs.drop (i + 1)).take (b - 247).toNat) < 248 ∨ nb (val ((xs.drop (i + 1)).take (b - 247).toNat)) < (b - 247).toNat)) :
    tkN xs i = (val ((xs.drop (i + 1)).take (b - 247).toNat), (i : Int) + 1 + (b - 247), 0) := by
  simp only [tkN, h, hb, hs, if_false]; rw [if_neg hf]

/-- A number's bytes are taken back. -/
theorem tkN_num (pre post : List Int) (n : Int) (h0 : 0 ≤ n) (h1 : n ≤ 18446744073709551615) : tkN (pre ++ (num n ++ post)) pre.length = (n, (pre.length : Int) + (num n).length, 0) := by
  by_cases h : n < 248
  · rw [num_small n h]
    have e : (pre ++ ([n] ++ post))[pre.length]? = some n := by simp
    rw [tkN_small e h]; simp
  · rw [num_great n h]
    have e : (pre ++ ((247 + (nb n : Int)) :: be (nb n) n ++ post))[pre.length]? = some (247 + (nb n : Int)) := by simp
    have hp := nb_pos n (by omega)
    have ek : (247 + (nb n : Int) - 247).toNat = nb n := by omega
    have hd : ((pre ++ ((247 + (nb n : Int)) :: be (nb n) n ++ post)).drop (pre.length + 1)).take (nb n) = be (nb n) n := by
      rw [List.drop_append, List.drop_eq_nil_of_le (by omega), Nat.add_sub_cancel_left]
      simp [be_length]
    have hv : val (be (nb n) n) = n := val_be _ n h0 (lt_of_nb (nb n) n h0 (by omega) rfl)
    rw [tkN_ok e (by omega) (by rw [ek]; simp [be_length]; omega) (by rw [ek, hd, hv]; omega), ek, hd, hv]
    simp [be_length]; omega
theorem tk_num (pre post : List Int) (n : Int) (h0 : 0 ≤ n) (h1 : n ≤ 18446744073709551615) : tk (pre ++ (num n ++ post)) (pre.length : Int) = (n, (pre.length : Int) + (num n).length, 0) := by
  rw [tk_nat (by simp), tkN_num pre post n h0 h1]

/-- Eight digits further, and one digit there. -/
theorem or_u64 (x b : Int) (hx : 0 ≤ x) (hx1 : x < 72057594037927936) (hb : 0 ≤ b) (hb1 : b ≤ 255) : bits .or .u64 (x * 256) b = x * 256 + b := by
  obtain ⟨x, rfl⟩ := Int.eq_ofNat_of_zero_le hx
  obtain ⟨b, rfl⟩ := Int.eq_ofNat_of_zero_le hb
  have e : (2 : Nat) ^ 8 * x + b = 2 ^ 8 * x ||| b := Nat.two_pow_add_eq_or_of_lt (by omega) x
  have e2 : x * 256 ||| b = x * 256 + b := by rw [Nat.mul_comm]; exact e.symm
  have h := u64_or_nat (x * 256) b (by omega) (by omega)
  rw [e2] at h
  simpa using h
end Go.Proofs.Ytmjjbfcblmmipaa
