/- Numbers as bytes: plain mathematics, no program. -/
import Derived.Test.YtmjjbfcblmmipaaBase
import Derived.Lib.BitFns
namespace Go.Proofs.Ytmjjbfcblmmipaa
set_option linter.unusedVariables false
set_option linter.unusedSimpArgs false

/-- The last k digits to the base 256, the greatest first. -/
def be : Nat → Int → List Int
  | 0, _ => []
  | k + 1, n => be k (n / 256) ++ [n % 256]
theorem be_length : ∀ (k : Nat) (n : Int), (be k n).length = k
  | 0, _ => rfl
  | k + 1, n => by simp [be, be_length k]
theorem be_ran : ∀ (k : Nat) (n : Int), Ran (be k n)
  | 0, _ => Ran.nil
  | k + 1, n => (be_ran k _).append (fun x hx => by
      have : x = n % 256 := by simpa using hx
      omega)
/-- How many digits a number has. -/
def nb (n : Int) : Nat :=
  if n < 1 then 0 else if n < 256 then 1 else if n < 65536 then 2 else if n < 16777216 then 3 else if n < 4294967296 then 4 else if n < 1099511627776 then 5
  else if n < 281474976710656 then 6 else if n < 72057594037927936 then 7 else 8
theorem nb_le (n : Int) : nb n ≤ 8 := by unfold nb; repeat' split <;> try omega
theorem nb_pos (n : Int) (h : 1 ≤ n) : 1 ≤ nb n := by unfold nb; repeat' split <;> try omega
theorem nb_div (n : Int) (h : 1 ≤ n) (h1 : n < 18446744073709551616) : nb n = nb (n / 256) + 1 := by
  unfold nb
  rw [if_neg (show ¬ n < 1 by omega)]
  by_cases g1 : n < 256
  · rw [if_pos g1, if_pos (show n / 256 < 1 by omega)]
  rw [if_neg g1]
  by_cases g2 : n < 65536
  · rw [if_pos g2, if_neg (show ¬ n / 256 < 1 by omega), if_pos (show n / 256 < 256 by omega)]
  rw [if_neg g2]
  by_cases g3 : n < 16777216
  · rw [if_pos g3, if_neg (show ¬ n / 256 < 1 by omega), if_neg (show ¬ n / 256 < 256 by omega), if_pos (show n / 256 < 65536 by omega)]
  rw [if_neg g3]
  by_cases g4 : n < 4294967296
  · rw [if_pos g4, if_neg (show ¬ n / 256 < 1 by omega), if_neg (show ¬ n / 256 < 256 by omega), if_neg (show ¬ n / 256 < 65536 by omega), if_pos (show n / 256 < 16777216 by omega)]
  rw [if_neg g4]
  by_cases g5 : n < 1099511627776
  · rw [if_pos g5, if_neg (show ¬ n / 256 < 1 by omega), if_neg (show ¬ n / 256 < 256 by omega), if_neg (show ¬ n / 256 < 65536 by omega), if_neg (show ¬ n / 256 < 16777216 by omega), if_pos (show n / 256 < 4294967296 by omega)]
  rw [if_neg g5]
  by_cases g6 : n < 281474976710656
  · rw [if_pos g6, if_neg (show ¬ n / 256 < 1 by omega), if_neg (show ¬ n / 256 < 256 by omega), if_neg (show ¬ n / 256 < 65536 by omega), if_neg (show ¬ n / 256 < 16777216 by omega), if_neg (show ¬ n / 256 < 4294967296 by omega), if_pos (show n / 256 < 1099511627776 by omega)]
  rw [if_neg g6]
  by_cases g7 : n < 72057594037927936
  · rw [if_pos g7, if_neg (show ¬ n / 256 < 1 by omega), if_neg (show ¬ n / 256 < 256 by omega), if_neg (show ¬ n / 256 < 65536 by omega), if_neg (show ¬ n / 256 < 16777216 by omega), if_neg (show ¬ n / 256 < 4294967296 by omega), if_neg (show ¬ n / 256 < 1099511627776 by omega), if_pos (show n / 256 < 281474976710656 by omega)]
  rw [if_neg g7]
  rw [if_neg (show ¬ n / 256 < 1 by omega), if_neg (show ¬ n / 256 < 256 by omega), if_neg (show ¬ n / 256 < 65536 by omega), if_neg (show ¬ n / 256 < 16777216 by omega), if_neg (show ¬ n / 256 < 4294967296 by omega), if_neg (show ¬ n / 256 < 1099511627776 by omega), if_neg (show ¬ n / 256 < 281474976710656 by omega), if_pos (show n / 256 < 72057594037927936 by omega)]

/-- The bytes of a number. -/
def num (n : Int) : List Int := if n < 248 then [n] else (247 + (nb n : Int)) :: be (nb n) n
theorem num_small (n : Int) (h : n < 248) : num n = [n] := by simp [num, h]
theorem num_great (n : Int) (h : ¬ n < 248) : num n = (247 + (nb n : Int)) :: be (nb n) n := by simp [num, h]
theorem num_length (n : Int) : (num n).length = if n < 248 then 1 else nb n + 1 := by
  unfold num; split <;> simp [be_length]
theorem num_le (n : Int) : (num n).length ≤ 9 := by
  rw [num_length]; have := nb_le n; split <;> omega
theorem num_pos (n : Int) : 1 ≤ (num n).length := by
  rw [num_length]; split <;> omega
theorem num_ran (n : Int) (h : 0 ≤ n) : Ran (num n) := by
  unfold num
  split
  · intro x hx
    have : x = n := by simpa using hx
    omega
  · intro x hx
    rcases List.mem_cons.1 hx with rfl | hx
    · have := nb_le n; omega
    · exact be_ran _ _ x hx

/-- The bytes of numbers, one behind the other. -/
def nums (ls : List Int) : List Int := (ls.map num).flatten
theorem nums_snoc {ls : List Int} {k : Nat} {x : Int} (h : ls[k]? = some x) : nums (ls.take (k + 1)) = nums (ls.take k) ++ num x := by
  obtain ⟨hk, rfl⟩ := List.getElem?_eq_some_iff.1 h
  rw [List.take_succ_eq_append_getElem hk]
  simp only [nums, List.map_append, List.flatten_append, List.map_cons, List.map_nil, List.flatten_cons, List.flatten_nil, List.append_nil]
theorem nums_ran (ls : List Int) (h : ∀ x ∈ ls, 0 ≤ x) : Ran (nums ls) := by
  intro x hx
  obtain ⟨l, hl, hxl⟩ := List.mem_flatten.1 hx
  obtain ⟨y, hy, rfl⟩ := List.mem_map.1 hl
  exact num_ran y (h y hy) x hxl

/-- A slice of unsigned numbers that reads as a list; nil let in. -/
def Us (w : World) (A : Option Addr) (n : Nat) (ls : List Int) : Prop := Rd w A n (ls.map (Value.int .u64)) ∧ ∀ x ∈ ls, 0 ≤ x ∧ x ≤ 18446744073709551615
section
variable {w w' : World} {A : Option Addr} {n : Nat} {ls : List Int}
theorem Us.len (h : Us w A n ls) : ls.length = n := by have := h.1.1; simpa using this
theorem Us.at_ {k : Nat} (h : Us w A n ls) (hk : k < n) : ∃ b off x, A = some ⟨b, off, none⟩ ∧ b < w.heap.size ∧ 0 ≤ x ∧ x ≤ 18446744073709551615 ∧ w.cell? ⟨b, off + k, none⟩ = some (.int .u64 x) ∧ RowKit.Hid (ls[k]? = some x) := by
  obtain ⟨b, off, u, rfl, hb, hc, HU⟩ := h.1.at_ hk
  have hk' : k < ls.length := by have := h.len; omega
  have hx := h.2 ls[k] (List.getElem_mem hk')
  have hu := HU.out
  rw [List.getElem?_map, List.getElem?_eq_getElem hk'] at hu
  simp only [Option.map_some, Option.some.injEq] at hu
  subst hu
  exact ⟨b, off, ls[k], rfl, hb, hx.1, hx.2, hc, List.getElem?_eq_getElem hk'⟩
theorem Us.keep (h : Us w A n ls) (hk : RowKit.Below w.heap.size w w') : Us w' A n ls := ⟨h.1.keep hk, h.2⟩
end

theorem bitLen_pos (x : Nat) (h0 : x ≠ 0) (h : x < 256) : 1 ≤ Lib.bitLen x ∧ Lib.bitLen x ≤ 8 := by
  refine ⟨?_, Lib.bitLen_le8 ⟨x, h⟩⟩
  have := Lib.bitLen_half x h0 (by omega)
  omega
theorem digits_nb (x : Nat) (h : x < 18446744073709551616) : (Lib.bitLen x + 7) / 8 = nb (x : Int) := by
  unfold nb
  by_cases h0 : x = 0
  · subst h0; decide
  · by_cases h1 : x < 256
    · have := bitLen_pos x h0 h1
      rw [if_neg (by omega), if_pos (by omega)]; omega
    · rw [if_neg (by omega), if_neg (by omega)]
      by_cases h2 : x < 65536
      · have e := Lib.bitLen_shift8 x (by omega) h
        have := bitLen_pos (x / 256) (by omega) (by omega)
        rw [if_pos (by omega)]; omega
      · rw [if_neg (by omega)]
        by_cases h3 : x < 16777216
        · have e := Lib.bitLen_shift16 x (by omega) h
          have := bitLen_pos (x / 65536) (by omega) (by omega)
          rw [if_pos (by omega)]; omega
        · rw [if_neg (by omega)]
          by_cases h4 : x < 4294967296
          · have e := Lib.bitLen_shift24 x (by omega) h
            have := bitLen_pos (x / 16777216) (by omega) (by omega)
            rw [if_pos (by omega)]; omega
          · rw [if_neg (by omega)]
            by_cases h5 : x < 1099511627776
            · have e := Lib.bitLen_shift32 x (by omega) h
              have := bitLen_pos (x / 4294967296) (by omega) (by omega)
              rw [if_pos (by omega)]; omega
            · rw [if_neg (by omega)]
              by_cases h6 : x < 281474976710656
              · have e := Lib.bitLen_shift40 x (by omega) h
                have := bitLen_pos (x / 1099511627776) (by omega) (by omega)
                rw [if_pos (by omega)]; omega
              · rw [if_neg (by omega)]
                by_cases h7 : x < 72057594037927936
                · have e := Lib.bitLen_shift48 x (by omega) h
                  have := bitLen_pos (x / 281474976710656) (by omega) (by omega)
                  rw [if_pos (by omega)]; omega
                · have e := Lib.bitLen_shift56 x (by omega) h
                  have := bitLen_pos (x / 72057594037927936) (by omega) (by omega)
                  rw [if_neg (by omega)]; omega

/-- The last digits of more digits. -/
theorem be_drop : ∀ (k j : Nat) (n : Int), (be (j + k) n).drop j = be k n
  | 0, j, n => List.drop_eq_nil_of_le (by rw [be_length]; omega)
  | k + 1, j, n => by
    show List.drop j (be (j + k) (n / 256) ++ [n % 256]) = be k (n / 256) ++ [n % 256]
    rw [List.drop_append_of_le_length (by rw [be_length]; omega), be_drop k j]

theorem be8 (n : Int) : be 8 n = [n / 72057594037927936 % 256, n / 281474976710656 % 256, n / 1099511627776 % 256, n / 4294967296 % 256, n / 16777216 % 256, n / 65536 % 256, n / 256 % 256, n % 256] := by
  simp only [be, List.nil_append, List.cons_append]
  have d1 : n / 256 / 256 = n / 65536 := by omega
  have d2 : n / 65536 / 256 = n / 16777216 := by omega
  have d3 : n / 16777216 / 256 = n / 4294967296 := by omega
  have d4 : n / 4294967296 / 256 = n / 1099511627776 := by omega
  have d5 : n / 1099511627776 / 256 = n / 281474976710656 := by omega
  have d6 : n / 281474976710656 / 256 = n / 72057594037927936 := by omega
  rw [d1, d2, d3, d4, d5, d6]
end Go.Proofs.Ytmjjbfcblmmipaa
