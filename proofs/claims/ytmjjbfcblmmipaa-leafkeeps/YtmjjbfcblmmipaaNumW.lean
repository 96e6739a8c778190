/- Numbers as bytes: pack.digits, pack.appendNumber, pack.Number, the reference's Number. -/
import Derived.Test.YtmjjbfcblmmipaaBase
import Derived.Lib.BitFns
import Derived.Shelf.Strconv.Itoa0
import Derived.Ground.SlbCloneProg
import Derived.Shelf.Bytes.SlClone
import Derived.Test.YtmjjbfcblmmipaaProg
import Derived.Test.YtmjjbfcblmmipaaMem
import Derived.LoopN
namespace Go.Proofs.Ytmjjbfcblmmipaa
set_option linter.unusedVariables false
set_option linter.unusedSimpArgs false

/-- The last k digits to the base 256, the greatest first. -/
def be : Nat → Int → List Int
  | 0, _ => []
  | k + 1, n => be k (n / 256) ++ [n % 256]
theorem be_length : ∀ (k : Nat) (n : Int), (be k n).length = k
  | 0, _ => rfl
  | k + 1, n => by simp [be, be_length k]
theorem be_ran : ∀ (k : Nat) (n : Int), Ran (be k n)
  | 0, _ => Ran.nil
  | k + 1, n => (be_ran k _).append (fun x hx => by
      have : x = n % 256 := by simpa using hx
      omega)
/-- How many digits a number has. -/
def nb (n : Int) : Nat :=
  if n < 1 then 0 else if n < 256 then 1 else if n < 65536 then 2 else if n < 16777216 then 3 else if n < 4294967296 then 4 else if n < 1099511627776 then 5
  else if n < 281474976710656 then 6 else if n < 72057594037927936 then 7 else 8
theorem nb_le (n : Int) : nb n ≤ 8 := by unfold nb; repeat' split <;> try omega
theorem nb_pos (n : Int) (h : 1 ≤ n) : 1 ≤ nb n := by unfold nb; repeat' split <;> try omega
theorem nb_div (n : Int) (h : 1 ≤ n) (h1 : n < 18446744073709551616) : nb n = nb (n / 256) + 1 := by
  unfold nb
  rw [if_neg (show ¬ n < 1 by omega)]
  by_cases g1 : n < 256
  · rw [if_pos g1, if_pos (show n / 256 < 1 by omega)]
  rw [if_neg g1]
  by_cases g2 : n < 65536
  · rw [if_pos g2, if_neg (show ¬ n / 256 < 1 by omega), if_pos (show n / 256 < 256 by omega)]
  rw [if_neg g2]
  by_cases g3 : n < 16777216
  · rw [if_pos g3, if_neg (show ¬ n / 256 < 1 by omega), if_neg (show ¬ n / 256 < 256 by omega), if_pos (show n / 256 < 65536 by omega)]
  rw [if_neg g3]
  by_cases g4 : n < 4294967296
  · rw [if_pos g4, if_neg (show ¬ n / 256 < 1 by omega), if_neg (show ¬ n / 256 < 256 by omega), if_neg (show ¬ n / 256 < 65536 by omega), if_pos (show n / 256 < 16777216 by omega)]
  rw [if_neg g4]
  by_cases g5 : n < 1099511627776
  · rw [if_pos g5, if_neg (show ¬ n / 256 < 1 by omega), if_neg (show ¬ n / 256 < 256 by omega), if_neg (show ¬ n / 256 < 65536 by omega), if_neg (show ¬ n / 256 < 16777216 by omega), if_pos (show n / 256 < 4294967296 by omega)]
  rw [if_neg g5]
  by_cases g6 : n < 281474976710656
  · rw [if_pos g6, if_neg (show ¬ n / 256 < 1 by omega), if_neg (show ¬ n / 256 < 256 by omega), if_neg (show ¬ n / 256 < 65536 by omega), if_neg (show ¬ n / 256 < 16777216 by omega), if_neg (show ¬ n / 256 < 4294967296 by omega), if_pos (show n / 256 < 1099511627776 by omega)]
  rw [if_neg g6]
  by_cases g7 : n < 72057594037927936
  · rw [if_pos g7, if_neg (show ¬ n / 256 < 1 by omega), if_neg (show ¬ n / 256 < 256 by omega), if_neg (show ¬ n / 256 < 65536 by omega), if_neg (show ¬ n / 256 < 16777216 by omega), if_neg (show ¬ n / 256 < 4294967296 by omega), if_neg (show ¬ n / 256 < 1099511627776 by omega), if_pos (show n / 256 < 281474976710656 by omega)]
  rw [if_neg g7]
  rw [if_neg (show ¬ n / 256 < 1 by omega), if_neg (show ¬ n / 256 < 256 by omega), if_neg (show ¬ n / 256 < 65536 by omega), if_neg (show ¬ n / 256 < 16777216 by omega), if_neg (show ¬ n / 256 < 4294967296 by omega), if_neg (show ¬ n / 256 < 1099511627776 by omega), if_neg (show ¬ n / 256 < 281474976710656 by omega), if_pos (show n / 256 < 72057594037927936 by omega)]

/-- The bytes of a number. -/
def num (n : Int) : List Int := if n < 248 then [n] else (247 + (nb n : Int)) :: be (nb n) n
theorem num_small (n : Int) (h : n < 248) : num n = [n] := by simp [num, h]
theorem num_great (n : Int) (h : ¬ n < 248) : num n = (247 + (nb n : Int)) :: be (nb n) n := by simp [num, h]
theorem num_length (n : Int) : (num n).length = if n < 248 then 1 else nb n + 1 := by
  unfold num; split <;> simp [be_length]
theorem num_le (n : Int) : (num n).length ≤ 9 := by
  rw [num_length]; have := nb_le n; split <;> omega
theorem num_pos (n : Int) : 1 ≤ (num n).length := by
  rw [num_length]; split <;> omega
theorem num_ran (n : Int) (h : 0 ≤ n) : Ran (num n) := by
  unfold num
  split
  · intro x hx
    have : x = n := by simpa using hx
    omega
  · intro x hx
    rcases List.mem_cons.1 hx with rfl | hx
    · have := nb_le n; omega
    · exact be_ran _ _ x hx

/-- The bytes of numbers, one behind the other. -/
def nums (ls : List Int) : List Int := (ls.map num).flatten
theorem nums_snoc {ls : List Int} {k : Nat} {x : Int} (h : ls[k]? = some x) : nums (ls.take (k + 1)) = nums (ls.take k) ++ num x := by
  obtain ⟨hk, rfl⟩ := List.getElem?_eq_some_iff.1 h
  rw [List.take_succ_eq_append_getElem hk]
  simp only [nums, List.map_append, List.flatten_append, List.map_cons, List.map_nil, List.flatten_cons, List.flatten_nil, List.append_nil]
theorem nums_ran (ls : List Int) (h : ∀ x ∈ ls, 0 ≤ x) : Ran (nums ls) := by
  intro x hx
  obtain ⟨l, hl, hxl⟩ := List.mem_flatten.1 hx
  obtain ⟨y, hy, rfl⟩ := List.mem_map.1 hl
  exact num_ran y (h y hy) x hxl

/-- A slice of unsigned numbers that reads as a list; nil let in. -/
def Us (w : World) (A : Option Addr) (n : Nat) (ls : List Int) : Prop := Rd w A n (ls.map (Value.int .u64)) ∧ ∀ x ∈ ls, 0 ≤ x ∧ x ≤ 18446744073709551615
section
variable {w w' : World} {A : Option Addr} {n : Nat} {ls : List Int}
theorem Us.len (h : Us w A n ls) : ls.length = n := by have := h.1.1; simpa using this
theorem Us.at_ {k : Nat} (h : Us w A n ls) (hk : k < n) : ∃ b off x, A = some ⟨b, off, none⟩ ∧ b < w.heap.size ∧ 0 ≤ x ∧ x ≤ 18446744073709551615 ∧ w.cell? ⟨b, off + k, none⟩ = some (.int .u64 x) ∧ RowKit.Hid (ls[k]? = some x) := by
  obtain ⟨b, off, u, rfl, hb, hc, HU⟩ := h.1.at_ hk
  have hk' : k < ls.length := by have := h.len; omega
  have hx := h.2 ls[k] (List.getElem_mem hk')
  have hu := HU.out
  rw [List.getElem?_map, List.getElem?_eq_getElem hk'] at hu
  simp only [Option.map_some, Option.some.injEq] at hu
  subst hu
  exact ⟨b, off, ls[k], rfl, hb, hx.1, hx.2, hc, List.getElem?_eq_getElem hk'⟩
theorem Us.keep (h : Us w A n ls) (hk : RowKit.Below w.heap.size w w') : Us w' A n ls := ⟨h.1.keep hk, h.2⟩
end

theorem bitLen_pos (x : Nat) (h0 : x ≠ 0) (h : x < 256) : 1 ≤ Lib.bitLen x ∧ Lib.bitLen x ≤ 8 := by
  refine ⟨?_, Lib.bitLen_le8 ⟨x, h⟩⟩
  have := Lib.bitLen_half x h0 (by omega)
  omega
theorem digits_nb (x : Nat) (h : x < 18446744073709551616) : (Lib.bitLen x + 7) / 8 = nb (x : Int) := by
  unfold nb
  by_cases h0 : x = 0
  · subst h0; decide
  · by_cases h1 : x < 256
    · have := bitLen_pos x h0 h1
      rw [if_neg (by omega), if_pos (by omega)]; omega
    · rw [if_neg (by omega), if_neg (by omega)]
      by_cases h2 : x < 65536
      · have e := Lib.bitLen_shift8 x (by omega) h
        have := bitLen_pos (x / 256) (by omega) (by omega)
        rw [if_pos (by omega)]; omega
      · rw [if_neg (by omega)]
        by_cases h3 : x < 16777216
        · have e := Lib.bitLen_shift16 x (by omega) h
          have := bitLen_pos (x / 65536) (by omega) (by omega)
          rw [if_pos (by omega)]; omega
        · rw [if_neg (by omega)]
          by_cases h4 : x < 4294967296
          · have e := Lib.bitLen_shift24 x (by omega) h
            have := bitLen_pos (x / 16777216) (by omega) (by omega)
            rw [if_pos (by omega)]; omega
          · rw [if_neg (by omega)]
            by_cases h5 : x < 1099511627776
            · have e := Lib.bitLen_shift32 x (by omega) h
              have := bitLen_pos (x / 4294967296) (by omega) (by omega)
              rw [if_pos (by omega)]; omega
            · rw [if_neg (by omega)]
              by_cases h6 : x < 281474976710656
              · have e := Lib.bitLen_shift40 x (by omega) h
                have := bitLen_pos (x / 1099511627776) (by omega) (by omega)
                rw [if_pos (by omega)]; omega
              · rw [if_neg (by omega)]
                by_cases h7 : x < 72057594037927936
                · have e := Lib.bitLen_shift48 x (by omega) h
                  have := bitLen_pos (x / 281474976710656) (by omega) (by omega)
                  rw [if_pos (by omega)]; omega
                · have e := Lib.bitLen_shift56 x (by omega) h
                  have := bitLen_pos (x / 72057594037927936) (by omega) (by omega)
                  rw [if_neg (by omega)]; omega

/-- The last digits of more digits. -/
theorem be_drop : ∀ (k j : Nat) (n : Int), (be (j + k) n).drop j = be k n
  | 0, j, n => List.drop_eq_nil_of_le (by rw [be_length]; omega)
  | k + 1, j, n => by
    show List.drop j (be (j + k) (n / 256) ++ [n % 256]) = be k (n / 256) ++ [n % 256]
    rw [List.drop_append_of_le_length (by rw [be_length]; omega), be_drop k j]

theorem be8 (n : Int) : be 8 n = [n / 72057594037927936 % 256, n / 281474976710656 % 256, n / 1099511627776 % 256, n / 4294967296 % 256, n / 16777216 % 256, n / 65536 % 256, n / 256 % 256, n % 256] := by
  simp only [be, List.nil_append, List.cons_append]
  have d1 : n / 256 / 256 = n / 65536 := by omega
  have d2 : n / 65536 / 256 = n / 16777216 := by omega
  have d3 : n / 16777216 / 256 = n / 4294967296 := by omega
  have d4 : n / 4294967296 / 256 = n / 1099511627776 := by omega
  have d5 : n / 1099511627776 / 256 = n / 281474976710656 := by omega
  have d6 : n / 281474976710656 / 256 = n / 72057594037927936 := by omega
  rw [d1, d2, d3, d4, d5, d6]
end Go.Proofs.Ytmjjbfcblmmipaa
namespace Go.Proofs
open Go.Shelf
def Try.lays129_ren : Go.Shelf.Ren := ⟨fun | 129 => 142 | n => n, fun | 53 => 22 | 3 => 3 | 4 => 4 | 46 => 126 | 5 => 5 | 9 => 9 | n => n, fun | n => n⟩
theorem Try.lays129 : Go.Proofs.Lays.n129 Try.prog Try.lays129_ren := {
  mixed := by kernel_rfl
  f129 := Try.func142.trans (congrArg some (by kernel_rfl))
  t3 := Try.underlying3
  a3 := Try.isAgg3
  z3 := Try.sizeOf3
  v3 := Try.zeroValue3
  t4 := Try.underlying4
  a4 := Try.isAgg4
  z4 := Try.sizeOf4
  v4 := Try.zeroValue4
  t5 := Try.underlying5
  a5 := Try.isAgg5
  z5 := Try.sizeOf5
  v5 := Try.zeroValue5
  t9 := Try.underlying9
  a9 := Try.isAgg9
  z9 := Try.sizeOf9
  v9 := Try.zeroValue9
  t46 := Try.underlying126
  a46 := Try.isAgg126
  z46 := Try.sizeOf126
  v46 := Try.zeroValue126
  t53 := Try.underlying22
  a53 := Try.isAgg22
  z53 := Try.sizeOf22
  v53 := Try.zeroValue22 }
theorem Try.bits_Len64 (x : Int) (w : World) (h0 : 0 ≤ x) (h1 : x ≤ 18446744073709551615) :
    Calls Try.prog 142 #[.int .u64 x] w fun e w' => e = .returned (.int .i64 (Lib.bitLen x.toNat)) ∧ w' = w := Any.bits_Len64 Try.lays129 x w h0 h1
def Try.laysSlK4_ren : Go.Shelf.Ren := ⟨fun | 4 => 94 | n => n, fun | 22 => 28 | 4 => 4 | 5 => 5 | n => n, fun | n => n⟩
theorem Try.laysSlK4 : Go.Proofs.SlLaysK.n4 Try.prog Try.laysSlK4_ren := {
  mixed := by kernel_rfl
  f4 := Try.func94.trans (congrArg some (by kernel_rfl))
  t4 := Try.underlying4
  a4 := Try.isAgg4
  z4 := Try.sizeOf4
  v4 := Try.zeroValue4
  t22 := Try.underlying28
  a22 := Try.isAgg28
  z22 := Try.sizeOf28
  v22 := Try.zeroValue28
  t5 := Try.underlying5
  i5 := by kernel_rfl }
open Go.RowKit Go.Lib in
theorem Try.bytes_Clone_at (a : Addr) (n c : Nat) (xs : List Int) (w : World) (hx : xs.length = n) (hbig : n ≤ 140737488355328) (hc : ∀ i, i < n → w.cell? (a.add i) = some (.int .u8 (xs.getD i 0))) :
    Calls Try.prog 94 #[.slice (some a) n c] w fun e w' => ∃ v', e = .returned v' ∧ w'.ownsRow w.heap.size 5 1 v' n (xs.map (Value.int .u8)) ∧ v' ≠ .slice none 0 0 ∧ Below w.heap.size w w' := Any.bytes_Clone_at Try.laysSlK4 a n c xs w hx hbig hc
open Go.RowKit Go.Lib in
theorem Try.bytes_Clone_nil (n c : Nat) (w : World) :
    Calls Try.prog 94 #[.slice none n c] w fun e w' => e = .returned (.slice none 0 0) ∧ w' = w := Any.bytes_Clone_nil Try.laysSlK4 n c w
end Go.Proofs
namespace Go.Proofs.Ytmjjbfcblmmipaa
set_option linter.unusedVariables false
set_option linter.unusedSimpArgs false
open Go.RowKit

theorem digits_any (n : Int) (w : World) (h0 : 0 ≤ n) (h1 : n ≤ 18446744073709551615) :
    Calls Try.prog 140 #[.int .u64 n] w fun e w' => e = .returned (.int .i64 (nb n)) ∧ w = w' := by
  obtain ⟨x, rfl⟩ := Int.eq_ofNat_of_zero_le h0
  have hd := digits_nb x (by omega)
  have hl := Lib.bitLen_le x 64 (by omega) (by omega)
  have HD := Lib.hid hd; clear hd
  go_enter Try.func140, Try.ntmps140
  go_wp2_with (go_at_call 142; refine (Try.bits_Len64 _ _ h0 h1).mono ?_; rintro e w' ⟨rfl, rfl⟩; rw [Int.toNat_natCast]; generalize Lib.bitLen x = bl at *)
  go_ret
  refine ⟨ret_int ?_, rfl⟩
  rw [← HD.out]
  omega

/-- One new byte, laid in a block of its own. -/
theorem rd_one (w : World) (k : Int) : Rd (w.alloc (.cells #[.int .u8 k] 5)) (some ⟨w.heap.size, 0, none⟩) 1 (By [k]) := by
  refine ⟨rfl, fun _ => ⟨_, _, rfl, by simp, fun j u hu => ?_⟩⟩
  match j, hu with
  | 0, hu => simp [By] at hu; subst hu; simp
theorem below_alloc (w : World) (o : Obj) : Below w.heap.size w (w.alloc o) := (Below.refl _ _).alloc (Nat.le_refl _) _

/-- What appending a number's bytes leaves. -/
def NumPost (base : Nat) (A : Option Addr) (n : Nat) (xs : List Int) (k : Int) (w : World) (e : Ending) (w' : World) : Prop :=
  ∃ A' c' n', e = .returned (.slice A' n' c') ∧ n' = n + (num k).length ∧ Own w' base 5 A' n' c' (By (xs ++ num k)) ∧ Grows w w' A A'

theorem appendNumber_small (A : Option Addr) (n c : Nat) (xs : List Int) (k : Int) (base : Nat) (w : World) (ho : Own w base 5 A n c (By xs)) (hb : base ≤ w.heap.size) (h0 : 0 ≤ k) (h1 : k < 248) (hn : n + 9 ≤ 140737488355328) :
    Calls Try.prog 134 #[.slice A n c, .int .u64 k] w (NumPost base A n xs k w) := by
  obtain ⟨i0, hi, hz0, hz1, hz2⟩ := info_parts info5
  have HN := Lib.hid (num_small k h1)
  have h2 : k ≤ 247 := by omega
  have hw : IntKind.u8.wrap k = k := by rw [IntKind.wrap_u8]; omega
  have ho2 := ho.alloc (.cells #[.int .u8 k] 5)
  go_enter Try.func134, Try.ntmps134
  go_wp2_with (at_builtin; refine wpList_append_rd rfl _ _ 28 rfl i0 (.int .u8 0) 1 Try.underlying28 hi hz0 hz1 hz2 rfl rfl ho2 (some ⟨w.heap.size, 0, none⟩) 1 1 (By [k]) rfl (rd_one w k) (By_one _) ?c1 ?c2 ?c3 ?_)
  case c1 => unfold maxLen; omega
  case c2 => omega
  case c3 => simp; omega
  intro A' c' w' ho3 hg
  rw [← By_append] at ho3
  go_wp2
  go_ret
  exact ⟨A', c', n + 1, by simp, by rw [HN.out]; rfl, by rw [HN.out]; exact ho3, Grows.pre (below_alloc w _) hg⟩

def wholeA (k : Int) : Array Value := #[.int .u8 (k / 72057594037927936), .int .u8 (k / 281474976710656 % 256), .int .u8 (k / 1099511627776 % 256), .int .u8 (k / 4294967296 % 256), .int .u8 (k / 16777216 % 256), .int .u8 (k / 65536 % 256), .int .u8 (k / 256 % 256), .int .u8 (k % 256)]
theorem wholeA_eq (k : Int) (h0 : 0 ≤ k) (h1 : k ≤ 18446744073709551615) : wholeA k = (By (be 8 k)).toArray := by
  rw [be8]
  have : k / 72057594037927936 % 256 = k / 72057594037927936 := by omega
  rw [this]; rfl

theorem arr79 : Try.prog.underlying 187 = some (.array (Try.prog.arrayLen 187) (Try.prog.elem 187)) := by kernel_rfl
theorem arrLen79 : Try.prog.arrayLen 187 = 8 := by kernel_rfl
theorem elem79 : Try.prog.elem 187 = 5 := by kernel_rfl
theorem slice79 (g d : Nat) (h1 : 1 ≤ d) (h8 : d ≤ 8) (W : World) :
    (Instr.sliceAt 187 (.pointer (some ⟨g, 0, none⟩)) (some (.int .i64 (8 - (d : Int)))) none none).run Try.prog W = .ok (.slice (some ⟨g, 8 - d, none⟩) d d) W := by
  rw [run_sliceAt_array_l (P := Try.prog) W 187 ⟨g, 0, none⟩ arr79 .i64 (8 - (d : Int)) (by omega) (by rw [arrLen79]; omega), elem79, Try.sizeOf5, arrLen79]
  have e : (8 - (d : Int)).toNat = 8 - d := by omega
  simp only [slicedAt, Result.andThen, e]
  rw [if_neg (by omega)]
  have e2 : (⟨g, 0, none⟩ : Addr).add ((8 - d) * 1) = ⟨g, 8 - d, none⟩ := by unfold Addr.add; split <;> simp_all
  have e3 : 8 - (8 - d) = d := by omega
  rw [e2, e3]

set_option maxHeartbeats 2000000 in
theorem appendNumber_great (A : Option Addr) (n c : Nat) (xs : List Int) (k : Int) (base : Nat) (w : World) (ho : Own w base 5 A n c (By xs)) (hb : base ≤ w.heap.size) (h0 : 248 ≤ k) (h1 : k ≤ 18446744073709551615) (hn : n + 9 ≤ 140737488355328) :
    Calls Try.prog 134 #[.slice A n c, .int .u64 k] w (NumPost base A n xs k w) := by
  obtain ⟨i0, hi, hz0, hz1, hz2⟩ := info_parts info5
  have HN := Lib.hid (num_great k (by omega))
  have h2 : ¬ k ≤ 247 := by omega
  go_enter Try.func134, Try.ntmps134
  go_wp2
  refine wp_loop_rounds 9 ?_
  iterate 9 (rw [rounds_succ]; go_wp2_with fail)
  change Calls Try.prog 140 #[.int .u64 k] (w.alloc (.cells (wholeA k) 187)) _
  refine (digits_any k _ (by omega) h1).mono ?_
  rintro e w' ⟨rfl, rfl⟩
  have HW := Lib.hid (wholeA_eq k (by omega) h1)
  have hd1 := nb_pos k (by omega)
  have hd8 := nb_le k
  generalize hd : nb k = d at *
  generalize wholeA k = arr at *
  have hwr : IntKind.u8.wrap (247 + (d : Int)) = 247 + (d : Int) := by rw [IntKind.wrap_u8]; omega
  have HD := Lib.hid hd; clear hd
  have ho1 := (ho.alloc (.cells arr 187)).alloc (.cells #[.int .u8 (247 + (d : Int))] 5)
  have hr1 : Rd ((w.alloc (.cells arr 187)).alloc (.cells #[.int .u8 (247 + (d : Int))] 5)) (some ⟨w.heap.size + 1, 0, none⟩) 1 (By [247 + (d : Int)]) := by
    have := rd_one (w.alloc (.cells arr 187)) (247 + (d : Int))
    simpa using this
  have hblk : ((w.alloc (.cells arr 187)).alloc (.cells #[.int .u8 (247 + (d : Int))] 5)).heap[w.heap.size]? = some (.cells arr 187 (0, 0)) := by
    rw [Below.heap_alloc _ _ _ (by simp)]; exact heap_alloc_new w _
  have HBLK := Lib.hid hblk; clear hblk
  have hbase : base ≤ ((w.alloc (.cells arr 187)).alloc (.cells #[.int .u8 (247 + (d : Int))] 5)).heap.size := by simp; omega
  have hgp : Below w.heap.size w ((w.alloc (.cells arr 187)).alloc (.cells #[.int .u8 (247 + (d : Int))] 5)) := (below_alloc w _).alloc (by simp) _
  generalize hwg : (w.alloc (.cells arr 187)).alloc (.cells #[.int .u8 (247 + (d : Int))] 5) = w1 at *
  have HWG := Lib.hid hwg; clear hwg
  go_wp2_with (at_builtin; (rw [HWG.out]); refine wpList_append_rd rfl _ _ 28 rfl i0 (.int .u8 0) 1 Try.underlying28 hi hz0 hz1 hz2 rfl rfl ho1 (some ⟨w.heap.size + 1, 0, none⟩) 1 1 (By [247 + (d : Int)]) rfl hr1 (By_one _) ?c1 ?c2 ?c3 ?_)
  case c1 => unfold maxLen; omega
  case c2 => omega
  case c3 => exact hbase
  intro A2 c2 w2 ho2 hg2
  have hsl := slice79 w.heap.size d hd1 hd8
  have hb2 : w2.heap[w.heap.size]? = some (.cells arr 187 (0, 0)) := by
    refine (hg2.1.block w.heap.size ?_ ?_).trans HBLK.out
    · have := hgp.size; rw [← HWG.out]; simp; omega
    · intro hk
      have := ho.lies _ hk.symm
      omega
  have hr2 : Rd w2 (some ⟨w.heap.size, 8 - d, none⟩) d (By (be d k)) := by
    refine ⟨by rw [By_length, be_length], fun _ => ⟨_, _, rfl, ?_, fun j u hu => ?_⟩⟩
    · exact (Array.getElem?_eq_some_iff.1 hb2).1
    · rw [cell_of_row w2 w.heap.size (8 - d + j) arr 187 (0, 0) hb2, HW.out]
      have e8 : (8 - d) + d = 8 := by omega
      have := be_drop d (8 - d) k
      rw [e8] at this
      rw [← this] at hu
      simp only [By, List.getElem?_map, List.getElem?_drop] at hu ⊢
      simpa using hu
  have hbase2 : base ≤ w2.heap.size := Nat.le_trans hbase hg2.size
  have HB2 := Lib.hid hb2; clear hb2
  go_wp2_with (at_builtin; refine wpList_append_rd rfl _ _ 28 rfl i0 (.int .u8 0) 1 Try.underlying28 hi hz0 hz1 hz2 rfl rfl ho2 (some ⟨w.heap.size, 8 - d, none⟩) d d (By (be d k)) rfl hr2 (By_one _) ?c1 ?c2 ?c3 ?_)
  case c1 => unfold maxLen; omega
  case c2 => omega
  case c3 => exact hbase2
  intro A3 c3 w3 ho3 hg3
  rw [← By_append, ← By_append] at ho3
  go_wp2
  go_ret
  refine ⟨A3, c3, n + 1 + d, rfl, ?_, ?_, Grows.pre hgp (hg2.trans hg3)⟩
  · rw [HN.out, List.length_cons, be_length]; omega
  · rw [HN.out]; simpa using ho3

theorem appendNumber_any (A : Option Addr) (n c : Nat) (xs : List Int) (k : Int) (base : Nat) (w : World) (ho : Own w base 5 A n c (By xs)) (hb : base ≤ w.heap.size) (h0 : 0 ≤ k) (h1 : k ≤ 18446744073709551615) (hn : n + 9 ≤ 140737488355328) :
    Calls Try.prog 134 #[.slice A n c, .int .u64 k] w (NumPost base A n xs k w) := by
  by_cases h : k < 248
  · exact appendNumber_small A n c xs k base w ho hb h0 h hn
  · exact appendNumber_great A n c xs k base w ho hb (by omega) h1 hn

set_option maxHeartbeats 400000 in
theorem number_any (A : Option Addr) (n c : Nat) (ls : List Int) (w : World) (hl : Us w A n ls) (hn : 9 * n + 9 ≤ 140737488355328) :
    Calls Try.prog 103 #[.slice A n c] w fun e w' => ∃ A' c' n', e = .returned (.slice A' n' c') ∧ n' = (nums ls).length ∧ Own w' w.heap.size 5 A' n' c' (By (nums ls)) ∧ Below w.heap.size w w' := by
  have HLEN := Lib.hid hl.len
  go_enter Try.func103, Try.ntmps103
  go_wp2
  go_loopw [3, 8] (fun v i wr => ∃ (k : Nat) (A' : Option Addr) (c' n' : Nat), k ≤ n ∧ i = .int .i64 k ∧ v = .slice A' n' c' ∧ n' ≤ 9 * k ∧ Hid (n' = (nums (ls.take k)).length) ∧ Own wr w.heap.size 5 A' n' c' (By (nums (ls.take k))) ∧ Below w.heap.size w wr) (fun _ i _ => n - (intOf i).toNat)
  case atStart => exact ⟨0, none, 0, 0, Nat.zero_le _, rfl, rfl, Nat.le_refl _, rfl, Own.nil_, Below.refl _ _⟩
  case round =>
    obtain ⟨k, A', c', n', hk, rfl, rfl, hn', HN, ho, hb⟩ := hrel
    by_cases hlt : k < n
    · obtain ⟨b, off, x, rfl, hbk, hx0, hx1, hc, HX⟩ := hl.at_ hlt
      have hc' : wr.cell? ⟨b, off + k, none⟩ = some (.int .u64 x) := (hb.cell (p := ⟨b, off + k, none⟩) hbk).trans hc
      have hsz := hb.size
      go_wp2_with fail
      refine (appendNumber_any A' n' c' _ x w.heap.size _ ho hsz hx0 hx1 (by omega)).mono ?_
      rintro e w1 ⟨A2, c2, n2, rfl, hn2, ho2, hg2⟩
      have hnl := num_le x
      have hb2 : Below w.heap.size w w1 := hb.trans (hg2.below hsz (fun k hk => (ho.lies k hk).1))
      have hts : nums (ls.take (k + 1)) = nums (ls.take k) ++ num x := nums_snoc HX.out
      have hle : n2 ≤ 9 * (k + 1) := by omega
      have HN2 := Lib.hid (show n2 = (nums (ls.take (k + 1))).length by rw [hts, List.length_append, ← HN.out]; exact hn2)
      have HO2 := Lib.hid (show Own w1 w.heap.size 5 A2 n2 c2 (By (nums (ls.take (k + 1)))) by rw [hts]; exact ho2)
      clear hts hn2 ho2
      go_wp2
      go_roundw
      case rel => exact ⟨k + 1, A2, c2, n2, by omega, by go_num, rfl, hle, HN2, HO2.out, hb2⟩
      case measure => simp [intOf]; omega
    · have hke : ls.take k = ls := List.take_of_length_le (by rw [HLEN.out]; omega)
      rw [hke] at HN ho
      clear hke
      go_wp2
      go_ret
      exact ⟨A', c', n', rfl, HN.out, ho, hb⟩
end Go.Proofs.Ytmjjbfcblmmipaa
