/- The reference's Take. -/
import Derived.Test.YtmjjbfcblmmipaaNumW
import Derived.Laws.BitsAllLaws
import Derived.Deep.RegionHeld3
namespace Go.Proofs.Ytmjjbfcblmmipaa
set_option linter.unusedVariables false
set_option linter.unusedSimpArgs false
open Go.RowKit

theorem own_one (w : World) (base : Nat) (k : Int) (hb : base ≤ w.heap.size) : Own (w.alloc (.cells #[.int .u8 k] 5)) base 5 (some ⟨w.heap.size, 0, none⟩) 1 1 (By [k]) :=
  Own.of_block (vs := By [k]) (heap_alloc_new w _) hb rfl (by unfold maxLen; omega)
theorem be_nb (m : Int) (h : 1 ≤ m) (h1 : m ≤ 18446744073709551615) : be (nb m) m = be (nb (m / 256)) (m / 256) ++ [m % 256] := by
  rw [nb_div m h (by omega)]; rfl

set_option maxHeartbeats 1000000 in
theorem rnumber_any (n : Int) (w : World) (h0 : 0 ≤ n) (h1 : n ≤ 18446744073709551615) :
    Calls Try.prog 59 #[.int .u64 n] w fun e w' => ∃ A' c' n', e = .returned (.slice A' n' c') ∧ n' = (num n).length ∧ Own w' w.heap.size 5 A' n' c' (By (num n)) ∧ Below w.heap.size w w' := by
  obtain ⟨i0, hi, hz0, hz1, hz2⟩ := info_parts info5
  by_cases h2 : n < 248
  · have HN := Lib.hid (num_small n h2)
    have hw : IntKind.u8.wrap n = n := by rw [IntKind.wrap_u8]; omega
    go_enter Try.func59, Try.ntmps59
    go_wp2
    go_ret
    exact ⟨_, _, 1, rfl, by rw [HN.out]; rfl, by rw [HN.out]; exact own_one w _ n (Nat.le_refl _), below_alloc w _⟩
  · have HN := Lib.hid (num_great n h2)
    have h8 := nb_le n
    go_enter Try.func59, Try.ntmps59
    go_wp2
    go_loopw [3, 4] (fun v t wr => ∃ (j c' : Nat) (m : Int) (A' : Option Addr) (rest : List Int), v = .slice A' j c' ∧ t = .int .u64 m ∧ 0 ≤ m ∧ m ≤ 18446744073709551615 ∧ j ≤ 8 ∧ Hid (nb n = nb m + j) ∧ Hid (be (nb n) n = be (nb m) m ++ rest) ∧ Own wr w.heap.size 5 A' j c' (By rest) ∧ Below w.heap.size w wr) (fun _ t _ => (intOf t).toNat)
    case atStart => exact ⟨0, 0, n, none, [], rfl, rfl, h0, h1, Nat.zero_le _, rfl, (List.append_nil _).symm, Own.nil_, Below.refl _ _⟩
    case round =>
      obtain ⟨j, c', m, A', rest, rfl, rfl, hm0, hm1, hj, HJ, HB, ho, hb⟩ := hrel
      have hsz := hb.size
      by_cases hm : 0 < m
      · have HD := Lib.hid (nb_div m (by omega) (by omega))
        have HB2 := Lib.hid (show be (nb n) n = be (nb (m / 256)) (m / 256) ++ ([m % 256] ++ rest) by rw [HB.out, be_nb m (by omega) hm1, List.append_assoc])
        have HJ2 := Lib.hid (show nb n = nb (m / 256) + (1 + j) by rw [HJ.out, HD.out]; omega)
        have hj2 : 1 + j ≤ 8 := by have := HJ2.out; omega
        have ho1 := own_one wr w.heap.size (m % 256) hsz
        have hr1 : Rd (wr.alloc (.cells #[.int .u8 (m % 256)] 5)) A' j (By rest) := (ho.alloc _).rd
        go_wp2_with (at_builtin; refine wpList_append_rd rfl _ _ 28 rfl i0 (.int .u8 0) 1 Try.underlying28 hi hz0 hz1 hz2 rfl rfl ho1 A' j c' (By rest) rfl hr1 (By_one _) ?c1 ?c2 ?c3 ?_)
        case c1 => unfold maxLen; omega
        case c2 => omega
        case c3 => simp; omega
        intro A2 c2 w2 ho2 hg2
        rw [← By_append] at ho2
        have hb2 : Below w.heap.size w w2 := (hb.alloc hsz _).trans (hg2.below (by simp; omega) (fun k hk => (ho1.lies k hk).1))
        go_wp2
        go_roundw
        case rel => exact ⟨1 + j, c2, m / 256, A2, [m % 256] ++ rest, rfl, rfl, by omega, by omega, hj2, HJ2, HB2, ho2, hb2⟩
        case measure => simp [intOf]; omega
      · obtain rfl : m = 0 := by omega
        have hn0 : nb 0 = 0 := by decide
        have HB2 := Lib.hid (show be (nb n) n = rest by rw [HB.out, hn0]; rfl)
        have HJ2 := Lib.hid (show nb n = j by rw [HJ.out, hn0]; omega)
        clear HB HJ hn0
        have hw : IntKind.u8.wrap (247 + (j : Int)) = 247 + (j : Int) := by rw [IntKind.wrap_u8]; omega
        have ho1 := own_one wr w.heap.size (247 + (j : Int)) hsz
        have hr1 : Rd (wr.alloc (.cells #[.int .u8 (247 + (j : Int))] 5)) A' j (By rest) := (ho.alloc _).rd
        go_wp2_with (at_builtin; refine wpList_append_rd rfl _ _ 28 rfl i0 (.int .u8 0) 1 Try.underlying28 hi hz0 hz1 hz2 rfl rfl ho1 A' j c' (By rest) rfl hr1 (By_one _) ?c1 ?c2 ?c3 ?_)
        case c1 => unfold maxLen; omega
        case c2 => omega
        case c3 => first | (simp; omega) | omega
        intro A2 c2 w2 ho2 hg2
        rw [← By_append] at ho2
        have hb2 : Below w.heap.size w w2 := (hb.alloc hsz _).trans (hg2.below (by simp; omega) (fun k hk => (ho1.lies k hk).1))
        go_wp2
        go_ret
        refine ⟨A2, c2, 1 + j, rfl, ?_, ?_, hb2⟩
        · rw [HN.out, List.length_cons, be_length, HJ2.out]; omega
        · rw [HN.out, HB2.out, HJ2.out]; exact ho2
end Go.Proofs.Ytmjjbfcblmmipaa
namespace Go.Proofs.Ytmjjbfcblmmipaa
set_option linter.unusedVariables false
set_option linter.unusedSimpArgs false

/-- What digits to the base 256 are worth. -/
def val (l : List Int) : Int := l.foldl (fun a x => a * 256 + x) 0
theorem val_nil : val [] = 0 := rfl
theorem val_snoc (l : List Int) (x : Int) : val (l ++ [x]) = val l * 256 + x := by simp [val]
theorem take_snoc {l : List Int} {k : Nat} {x : Int} (h : l[k]? = some x) : l.take (k + 1) = l.take k ++ [x] := by
  obtain ⟨hk, rfl⟩ := List.getElem?_eq_some_iff.1 h
  exact List.take_succ_eq_append_getElem hk
theorem val_lt : ∀ (k : Nat) (l : List Int), Ran l → l.length = k → 0 ≤ val l ∧ val l < 256 ^ k
  | 0, l, _, h => by
    have : l = [] := List.eq_nil_of_length_eq_zero h
    subst this; simp [val]
  | k + 1, l, hr, h => by
    have hne : l ≠ [] := by intro e; rw [e] at h; cases h
    have e : l = l.dropLast ++ [l.getLast hne] := (List.dropLast_concat_getLast hne).symm
    have hx := hr _ (List.getLast_mem hne)
    have ih := val_lt k l.dropLast (hr.sub fun x hx => (List.dropLast_sublist l).mem hx) (by simp [h])
    rw [e, val_snoc, Int.pow_succ]
    omega
theorem val_be : ∀ (k : Nat) (n : Int), 0 ≤ n → n < 256 ^ k → val (be k n) = n
  | 0, n, h, h1 => by
    have : n = 0 := by simp at h1; omega
    subst this; rfl
  | k + 1, n, h, h1 => by
    rw [be, val_snoc, val_be k (n / 256) (by omega) (by rw [Int.pow_succ] at h1; omega)]
    omega
theorem pow256 (k : Nat) (h : k ≤ 8) : (256 : Int) ^ k ≤ 18446744073709551616 := by
  match k, h with
  | 0, _ => decide
  | 1, _ => decide
  | 2, _ => decide
  | 3, _ => decide
  | 4, _ => decide
  | 5, _ => decide
  | 6, _ => decide
  | 7, _ => decide
  | 8, _ => decide
theorem pow256' (k : Nat) (h : k ≤ 7) : (256 : Int) ^ k ≤ 72057594037927936 := by
  match k, h with
  | 0, _ => decide
  | 1, _ => decide
  | 2, _ => decide
  | 3, _ => decide
  | 4, _ => decide
  | 5, _ => decide
  | 6, _ => decide
  | 7, _ => decide
theorem nb_of_lt : ∀ (k : Nat) (v : Int), k ≤ 8 → v < 256 ^ k → nb v ≤ k
  | 0, v, _, h => by
    have : v < 1 := by simpa using h
    simp [nb, this]
  | k + 1, v, hk, h => by
    by_cases h1 : v < 1
    · simp [nb, h1]
    · have hp := pow256 (k + 1) hk
      rw [nb_div v (by omega) (by omega)]
      have := nb_of_lt k (v / 256) (by omega) (by rw [Int.pow_succ] at h; omega)
      omega
theorem lt_of_nb : ∀ (k : Nat) (v : Int), 0 ≤ v → v < 18446744073709551616 → nb v = k → v < 256 ^ k
  | 0, v, h0, h1, h => by
    by_cases hv : v < 1
    · simp; omega
    · have := nb_pos v (by omega); omega
  | k + 1, v, h0, h1, h => by
    have hv : 1 ≤ v := by
      by_cases hv : v < 1
      · simp [nb, hv] at h
      · omega
    have := nb_div v hv h1
    have ih := lt_of_nb k (v / 256) (by omega) (by omega) (by omega)
    rw [Int.pow_succ]; omega

/-- The number at a place: it, the place behind it, the error. -/
def tkN (xs : List Int) (i : Nat) : Int × Int × Int :=
  match xs[i]? with
  | none => (0, 0, 5)
  | some b =>
    if b < 248 then (b, (i : Int) + 1, 0)
    else if xs.length < i + 1 + (b - 247).toNat then (0, 0, 5)
    else if val ((xs.drop (i + 1)).take (b - 247).toNat) < 248 ∨ nb (val ((xs.drop (i + 1)).take (b - 247).toNat)) < (b - 247).toNat then (0, 0, 3)
    else (val ((xs.drop (i + 1)).take (b - 247).toNat), (i : Int) + 1 + (b - 247), 0)
def tk (xs : List Int) (i : Int) : Int × Int × Int := if i < 0 ∨ (xs.length : Int) < i then (0, 0, 1) else tkN xs i.toNat

theorem tk_arg {xs : List Int} {i : Int} (h : i < 0 ∨ (xs.length : Int) < i) : tk xs i = (0, 0, 1) := by simp [tk, h]
theorem tk_nat {xs : List Int} {i : Nat} (h : i ≤ xs.length) : tk xs (i : Int) = tkN xs i := by
  unfold tk; rw [if_neg (by omega), Int.toNat_natCast]
theorem tkN_end {xs : List Int} {i : Nat} (h : i = xs.length) : tkN xs i = (0, 0, 5) := by
  have : xs[i]? = none := List.getElem?_eq_none (by omega)
  simp [tkN, this]
theorem tkN_small {xs : List Int} {i : Nat} {b : Int} (h : xs[i]? = some b) (hb : b < 248) : tkN xs i = (b, (i : Int) + 1, 0) := by simp [tkN, h, hb]
theorem tkN_short {xs : List Int} {i : Nat} {b : Int} (h : xs[i]? = some b) (hb : ¬ b < 248) (hs : xs.length < i + 1 + (b - 247).toNat) : tkN xs i = (0, 0, 5) := by simp [tkN, h, hb, hs]
theorem tkN_form {xs : List Int} {i : Nat} {b : Int} (h : xs[i]? = some b) (hb : ¬ b < 248) (hs : ¬ xs.length < i + 1 + (b - 247).toNat)
    (hf : val ((xs.drop (i + 1)).take (b - 247).toNat) < 248 ∨ nb (val ((xs.drop (i + 1)).take (b - 247).toNat)) < (b - 247).toNat) : tkN xs i = (0, 0, 3) := by
  simp only [tkN, h, hb, hs, if_false]; rw [if_pos hf]
theorem tkN_ok {xs : List Int} {i : Nat} {b : Int} (h : xs[i]? = some b) (hb : ¬ b < 248) (hs : ¬ xs.length < i + 1 + (b - 247).toNat)
    (hf : ¬ (val ((xs.drop (i + 1)).take (b - 247).toNat) < 248 ∨ nb (val ((xs.drop (i + 1)).take (b - 247).toNat)) < (b - 247).toNat)) :
    tkN xs i = (val ((xs.drop (i + 1)).take (b - 247).toNat), (i : Int) + 1 + (b - 247), 0) := by
  simp only [tkN, h, hb, hs, if_false]; rw [if_neg hf]

/-- A number's bytes are taken back. -/
theorem tkN_num (pre post : List Int) (n : Int) (h0 : 0 ≤ n) (h1 : n ≤ 18446744073709551615) : tkN (pre ++ (num n ++ post)) pre.length = (n, (pre.length : Int) + (num n).length, 0) := by
  by_cases h : n < 248
  · rw [num_small n h]
    have e : (pre ++ ([n] ++ post))[pre.length]? = some n := by simp
    rw [tkN_small e h]; simp
  · rw [num_great n h]
    have e : (pre ++ ((247 + (nb n : Int)) :: be (nb n) n ++ post))[pre.length]? = some (247 + (nb n : Int)) := by simp
    have hp := nb_pos n (by omega)
    have ek : (247 + (nb n : Int) - 247).toNat = nb n := by omega
    have hd : ((pre ++ ((247 + (nb n : Int)) :: be (nb n) n ++ post)).drop (pre.length + 1)).take (nb n) = be (nb n) n := by
      rw [List.drop_append, List.drop_eq_nil_of_le (by omega), Nat.add_sub_cancel_left]
      simp [be_length]
    have hv : val (be (nb n) n) = n := val_be _ n h0 (lt_of_nb (nb n) n h0 (by omega) rfl)
    rw [tkN_ok e (by omega) (by rw [ek]; simp [be_length]; omega) (by rw [ek, hd, hv]; omega), ek, hd, hv]
    simp [be_length]; omega
theorem tk_num (pre post : List Int) (n : Int) (h0 : 0 ≤ n) (h1 : n ≤ 18446744073709551615) : tk (pre ++ (num n ++ post)) (pre.length : Int) = (n, (pre.length : Int) + (num n).length, 0) := by
  rw [tk_nat (by simp), tkN_num pre post n h0 h1]

/-- Eight digits further, and one digit there. -/
theorem or_u64 (x b : Int) (hx : 0 ≤ x) (hx1 : x < 72057594037927936) (hb : 0 ≤ b) (hb1 : b ≤ 255) : bits .or .u64 (x * 256) b = x * 256 + b := by
  obtain ⟨x, rfl⟩ := Int.eq_ofNat_of_zero_le hx
  obtain ⟨b, rfl⟩ := Int.eq_ofNat_of_zero_le hb
  have e : (2 : Nat) ^ 8 * x + b = 2 ^ 8 * x ||| b := Nat.two_pow_add_eq_or_of_lt (by omega) x
  have e2 : x * 256 ||| b = x * 256 + b := by rw [Nat.mul_comm]; exact e.symm
  have h := u64_or_nat (x * 256) b (by omega) (by omega)
  rw [e2] at h
  simpa using h
end Go.Proofs.Ytmjjbfcblmmipaa
namespace Go.Proofs.Ytmjjbfcblmmipaa
set_option linter.unusedVariables false
set_option linter.unusedSimpArgs false
open Go.RowKit

def Tk3 (t : Int × Int × Int) : Ending := .returned (.tuple #[.int .u64 t.1, .int .i64 t.2.1, .int .i64 t.2.2])

set_option maxHeartbeats 1000000 in
theorem take_any (A : Option Addr) (n c : Nat) (i : Int) (xs : List Int) (w : World) (hx : Bs w A n xs) (hn : n ≤ 9223372036854775000) :
    Calls Try.prog 136 #[.slice A n c, .int .i64 i] w fun e w' => e = Tk3 (tk xs i) ∧ w = w' := by
  have HL := Lib.hid hx.len
  by_cases h1 : i < 0
  · have HT := Lib.hid (tk_arg (xs := xs) (i := i) (.inl h1))
    go_enter Try.func136, Try.ntmps136
    go_wp2
    go_ret3
    exact ⟨by rw [HT.out]; rfl, rfl⟩
  by_cases h2 : (n : Int) < i
  · have HT := Lib.hid (tk_arg (xs := xs) (i := i) (.inr (by rw [HL.out]; exact h2)))
    have h1' : 0 ≤ i := by omega
    clear h1
    go_enter Try.func136, Try.ntmps136
    go_wp2
    go_ret3
    exact ⟨by rw [HT.out]; rfl, rfl⟩
  obtain ⟨k, rfl⟩ := Int.eq_ofNat_of_zero_le (show 0 ≤ i by omega)
  have hkn : k ≤ n := by omega
  have HT := Lib.hid (tk_nat (xs := xs) (i := k) (by rw [HL.out]; exact hkn))
  clear h1 h2
  by_cases h3 : k = n
  · have HE := Lib.hid (tkN_end (xs := xs) (i := k) (by rw [HL.out]; exact h3))
    have h3' : ((k : Int) == (n : Int)) = true := by simp [h3]
    subst h3
    go_enter Try.func136, Try.ntmps136
    go_wp2
    go_ret3
    exact ⟨by rw [HT.out, HE.out]; rfl, rfl⟩
  have h3' : ((k : Int) == (n : Int)) = false := by simp; omega
  have hlt : k < n := by omega
  clear h3
  obtain ⟨b, off, x, rfl, hb, hx0, hx1, hc, HX⟩ := hx.at_ hlt
  by_cases h4 : x < 248
  · have HE := Lib.hid (tkN_small HX.out h4)
    have h4' : x ≤ 247 := by omega
    go_enter Try.func136, Try.ntmps136
    go_wp2
    go_ret3
    exact ⟨by rw [HT.out, HE.out]; rfl, rfl⟩
  have h4' : ¬ x ≤ 247 := by omega
  by_cases h5 : n < k + 1 + (x - 247).toNat
  · have HE := Lib.hid (tkN_short HX.out h4 (by rw [HL.out]; exact h5))
    have h5' : (n : Int) - ((k : Int) + 1) < x - 247 := by omega
    clear h4 h5
    go_enter Try.func136, Try.ntmps136
    go_wp2
    go_ret3
    exact ⟨by rw [HT.out, HE.out]; rfl, rfl⟩
  obtain ⟨d, hd⟩ : ∃ d : Nat, x = 247 + (d : Int) := ⟨(x - 247).toNat, by omega⟩
  have hd0 : (247 + (d : Int) - 247).toNat = d := by omega
  subst hd
  rw [hd0] at h5
  have hd1 : 1 ≤ d := by omega
  have hd8 : d ≤ 8 := by omega
  have HF := Lib.hid (fun hf => tkN_form (xs := xs) HX.out h4 (by rw [hd0, HL.out]; exact h5) hf)
  have HO := Lib.hid (fun hf => tkN_ok (xs := xs) HX.out h4 (by rw [hd0, HL.out]; exact h5) hf)
  rw [hd0] at HF HO
  have e5 : decide ((k : Int) < 0) = false := by simp
  have e6 : decide ((n : Int) < (k : Int)) = false := by simp; omega
  have hfit : k + 1 + d ≤ n := by omega
  have h5' : ¬ (n : Int) - ((k : Int) + 1) < (d : Int) := by omega
  clear h4 h5 hd0
  have hran : Ran (xs.drop (k + 1)) := hx.2.sub fun x hx => List.mem_of_mem_drop hx
  have HR := Lib.hid hran; clear hran
  have HLD := Lib.hid (show (xs.drop (k + 1)).length = n - (k + 1) by rw [List.length_drop, HL.out])
  go_enter Try.func136, Try.ntmps136
  go_wp2
  go_loop [10, 46] (fun v i => ∃ j : Nat, j ≤ d ∧ i = .int .i64 j ∧ v = .int .u64 (val ((xs.drop (k + 1)).take j))) (fun _ i => d - (intOf i).toNat)
  case atStart => exact ⟨0, Nat.zero_le _, rfl, rfl⟩
  case round =>
    obtain ⟨j, hj, rfl, rfl⟩ := hrel
    have hv := val_lt j ((xs.drop (k + 1)).take j) (HR.out.sub fun x hx => List.mem_of_mem_take hx) (by rw [List.length_take, HLD.out]; omega)
    by_cases hjd : j < d
    · have hp := pow256' j (by omega)
      have hv1 : val ((xs.drop (k + 1)).take j) < 72057594037927936 := by omega
      have hv0 := hv.1
      clear hv hp
      obtain ⟨b', off', y, hA, _, hy0, hy1, hcy, HY⟩ := hx.at_ (k := k + 1 + j) (by omega)
      obtain ⟨rfl, rfl⟩ : b' = b ∧ off' = off := by injection hA with hA; injection hA with h1 h2; exact ⟨h1.symm, h2.symm⟩
      have hts := take_snoc (l := xs.drop (k + 1)) (k := j) (x := y) (by rw [List.getElem?_drop]; exact HY.out)
      have HV := Lib.hid (show val ((xs.drop (k + 1)).take (j + 1)) = val ((xs.drop (k + 1)).take j) * 256 + y by rw [hts, val_snoc])
      clear hts hA
      have hor := or_u64 _ y hv0 hv1 hy0 hy1
      generalize val ((xs.drop (k + 1)).take j) = v at *
      go_wp2
      go_round
      case rel => exact ⟨j + 1, by omega, by go_num, by rw [HV.out]⟩
      case measure => simp [intOf]; omega
    · obtain rfl : j = d := by omega
      have hp := pow256 j (by omega)
      have hv1 : val ((xs.drop (k + 1)).take j) ≤ 18446744073709551615 := by omega
      have hv0 := hv.1
      clear hv hp
      generalize val ((xs.drop (k + 1)).take j) = v at *
      by_cases h6 : v < 248
      · have HE := Lib.hid (HF.out (.inl h6))
        have h6' : v ≤ 247 := by omega
        clear HF HO
        go_wp2
        go_ret3
        exact ⟨by rw [HT.out, HE.out]; rfl, rfl⟩
      have h6' : ¬ v ≤ 247 := by omega
      by_cases h7 : nb v < j
      · have HE := Lib.hid (HF.out (.inr h7))
        clear HF HO h6
        go_wp2_with (go_at_call 140; refine (digits_any v _ hv0 hv1).mono ?_; rintro e w' ⟨rfl, rfl⟩)
        go_ret3
        exact ⟨by rw [HT.out, HE.out]; rfl, rfl⟩
      · have HE := Lib.hid (HO.out (by omega))
        clear HF HO h6
        go_wp2_with (go_at_call 140; refine (digits_any v _ hv0 hv1).mono ?_; rintro e w' ⟨rfl, rfl⟩)
        go_ret3
        refine ⟨?_, rfl⟩
        rw [HT.out, HE.out]
        have e : (247 : Int) + (j : Int) - 247 = j := by omega
        rw [e]; rfl
end Go.Proofs.Ytmjjbfcblmmipaa
namespace Go.Proofs.Ytmjjbfcblmmipaa
set_option linter.unusedVariables false
set_option linter.unusedSimpArgs false
open Go.RowKit

theorem rnumber_len (n : Int) (L : Nat) (hL : (num n).length = L) (w : World) (h0 : 0 ≤ n) (h1 : n ≤ 18446744073709551615) :
    Calls Try.prog 59 #[.int .u64 n] w fun e w' => ∃ A' c', e = .returned (.slice A' L c') ∧ Own w' w.heap.size 5 A' L c' (By (num n)) ∧ Below w.heap.size w w' :=
  (rnumber_any n w h0 h1).mono fun e w' ⟨A', c', n', he, hn, ho, hb⟩ => by
    have : n' = L := hn.trans hL
    subst this
    exact ⟨A', c', he, ho, hb⟩

theorem below_undrew {B : Nat} {a w : World} (h : Below B a.drew w) : Below B a w := ⟨h.os, h.tape, h.output, h.size, h.block⟩

set_option maxRecDepth 100000 in
set_option maxHeartbeats 1000000 in
theorem rtake_any (A : Option Addr) (n c : Nat) (i : Int) (xs : List Int) (w : World) (hx : Bs w A n xs) (hn : n ≤ 9223372036854775000) :
    Calls Try.prog 118 #[.slice A n c, .int .i64 i] w fun e w' => e = Tk3 (tk xs i) ∧ Below w.heap.size w w' := by
  have HL := Lib.hid hx.len
  by_cases h1 : i < 0
  · have HT := Lib.hid (tk_arg (xs := xs) (i := i) (.inl h1))
    go_enter Try.func118, Try.ntmps118
    go_wp2
    go_ret3
    exact ⟨by rw [HT.out]; rfl, Below.refl _ _⟩
  by_cases h2 : (n : Int) < i
  · have HT := Lib.hid (tk_arg (xs := xs) (i := i) (.inr (by rw [HL.out]; exact h2)))
    have h1' : 0 ≤ i := by omega
    clear h1
    go_enter Try.func118, Try.ntmps118
    go_wp2
    go_ret3
    exact ⟨by rw [HT.out]; rfl, Below.refl _ _⟩
  obtain ⟨k, rfl⟩ := Int.eq_ofNat_of_zero_le (show 0 ≤ i by omega)
  have hkn : k ≤ n := by omega
  have HT := Lib.hid (tk_nat (xs := xs) (i := k) (by rw [HL.out]; exact hkn))
  clear h1 h2
  by_cases h3 : k = n
  · have HE := Lib.hid (tkN_end (xs := xs) (i := k) (by rw [HL.out]; exact h3))
    have h3' : ((k : Int) == (n : Int)) = true := by simp [h3]
    subst h3
    go_enter Try.func118, Try.ntmps118
    go_wp2
    go_ret3
    exact ⟨by rw [HT.out, HE.out]; rfl, Below.refl _ _⟩
  have h3' : ((k : Int) == (n : Int)) = false := by simp; omega
  have hlt : k < n := by omega
  clear h3
  obtain ⟨b, off, x, rfl, hb, hx0, hx1, hc, HX⟩ := hx.at_ hlt
  by_cases h4 : x < 248
  · have HE := Lib.hid (tkN_small HX.out h4)
    go_enter Try.func118, Try.ntmps118
    go_wp2
    go_ret3
    exact ⟨by rw [HT.out, HE.out]; rfl, Below.refl _ _⟩
  obtain ⟨d, hd⟩ : ∃ d : Nat, x = 247 + (d : Int) := ⟨(x - 247).toNat, by omega⟩
  have hd0 : (247 + (d : Int) - 247).toNat = d := by omega
  subst hd
  have hd1 : 1 ≤ d := by omega
  have hd8 : d ≤ 8 := by omega
  have HS := Lib.hid (fun hs => tkN_short (xs := xs) HX.out h4 hs)
  have HF := Lib.hid (fun hs hf => tkN_form (xs := xs) HX.out h4 hs hf)
  have HO := Lib.hid (fun hs hf => tkN_ok (xs := xs) HX.out h4 hs hf)
  rw [hd0, HL.out] at HS HF HO
  have e5 : decide ((k : Int) < 0) = false := by simp
  have e6 : decide ((n : Int) < (k : Int)) = false := by simp; omega
  clear h4 hd0
  have hran : Ran (xs.drop (k + 1)) := hx.2.sub fun x hx => List.mem_of_mem_drop hx
  have HR := Lib.hid hran; clear hran
  have HLD := Lib.hid (show (xs.drop (k + 1)).length = n - (k + 1) by rw [List.length_drop, HL.out])
  go_enter Try.func118, Try.ntmps118
  go_wp2
  go_loop [7, 8] (fun v i => ∃ j : Nat, j ≤ d ∧ k + 1 + j ≤ n ∧ i = .int .i64 ((j : Int) + 1) ∧ v = .int .u64 (val ((xs.drop (k + 1)).take j))) (fun _ i => d + 1 - (intOf i).toNat)
  case atStart => exact ⟨0, Nat.zero_le _, by omega, rfl, rfl⟩
  case round =>
    obtain ⟨j, hj, hjn, rfl, rfl⟩ := hrel
    have hv := val_lt j ((xs.drop (k + 1)).take j) (HR.out.sub fun x hx => List.mem_of_mem_take hx) (by rw [List.length_take, HLD.out]; omega)
    by_cases hjd : j < d
    · by_cases hend : n ≤ k + 1 + j
      · have HE := Lib.hid (HS.out (by omega))
        have hend' : (n : Int) ≤ (k : Int) + ((j : Int) + 1) := by omega
        clear hv HF HO
        go_wp2
        go_ret3
        exact ⟨by rw [HT.out, HE.out]; rfl, Below.refl _ _⟩
      have hp := pow256' j (by omega)
      have hv1 : val ((xs.drop (k + 1)).take j) < 72057594037927936 := by omega
      have hv0 := hv.1
      clear hv hp
      obtain ⟨b', off', y, hA, _, hy0, hy1, hcy, HY⟩ := hx.at_ (k := k + 1 + j) (by omega)
      obtain ⟨rfl, rfl⟩ : b' = b ∧ off' = off := by injection hA with hA; injection hA with h1 h2; exact ⟨h1.symm, h2.symm⟩
      have hts := take_snoc (l := xs.drop (k + 1)) (k := j) (x := y) (by rw [List.getElem?_drop]; exact HY.out)
      have HV := Lib.hid (show val ((xs.drop (k + 1)).take (j + 1)) = val ((xs.drop (k + 1)).take j) * 256 + y by rw [hts, val_snoc])
      clear hts hA
      have hcy' : w.cell? ⟨b', off' + (k + (j + 1)), none⟩ = some (.int .u8 y) := by rw [show k + (j + 1) = k + 1 + j by omega]; exact hcy
      generalize val ((xs.drop (k + 1)).take j) = v at *
      have hend' : ¬ (n : Int) ≤ (k : Int) + ((j : Int) + 1) := by omega
      clear HF HO HS
      go_wp2
      go_round
      case rel => exact ⟨j + 1, by omega, by omega, by go_num, by rw [HV.out]⟩
      case measure => simp [intOf]; omega
    · obtain rfl : j = d := by omega
      have hp := pow256 j (by omega)
      have hv1 : val ((xs.drop (k + 1)).take j) ≤ 18446744073709551615 := by omega
      have hv0 := hv.1
      have hnb := nb_of_lt j _ (by omega) hv.2
      have HL2 := Lib.hid (num_length (val ((xs.drop (k + 1)).take j)))
      clear hv hp
      generalize val ((xs.drop (k + 1)).take j) = v at *
      by_cases h6 : v < 248 ∨ nb v < j
      · have HE := Lib.hid (HF.out (by omega) h6)
        have hne : ∀ L : Nat, (num v).length = L → ((L : Int) != (j : Int) + 1) = true := by
          intro L hL
          rw [HL2.out] at hL
          rw [bne_iff_ne]
          split at hL <;> omega
        obtain ⟨L, hL⟩ : ∃ L, (num v).length = L := ⟨_, rfl⟩
        have hneL := hne L hL
        have HLEN := Lib.hid hL
        clear HF HO HS hne hL h6
        have hw1 : IntKind.i64.wrap (247 + (j : Int)) = 247 + (j : Int) := by rw [IntKind.wrap_i64]; omega
        have hw2 : IntKind.i64.wrap (247 + (j : Int) - 246) = (j : Int) + 1 := by rw [IntKind.wrap_i64]; omega
        go_wp2
        go_region_held3 (fun w' => w'.cell? ⟨b, off + k, none⟩ = some (.int .u8 (247 + (j : Int)))) (first | assumption | (simp [*]; done))
          (first | (go_at_call 59; refine (rnumber_len v L HLEN.out _ hv0 hv1).mono ?_; rintro e w1 ⟨A1, c1, rfl, ho1, hb1⟩; have hc1 : w1.cell? ⟨b, off + k, none⟩ = some (.int .u8 (247 + (j : Int))) := (hb1.cell (p := ⟨b, off + k, none⟩) (by exact hb)).trans hc))
        go_wp2
        go_ret3
        refine ⟨?_, ?_⟩
        · rw [HT.out, HE.out]; rfl
        · exact below_undrew hb1
      · have HE := Lib.hid (HO.out (by omega) h6)
        have hlen : (num v).length = j + 1 := by
          rw [HL2.out, if_neg (by omega)]; omega
        have HLEN := Lib.hid hlen
        clear HF HO HS h6 hlen
        have hw1 : IntKind.i64.wrap (247 + (j : Int)) = 247 + (j : Int) := by rw [IntKind.wrap_i64]; omega
        have hw2 : IntKind.i64.wrap (247 + (j : Int) - 246) = (j : Int) + 1 := by rw [IntKind.wrap_i64]; omega
        have hw3 : IntKind.i64.wrap ((k : Int) + (247 + (j : Int))) = (k : Int) + (247 + (j : Int)) := by rw [IntKind.wrap_i64]; omega
        have hw4 : IntKind.i64.wrap ((k : Int) + (247 + (j : Int)) - 246) = (k : Int) + 1 + (j : Int) := by rw [IntKind.wrap_i64]; omega
        go_wp2
        go_region_held3 (fun w' => w'.cell? ⟨b, off + k, none⟩ = some (.int .u8 (247 + (j : Int)))) (first | assumption | (simp [*]; done))
          (first | (go_at_call 59; refine (rnumber_len v (j + 1) HLEN.out _ hv0 hv1).mono ?_; rintro e w1 ⟨A1, c1, rfl, ho1, hb1⟩; have hc1 : w1.cell? ⟨b, off + k, none⟩ = some (.int .u8 (247 + (j : Int))) := (hb1.cell (p := ⟨b, off + k, none⟩) (by exact hb)).trans hc))
        go_wp2
        go_quiet (fail)
        go_wp2
        go_ret3
        refine ⟨?_, ?_⟩
        · rw [HT.out, HE.out, show (k : Int) + 1 + (247 + (j : Int) - 247) = (k : Int) + 1 + (j : Int) by omega]; rfl
        · exact below_n (below_undrew hb1) _
end Go.Proofs.Ytmjjbfcblmmipaa
