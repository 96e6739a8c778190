/- PackNumbers: the walk. -/
import Derived.Test.YtdlbghjclcdfmaaAwake
import Derived.Test.YtdlbghjclcdfmaaRefTake
namespace Go.Proofs.Ytdlbghjclcdfmaa
set_option linter.unusedVariables false
set_option linter.unusedSimpArgs false
open Go.RowKit

theorem take_3 (A : Option Addr) (n c : Nat) (i : Int) (xs : List Int) (w : World) (t1 t2 t3 : Int) (ht : tk xs i = (t1, t2, t3)) (hx : Bs w A n xs) (hn : n ≤ 9223372036854775000) :
    Calls Try.prog 14 #[.slice A n c, .int .i64 i] w fun e w' => e = .returned (.tuple #[.int .u64 t1, .int .i64 t2, .int .i64 t3]) ∧ w = w' :=
  (take_any A n c i xs w hx hn).mono fun e w' ⟨he, hw⟩ => ⟨by rw [he, ht]; rfl, hw⟩
theorem rtake_3 (A : Option Addr) (n c : Nat) (i : Int) (xs : List Int) (w : World) (t1 t2 t3 : Int) (ht : tk xs i = (t1, t2, t3)) (hx : Bs w A n xs) (hn : n ≤ 9223372036854775000) :
    Calls Try.prog 16 #[.slice A n c, .int .i64 i] w fun e w' => e = .returned (.tuple #[.int .u64 t1, .int .i64 t2, .int .i64 t3]) ∧ Below w.heap.size w w' :=
  (rtake_any A n c i xs w hx hn).mono fun e w' ⟨he, hw⟩ => ⟨by rw [he, ht]; rfl, hw⟩

theorem nums_parts {ls : List Int} {k : Nat} {x : Int} (h : ls[k]? = some x) : nums ls = nums (ls.take k) ++ (num x ++ nums (ls.drop (k + 1))) := by
  obtain ⟨hk, rfl⟩ := List.getElem?_eq_some_iff.1 h
  conv => lhs; rw [← List.take_append_drop k ls, List.drop_eq_getElem_cons hk]
  simp only [nums, List.map_append, List.flatten_append, List.map_cons, List.flatten_cons]
theorem nums_le : ∀ ls : List Int, (nums ls).length ≤ 9 * ls.length
  | [] => by simp [nums]
  | a :: r => by
    have h := nums_le r
    have h1 := num_le a
    simp only [nums, List.map_cons, List.flatten_cons, List.length_append, List.length_cons] at h ⊢
    omega

set_option maxRecDepth 100000 in
set_option maxHeartbeats 2000000 in
theorem numbers_walk (A B : Option Addr) (n m c d : Nat) (at_ : Int) (ls xs : List Int) (w : World) (hl : Us w A n ls) (hx : Bs w B m xs)
    (hn : n ≤ 1048576) (hm : m ≤ 1048576) :
    Calls Try.prog 3 #[.slice A n c, .slice B m d, .int .i64 at_] w fun e w' => e = .returned (.bool true) ∧ Below w.heap.size w w' := by
  obtain ⟨i0, hi, hz0, hz1, hz2⟩ := info_parts info5
  have HLEN := Lib.hid hl.len
  have hnl := nums_le ls
  rw [HLEN.out] at hnl
  go_enter Try.func3, Try.ntmps3
  go_wp2_with fail
  refine (awake_any _).mono ?_
  rintro e w1 ⟨rfl, hb1⟩
  have hl1 := hl.keep hb1; have hx1 := hx.keep hb1
  have hsz1 := hb1.size
  clear hl hx
  go_wp2
  go_loopw [7, 27] (fun v i wr => ∃ (k : Nat) (A' : Option Addr) (c' n' : Nat), k ≤ n ∧ i = .int .i64 k ∧ v = .slice A' n' c' ∧ n' ≤ 9 * k ∧ Hid (n' = (nums (ls.take k)).length) ∧ Own wr w1.heap.size 5 A' n' c' (By (nums (ls.take k))) ∧ Below w1.heap.size w1 wr) (fun _ i _ => n - (intOf i).toNat)
  case atStart => exact ⟨0, none, 0, 0, Nat.zero_le _, rfl, rfl, Nat.le_refl _, rfl, Own.nil_, Below.refl _ _⟩
  case round =>
    obtain ⟨k, A', c', n', hk, rfl, rfl, hn', HN, ho, hb⟩ := hrel
    have hsz := hb.size
    by_cases hlt : k < n
    · obtain ⟨b, off, x, rfl, hbk, hx0, hx1', hc, HX⟩ := hl1.at_ hlt
      have hc' : wr.cell? ⟨b, off + k, none⟩ = some (.int .u64 x) := (hb.cell (p := ⟨b, off + k, none⟩) hbk).trans hc
      obtain ⟨L, hL⟩ : ∃ L, (num x).length = L := ⟨_, rfl⟩
      have hL9 : L ≤ 9 := by rw [← hL]; exact num_le x
      have HL := Lib.hid hL; clear hL
      have hts : nums (ls.take (k + 1)) = nums (ls.take k) ++ num x := nums_snoc HX.out
      have HTS := Lib.hid hts; clear hts
      go_wp2_with fail
      refine (rnumber_len x L HL.out _ hx0 hx1').mono ?_
      rintro e w2 ⟨A2, c2, rfl, ho2, hb2⟩
      have hsz2 := hb2.size
      have ho' := ho.below hb2 (fun k hk => (ho.lies k hk).2)
      go_wp2_with (at_builtin; refine wpList_append_rd rfl _ _ 23 rfl i0 (.int .u8 0) 1 Try.underlying23 hi hz0 hz1 hz2 rfl rfl ho' A2 L c2 (By (num x)) rfl ho2.rd (By_one _) ?c1 ?c2 ?c3 ?_)
      case c1 => unfold maxLen; omega
      case c2 => omega
      case c3 => omega
      intro A3 c3 w3 ho3 hg3
      rw [← By_append, ← HTS.out] at ho3
      have hb3 : Below w1.heap.size w1 w3 := (hb.trans (hb2.mono hsz)).trans (hg3.below (by omega) (fun k hk => (ho.lies k hk).1))
      have HN3 := Lib.hid (show n' + L = (nums (ls.take (k + 1))).length by rw [HTS.out, List.length_append, ← HN.out, HL.out])
      have hle : n' + L ≤ 9 * (k + 1) := by omega
      clear ho ho' ho2 hb2 hg3 hb hc' hsz2
      go_wp2
      go_roundw
      case rel => exact ⟨k + 1, A3, c3, n' + L, by omega, by go_num, rfl, hle, HN3, ho3, hb3⟩
      case measure => simp [intOf]; omega
    · have hke : ls.take k = ls := List.take_of_length_le (by rw [HLEN.out]; omega)
      rw [hke] at HN ho
      clear hke
      have hl2 := hl1.keep hb; have hx2 := hx1.keep hb
      have hb2 := hb1.trans (hb.mono hsz1)
      have HRAN := Lib.hid (nums_ran ls fun x hx => (hl1.2 x hx).1)
      have hw2 := ho.bs HRAN.out
      have hn9 : n' ≤ 9437184 := by have := HN.out; omega
      clear hl1 hx1 hb1 hb ho hsz1
      go_wp2_with fail
      refine (number_any A n c ls _ hl2 (by omega)).mono ?_
      rintro e w3 ⟨A3, c3, n3, rfl, hn3, ho3, hb3'⟩
      have hl3 := hl2.keep hb3'; have hx3 := hx2.keep hb3'; have hw3 := hw2.keep hb3'
      have hg3 := ho3.bs HRAN.out
      have hsz2 := hb2.size
      have hb3 := hb2.trans (hb3'.mono hsz2)
      obtain rfl : n3 = n' := by rw [hn3, HN.out]
      clear hn3 ho3 hl2 hx2 hw2 hb2 hb3'
      go_wp2_with fail
      refine (equal_any A3 A' n3 n3 c3 c' _ _ _ hg3 hw3 (by unfold maxLen; omega) (by unfold maxLen; omega)).mono ?_
      rintro e w4 ⟨rfl, hd4⟩
      rw [cmpL_self]
      have hb4 := hb3.trans (hd4.below _)
      have hl4 : Us w4 A n ls := hl3.keep (hd4.below _)
      have hx4 := hx3.dr hd4; have hg4 := hg3.dr hd4
      clear hl3 hx3 hg3 hw3 hb3 hd4
      go_wp2
      go_loop [11, 44] (fun p i => ∃ (k : Nat), k ≤ n ∧ i = .int .i64 k ∧ p = .int .i64 ((nums (ls.take k)).length)) (fun _ i => n - (intOf i).toNat)
      case atStart => exact ⟨0, Nat.zero_le _, rfl, rfl⟩
      case round =>
        obtain ⟨k2, hk2, rfl, rfl⟩ := hrel
        by_cases hlt2 : k2 < n
        · obtain ⟨b, off, x, rfl, hbk, hx0, hx1', hc, HX⟩ := hl4.at_ hlt2
          have HT := Lib.hid (show tk (nums ls) ((nums (ls.take k2)).length : Int) = (x, ((nums (ls.take k2)).length : Int) + (num x).length, 0) by
            conv => lhs; rw [nums_parts HX.out]
            exact tk_num _ _ x hx0 hx1')
          have HTS := Lib.hid (show (nums (ls.take (k2 + 1))).length = (nums (ls.take k2)).length + (num x).length by rw [nums_snoc HX.out, List.length_append])
          generalize (nums (ls.take k2)).length = p at *
          generalize (num x).length = q at *
          go_wp2_with fail
          refine (take_3 A3 n3 c3 (p : Int) _ _ x _ 0 HT.out hg4 (by omega)).mono ?_
          rintro e w5 ⟨rfl, rfl⟩
          go_wp2
          go_round
          case rel => exact ⟨k2 + 1, by omega, by go_num, by rw [HTS.out]; go_num⟩
          case measure => simp [intOf]; omega
        · have hke : ls.take k2 = ls := List.take_of_length_le (by rw [HLEN.out]; omega)
          rw [hke, ← HN.out]
          clear hke
          go_wp2_with fail
          refine (copy_any B m d xs _ hx4 (by omega)).mono ?_
          rintro e w5 ⟨A5, c5, rfl, ho5, hb5'⟩
          have hx5 := hx4.keep hb5'
          have hy5 := ho5.bs hx4.2
          have hsz4 := hb4.size
          have hb5 := hb4.trans (hb5'.mono hsz4)
          clear ho5 hb5' hb4 hx4 hg4 hl4
          obtain ⟨t1, t2, t3, ht⟩ : ∃ t1 t2 t3, tk xs at_ = (t1, t2, t3) := ⟨_, _, _, rfl⟩
          have HT := Lib.hid ht; clear ht
          go_wp2_with fail
          refine (take_3 A5 m c5 at_ _ _ t1 t2 t3 HT.out hy5 (by omega)).mono ?_
          rintro e w6 ⟨rfl, rfl⟩
          go_wp2_with fail
          refine (rtake_3 B m d at_ _ _ t1 t2 t3 HT.out hx5 (by omega)).mono ?_
          rintro e w7 ⟨rfl, hb7'⟩
          have hsz5 := hb5.size
          have hb7 := hb5.trans (hb7'.mono hsz5)
          clear hb7' hb5 hx5 hy5
          go_wp2
          go_ret
          exact ⟨rfl, hb7⟩
end Go.Proofs.Ytdlbghjclcdfmaa
