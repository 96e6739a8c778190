/- The reference's Seal. -/
import Derived.Test.YtmckgdjipkkklaaDoorRCellW
namespace Go.Proofs.YtmckgdjipkkklaaDoor
set_option linter.unusedVariables false
set_option linter.unusedSimpArgs false
open Go.RowKit

theorem w4_il (r : Nat) : il (w4 r) = [((r / 16777216 % 256 : Nat) : Int), ((r / 65536 % 256 : Nat) : Int), ((r / 256 % 256 : Nat) : Int), ((r % 256 : Nat) : Int)] := rfl

set_option maxRecDepth 100000 in
set_option maxHeartbeats 1000000 in
theorem rseal_any (A : Option Addr) (n c : Nat) (xs : List Int) (w : World) (hx : Bs w A n xs) (hn : n ≤ 1048576) (hc : n ≤ c) :
    Calls Tryd.prog 25 #[.slice A n c] w fun e w' => ∃ A' c' n', e = .returned (.tuple #[.slice A' n' c', .int .i64 0]) ∧ n' = sealedN n ∧ Own w' w.heap.size 5 A' n' c' (By (il (recL (nl xs)))) ∧ Below w.heap.size w w' := by
  obtain ⟨i0, hi, hz0, hz1, hz2⟩ := info_parts info5
  have HL := Lib.hid hx.len
  have HLN : Hid ((nl xs).length = n) := by show _ = _; rw [nl_length]; exact hx.len
  have HRX := Lib.hid hx.2
  obtain ⟨b0, h0⟩ : ∃ b0 : Nat, b0 = n / 16777216 % 256 := ⟨_, rfl⟩
  obtain ⟨b1, h1⟩ : ∃ b1 : Nat, b1 = n / 65536 % 256 := ⟨_, rfl⟩
  obtain ⟨b2, h2⟩ : ∃ b2 : Nat, b2 = n / 256 % 256 := ⟨_, rfl⟩
  obtain ⟨b3, h3⟩ : ∃ b3 : Nat, b3 = n % 256 := ⟨_, rfl⟩
  have H := Lib.hid (show w4 n = [b0, b1, b2, b3] by rw [h0, h1, h2, h3]; rfl)
  have e0 : (n : Int) / 16777216 = (b0 : Int) := by omega
  have e1 : (n : Int) / 65536 = (b1 : Int) := by omega
  have e2 : (n : Int) / 256 % 256 = (b2 : Int) := by omega
  have e3 : (n : Int) % 256 = (b3 : Int) := by omega
  have hb0' : b0 < 256 := by omega
  have hb1' : b1 < 256 := by omega
  clear h0 h1 h2 h3
  have hb2' : b2 < 256 := by omega
  have hb3' : b3 < 256 := by omega
  have hlit : Bs (w.alloc (.cells #[.int .u8 (b0 : Int), .int .u8 (b1 : Int), .int .u8 (b2 : Int), .int .u8 (b3 : Int)] 5)) (some ⟨w.heap.size, 0, none⟩) 4 [(b0 : Int), (b1 : Int), (b2 : Int), (b3 : Int)] := ⟨rd_lit4 w b0 b1 b2 b3, by
    intro x hx'
    simp at hx'
    rcases hx' with rfl | rfl | rfl | rfl <;> omega⟩
  have HNL : Hid (nl [(b0 : Int), (b1 : Int), (b2 : Int), (b3 : Int)] = w4 n) := by show _ = _; rw [H.out]; simp [nl]
  have hbl := below_alloc w (.cells #[.int .u8 (b0 : Int), .int .u8 (b1 : Int), .int .u8 (b2 : Int), .int .u8 (b3 : Int)] 5)
  have hd1 : decide ((1048576 : Int) < (n : Int)) = false := by simp; omega
  go_enter Tryd.func25, Tryd.ntmps25
  go_wp2_with fail
  refine (rcell_any _ 4 4 _ _ hlit (by omega)).mono ?_
  rintro e w1 ⟨A1, c1, n1, rfl, hn1, ho1, hb1⟩
  rw [HNL.out] at ho1
  have hbw1 := hbl.trans (hb1.mono (by simp))
  have ho1' : Own w1 w.heap.size 5 A1 n1 c1 (By (il (cellL (w4 n)))) := ho1.mono (by simp)
  have hn1' : n1 ≤ 8 := by omega
  have HST : Hid (cellL (w4 n) ++ cellsL ((nl xs).drop 0) = recL (nl xs)) := by show _ = _; rw [List.drop_zero]; unfold recL; rw [HLN.out]
  clear hn1 ho1 hb1 hbl hlit HNL H e0 e1 e2 e3 hb0' hb1' hb2' hb3'
  go_wp2
  go_loopw [5, 6] (fun vo vi wr => ∃ (i nA cA : Nat) (A' : Option Addr) (ys : List Nat), vi = .int .i64 i ∧ vo = .slice A' nA cA ∧ i ≤ n + 250 ∧ nA ≤ 8 + 2 * i ∧ Own wr w.heap.size 5 A' nA cA (By (il ys)) ∧ Below w.heap.size w wr ∧ Hid (ys ++ cellsL ((nl xs).drop i) = recL (nl xs))) (fun _ vi _ => n + 251 - (intOf vi).toNat)
  case atStart => exact ⟨0, n1, c1, A1, _, rfl, rfl, Nat.zero_le _, by omega, ho1', hbw1, HST⟩
  case round =>
    obtain ⟨i, nA, cA, A', ys, rfl, rfl, hi1, hnA, hoA, hbr, HS⟩ := hrel
    have hsr := hbr.size
    by_cases hlt : i < n
    · obtain ⟨b, off, rfl, _, _⟩ := (hx.keep hbr).1.2 (by omega)
      obtain ⟨k, hk⟩ : ∃ k, k = min 251 (n - i) := ⟨_, rfl⟩
      have hk1 : i + k ≤ n := by omega
      have hk2 : k ≤ 251 := by omega
      have hbs : Bs wr (some ⟨b, off + i, none⟩) k ((xs.drop i).take k) := ((hx.keep hbr).rest (m := i) (by omega)).first (m := k) (by omega)
      have HK : Hid (ys ++ cellL (nl ((xs.drop i).take k)) ++ cellsL ((nl xs).drop (i + 251)) = recL (nl xs)) := by
        have hne : (nl xs).drop i ≠ [] := by
          intro h
          have := congrArg List.length h
          rw [List.length_drop, HLN.out] at this
          simp at this; omega
        have e := cellsL_step hne
        have e1 : nl ((xs.drop i).take k) = ((nl xs).drop i).take 251 := by
          rw [nl_take, nl_dropk, List.take_eq_take_iff, List.length_drop, HLN.out]; omega
        show _ = _
        rw [e1, List.append_assoc, ← HS.out, e, List.drop_drop]
      have hsl := fun W => slice_lh28 b off n c i (i + k) (by omega) (by omega) (by omega) W
      have hik : i + k - i = k := by omega
      rw [hik] at hsl
      have hcase : (decide ((n : Int) < (i : Int) + 251) = true ∧ i + k = n) ∨ (decide ((n : Int) < (i : Int) + 251) = false ∧ k = 251) := by
        by_cases h : n < i + 251
        · left; exact ⟨by simp; omega, by omega⟩
        · right; exact ⟨by simp; omega, by omega⟩
      clear hk hik hx
      rcases hcase with ⟨hc1, hc2⟩ | ⟨hc1, rfl⟩
      · rw [hc2] at hsl
        have HC2 := Lib.hid hc2; clear hc2
        go_wp2_with fail
        refine (rcell_any _ _ _ _ _ hbs (by omega)).mono ?_
        rintro e w4' ⟨A4, c4, n4, rfl, hn4, ho4, hb4⟩
        have hoA4 : Own w4' w.heap.size 5 A' nA cA (By (il ys)) := hoA.below hb4 (fun k hk => (hoA.lies k hk).2)
        have hbr4 := hbr.trans (hb4.mono hsr)
        have hs4 := hbr4.size
        have hn4' : n4 ≤ 255 := by omega
        have hr4 := ho4.rd
        clear hn4 ho4 hb4 hoA
        go_wp2_with (at_builtin; refine wpList_append_rd rfl _ _ 28 rfl i0 (.int .u8 0) 1 Tryd.underlying28 hi hz0 hz1 hz2 rfl rfl hoA4 A4 n4 c4 _ rfl hr4 (By_one _) ?c1 ?c2 ?c3 ?_)
        case c1 => unfold maxLen; omega
        case c2 => omega
        case c3 => exact hs4
        intro A5 c5 w5 ho5 hg5
        rw [← By_append, ← il_append] at ho5
        have hbr5 := hbr4.trans (hg5.below hs4 (fun k hk => (hoA4.lies k hk).1))
        clear hoA4 hr4 hg5
        go_wp2
        go_roundw
        case rel => exact ⟨i + 251, nA + n4, c5, A5, _, by go_num, rfl, by omega, by omega, ho5, hbr5, HK⟩
        case measure => simp [intOf]; omega
      · go_wp2_with fail
        refine (rcell_any _ _ _ _ _ hbs (by omega)).mono ?_
        rintro e w4' ⟨A4, c4, n4, rfl, hn4, ho4, hb4⟩
        have hoA4 : Own w4' w.heap.size 5 A' nA cA (By (il ys)) := hoA.below hb4 (fun k hk => (hoA.lies k hk).2)
        have hbr4 := hbr.trans (hb4.mono hsr)
        have hs4 := hbr4.size
        have hn4' : n4 ≤ 255 := by omega
        have hr4 := ho4.rd
        clear hn4 ho4 hb4 hoA
        go_wp2_with (at_builtin; refine wpList_append_rd rfl _ _ 28 rfl i0 (.int .u8 0) 1 Tryd.underlying28 hi hz0 hz1 hz2 rfl rfl hoA4 A4 n4 c4 _ rfl hr4 (By_one _) ?c1 ?c2 ?c3 ?_)
        case c1 => unfold maxLen; omega
        case c2 => omega
        case c3 => exact hs4
        intro A5 c5 w5 ho5 hg5
        rw [← By_append, ← il_append] at ho5
        have hbr5 := hbr4.trans (hg5.below hs4 (fun k hk => (hoA4.lies k hk).1))
        clear hoA4 hr4 hg5
        go_wp2
        go_roundw
        case rel => exact ⟨i + 251, nA + n4, c5, A5, _, by go_num, rfl, by omega, by omega, ho5, hbr5, HK⟩
        case measure => simp [intOf]; omega
    · have hdr : (nl xs).drop i = [] := List.drop_eq_nil_of_le (by rw [HLN.out]; omega)
      have HY : Hid (ys = recL (nl xs)) := by
        have := HS.out
        rw [hdr, cellsL_nil, List.append_nil] at this
        exact this
      have HNA : Hid (nA = sealedN n) := by
        have := hoA.len
        rw [By_length, il_length, HY.out, recL_length, HLN.out] at this
        exact this.symm
      have HO : Hid (Own wr w.heap.size 5 A' nA cA (By (il (recL (nl xs))))) := by show Own _ _ _ _ _ _ _; rw [← HY.out]; exact hoA
      clear hdr hoA
      go_wp2
      go_ret2
      exact ⟨A', cA, nA, rfl, HNA.out, HO.out, hbr⟩
end Go.Proofs.YtmckgdjipkkklaaDoor
