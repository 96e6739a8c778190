/- Wrap and the reference's Wrap. -/
import Derived.Test.YtmckgdjipkkklaaDoorROpenW
import Derived.Test.YtmckgdjipkkklaaDoorWraps
namespace Go.Proofs.YtmckgdjipkkklaaDoor
set_option linter.unusedVariables false
set_option linter.unusedSimpArgs false
open Go.RowKit

set_option maxRecDepth 100000 in
set_option maxHeartbeats 2000000 in
theorem rwrap_any (A : Option Addr) (n c : Nat) (xs : List Int) (w : World) (hx : Bs w A n xs) (hn : n ≤ 9000) (hc : n ≤ c) (ht : Tabs w) :
    Calls Tryd.prog 34 #[.slice A n c] w fun e w' => ∃ A' c' n', e = .returned (.slice A' n' c') ∧ n' ≤ 20000 ∧ Own w' w.heap.size 5 A' n' c' (By (il (wrapF 3 (nl xs)))) ∧ Below w.heap.size w w' := by
  obtain ⟨i0, hi, hz0, hz1, hz2⟩ := info_parts info5
  have h1 := ht.1
  go_enter Tryd.func34, Tryd.ntmps34
  go_wp2
  go_loopw [0, 3] (fun vb va wr => ∃ (m d nA cA f : Nat) (B A1 : Option Addr) (zs : List Int) (dn : List Nat), vb = .slice B m d ∧ va = .slice A1 nA cA ∧ Bs w B m zs ∧ m ≤ d ∧ m ≤ n ∧ f ≤ 3 ∧ m < 4096 * (f + 1) ∧ nA ≤ 4200 * (3 - f) ∧ Own wr w.heap.size 5 A1 nA cA (By (il dn)) ∧ Hid (wrapF 3 (nl xs) = dn ++ wrapF f (nl zs)) ∧ Below w.heap.size w wr) (fun vb _ _ => lenV vb)
  case atStart => exact ⟨n, c, 0, 0, 3, A, none, xs, [], rfl, rfl, hx, hc, Nat.le_refl _, Nat.le_refl _, by omega, by omega, by simpa [il, By] using Own.nil_, by rfl, Below.refl _ _⟩
  case round =>
    obtain ⟨m, d, nA, cA, f, B, A1, zs, dn, rfl, rfl, hb, hmd, hmn, hf3, hmf, hnA, hoA, HINV, hbr⟩ := hrel
    have hsr := hbr.size
    have htr := ht.below hbr
    by_cases hlt : m < 4096
    · have hd1 : decide ((4096 : Int) ≤ (m : Int)) = false := by simp; omega
      have HF := Lib.hid (show wrapF 3 (nl xs) = dn ++ recL (nl zs) by rw [HINV.out, wrapF_end f (by rw [nl_length, hb.len]; exact hlt)])
      have hbR := hb.keep hbr
      clear HINV
      go_wp2_with fail
      refine (rseal_any B m d zs _ hbR (by omega) hmd).mono ?_
      rintro e w3 ⟨A3, c3, n3, rfl, hn3, ho3, hb3⟩
      have hoA3 : Own w3 w.heap.size 5 A1 nA cA (By (il dn)) := hoA.below hb3 (fun k hk => (hoA.lies k hk).2)
      have hbr3 := hbr.trans (hb3.mono hsr)
      have hs3 := hbr3.size
      have hr3 := ho3.rd
      have hn3' : n3 ≤ 4200 := by rw [hn3]; unfold sealedN; omega
      clear hn3 ho3 hb3 hoA hbr
      go_wp2_with (at_builtin; refine wpList_append_rd rfl _ _ 28 rfl i0 (.int .u8 0) 1 Tryd.underlying28 hi hz0 hz1 hz2 rfl rfl hoA3 A3 n3 c3 _ rfl hr3 (By_one _) ?c1 ?c2 ?c3 ?_)
      case c1 => unfold maxLen; omega
      case c2 => omega
      case c3 => exact hs3
      intro A4 c4 w4' ho4 hg4
      have hbr4 := hbr3.trans (hg4.below hs3 (fun k hk => (hoA3.lies k hk).1))
      rw [← By_append, ← il_append, ← HF.out] at ho4
      clear hg4 hoA3 hr3 hbr3
      go_wp2
      go_ret
      exact ⟨A4, c4, nA + n3, rfl, by omega, ho4, hbr4⟩
    · have hd1 : decide ((4096 : Int) ≤ (m : Int)) = true := by simp; omega
      obtain ⟨f', rfl⟩ : ∃ f', f = f' + 1 := ⟨f - 1, by omega⟩
      have HF := Lib.hid (show wrapF 3 (nl xs) = (dn ++ recL (nl (zs.take 4096))) ++ wrapF f' (nl (zs.drop 4096)) by rw [HINV.out, wrapF_step f' (by rw [nl_length, hb.len]; exact hlt), nl_take, nl_dropk, List.append_assoc])
      obtain ⟨b, off, rfl, hbw, _⟩ := hb.1.2 (by omega)
      obtain ⟨s, hs⟩ : ∃ s : Nat, s = 4096 := ⟨_, rfl⟩
      obtain ⟨off', hsll, hoff⟩ := slice_l28' b off m d s (by omega) hmd
      have hslh2 : ∀ W, (Instr.slice 28 (.slice (some ⟨b, off, none⟩) m d) none (some (.int .i64 4096)) none).run Tryd.prog W = .ok (.slice (some ⟨b, off, none⟩) s d) W := fun W => by have := slice_h28 (some ⟨b, off, none⟩) m d s (by omega) W; rwa [show ((s : Nat) : Int) = 4096 by omega] at this
      have hsll2 : ∀ W, (Instr.slice 28 (.slice (some ⟨b, off, none⟩) m d) (some (.int .i64 4096)) none none).run Tryd.prog W = .ok (.slice (some ⟨b, off', none⟩) (m - s) (d - s)) W := fun W => by have := hsll W; rwa [show ((s : Nat) : Int) = 4096 by omega] at this
      rw [← hs] at HF
      have hbS : Bs w (some ⟨b, off, none⟩) s (zs.take s) := hb.first (m := s) (by omega)
      have hbD : Bs w (some ⟨b, off', none⟩) (m - s) (zs.drop s) := by
        by_cases h : s < m
        · rw [hoff h]; exact hb.rest (m := s) (by omega)
        · have : m - s = 0 := by omega
          rw [this, List.drop_eq_nil_of_le (by rw [hb.len]; omega)]
          exact Bs.nil_
      have hsm : s ≤ m := by omega
      have hs1 : s ≤ 4096 := by omega
      have hs2 : m - s < 4096 * (f' + 1) := by omega
      have hs3 : m - s < m := by omega
      have hs4 : sealedN s ≤ 4200 := by rw [hs]; decide
      have hbR := hbS.keep hbr
      clear HINV hs hsll hoff hlt
      go_wp2_with fail
      refine (rseal_any _ s d _ _ hbR (by omega) (by omega)).mono ?_
      rintro e w3 ⟨A3, c3, n3, rfl, hn3, ho3, hb3⟩
      have hoA3 : Own w3 w.heap.size 5 A1 nA cA (By (il dn)) := hoA.below hb3 (fun k hk => (hoA.lies k hk).2)
      have hbr3 := hbr.trans (hb3.mono hsr)
      have hs3' := hbr3.size
      have hr3 := ho3.rd
      have hn3' : n3 ≤ 4200 := by rw [hn3]; exact hs4
      clear hn3 ho3 hb3 hoA hbr
      go_wp2_with (at_builtin; refine wpList_append_rd rfl _ _ 28 rfl i0 (.int .u8 0) 1 Tryd.underlying28 hi hz0 hz1 hz2 rfl rfl hoA3 A3 n3 c3 _ rfl hr3 (By_one _) ?c1 ?c2 ?c3 ?_)
      case c1 => unfold maxLen; omega
      case c2 => omega
      case c3 => exact hs3'
      intro A4 c4 w4' ho4 hg4
      have hbr4 := hbr3.trans (hg4.below hs3' (fun k hk => (hoA3.lies k hk).1))
      rw [← By_append, ← il_append] at ho4
      clear hg4 hoA3 hr3 hbr3
      go_wp2
      go_roundw
      case rel => exact ⟨m - s, d - s, nA + n3, c4, f', _, A4, zs.drop s, _, rfl, rfl, hbD, by omega, by omega, by omega, hs2, by omega, ho4, HF, hbr4⟩
      case measure => simp [lenV]; omega

set_option maxRecDepth 100000 in
set_option maxHeartbeats 2000000 in
theorem wrap_any (A : Option Addr) (n c : Nat) (xs : List Int) (w : World) (hx : Bs w A n xs) (hn : n ≤ 9000) (hc : n ≤ c) (ht : Tabs w) :
    Calls Tryd.prog 33 #[.slice A n c] w fun e w' => ∃ A' c' n', e = .returned (.slice A' n' c') ∧ n' ≤ 20000 ∧ Own w' w.heap.size 5 A' n' c' (By (il (wrapF 3 (nl xs)))) ∧ Below w.heap.size w w' := by
  obtain ⟨i0, hi, hz0, hz1, hz2⟩ := info_parts info5
  have h1 := ht.1
  obtain ⟨p, hp⟩ : ∃ p : Nat, p = n / 4096 := ⟨_, rfl⟩
  obtain ⟨q, hq⟩ : ∃ q : Nat, q = n % 4096 := ⟨_, rfl⟩
  have hpi : (n : Int) / 4096 = (p : Int) := by omega
  have hqi : (n : Int) % 4096 = (q : Int) := by omega
  have hp2 : p ≤ 2 := by omega
  have hq2 : q < 4096 := by omega
  obtain ⟨S, hS⟩ : ∃ S : Nat, S = p * 4172 + sealedN q := ⟨_, rfl⟩
  have hS1 : S ≤ 20000 := by rw [hS]; unfold sealedN; omega
  have hSi : (p : Int) * 4172 + ((sealedN q : Nat) : Int) = (S : Int) := by rw [hS]; push_cast; rfl
  have hmk := fun W => run_make_room i0 hi hz0 hz1 hz2 S (by omega) W
  clear hp hq hS
  go_enter Tryd.func33, Tryd.ntmps33
  go_wp2_with fail
  refine (sealed_any 4096 (by omega) _).mono ?_
  rintro e w' ⟨rfl, rfl⟩
  rw [show sealedN 4096 = 4172 from rfl]
  go_wp2_with fail
  refine (sealed_any q (by omega) _).mono ?_
  rintro e w' ⟨rfl, rfl⟩
  go_wp2
  go_loopw [0, 4] (fun vb va wr => ∃ (m d nA cA f : Nat) (B A1 : Option Addr) (zs : List Int) (dn : List Nat), vb = .slice B m d ∧ va = .slice A1 nA cA ∧ Bs w B m zs ∧ m ≤ d ∧ m ≤ n ∧ f ≤ 3 ∧ m < 4096 * (f + 1) ∧ nA ≤ 4200 * (3 - f) ∧ Own wr w.heap.size 5 A1 nA cA (By (il dn)) ∧ Hid (wrapF 3 (nl xs) = dn ++ wrapF f (nl zs)) ∧ Below w.heap.size w wr) (fun vb _ _ => lenV vb)
  case atStart => exact ⟨n, c, 0, S, 3, A, some ⟨w.heap.size, 0, none⟩, xs, [], rfl, rfl, hx, hc, Nat.le_refl _, Nat.le_refl _, by omega, by omega, Own.room (heap_alloc_new w _) (Nat.le_refl _) (by simp [zerA, zer]) (by unfold maxLen; omega), by rfl, below_alloc w _⟩
  case round =>
    obtain ⟨m, d, nA, cA, f, B, A1, zs, dn, rfl, rfl, hb, hmd, hmn, hf3, hmf, hnA, hoA, HINV, hbr⟩ := hrel
    have hsr := hbr.size
    have htr := ht.below hbr
    by_cases hlt : m < 4096
    · have hd1 : decide ((4096 : Int) ≤ (m : Int)) = false := by simp; omega
      have HF := Lib.hid (show wrapF 3 (nl xs) = dn ++ recL (nl zs) by rw [HINV.out, wrapF_end f (by rw [nl_length, hb.len]; exact hlt)])
      have hbR := hb.keep hbr
      clear HINV
      have HNE : Hid (0 < m → blk B ≠ blk A1) := by
        intro h0 e
        obtain ⟨b, off, rfl, hlt', _⟩ := hb.1.2 h0
        have := (hoA.lies b e.symm).1
        omega
      go_wp2_with fail
      refine (appendRecord_any A1 B nA cA m d w.heap.size (il dn) zs _ hoA hsr h1 hbR hmd (by omega) HNE.out (by omega) htr).mono ?_
      rintro e w3 ⟨A3, c3, n3, rfl, hn3, ho3, hg3⟩
      have hbr3 := hbr.trans (hg3.below hsr (fun k hk => (hoA.lies k hk).1))
      have hn3' : n3 ≤ 20000 := by
        have hl := hoA.len
        rw [By_length] at hl
        rw [hn3, hl, recL_length, nl_length, hb.len]; unfold sealedN; omega
      rw [← il_append, ← HF.out] at ho3
      clear hn3 hg3 hoA hbr
      go_wp2
      go_ret
      exact ⟨A3, c3, n3, rfl, hn3', ho3, hbr3⟩
    · have hd1 : decide ((4096 : Int) ≤ (m : Int)) = true := by simp; omega
      obtain ⟨f', rfl⟩ : ∃ f', f = f' + 1 := ⟨f - 1, by omega⟩
      have HF := Lib.hid (show wrapF 3 (nl xs) = (dn ++ recL (nl (zs.take 4096))) ++ wrapF f' (nl (zs.drop 4096)) by rw [HINV.out, wrapF_step f' (by rw [nl_length, hb.len]; exact hlt), nl_take, nl_dropk, List.append_assoc])
      obtain ⟨b, off, rfl, hbw, _⟩ := hb.1.2 (by omega)
      obtain ⟨s, hs⟩ : ∃ s : Nat, s = 4096 := ⟨_, rfl⟩
      obtain ⟨off', hsll, hoff⟩ := slice_l28' b off m d s (by omega) hmd
      have hslh2 : ∀ W, (Instr.slice 28 (.slice (some ⟨b, off, none⟩) m d) none (some (.int .i64 4096)) none).run Tryd.prog W = .ok (.slice (some ⟨b, off, none⟩) s d) W := fun W => by have := slice_h28 (some ⟨b, off, none⟩) m d s (by omega) W; rwa [show ((s : Nat) : Int) = 4096 by omega] at this
      have hsll2 : ∀ W, (Instr.slice 28 (.slice (some ⟨b, off, none⟩) m d) (some (.int .i64 4096)) none none).run Tryd.prog W = .ok (.slice (some ⟨b, off', none⟩) (m - s) (d - s)) W := fun W => by have := hsll W; rwa [show ((s : Nat) : Int) = 4096 by omega] at this
      rw [← hs] at HF
      have hbS : Bs w (some ⟨b, off, none⟩) s (zs.take s) := hb.first (m := s) (by omega)
      have hbD : Bs w (some ⟨b, off', none⟩) (m - s) (zs.drop s) := by
        by_cases h : s < m
        · rw [hoff h]; exact hb.rest (m := s) (by omega)
        · have : m - s = 0 := by omega
          rw [this, List.drop_eq_nil_of_le (by rw [hb.len]; omega)]
          exact Bs.nil_
      have hsm : s ≤ m := by omega
      have hs1 : s ≤ 4096 := by omega
      have hs2 : m - s < 4096 * (f' + 1) := by omega
      have hs3 : m - s < m := by omega
      have hs4 : sealedN s ≤ 4200 := by rw [hs]; decide
      have hbR := hbS.keep hbr
      clear HINV hs hsll hoff hlt
      have HNE : Hid (0 < s → blk (some (⟨b, off, none⟩ : Addr)) ≠ blk A1) := by
        intro h0 e
        have := (hoA.lies b e.symm).1
        omega
      go_wp2_with fail
      refine (appendRecord_any A1 _ nA cA s d w.heap.size (il dn) _ _ hoA hsr h1 hbR (by omega) (by omega) HNE.out (by omega) htr).mono ?_
      rintro e w3 ⟨A3, c3, n3, rfl, hn3, ho3, hg3⟩
      have hbr3 := hbr.trans (hg3.below hsr (fun k hk => (hoA.lies k hk).1))
      have hn3' : n3 ≤ nA + 4200 := by
        have hl := hoA.len
        rw [By_length] at hl
        rw [hn3, hl, recL_length, nl_length, hbS.len]; omega
      rw [← il_append] at ho3
      clear hn3 hg3 hoA hbr
      go_wp2
      go_roundw
      case rel => exact ⟨m - s, d - s, n3, c3, f', _, A3, zs.drop s, _, rfl, rfl, hbD, by omega, by omega, by omega, hs2, by omega, ho3, HF, hbr3⟩
      case measure => simp [lenV]; omega
end Go.Proofs.YtmckgdjipkkklaaDoor
