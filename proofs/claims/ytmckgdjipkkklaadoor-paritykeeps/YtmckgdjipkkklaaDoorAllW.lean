/- Opening records in the program: OpenAll. -/
import Derived.Test.YtmckgdjipkkklaaDoorOpen2W
import Derived.Test.YtmckgdjipkkklaaDoorChain
import Derived.Test.YtmckgdjipkkklaaDoorSls
namespace Go.Proofs.YtmckgdjipkkklaaDoor
set_option linter.unusedVariables false
set_option linter.unusedSimpArgs false
open Go.RowKit

/-- What OpenAll returns. -/
def AllPost (l : List Nat) (w : World) (e : Ending) (w' : World) : Prop :=
  ∃ (A' : Option Addr) (c' k at' : Nat) (recs : List (List Nat)), e = .returned (.tuple #[.slice A' k c', .int .i64 (at' : Int)]) ∧ k = recs.length ∧ at' ≤ l.length ∧ Prts w' w.heap.size A' k c' (recs.map il) ∧ Hid (Chain l 0 recs at') ∧ Hid ((openL l at').1 ≠ 0) ∧ Below w.heap.size w w'

set_option maxHeartbeats 2000000 in
theorem openAll_any (A : Option Addr) (n c : Nat) (xs : List Int) (w : World) (hx : Bs w A n xs) (hn : n ≤ 1000000000) (hc : n ≤ c) (ht : Tabs w) :
    Calls Tryd.prog 28 #[.slice A n c] w (AllPost (nl xs) w) := by
  obtain ⟨i8, hi8, hy0, hy1, hy2⟩ := info_parts info28
  have hl : (nl xs).length = n := by rw [nl_length]; exact hx.len
  have HLN := Lib.hid hl; clear hl
  have HRN := Lib.hid (nl_rn hx.2)
  go_enter Tryd.func28, Tryd.ntmps28
  go_wp2
  go_loopw [4, 5] (fun va vp wr => ∃ (A1 : Option Addr) (c1 k a1 : Nat) (recs : List (List Nat)), va = .slice A1 k c1 ∧ vp = .int .i64 a1 ∧ a1 ≤ n ∧ 8 * k ≤ a1 ∧ Hid (k = recs.length) ∧ Prts wr w.heap.size A1 k c1 (recs.map il) ∧ Hid (Chain (nl xs) 0 recs a1) ∧ Below w.heap.size w wr) (fun _ vp _ => n - (intOf vp).toNat)
  case atStart => exact ⟨none, 0, 0, 0, [], rfl, rfl, Nat.zero_le _, Nat.le_refl _, rfl, Prts.nil_, rfl, Below.refl _ _⟩
  case round =>
    obtain ⟨A1, c1, k, a1, recs, rfl, rfl, ha1, hk8, HK, hp, HC, hbr⟩ := hrel
    have hsr := hbr.size
    have hx1 := hx.keep hbr
    have ht1 := ht.below hbr
    have HNX := Lib.hid (fun h => openL_next (l := nl xs) (a := a1) h)
    have HCS := Lib.hid (fun (x : List Nat) (nx : Nat) (h : openL (nl xs) a1 = (0, x, nx)) => HC.out.snoc h)
    go_wp2_with fail
    refine (open_any A n c a1 xs _ hx1 (by omega) hc ha1 ht1).mono ?_
    rintro e w2 (⟨hr0, A2, c2, rfl, ho2, hb2⟩ | ⟨hr0, rfl, hb2⟩)
    · obtain ⟨g1, g2, g3⟩ := HNX.out hr0
      obtain ⟨x, hxx⟩ : ∃ x, (openL (nl xs) a1).2.1 = x := ⟨_, rfl⟩
      obtain ⟨nx, hnx⟩ : ∃ nx, (openL (nl xs) a1).2.2 = nx := ⟨_, rfl⟩
      have hop : openL (nl xs) a1 = (0, x, nx) := by rw [← hxx, ← hnx, ← hr0]
      have HCH := Lib.hid (HCS.out x nx hop)
      have HRX := Lib.hid (show Ran (il x) by rw [← hxx]; exact il_ran (openL_rn HRN.out a1))
      rw [hxx] at ho2 g3 ⊢
      rw [hnx] at g1 g2 ⊢
      rw [HLN.out] at g2
      clear hop hxx hnx hr0 HNX HCS HC
      have hs2 := hb2.size
      have hb02 := hbr.trans (hb2.mono hsr)
      have ho2' := ho2.mono hsr
      obtain ⟨vs, hrow, HROW⟩ := (hp.keep hb2).row (.cells #[.slice A2 x.length c2] 28)
      clear hp hbr hx1 ht1
      go_wp2_with (at_builtin; refine wpList_append_rd rfl _ _ 27 rfl i8 (.slice none 0 0) 24 Tryd.underlying27 hi8 hy0 hy1 hy2 rfl rfl hrow (some ⟨w2.heap.size, 0, none⟩) 1 1 [.slice A2 x.length c2] rfl (rd_oneV w2 _ 28) (one_slice _ _ _) ?c1 ?c2 ?c3 ?_)
      case c1 => unfold maxLen; omega
      case c2 => omega
      case c3 => simp; omega
      intro A3 c3 w3 ho3 hg3
      have hb03 : Below w.heap.size w w3 := (hb02.alloc (by omega) _).trans (hg3.below (by simp; omega) (fun k hk => (hrow.lies k hk).1))
      have hp3 : Prts w3 w.heap.size A3 (k + 1) c3 ((recs ++ [x]).map il) := by
        rw [List.map_append]
        have hil := il_length x
        have := HROW.out A2 c2 (il x) w3 A3 c3 (by rw [hil]; exact ho2') HRX.out (by rw [hil]; exact ho3) hg3
        exact this
      have HK2 := Lib.hid (show k + 1 = (recs ++ [x]).length by rw [List.length_append, HK.out]; rfl)
      clear hrow HROW ho3 hg3 ho2 ho2' hb2 hb02
      go_wp2
      go_roundw
      case rel => exact ⟨A3, c3, k + 1, nx, _, rfl, rfl, g2, by omega, HK2, hp3, HCH, hb03⟩
      case measure => simp [intOf]; omega
    · have hne : (((openL (nl xs) a1).1 : Nat) : Int) ≠ 0 := by simpa using hr0
      have hne2 : ((((openL (nl xs) a1).1 : Nat) : Int) != 0) = true := by simpa using hr0
      have HE := Lib.hid hr0
      have hp2 := hp.keep hb2
      have hb02 := hbr.trans (hb2.mono hsr)
      generalize hE : (openL (nl xs) a1).1 = E at *
      have HEE := Lib.hid hE
      clear hE hr0 hne hp hbr HNX HCS
      go_wp2
      go_ret2
      exact ⟨A1, c1, k, a1, recs, rfl, HK.out, by rw [HLN.out]; exact ha1, hp2, HC, by rw [HEE.out]; exact HE, hb02⟩
end Go.Proofs.YtmckgdjipkkklaaDoor
