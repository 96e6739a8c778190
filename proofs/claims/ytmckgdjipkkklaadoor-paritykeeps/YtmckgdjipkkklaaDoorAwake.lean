/- The laws' fixed fact; cut. -/
import Derived.Test.YtmckgdjipkkklaaDoorGoodW
namespace Go.Proofs.YtmckgdjipkkklaaDoor
set_option linter.unusedVariables false
set_option linter.unusedSimpArgs false
open Go.RowKit

theorem ran_of {xs : List Int} (h : (xs.all fun x => decide (0 ≤ x) && decide (x ≤ 255)) = true) : Ran xs := by
  intro x hx
  have := List.all_eq_true.1 h x hx
  simpa using this

set_option maxHeartbeats 1000000 in
theorem awake_any (w : World) (ht : Tabs w) : Calls Tryd.prog 12 #[] w fun e w' => e = .returned (.bool true) ∧ Below w.heap.size w w' := by
  have hb1 := below_alloc w (.cells #[.int .u8 1] 5)
  have hx1 : Bs (w.alloc (.cells #[.int .u8 1] 5)) (some ⟨w.heap.size, 0, none⟩) 1 [1] := ⟨Rd.of_block (cs := #[.int .u8 1]) (heap_alloc_new w _) rfl, ran_of (by decide)⟩
  have hx2 := Bss.one (t := 28) (c := 1) hx1 (Nat.le_refl _)
  have hb2 := hb1.trans ((below_alloc (w.alloc (.cells #[.int .u8 1] 5)) (.cells #[.slice (some ⟨w.heap.size, 0, none⟩) 1 1] 28)).mono (by simp))
  have ht2 := ht.below hb2
  have es : (w.alloc (.cells #[.int .u8 1] 5)).heap.size = w.heap.size + 1 := by simp
  rw [es] at hx2
  have hml : (1 : Nat) ≤ maxLen := by unfold maxLen; omega
  have HS : Hid (∀ ys ∈ [[(1 : Int)]], ys.length ≤ maxLen) := by
    intro ys hys
    obtain rfl : ys = [1] := by simpa using hys
    exact hml
  clear es hb1 hx1
  go_enter Tryd.func12, Tryd.ntmps12
  go_wp2_with fail
  refine (check_any _ 1 1 [[1]] _ hx2 hml HS.out ht2).mono ?_
  rintro e w1 ⟨b0, b1, b2, b3, rfl, H4, l4, hb3⟩
  have hlist : [b0, b1, b2, b3] = [15, 54, 120, 64] := H4.out.symm.trans (by decide)
  simp only [List.cons.injEq, and_true] at hlist
  obtain ⟨rfl, rfl, rfl, rfl⟩ := hlist
  have hbw : Below w.heap.size w w1 := hb2.trans (hb3.mono (by simp; omega))
  have hsz := hbw.size
  have he : ∀ W, (binOp .eql 30 (.agg #[.int .u8 15, .int .u8 54, .int .u8 120, .int .u8 64]) (.agg #[.int .u8 15, .int .u8 54, .int .u8 120, .int .u8 64])).run Tryd.prog W = .ok (.bool true) W := fun W => eql30 (a0 := 15) (a1 := 54) (a2 := 120) (a3 := 64) (b0 := 15) (b1 := 54) (b2 := 120) (b3 := 64) (by decide) (by decide) W
  clear hx2 ht2 H4 hb2 hb3 l4
  unfold a4
  go_wp2_with fail
  have hbA := below_alloc w1 (.cells #[.int .u8 15, .int .u8 54, .int .u8 120, .int .u8 64] 30)
  have hb5 : Below w.heap.size w ((w1.alloc (.cells #[.int .u8 15, .int .u8 54, .int .u8 120, .int .u8 64] 30)).alloc (.cells #[.int .u8 1, .int .u8 15, .int .u8 54, .int .u8 120, .int .u8 64] 5)) := (hbw.alloc hsz _).alloc (by simp; omega) _
  have hx5 : Bs ((w1.alloc (.cells #[.int .u8 15, .int .u8 54, .int .u8 120, .int .u8 64] 30)).alloc (.cells #[.int .u8 1, .int .u8 15, .int .u8 54, .int .u8 120, .int .u8 64] 5)) (some ⟨w1.heap.size + 1, 0, none⟩) 5 [1, 15, 54, 120, 64] :=
    ⟨Rd.of_block (cs := #[.int .u8 1, .int .u8 15, .int .u8 54, .int .u8 120, .int .u8 64]) (by have := heap_alloc_new (w1.alloc (.cells #[.int .u8 15, .int .u8 54, .int .u8 120, .int .u8 64] 30)) (.cells #[.int .u8 1, .int .u8 15, .int .u8 54, .int .u8 120, .int .u8 64] 5); simpa using this) rfl, ran_of (by decide)⟩
  refine (good_any _ 5 5 [1, 15, 54, 120, 64] _ hx5 (by unfold maxLen; omega) (Nat.le_refl _) (ht.below hb5)).mono ?_
  rintro e w2 ⟨rfl, hb6⟩
  have hg : goodL (nl [1, 15, 54, 120, 64]) = true := by decide
  rw [hg]
  have hb7 := hb5.trans (hb6.mono (by simp; omega))
  clear hx5 hb5 hb6 hbA hbw hg he
  go_wp2_with fail
  refine (mul_any 2 128 _ (by omega) (by omega)).mono ?_
  rintro e w3 ⟨rfl, rfl⟩
  have hm : mul 2 128 = 29 := by decide
  rw [hm]
  clear hm
  go_wp2
  go_ret
  exact ⟨rfl, hb7⟩

/-- At most so many bytes. -/
theorem cut_any (A : Option Addr) (n c : Nat) (k : Nat) (xs : List Int) (w : World) (hx : Bs w A n xs) (hn : n ≤ maxLen) (hc : n ≤ c) (hk : k ≤ 9223372036854775807) :
    Calls Tryd.prog 16 #[.slice A n c, .int .i64 (k : Int)] w fun e w' => ∃ m : Nat, e = .returned (.slice A m c) ∧ Hid (m = min n k) ∧ Bs w A m (xs.take k) ∧ w = w' := by
  unfold maxLen at hn
  have hl := hx.len
  by_cases h : k < n
  · have hs := slice_h28 A n c k (by omega)
    have hb := hx.first (m := k) (by omega)
    have HM := Lib.hid (show k = min n k by omega)
    clear hl
    go_enter Tryd.func16, Tryd.ntmps16
    go_wp2
    go_ret
    exact ⟨k, rfl, HM, hb, rfl⟩
  · have hb : Bs w A n (xs.take k) := by rw [List.take_of_length_le (by omega)]; exact hx
    have HM := Lib.hid (show n = min n k by omega)
    clear hl
    go_enter Tryd.func16, Tryd.ntmps16
    go_wp2
    go_ret
    exact ⟨n, rfl, HM, hb, rfl⟩
end Go.Proofs.YtmckgdjipkkklaaDoor
