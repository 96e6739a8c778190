/- A flag as one byte: rec.flag, the reference's flag. -/
import Derived.Test.YtmjjbfcblmmipaaRcd
namespace Go.Proofs.Ytmjjbfcblmmipaa
set_option linter.unusedVariables false
set_option linter.unusedSimpArgs false
open Go.RowKit

set_option maxHeartbeats 1000000 in
theorem flag_any (f : Bool) (w : World) : Calls Try.prog 104 #[.bool f] w fun e w' => ∃ A' c', e = .returned (.slice A' 1 c') ∧ Own w' w.heap.size 5 A' 1 c' (By [flagB f]) ∧ Below w.heap.size w w' := by
  have hw0 : Wtr ((w.alloc (.cells #[.slice none 0 0] 147)).alloc (.cells #[.bool f] 4)) w.heap.size none 0 0 [] := by
    refine ⟨?_, Own.nil_⟩
    rw [Below.heap_alloc _ _ _ (by simp)]; exact heap_alloc_new w _
  have hb0 : ((w.alloc (.cells #[.slice none 0 0] 147)).alloc (.cells #[.bool f] 4)).heap[w.heap.size + 1]? = some (.cells #[.bool f] 4 (0, 0)) := by
    have := heap_alloc_new (w.alloc (.cells #[.slice none 0 0] 147)) (.cells #[.bool f] 4)
    simpa using this
  have hbel : Below w.heap.size w ((w.alloc (.cells #[.slice none 0 0] 147)).alloc (.cells #[.bool f] 4)) := (below_alloc w _).alloc (by simp) _
  have HB0 := Lib.hid hb0; clear hb0
  go_enter Try.func104, Try.ntmps104
  go_wp2_with fail
  refine (wflag_one _ w.heap.size (w.heap.size + 1) none 0 0 [] f hw0 HB0.out (by omega)).mono ?_
  rintro e w2 ⟨A2, n2, c2, rfl, hn2, hw2, hef2⟩
  have hb2 : Below w.heap.size w w2 := hbel.trans (hef2.below (by simp; omega) (fun k hk => by cases hk))
  have hs2 := hb2.size
  rw [List.nil_append] at hw2 hn2
  obtain rfl : n2 = 1 := by rw [hn2]; rfl
  clear hw0 hbel hef2 hn2
  go_wp2_with fail
  refine (wbytes_any _ w.heap.size A2 1 c2 _ hw2 (flagB_ran f) (by omega)).mono ?_
  rintro e w3 ⟨A3, c3, rfl, ho3, hb3⟩
  have hb4 := hb2.trans (hb3.mono hs2)
  have ho4 := ho3.mono hs2
  go_wp2
  go_ret
  exact ⟨A3, c3, rfl, ho4, hb4⟩
set_option maxHeartbeats 1000000 in
theorem rflag_one (f : Bool) (w : World) : Calls Try.prog 60 #[.bool f] w fun e w' => ∃ A' c', e = .returned (.slice A' 1 c') ∧ Own w' w.heap.size 5 A' 1 c' (By [flagB f]) ∧ Below w.heap.size w w' := by
  cases f
  · go_enter Try.func60, Try.ntmps60
    go_wp2
    go_ret
    exact ⟨_, _, rfl, Own.of_block (vs := [.int .u8 0]) (heap_alloc_new w _) (Nat.le_refl _) rfl (by unfold maxLen; omega), below_alloc w _⟩
  · go_enter Try.func60, Try.ntmps60
    go_wp2
    go_ret
    exact ⟨_, _, rfl, Own.of_block (vs := [.int .u8 1]) (heap_alloc_new w _) (Nat.le_refl _) rfl (by unfold maxLen; omega), below_alloc w _⟩
end Go.Proofs.Ytmjjbfcblmmipaa
