/- The laws' fixed fact. -/
import Derived.Test.YtdlbghjclcdfmaaNumW
import Derived.Lib.SlBytesConst
namespace Go.Proofs.Ytdlbghjclcdfmaa
set_option linter.unusedVariables false
set_option linter.unusedSimpArgs false
open Go.RowKit

set_option maxHeartbeats 1000000 in
theorem awake_any (w : World) : Calls Try.prog 10 #[] w fun e w' => e = .returned (.bool true) ∧ Below w.heap.size w w' := by
  have kc := fun (w : World) (C : Array Value) (n c : Nat) => Lib.run_convert_bytes_const (P := Try.prog) w 23 5 C n c Try.underlying23 Try.underlying5
  have kc2 : ∀ (w : World) (o : Obj) (C : Array Value) (n c : Nat), (convert 23 23 (.slice (some ⟨w.heap.size + 1, 0, none⟩) n c)).run Try.prog ((w.alloc o).alloc (.cells C 5)) = .ok (.slice (some ⟨w.heap.size + 1, 0, none⟩) n c) ((w.alloc o).alloc (.cells C 5 (C.size, C.size + 1))) := by
    intro w o C n c
    simpa using kc (w.alloc o) C n c
  have hu : Us (w.alloc (.cells #[.int .u64 5, .int .u64 247, .int .u64 248, .int .u64 70000] 25)) (some ⟨w.heap.size, 0, none⟩) 4 [5, 247, 248, 70000] := by
    refine ⟨⟨rfl, fun _ => ⟨_, _, rfl, by simp, fun j u hu => ?_⟩⟩, by decide⟩
    match j, hu with
    | 0, hu => simp at hu; subst hu; simp
    | 1, hu => simp at hu; subst hu; simp
    | 2, hu => simp at hu; subst hu; simp
    | 3, hu => simp at hu; subst hu; simp
  go_enter Try.func10, Try.ntmps10
  go_wp2_with fail
  refine (number_any _ 4 _ _ _ hu (by omega)).mono ?_
  rintro e w1 ⟨A1, c1, n1, rfl, hn1, ho1, hb1⟩
  have hn8 : n1 = 8 := hn1.trans (by decide)
  clear hn1
  subst hn8
  have hx1 : Bs w1 A1 8 [5, 247, 248, 248, 250, 1, 17, 112] := ho1.bs (xs := [5, 247, 248, 248, 250, 1, 17, 112]) (by unfold Ran; decide)
  have hb1' : Below w.heap.size w w1 := (below_alloc w _).trans (hb1.mono (by simp))
  clear hu ho1 hb1
  have hb2 : Below w1.heap.size w1 (w1.alloc (.cells #[.int .u8 5, .int .u8 247, .int .u8 248, .int .u8 248, .int .u8 250, .int .u8 1, .int .u8 17, .int .u8 112] 5)) := below_alloc w1 _
  have hx2 := hx1.keep hb2
  have hy2 : Bs (w1.alloc (.cells #[.int .u8 5, .int .u8 247, .int .u8 248, .int .u8 248, .int .u8 250, .int .u8 1, .int .u8 17, .int .u8 112] 5)) (some ⟨w1.heap.size, 0, none⟩) 8 [5, 247, 248, 248, 250, 1, 17, 112] := by
    refine ⟨(Own.of_block (base := 0) (n := 8) (vs := By [5, 247, 248, 248, 250, 1, 17, 112]) (heap_alloc_new w1 _) (Nat.zero_le _) rfl (by unfold maxLen; omega)).rd, by unfold Ran; decide⟩
  have hlt1 := hb1'.size
  go_wp2_with fail
  refine (equal_any A1 (some ⟨w1.heap.size, 0, none⟩) 8 8 c1 8 _ _ _ hx2 hy2 (by unfold maxLen; omega) (by unfold maxLen; omega)).mono ?_
  rintro e w2 ⟨rfl, hd2⟩
  have hb3 : Below w.heap.size w w2 := (hb1'.trans (hb2.mono hlt1)).trans (hd2.below _)
  have heq : (cmpL [5, 247, 248, 248, 250, 1, 17, 112] [5, 247, 248, 248, 250, 1, 17, 112] == 0) = true := by decide
  rw [heq]
  clear hx1 hx2 hy2 hb2 hd2 hb1' heq hlt1
  have hlt2 := hb3.size
  have hwa : Bs ((w2.alloc (.cells #[.int .u8 97] 5 (1, 2))).alloc (.cells #[.int .u8 98] 5 (1, 2))) (some ⟨w2.heap.size, 0, none⟩) 1 [97] :=
    ⟨Rd.of_block (cs := #[.int .u8 97]) (t := 5) (fr := (1, 2)) (by rw [Below.heap_alloc _ _ _ (by simp)]; exact heap_alloc_new w2 _) rfl, by unfold Ran; decide⟩
  have hwb : Bs ((w2.alloc (.cells #[.int .u8 97] 5 (1, 2))).alloc (.cells #[.int .u8 98] 5 (1, 2))) (some ⟨w2.heap.size + 1, 0, none⟩) 1 [98] :=
    ⟨Rd.of_block (cs := #[.int .u8 98]) (t := 5) (fr := (1, 2)) (by have := heap_alloc_new (w2.alloc (.cells #[.int .u8 97] 5 (1, 2))) (.cells #[.int .u8 98] 5 (1, 2)); simpa using this) rfl, by unfold Ran; decide⟩
  go_wp2_with fail
  refine (compare_any (some ⟨w2.heap.size, 0, none⟩) (some ⟨w2.heap.size + 1, 0, none⟩) 1 1 1 1 _ _ _ hwa hwb (by unfold maxLen; omega) (by unfold maxLen; omega)).mono ?_
  rintro e w3 ⟨rfl, hd3⟩
  have hc : cmpL [97] [98] = -1 := by decide
  rw [hc]
  have hb4 : Below w.heap.size w w3 := ((hb3.alloc hlt2 _).alloc (by simp; omega) _).trans (hd3.below _)
  clear hc hwa hwb hd3 hb3
  go_wp2
  go_ret
  exact ⟨rfl, hb4⟩
end Go.Proofs.Ytdlbghjclcdfmaa
