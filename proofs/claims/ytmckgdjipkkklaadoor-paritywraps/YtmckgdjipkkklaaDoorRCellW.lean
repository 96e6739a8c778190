/- The reference's cell: bytes and their check bytes. -/
import Derived.Test.YtmckgdjipkkklaaDoorRCheckW
import Derived.Test.YtmckgdjipkkklaaDoorSealW
namespace Go.Proofs.YtmckgdjipkkklaaDoor
set_option linter.unusedVariables false
set_option linter.unusedSimpArgs false
open Go.RowKit

/-- Four bytes laid as a literal slice. -/
def lit4 (b0 b1 b2 b3 : Nat) : Obj := .cells #[.int .u8 (b0 : Int), .int .u8 (b1 : Int), .int .u8 (b2 : Int), .int .u8 (b3 : Int)] 5
theorem rd_lit4 (w : World) (b0 b1 b2 b3 : Nat) : Rd (w.alloc (.cells #[.int .u8 (b0 : Int), .int .u8 (b1 : Int), .int .u8 (b2 : Int), .int .u8 (b3 : Int)] 5)) (some ⟨w.heap.size, 0, none⟩) 4 (By [(b0 : Int), (b1 : Int), (b2 : Int), (b3 : Int)]) :=
  Rd.of_block (cs := #[.int .u8 (b0 : Int), .int .u8 (b1 : Int), .int .u8 (b2 : Int), .int .u8 (b3 : Int)]) (heap_alloc_new w _) rfl

set_option maxHeartbeats 1000000 in
theorem rcell_any (A : Option Addr) (n c : Nat) (xs : List Int) (w : World) (hx : Bs w A n xs) (hn : n ≤ 1048576) :
    Calls Tryd.prog 44 #[.slice A n c] w fun e w' => ∃ A' c' n', e = .returned (.slice A' n' c') ∧ n' = n + 4 ∧ Own w' w.heap.size 5 A' n' c' (By (il (cellL (nl xs)))) ∧ Below w.heap.size w w' := by
  obtain ⟨i0, hi, hz0, hz1, hz2⟩ := info_parts info5
  have HRX := Lib.hid hx.2
  go_enter Tryd.func44, Tryd.ntmps44
  go_wp2_with fail
  refine (rcheck_any A n c xs _ hx hn).mono ?_
  rintro e w2 ⟨b0, b1, b2, b3, rfl, H4, l4', hb2⟩
  have hx2 := hx.keep hb2
  have hs2 := hb2.size
  unfold a4
  obtain ⟨w3, hw3⟩ : ∃ z, z = w2.alloc (.cells #[.int .u8 (b0 : Int), .int .u8 (b1 : Int), .int .u8 (b2 : Int), .int .u8 (b3 : Int)] 30) := ⟨_, rfl⟩
  have har : Ar w3 w2.heap.size b0 b1 b2 b3 := by rw [hw3]; exact Ar.new w2 b0 b1 b2 b3
  have hbB : Below w2.heap.size w2 w3 := by rw [hw3]; exact below_alloc w2 _
  have hx3 := hx2.keep hbB
  have hbw3 := hb2.trans (hbB.mono hs2)
  have hs3 := hbw3.size
  have hg3 := har.lt
  have f0 := har.c0
  have f1 := har.c1
  have f2 := har.c2
  have f3 := har.c3
  have hj0 := fun W => idx30 w2.heap.size 0 (by omega) W
  have hj1 := fun W => idx30 w2.heap.size 1 (by omega) W
  have hj2 := fun W => idx30 w2.heap.size 2 (by omega) W
  have hj3 := fun W => idx30 w2.heap.size 3 (by omega) W
  simp only [Int.cast_ofNat_Int] at hj0 hj1 hj2 hj3
  have HW3 := Lib.hid hw3.symm; clear hw3
  clear hx hx2 hb2 hbB
  go_wp2
  rw [HW3.out]
  clear HW3
  generalize w2.heap.size = g at *
  have hc1 : n + 4 ≤ maxLen := by unfold maxLen; omega
  have hc2 : (n + 4) * 1 ≤ 140737488355328 := by omega
  have hbsA : Bs w3.drew A n xs := hx3.dr (Dr.refl _).one
  have hbsB : Bs (w3.alloc (.cells #[.int .u8 (b0 : Int), .int .u8 (b1 : Int), .int .u8 (b2 : Int), .int .u8 (b3 : Int)] 5)).drew A n xs := (hx3.keep (below_alloc w3 _)).dr (Dr.refl _).one
  have HF : Hid (∀ w', Ar w' g b0 b1 b2 b3 → (w'.cell? ⟨g, 0, none⟩ = some (.int .u8 (b0 : Int)) ∧ w'.cell? ⟨g, 1, none⟩ = some (.int .u8 (b1 : Int)) ∧ w'.cell? ⟨g, 2, none⟩ = some (.int .u8 (b2 : Int)) ∧ w'.cell? ⟨g, 3, none⟩ = some (.int .u8 (b3 : Int)))) := fun w' h => ⟨h.c0, h.c1, h.c2, h.c3⟩
  have HO : Hid (∀ (v : World) (A5 : Option Addr) (c5 base : Nat), w.heap.size ≤ base → Own v base 5 A5 (n + 4) c5 (By xs ++ By [(b0 : Int), (b1 : Int), (b2 : Int), (b3 : Int)]) → Own v w.heap.size 5 A5 (n + 4) c5 (By (il (cellL (nl xs))))) := by
    intro v A5 c5 base hb h
    rw [il_cellL HRX.out, H4.out, By_append]
    exact Own.mono (by simpa [il] using h) hb
  have ar0 := HF.out _ har
  have ar1 := HF.out _ har.drew
  have ar2 := HF.out _ (har.keep (below_alloc w3 (.cells #[.int .u8 (b0 : Int), .int .u8 (b1 : Int), .int .u8 (b2 : Int), .int .u8 (b3 : Int)] 5)) hg3)
  have ar3 := HF.out _ (har.keep (below_alloc w3 (.cells #[.int .u8 (b0 : Int), .int .u8 (b1 : Int), .int .u8 (b2 : Int), .int .u8 (b3 : Int)] 5)) hg3).drew
  have AR0 := Lib.hid ar0
  have AR1 := Lib.hid ar1
  have AR2 := Lib.hid ar2
  have AR3 := Lib.hid ar3
  clear f0 f1 f2 f3 ar0 ar1 ar2 ar3
  go_region_held3 (fun w' => w'.cell? ⟨g, 0, none⟩ = some (.int .u8 (b0 : Int)) ∧ w'.cell? ⟨g, 1, none⟩ = some (.int .u8 (b1 : Int)) ∧ w'.cell? ⟨g, 2, none⟩ = some (.int .u8 (b2 : Int)) ∧ w'.cell? ⟨g, 3, none⟩ = some (.int .u8 (b3 : Int))) (first | exact AR0.out | exact AR1.out | exact AR2.out | exact AR3.out | exact AR4.out | exact AR4Z.out | exact AR5.out)
    (first
      | (go_at_call 19; refine (copy_any A n c xs _ hbsA (by omega)).mono ?_; rintro e v4 ⟨A4, c4, rfl, ho4A, hb4⟩; have hb4A := below_undrew hb4; have hr4A := rd_lit4 v4 b0 b1 b2 b3; have hz4A := ho4A.alloc (.cells #[.int .u8 (b0 : Int), .int .u8 (b1 : Int), .int .u8 (b2 : Int), .int .u8 (b3 : Int)] 5); have hc3A : w3.heap.size ≤ (v4.alloc (.cells #[.int .u8 (b0 : Int), .int .u8 (b1 : Int), .int .u8 (b2 : Int), .int .u8 (b3 : Int)] 5)).heap.size := (by have := hb4A.size; simp; omega); have AR4 := Lib.hid (HF.out _ (har.keep hb4A hg3)); have AR4Z := Lib.hid (HF.out _ (har.keep (hb4A.alloc hb4A.size (.cells #[.int .u8 (b0 : Int), .int .u8 (b1 : Int), .int .u8 (b2 : Int), .int .u8 (b3 : Int)] 5)) hg3)))
      | (go_at_call 19; refine (copy_any A n c xs _ hbsB (by omega)).mono ?_; rintro e v4 ⟨A4, c4, rfl, ho4B, hb4⟩; have hr4B := (rd_lit4 w3 b0 b1 b2 b3).keep (below_undrew hb4); have hb4B := (below_alloc w3 (.cells #[.int .u8 (b0 : Int), .int .u8 (b1 : Int), .int .u8 (b2 : Int), .int .u8 (b3 : Int)] 5)).trans ((below_undrew hb4).mono (by simp)); have hc3B : w3.heap.size + 1 ≤ v4.heap.size := (by have := (below_undrew hb4).size; simpa using this); have AR4 := Lib.hid (HF.out _ (har.keep hb4B hg3)))
      | (refine step_append_rd rfl (.tmp 7) (.tmp 16) 28 rfl i0 (.int .u8 0) 1 Tryd.underlying28 hi hz0 hz1 hz2 rfl (by simp [Act.eval, Act.put]) hz4A (some ⟨v4.heap.size, 0, none⟩) 4 4 (By [(b0 : Int), (b1 : Int), (b2 : Int), (b3 : Int)]) (by simp [Act.eval, Act.put]) hr4A (By_one _) hc1 hc2 hc3A ?_; intro A5 c5 v5 ho5 hg5; have hb5 : Below w3.heap.size w3 v5 := (hb4A.alloc hb4A.size _).trans (hg5.below hc3A (fun k hk => (ho4A.lies k hk).1)); have HO5 := Lib.hid (HO.out _ _ _ _ hs3 ho5); have AR5 := Lib.hid (HF.out _ (har.keep hb5 hg3)))
      | (refine step_append_rd rfl (.tmp 7) (.tmp 16) 28 rfl i0 (.int .u8 0) 1 Tryd.underlying28 hi hz0 hz1 hz2 rfl (by simp [Act.eval, Act.put]) ho4B (some ⟨w3.heap.size, 0, none⟩) 4 4 (By [(b0 : Int), (b1 : Int), (b2 : Int), (b3 : Int)]) (by simp [Act.eval, Act.put]) hr4B (By_one _) hc1 hc2 (by simpa using hc3B) ?_; intro A5 c5 v5 ho5 hg5; have hb5 : Below w3.heap.size w3 v5 := hb4B.trans (hg5.below (by omega) (fun k hk => Nat.le_trans (by simp) (ho4B.lies k hk).1)); have HO5 := Lib.hid (HO.out _ _ _ _ (Nat.le_trans hs3 (by simp)) ho5); have AR5 := Lib.hid (HF.out _ (har.keep hb5 hg3))))
  all_goals
    go_wp2
    go_ret
    exact ⟨A5, c5, n + 4, rfl, rfl, HO5.out, hbw3.trans (hb5.mono hs3)⟩
end Go.Proofs.YtmckgdjipkkklaaDoor
