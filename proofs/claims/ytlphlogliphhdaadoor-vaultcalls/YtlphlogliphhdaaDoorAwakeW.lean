/- The laws' fixed fact. -/
import Derived.Test.YtlphlogliphhdaaDoorVaultW
namespace Go.Proofs.YtlphlogliphhdaaDoor
set_option linter.unusedVariables false
set_option linter.unusedSimpArgs false
open Go.RowKit Go.Maps

theorem ran_of {xs : List Int} (h : (xs.all fun x => decide (0 ≤ x) && decide (x ≤ 255)) = true) : Ran xs := by
  intro x hx
  have := List.all_eq_true.1 h x hx
  simpa using this
theorem bs_one (w : World) (x : Int) (t : TypeId) (h : 0 ≤ x ∧ x ≤ 255) : Bs (w.alloc (.cells #[.int .u8 x] t)) (some ⟨w.heap.size, 0, none⟩) 1 [x] := by
  refine ⟨Rd.of_block (cs := #[.int .u8 x]) (heap_alloc_new w _) rfl, ?_⟩
  intro y hy
  obtain rfl := List.mem_singleton.1 hy
  exact h
theorem Tz.belowB {w w' : World} {B : Nat} (h : Tz w) (k : Below B w w') (hB : 5 < B) : Tz w' :=
  ⟨(k.cell (p := ⟨5, 15, none⟩) hB).trans h.1, Nat.lt_of_lt_of_le h.2 k.size⟩
theorem Er.belowB {w w' : World} {B : Nat} (h : Er w) (k : Below B w w') (hB : 2 < B) : Er w' := by
  obtain ⟨⟨t, p, h1⟩, ⟨t2, p2, h2⟩, h3⟩ := h
  exact ⟨⟨t, p, (k.cell (p := ⟨1, 0, none⟩) (by show 1 < _; omega)).trans h1⟩, ⟨t2, p2, (k.cell (p := ⟨2, 0, none⟩) hB).trans h2⟩, Nat.lt_of_lt_of_le h3 k.size⟩
theorem put_first {L' : Things} {S : ByteArray} {xs : List Int} {k : Int} (h : PutR [] L' S xs k) : k = 0 ∧ L' = [(S, xs)] := by
  rcases h with ⟨_, h, _⟩ | ⟨_, ⟨_, h, _⟩, _⟩ | ⟨h, _, e⟩
  · simp at h
  · simp at h
  · exact ⟨h, e⟩
theorem put_other {L' : Things} {S : ByteArray} {xs ys : List Int} {k : Int} (h : PutR [(S, ys)] L' S xs k) (hne : ys ≠ xs) : k = 7 ∧ L' = [(S, ys)] := by
  rcases h with ⟨_, h, _⟩ | ⟨h, _, e⟩ | ⟨_, h, _⟩
  · simp at h
    exact (hne h.symm).elim
  · exact ⟨h, e⟩
  · exact (h ys (by simp)).elim
theorem ff_is : strOfNums (hx 16 255) = ⟨#[48, 48, 48, 48, 48, 48, 48, 48, 48, 48, 48, 48, 48, 48, 102, 102]⟩ := by decide +kernel

set_option maxRecDepth 100000 in
set_option maxHeartbeats 400000 in
theorem awake_any (w : World) (ht : Tz w) : Calls Tryd.prog 7 #[] w fun e w' => e = .returned (.bool true) ∧ Below w.heap.size w w' := by
  obtain ⟨S, hS⟩ : ∃ S : ByteArray, S = ⟨#[97]⟩ := ⟨_, rfl⟩
  have hSz : S.size ≤ maxLen := by
    have h1 : (⟨#[97]⟩ : ByteArray).size = 1 := rfl
    rw [hS, h1]; unfold maxLen; omega
  have hv0 := Vt.new w (fun i => w.heap.size ≤ i) (Nat.le_refl _)
  have hb0 := below_alloc w (.cells #[.map none] 26)
  have ht0 := ht.below hb0
  have hs0 : (w.alloc (.cells #[.map none] 26)).heap.size = w.heap.size + 1 := by simp
  go_enter Tryd.func7, Tryd.ntmps7
  go_wp2_with fail
  refine (new_any w).mono ?_
  rintro e w' ⟨rfl, rfl⟩
  generalize w.alloc (.cells #[.map none] 26) = w1 at *
  have hba := below_alloc w1 (.cells #[.int .u8 1] 5)
  have hx1 := bs_one w1 1 5 (by omega)
  have hv1 := hv0.below hba
  have ht1 := ht0.below hba
  have hb1 := hb0.trans (hba.mono (by omega))
  have hsa : (w1.alloc (.cells #[.int .u8 1] 5)).heap.size = w1.heap.size + 1 := by simp
  go_wp2_with fail
  generalize w1.alloc (.cells #[.int .u8 1] 5) = w2 at *
  rw [← hS]
  have hnew : ∀ i, w2.heap.size ≤ i → w.heap.size ≤ i := fun i hi => by omega
  rw [hs0] at hx1
  have hput := put_any w.heap.size [] (fun i => w.heap.size ≤ i) S (some ⟨w.heap.size + 1, 0, none⟩) 1 1 w.heap.size [1] w2 hv1 hSz hx1 (by omega) (by decide) hnew (fun i hi => hi)
  refine hput.mono ?_
  rintro e w3 ⟨k, L', rfl, hR, hv3, hf3, hb3⟩
  obtain ⟨rfl, rfl⟩ := put_first hR
  have hb3' := hb1.trans hb3
  have ht3 : Tz w3 := ht1.belowB hb3 ht.2
  clear hv0 hv1 hx1 hba hR
  have hba2 := below_alloc w3 (.cells #[.int .u8 2] 5)
  have hx2 := bs_one w3 2 5 (by omega)
  have hv4 := hv3.below hba2
  have ht4 := ht3.below hba2
  have hs3 := hb3'.size
  have hb4 := hb3'.trans (hba2.mono hs3)
  have hsb : (w3.alloc (.cells #[.int .u8 2] 5)).heap.size = w3.heap.size + 1 := by simp
  clear hv3 ht3
  go_wp2_with fail
  generalize w3.alloc (.cells #[.int .u8 2] 5) = w4 at *
  rw [← hS]
  have hnew4 : ∀ i, w4.heap.size ≤ i → w.heap.size ≤ i := fun i hi => by omega
  have hput4 := put_any w.heap.size [(S, [1])] (fun i => w.heap.size ≤ i) S (some ⟨w3.heap.size, 0, none⟩) 1 1 w.heap.size [2] w4 hv4 hSz hx2 (by omega) (by simp) hnew4 (fun i hi => hi)
  refine hput4.mono ?_
  rintro e w5 ⟨k, L', rfl, hR, hv5, hf5, hb5⟩
  obtain ⟨rfl, rfl⟩ := put_other hR (by decide)
  have hb5' := hb4.trans hb5
  have ht5 : Tz w5 := ht4.belowB hb5 ht.2
  clear hR hv4 hx2 hba2
  go_wp2_with fail
  refine (count_any w.heap.size _ _ w5 hv5).mono ?_
  rintro e w6 ⟨rfl, rfl⟩
  have hnum := number_any 255 w5 (by omega) ht5
  rw [ff_is] at hnum
  have hsz5 := hb5'.size
  clear ht5 ht4 hf5 hf3
  have hnf : ((⟨#[48, 48, 48, 48, 48, 48, 48, 48, 48, 48, 48, 48, 48, 48, 102, 102]⟩ : ByteArray).toList == (⟨#[48, 48, 48, 48, 48, 48, 48, 48, 48, 48, 48, 48, 48, 48, 102, 102]⟩ : ByteArray).toList) = true := by simp
  go_wp2_with fail
  refine hnum.mono ?_
  rintro e w7 ⟨rfl, hb7⟩
  go_wp2
  go_ret
  exact ⟨rfl, hb5'.trans (hb7.mono hsz5)⟩
end Go.Proofs.YtlphlogliphhdaaDoor
