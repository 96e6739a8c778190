/- The mathematics of picked names: lists in order, each once. No program is named here. -/
import Derived.Test.YtdlbghjclcdfmabDoorKey
namespace Go.Proofs.YtdlbghjclcdfmabDoor
set_option linter.unusedVariables false
set_option linter.unusedSimpArgs false

/-- In order, each once. -/
def Srt (L : List (List Int)) : Prop := L.Pairwise fun x y => cmpS x y < 0
/-- In order. -/
def Wrt (L : List (List Int)) : Prop := L.Pairwise fun x y => cmpS x y ≤ 0
theorem cmpS_lt_trans {a b c : List Int} (h1 : cmpS a b < 0) (h2 : cmpS b c ≤ 0) : cmpS a c < 0 := by
  have h3 := cmpS_trans (a := a) (b := b) (c := c) (by omega) h2
  rcases Int.lt_or_eq_of_le h3 with h | h
  · exact h
  · exfalso
    have := cmpS_zero h
    subst this
    have := cmpS_swap a b
    omega
theorem cmpS_le_lt_trans {a b c : List Int} (h1 : cmpS a b ≤ 0) (h2 : cmpS b c < 0) : cmpS a c < 0 := by
  have h3 := cmpS_trans (a := a) (b := b) (c := c) h1 (by omega)
  rcases Int.lt_or_eq_of_le h3 with h | h
  · exact h
  · exfalso
    have := cmpS_zero h
    subst this
    have := cmpS_swap b a
    omega
theorem Srt.tail {x : List Int} {L : List (List Int)} (h : Srt (x :: L)) : Srt L := (List.pairwise_cons.1 h).2
theorem Srt.head {x : List Int} {L : List (List Int)} (h : Srt (x :: L)) : ∀ y ∈ L, cmpS x y < 0 := (List.pairwise_cons.1 h).1
/-- Lists in order, each once, with the same members, are the same. -/
theorem Srt.same : ∀ {L M : List (List Int)}, Srt L → Srt M → (∀ x, x ∈ L ↔ x ∈ M) → L = M
  | [], [], _, _, _ => rfl
  | [], y :: M, _, _, h => by have := (h y).2 (by simp); simp at this
  | x :: L, [], _, _, h => by have := (h x).1 (by simp); simp at this
  | x :: L, y :: M, hl, hm, h => by
    have hxy : x = y := by
      have h1 := (h x).1 (by simp)
      have h2 := (h y).2 (by simp)
      rcases List.mem_cons.1 h1 with e | h1
      · exact e
      · rcases List.mem_cons.1 h2 with e | h2
        · exact e.symm
        · exfalso
          have a1 := hm.head x h1
          have a2 := hl.head y h2
          have := cmpS_swap x y
          omega
    subst hxy
    have hne : ∀ {N : List (List Int)}, Srt (x :: N) → x ∉ N := fun hs hx => by
      have := hs.head x hx
      rw [cmpS_self] at this; omega
    congr 1
    refine Srt.same hl.tail hm.tail (fun z => ?_)
    constructor
    · intro hz
      rcases List.mem_cons.1 ((h z).1 (List.mem_cons_of_mem _ hz)) with e | hz'
      · subst e; exact absurd hz (hne hl)
      · exact hz'
    · intro hz
      rcases List.mem_cons.1 ((h z).2 (List.mem_cons_of_mem _ hz)) with e | hz'
      · subst e; exact absurd hz (hne hm)
      · exact hz'
/-- What an ordered list is without repeats. -/
def cpt : List (List Int) → List (List Int)
  | [] => []
  | [x] => [x]
  | x :: y :: r => if x = y then cpt (y :: r) else x :: cpt (y :: r)
theorem cpt_mem : ∀ (L : List (List Int)) (x : List Int), x ∈ cpt L ↔ x ∈ L
  | [], x => by simp [cpt]
  | [a], x => by simp [cpt]
  | a :: b :: r, x => by
    have ih := cpt_mem (b :: r) x
    unfold cpt
    by_cases h : a = b
    · subst h
      rw [if_pos rfl, ih]; simp
    · rw [if_neg h, List.mem_cons, ih, List.mem_cons (b := a)]
theorem cpt_srt : ∀ {L : List (List Int)}, Wrt L → Srt (cpt L)
  | [], _ => by simp [cpt, Srt]
  | [a], _ => by simp [cpt, Srt]
  | a :: b :: r, h => by
    have h1 := List.pairwise_cons.1 h
    have ih := cpt_srt (L := b :: r) h1.2
    unfold cpt
    by_cases e : a = b
    · rw [if_pos e]; exact ih
    · rw [if_neg e]
      refine List.pairwise_cons.2 ⟨fun y hy => ?_, ih⟩
      rw [cpt_mem] at hy
      have hab : cmpS a b < 0 := by
        have := h1.1 b (by simp)
        rcases Int.lt_or_eq_of_le this with h | h
        · exact h
        · exact absurd (cmpS_zero h) e
      rcases List.mem_cons.1 hy with rfl | hy
      · exact hab
      · exact cmpS_lt_trans hab ((List.pairwise_cons.1 h1.2).1 y hy)
/-- Putting one into its place. -/
theorem Srt.insert {L M : List (List Int)} {x : List Int} (h : Srt (L ++ M)) (h1 : ∀ y ∈ L, cmpS y x < 0) (h2 : ∀ y ∈ M, cmpS x y < 0) : Srt (L ++ x :: M) := by
  unfold Srt at *
  rw [List.pairwise_append] at h ⊢
  refine ⟨h.1, List.pairwise_cons.2 ⟨h2, h.2.1⟩, fun a ha b hb => ?_⟩
  rcases List.mem_cons.1 hb with rfl | hb
  · exact h1 a ha
  · exact h.2.2 a ha b hb
theorem Srt.left {L M : List (List Int)} (h : Srt (L ++ M)) : Srt L := (List.pairwise_append.1 h).1
/-- The greatest of a list in order is its last one. -/
theorem Srt.last {L : List (List Int)} {x : List Int} (h : Srt (L ++ [x])) : ∀ y ∈ L ++ [x], cmpS y x ≤ 0 := by
  intro y hy
  rcases List.mem_append.1 hy with hy | hy
  · have := (List.pairwise_append.1 h).2.2 y hy x (by simp); omega
  · rw [List.mem_singleton.1 hy, cmpS_self]; omega
end Go.Proofs.YtdlbghjclcdfmabDoor
