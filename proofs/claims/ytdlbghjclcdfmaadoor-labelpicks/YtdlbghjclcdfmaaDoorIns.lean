/- Putting names into their places, one by one: the mathematics of the reference's Pick. -/
import Derived.Test.YtdlbghjclcdfmaaDoorSrt
import Derived.Test.YtdlbghjclcdfmaaDoorMt
namespace Go.Proofs.YtdlbghjclcdfmaaDoor
set_option linter.unusedVariables false
set_option linter.unusedSimpArgs false

/-- What has been put of the first k names. -/
def Put (p : List Int) (ns : List (List Int)) (k : Nat) (O : List (List Int)) : Prop := Srt O ∧ ∀ x, x ∈ O ↔ x ∈ ns.take k ∧ mt p x = true
theorem Put.start (p : List Int) (ns : List (List Int)) : Put p ns 0 [] := ⟨List.Pairwise.nil, fun x => by simp⟩
theorem mem_next {ns : List (List Int)} {k : Nat} {l x : List Int} (h : ns[k]? = some l) : x ∈ ns.take (k + 1) ↔ x ∈ ns.take k ∨ x = l := by
  rw [List.take_add_one, h, List.mem_append]; simp
theorem Put.miss {p : List Int} {ns : List (List Int)} {k : Nat} {O : List (List Int)} {l : List Int} (h : Put p ns k O) (hl : ns[k]? = some l) (hm : mt p l = false) : Put p ns (k + 1) O := by
  refine ⟨h.1, fun x => ?_⟩
  rw [h.2, mem_next hl]
  constructor
  · rintro ⟨a, b⟩; exact ⟨.inl a, b⟩
  · rintro ⟨a | rfl, b⟩
    · exact ⟨a, b⟩
    · rw [hm] at b; cases b
theorem Put.same {p : List Int} {ns : List (List Int)} {k : Nat} {O : List (List Int)} {l : List Int} (h : Put p ns k O) (hl : ns[k]? = some l) (hm : l ∈ O) : Put p ns (k + 1) O := by
  refine ⟨h.1, fun x => ?_⟩
  rw [mem_next hl]
  constructor
  · intro hx; have := (h.2 x).1 hx; exact ⟨.inl this.1, this.2⟩
  · rintro ⟨a | rfl, b⟩
    · exact (h.2 x).2 ⟨a, b⟩
    · exact hm
theorem Put.put {p : List Int} {ns : List (List Int)} {k j : Nat} {O : List (List Int)} {l : List Int} (h : Put p ns k O) (hl : ns[k]? = some l) (hm : mt p l = true) (h1 : ∀ y ∈ O.take j, cmpS y l < 0) (h2 : ∀ y ∈ O.drop j, cmpS l y < 0) : Put p ns (k + 1) (O.take j ++ l :: O.drop j) := by
  refine ⟨Srt.insert (by rw [List.take_append_drop]; exact h.1) h1 h2, fun x => ?_⟩
  rw [List.mem_append, List.mem_cons, mem_next hl]
  have hx := h.2 x
  constructor
  · rintro (a | rfl | a)
    · have := hx.1 (List.mem_of_mem_take a); exact ⟨.inl this.1, this.2⟩
    · exact ⟨.inr rfl, hm⟩
    · have := hx.1 (List.mem_of_mem_drop a); exact ⟨.inl this.1, this.2⟩
  · rintro ⟨a | rfl, b⟩
    · have := hx.2 ⟨a, b⟩
      rw [← List.take_append_drop j O, List.mem_append] at this
      rcases this with t | t
      · exact .inl t
      · exact .inr (.inr t)
    · exact .inr (.inl rfl)
theorem below_here {O : List (List Int)} {j : Nat} {y l : List Int} (hs : Srt O) (hy : O[j]? = some y) (hne : y ≠ l) (hc : ¬ cmpS l y < 0) : ∀ z ∈ O.take (j + 1), cmpS z l < 0 := by
  have hyl : cmpS y l < 0 := by
    have := cmpS_swap l y
    rcases Int.lt_trichotomy (cmpS y l) 0 with h | h | h
    · exact h
    · exact absurd (cmpS_zero h) hne
    · omega
  intro z hz
  rw [List.take_add_one, hy, List.mem_append] at hz
  rcases hz with hz | hz
  · obtain ⟨i, hi, he⟩ := List.getElem_of_mem hz
    have hij : i < j := by rw [List.length_take] at hi; omega
    obtain ⟨hj, ey⟩ := List.getElem?_eq_some_iff.1 hy
    have hio : i < O.length := by omega
    have ez : O[i] = z := by rw [← he, List.getElem_take]
    have := List.pairwise_iff_getElem.1 hs i j hio hj hij
    rw [ez, ey] at this
    exact cmpS_lt_trans this (by omega)
  · rw [show z = y by simpa using hz]; exact hyl
theorem drop_back {O : List (List Int)} {j : Nat} {y l : List Int} (hy : O[j]? = some y) (hc : cmpS l y < 0) (h : ∀ z ∈ O.drop (j + 1), cmpS l z < 0) : ∀ z ∈ O.drop j, cmpS l z < 0 := by
  obtain ⟨hj, rfl⟩ := List.getElem?_eq_some_iff.1 hy
  intro z hz
  rw [List.drop_eq_getElem_cons hj] at hz
  rcases List.mem_cons.1 hz with rfl | hz
  · exact hc
  · exact h z hz
end Go.Proofs.YtdlbghjclcdfmaaDoor
