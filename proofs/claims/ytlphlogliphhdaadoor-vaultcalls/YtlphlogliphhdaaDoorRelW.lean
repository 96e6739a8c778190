/- The vault's things and the reference's. -/
import Derived.Test.YtlphlogliphhdaaDoorRLoseW
import Derived.Test.YtlphlogliphhdaaDoorRListW
namespace Go.Proofs.YtlphlogliphhdaaDoor
set_option linter.unusedVariables false
set_option linter.unusedSimpArgs false
open Go.RowKit Go.Maps
open Go.Proofs (encStr)

theorem slt_eq (S T : ByteArray) : slt S T = decide (S.data.toList < T.data.toList) := by
  unfold slt
  rw [bytesLess_eq, ByteArray.toList_eq, ByteArray.toList_eq]
theorem slt_irr (S : ByteArray) : slt S S = false := by
  rw [slt_eq, decide_eq_false_iff_not]; exact List.lt_irrefl _
theorem slt_tr {a b c : ByteArray} (h1 : slt a b = true) (h2 : slt b c = true) : slt a c = true := by
  rw [slt_eq, decide_eq_true_eq] at *
  exact List.lt_trans h1 h2
theorem slt_tri {a b : ByteArray} (h1 : slt a b = false) (h2 : a ≠ b) : slt b a = true := by
  rw [slt_eq, decide_eq_false_iff_not] at h1
  rw [slt_eq, decide_eq_true_eq]
  apply Classical.byContradiction
  intro h3
  exact h2 (ByteArray.ext (Array.toList_inj.1 (List.le_antisymm h3 h1)))

def Kr (R : Things) : Prop := R.Pairwise fun a b => slt a.1 b.1 = true
structure Rel (L R : Things) : Prop where
  perm : L.Perm R
  srt : Kr R
theorem Kr.one {R : Things} (h : Kr R) {S : ByteArray} {xs ys : List Int} (h1 : (S, xs) ∈ R) (h2 : (S, ys) ∈ R) : xs = ys := by
  have hp := List.pairwise_iff_getElem.1 h
  obtain ⟨i, hi, e1⟩ := List.getElem_of_mem h1
  obtain ⟨j, hj, e2⟩ := List.getElem_of_mem h2
  rcases Nat.lt_trichotomy i j with hl | hl | hl
  · have := hp i j hi hj hl
    rw [e1, e2] at this
    simp only [slt_irr] at this
    cases this
  · subst hl; rw [e1] at e2; injection e2
  · have := hp j i hj hi hl
    rw [e1, e2] at this
    simp only [slt_irr] at this
    cases this
theorem kk_spec {R : Things} (S : ByteArray) (h : Kr R) : (∀ q ∈ R.take (kk R S), slt q.1 S = true) ∧ (∀ q ∈ R.drop (kk R S), slt q.1 S = false) := by
  induction R with
  | nil => simp
  | cons q R ih =>
    obtain ⟨h1, h2⟩ := List.pairwise_cons.1 h
    cases hq : slt q.1 S with
    | true =>
      have e : kk (q :: R) S = kk R S + 1 := by simp [kk, hq]
      rw [e, List.take_succ_cons, List.drop_succ_cons]
      refine ⟨fun p hp => ?_, (ih h2).2⟩
      rcases List.mem_cons.1 hp with rfl | hp
      · exact hq
      · exact (ih h2).1 p hp
    | false =>
      have e : kk (q :: R) S = 0 := by simp [kk, hq]
      rw [e]
      refine ⟨fun p hp => by simp at hp, fun p hp => ?_⟩
      rcases List.mem_cons.1 hp with rfl | hp
      · exact hq
      · cases hh : slt p.1 S with
        | false => rfl
        | true =>
          have := slt_tr (h1 p hp) hh
          rw [hq] at this; cases this
theorem ins_rel {L R : Things} {S : ByteArray} {xs : List Int} (h : Rel L R) (hno : ∀ ys, (S, ys) ∉ R) : Rel ((S, xs) :: L) (ins R S xs) := by
  obtain ⟨hlo, hhi⟩ := kk_spec S h.srt
  have hs : Kr (R.take (kk R S) ++ R.drop (kk R S)) := by rw [List.take_append_drop]; exact h.srt
  obtain ⟨h1, h2, h3⟩ := List.pairwise_append.1 hs
  refine ⟨?_, ?_⟩
  · unfold ins
    refine (List.Perm.cons _ h.perm).trans ?_
    refine List.Perm.trans ?_ List.perm_middle.symm
    rw [List.take_append_drop]
  · unfold ins Kr
    refine List.pairwise_append.2 ⟨h1, List.pairwise_cons.2 ⟨fun q hq => ?_, h2⟩, fun a ha b hb => ?_⟩
    · refine slt_tri (hhi q hq) (fun e => hno q.2 ?_)
      have : q ∈ R := List.mem_of_mem_drop hq
      rw [show (S, q.2) = q from by rw [← show q.1 = S from e]]; exact this
    · rcases List.mem_cons.1 hb with rfl | hb
      · exact hlo a ha
      · exact h3 a ha b hb
theorem rel_put {L L' R : Things} {S : ByteArray} {xs : List Int} {k : Int} (h : Rel L R) (hp : PutR L L' S xs k) : Rel L' (rput R S xs).1 ∧ k = (rput R S xs).2 := by
  obtain ⟨hlo, hhi⟩ := kk_spec S h.srt
  by_cases hq : ∃ q, R[kk R S]? = some q ∧ q.1 = S
  · obtain ⟨q, h1, h2⟩ := hq
    have e : rput R S xs = (R, if q.2 = xs then 0 else 7) := by
      unfold rput; rw [h1]; simp [h2]
    have hm : (S, q.2) ∈ R := by rw [← h2]; exact List.mem_of_getElem? h1
    rw [e]
    rcases hp with ⟨rfl, hx, rfl⟩ | ⟨rfl, ⟨ys, hy, hne⟩, rfl⟩ | ⟨rfl, hno, rfl⟩
    · have := h.srt.one hm (h.perm.mem_iff.1 hx)
      exact ⟨h, by simp [this]⟩
    · have := h.srt.one hm (h.perm.mem_iff.1 hy)
      exact ⟨h, by rw [this, if_neg hne]⟩
    · exact (hno _ (h.perm.mem_iff.2 hm)).elim
  · have e : rput R S xs = (ins R S xs, 0) := by
      unfold rput
      cases hr : R[kk R S]? with
      | none => rfl
      | some q =>
        have : ¬ q.1 = S := fun he => hq ⟨q, hr, he⟩
        simp [this]
    have hno : ∀ ys, (S, ys) ∉ R := fun ys hy => by
      have hy2 : (S, ys) ∈ R.take (kk R S) ++ R.drop (kk R S) := by rw [List.take_append_drop]; exact hy
      rcases List.mem_append.1 hy2 with hm | hm
      · have := hlo _ hm
        simp only [slt_irr] at this; cases this
      · have hlt : kk R S < R.length := by
          rcases Nat.lt_or_ge (kk R S) R.length with hl | hl
          · exact hl
          · rw [List.drop_of_length_le hl] at hm; simp at hm
        have hs2 : Kr (R.drop (kk R S)) := List.Pairwise.drop h.srt
        rw [List.drop_eq_getElem_cons hlt] at hm hs2 hhi
        have hne : ¬ (R[kk R S]).1 = S := fun he => hq ⟨_, List.getElem?_eq_getElem hlt, he⟩
        rcases List.mem_cons.1 hm with hm | hm
        · exact hne (by rw [← hm])
        · have h1 := (List.pairwise_cons.1 hs2).1 _ hm
          have h2 := hhi _ (List.mem_cons_self ..)
          rw [h2] at h1; cases h1
    rw [e]
    rcases hp with ⟨rfl, hx, rfl⟩ | ⟨rfl, ⟨ys, hy, hne⟩, rfl⟩ | ⟨rfl, _, rfl⟩
    · exact (hno _ (h.perm.mem_iff.1 hx)).elim
    · exact (hno _ (h.perm.mem_iff.1 hy)).elim
    · exact ⟨ins_rel h hno, rfl⟩
theorem rel_lose {L R : Things} (h : Rel L R) (ss : List ByteArray) : Rel (los L ss) (los R ss) := ⟨h.perm.filter _, List.Pairwise.filter _ h.srt⟩
theorem rel_nil : Rel [] [] := ⟨List.Perm.refl _, List.Pairwise.nil⟩
theorem rel_len {L R : Things} (h : Rel L R) : L.length = R.length := h.perm.length_eq
theorem rel_lst {L R : Things} (h : Rel L R) (pf : List UInt8) : lst L pf = rlst R pf := by
  have hp : ((nam L).filter fun s => Lib.hasPrefix s pf).Perm (rlst R pf) := (h.perm.map _).filter _
  have hs : (rlst R pf).Pairwise fun a b => leB a b = true := by
    refine List.Pairwise.filter _ (List.pairwise_map.2 (h.srt.imp fun {a b} hl => ?_))
    rw [slt_eq, decide_eq_true_eq] at hl
    show decide _ = true
    rw [decide_eq_true_eq]; exact List.le_of_lt hl
  unfold lst
  rw [mergeSort_of_perm hp]
  exact List.mergeSort_of_pairwise hs
theorem put_len {L L' : Things} {S : ByteArray} {xs : List Int} {k : Int} (hp : PutR L L' S xs k) : L'.length ≤ L.length + 1 := by
  rcases hp with ⟨_, _, rfl⟩ | ⟨_, _, rfl⟩ | ⟨_, _, rfl⟩
  · omega
  · omega
  · simp
theorem put_all {L L' : Things} {S : ByteArray} {xs : List Int} {k : Int} (hp : PutR L L' S xs k) {m : Nat} (hL : ∀ q ∈ L, q.2.length ≤ m) (hx : xs.length ≤ m) : ∀ q ∈ L', q.2.length ≤ m := by
  rcases hp with ⟨_, _, rfl⟩ | ⟨_, _, rfl⟩ | ⟨_, _, rfl⟩
  · exact hL
  · exact hL
  · intro q hq
    rcases List.mem_cons.1 hq with rfl | hq
    · exact hx
    · exact hL q hq
theorem los_len {L : Things} (ss : List ByteArray) : (los L ss).length ≤ L.length := List.length_filter_le _ _
theorem los_all {L : Things} {ss : List ByteArray} {m : Nat} (hL : ∀ q ∈ L, q.2.length ≤ m) : ∀ q ∈ los L ss, q.2.length ≤ m := fun q hq => hL q (List.mem_filter.1 hq).1
end Go.Proofs.YtlphlogliphhdaaDoor
