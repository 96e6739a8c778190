/- VaultCalls: what its calls say. -/
import Derived.Test.YtlphlogliphhdaaDoorCallsP
namespace Go.Proofs.YtlphlogliphhdaaDoor
set_option linter.unusedVariables false
set_option linter.unusedSimpArgs false
open Go.RowKit Go.Maps
open Go.Proofs (encStr)

section
variable {w : World} {p k : Nat} {wr : World} {B : Option Addr} {m d : Nat} {L R : Things} {vs : List Value} {Pv Pr : Nat → Prop}
theorem get_both (h : Inv w p k wr B m d L R vs Pv Pr) (N : ByteArray) (hN : N.size ≤ maxLen) (hm : m ≤ 1000000) :
    Calls Tryd.prog 14 #[.pointer (some ⟨p, 0, none⟩), .string N] wr fun e w' => ∃ (ys : List Int) (A1 : Option Addr) (c1 : Nat) (ev : Int), e = .returned (.tuple #[.slice A1 ys.length c1, .int .i64 ev]) ∧ Own w' wr.heap.size 5 A1 ys.length c1 (By ys) ∧ Ran ys ∧ ys.length ≤ 140737488355328 ∧ Below wr.heap.size wr w' ∧
      ∀ W, Inv w p k W B m d L R vs Pv Pr → Calls Tryd.prog 15 #[.slice B m d, .string N] W fun e w'' => ∃ B2 d2, e = .returned (.tuple #[.slice B2 ys.length d2, .int .i64 ev]) ∧ BsP W Pr B2 ys.length ys ∧ Dr W w'' := by
  refine (get_any p L Pv N wr h.vt hN h.all).mono ?_
  rintro e w' ⟨⟨ys, A1, c1, hmem, rfl, ho, hr⟩ | ⟨hno, rfl⟩, hb⟩
  · refine ⟨ys, A1, c1, 0, rfl, ho, hr, h.all _ hmem, hb, fun W hI => ?_⟩
    refine (rget_any B m d R vs N Pr W hI.tg hm).mono ?_
    rintro e w'' ⟨⟨zs, B2, d2, hz, rfl, hbs⟩ | ⟨hno, _⟩, hd⟩
    · obtain rfl := h.rel.srt.one hz (h.rel.perm.mem_iff.1 hmem)
      exact ⟨B2, d2, rfl, hbs, hd⟩
    · exact (hno ys (h.rel.perm.mem_iff.1 hmem)).elim
  · refine ⟨[], none, 0, 6, rfl, Own.nil_, fun x hx => by simp at hx, by simp, hb, fun W hI => ?_⟩
    refine (rget_any B m d R vs N Pr W hI.tg hm).mono ?_
    rintro e w'' ⟨⟨zs, B2, d2, hz, _⟩ | ⟨_, rfl⟩, hd⟩
    · exact (hno zs (h.rel.perm.mem_iff.2 hz)).elim
    · exact ⟨none, 0, rfl, ⟨⟨rfl, fun h => absurd h (by simp)⟩, fun x hx => by simp at hx⟩, hd⟩
/-- The two lists of names, and that they are the same. -/
theorem list_both (h : Inv w p k wr B m d L R vs Pv Pr) (T : ByteArray) (hm : m ≤ 1000000) :
    Calls Tryd.prog 19 #[.pointer (some ⟨p, 0, none⟩), .string T] wr fun e w' => ∃ (A1 : Option Addr) (n1 c1 : Nat), e = .returned (.slice A1 n1 c1) ∧ Below wr.heap.size wr w' ∧
      Calls Tryd.prog 20 #[.slice B m d, .string T] w' fun e w'' => ∃ (A2 : Option Addr) (n2 c2 : Nat), e = .returned (.slice A2 n2 c2) ∧ Below w'.heap.size w' w'' ∧
        Calls Tryd.prog 18 #[.slice A1 n1 c1, .slice A2 n2 c2] w'' fun e w3 => e = .returned (.bool true) ∧ Below w''.heap.size w'' w3 := by
  have hl := h.len
  refine (list_any p L Pv T wr h.vt (by omega)).mono ?_
  rintro e w' ⟨A1, n1, c1, rfl, hn1, ho1, hb1⟩
  refine ⟨A1, n1, c1, rfl, hb1, ?_⟩
  have h' := h.below hb1
  refine (rlist_any B m d R vs T Pr w' h'.tg hm).mono ?_
  rintro e w'' ⟨A2, n2, c2, rfl, hn2, ho2, hb2⟩
  refine ⟨A2, n2, c2, rfl, hb2, ?_⟩
  have ho1' := ho1.below hb2 (fun j hj => (ho1.lies j hj).2)
  have hle : (lst L T.data.toList).length ≤ L.length := by
    rw [rel_lst h.rel]
    unfold rlst
    refine Nat.le_trans (List.length_filter_le _ _) ?_
    rw [nam, List.length_map, rel_len h.rel]
    exact Nat.le_refl _
  refine (same_any A1 A2 n1 n2 c1 c2 _ _ w'' ho1'.rd ho2.rd (by omega)).mono ?_
  rintro e w3 ⟨rfl, hd⟩
  exact ⟨by rw [decide_eq_true (rel_lst h.rel _)], hd.below _⟩
end
theorem equal_same {A1 B2 : Option Addr} {n c1 d2 : Nat} {ys : List Int} {W : World} (h1 : Bs W A1 n ys) (h2 : Bs W B2 n ys) (hn : n ≤ maxLen) :
    Calls Tryd.prog 16 #[.slice A1 n c1, .slice B2 n d2] W fun e w' => e = .returned (.bool true) ∧ Below W.heap.size W w' := by
  refine (equal_any A1 B2 n n c1 d2 ys ys W h1 h2 hn hn).mono ?_
  rintro e w' ⟨rfl, hd⟩
  exact ⟨by rw [show (cmpL ys ys == 0) = true by simp [cmpL_self]], hd.below _⟩
end Go.Proofs.YtlphlogliphhdaaDoor
