/- vault.List: the names that begin so, sorted. -/
import Derived.Test.YtlphlogliphhdaaDoorVaultW
import Derived.Test.YtlphlogliphhdaaDoorShelf3
import Derived.Shelf.Slices.In.SortNone
import Derived.Sort.KeysCollected
import Derived.Sort.Grow
import Derived.Lib.SortBridge
import Derived.Lib.RowBridge
namespace Go.Proofs.YtlphlogliphhdaaDoor
set_option linter.unusedVariables false
set_option linter.unusedSimpArgs false
open Go.RowKit Go.Maps
open Go.Proofs (encStr)

/-- The names of things, as lists of bytes. -/
def nam (L : Things) : List (List UInt8) := L.map fun q => q.1.data.toList
/-- Those that begin so, in order. -/
def lst (L : Things) (pf : List UInt8) : List (List UInt8) := ((nam L).filter fun s => Lib.hasPrefix s pf).mergeSort leB
def Sv (ss : List (List UInt8)) : List Value := ss.map encStr
theorem Sv_length (ss : List (List UInt8)) : (Sv ss).length = ss.length := by simp [Sv]
theorem Sv_append (a b : List (List UInt8)) : Sv (a ++ b) = Sv a ++ Sv b := by simp [Sv]
theorem Sv_one (ss : List (List UInt8)) : ∀ u ∈ Sv ss, u.oneCell' = true := by
  intro u hu
  obtain ⟨x, _, rfl⟩ := List.mem_map.1 hu
  rfl
theorem info9 : (Tryd.prog.info? 9).map (fun i => (i.zero, i.size, i.bytes)) = some (some (.string .empty), 1, 16) := by kernel_rfl

theorem nam_perm {w : World} {Pd : Nat → Prop} {b n : Nat} {D : DataW Value} {L : Things} (he : Ent w Pd D L) (hm : w.ownsMap Tryd.prog 9 raw b n D) : (nam L).Perm (strKeys D) := by
  obtain ⟨es, hD, hpw, _⟩ := hm.entries key9
  obtain ⟨es', hD', hko⟩ := hm.keysOf
  obtain rfl : es = es' := by rw [hD] at hD'; simpa using hD'
  subst hD
  refine perm_strKeys hpw (fun p hp => by obtain ⟨v, hv⟩ := hko p hp; obtain ⟨x, _, hx, _⟩ := Maps.keyOf_str Tryd.underlying9 hv; exact ⟨x, hx⟩) ?_ (fun x => ?_)
  · unfold nam
    refine List.pairwise_map.2 (he.uniq.imp fun {a b} hne e => hne ?_)
    exact ByteArray.ext (Array.toList_inj.1 e)
  · constructor
    · intro hx
      obtain ⟨q, hq, rfl⟩ := List.mem_map.1 hx
      exact (he.all q.1 q.2 hq).1
    · intro hx
      obtain ⟨S, xs, hmem, e⟩ := he.back _ hx
      refine List.mem_map.2 ⟨(S, xs), hmem, ?_⟩
      injection e with e
      exact e.symm

section
variable {w : World} {base : Nat} {e : TypeId} {g n c : Nat} {vs : List Value}
theorem set_mid (vs us : List Value) (k : Nat) (v : Value) (h : k < vs.length) : (vs.set k v).take (k + 1) ++ us ++ (vs.set k v).drop (k + 1 + us.length) = vs.take k ++ (v :: us) ++ vs.drop (k + (v :: us).length) := by
  have e1 : (vs.set k v).take (k + 1) = vs.take k ++ [v] := by
    rw [List.take_add_one, List.take_set_of_le (Nat.le_refl k)]
    simp [h]
  have e2 : (vs.set k v).drop (k + 1 + us.length) = vs.drop (k + 1 + us.length) := List.drop_set_of_lt (by omega)
  rw [e1, e2]
  simp only [List.append_assoc, List.cons_append, List.nil_append, List.length_cons]
  congr 4
  omega
theorem Own.setCells_at : ∀ (us : List Value) (k : Nat) {w : World} {vs : List Value}, Own w base e (some ⟨g, 0, none⟩) n c vs → k + us.length ≤ n → Own (w.setCells g k us) base e (some ⟨g, 0, none⟩) n c (vs.take k ++ us ++ vs.drop (k + us.length)) ∧ w.grownBy (w.setCells g k us) (some g)
  | [], k, w, vs, h, _ => by
    refine ⟨?_, ⟨rfl, rfl, rfl, Nat.le_refl _, fun _ _ _ => rfl⟩⟩
    simp only [World.setCells, List.append_nil, List.length_nil, Nat.add_zero, List.take_append_drop]
    exact h
  | v :: us, k, w, vs, h, hk => by
    have hl : vs.length = n := by have := h.1; simpa using this
    simp only [List.length_cons] at hk
    obtain ⟨h1, g1⟩ := World.ownsRow.stored h k v
    obtain ⟨h2, g2⟩ := Own.setCells_at us (k + 1) (w := w.setCell ⟨g, k, none⟩ v) (vs := vs.set k v) h1 (by omega)
    rw [set_mid vs us k v (by omega)] at h2
    exact ⟨h2, g2.os.trans g1.os, g2.tape.trans g1.tape, g2.output.trans g1.output, Nat.le_trans g1.size g2.size, fun b hb hne => (g2.block b (Nat.lt_of_lt_of_le hb g1.size) hne).trans (g1.block b hb hne)⟩
theorem Own.setCells_all {us : List Value} (h : Own w base e (some ⟨g, 0, none⟩) n c vs) (hu : us.length = n) : Own (w.setCells g 0 us) base e (some ⟨g, 0, none⟩) n c us := by
  have hl : vs.length = n := by have := h.1; simpa using this
  have := (Own.setCells_at us 0 h (by omega)).1
  rwa [List.take_zero, List.nil_append, Nat.zero_add, List.drop_of_length_le (by omega), List.append_nil] at this
theorem Own.grow_ (h : Own w base e (some ⟨g, 0, none⟩) n c vs) (os : Array Obj) : Own (Go.Sort.grow w os) base e (some ⟨g, 0, none⟩) n c vs := by
  refine ⟨h.1, ?_⟩
  rcases h.2 with h2 | ⟨g', cap, cur, hv, hg, hh, r⟩
  · exact .inl h2
  · exact .inr ⟨g', cap, cur, hv, hg, (Go.Sort.heap_grow_old w os (Array.getElem?_eq_some_iff.1 hh).1).trans hh, r⟩
end
theorem below_sorted {w : World} {base g n c : Nat} {e : TypeId} {vs us : List Value} {B : Nat} (h : Own w base e (some ⟨g, 0, none⟩) n c vs) (hu : us.length ≤ n) (hB : B ≤ g) (hBs : B ≤ w.heap.size) (q : Nat) (os : Array Obj) : Below B w (Go.Sort.grow ((w.drewN q).setCells g 0 us) os) := by
  have h1 := (Own.setCells_at us 0 (h.drewN q) (by omega)).2
  have hb : Below B w ((w.drewN q).setCells g 0 us) := (below_n (Below.refl B w) q).grown h1 (by exact hBs) (fun k hk => by injection hk with hk; omega)
  have hs := hb.size
  refine ⟨hb.os, hb.tape, hb.output, ?_, fun k hk => ?_⟩
  · show w.heap.size ≤ (((w.drewN q).setCells g 0 us).heap ++ os).size
    rw [Array.size_append]; omega
  · rw [Go.Sort.heap_grow_old _ os (by omega)]; exact hb.block k hk

/-- slices.Sort of a row of texts of the call's own. -/
theorem sort_any (A : Option Addr) (n c base : Nat) (ss : List (List UInt8)) (w : World) (ho : Own w base 9 A n c (Sv ss)) (hb : base ≤ w.heap.size) (hn : n ≤ 1000000000000) :
    Calls Tryd.prog 37 #[.slice A n c] w fun e w' => e = .returned (.tuple #[]) ∧ Own w' base 9 A n c (Sv (ss.mergeSort leB)) ∧ Below base w w' := by
  have hl : ss.length = n := by have := ho.rd.1; rwa [Sv_length] at this
  rcases ho.2 with ⟨hv, h0⟩ | ⟨g, cap, cur, hv, hbg, hh, hnc, hcm, hcs, htk⟩
  · injection hv with h1 h2 h3
    subst h1; subst h2; subst h3
    have : ss = [] := List.eq_nil_of_length_eq_zero hl
    subst this
    refine (Any.slices_Sort_string_none Tryd.lays190 none 0 w).mono ?_
    rintro e w' ⟨rfl, rfl⟩
    exact ⟨rfl, by simpa using ho, Below.refl _ _⟩
  · injection hv with h1 h2 h3
    subst h1; subst h3
    have hH : Go.Sort.Holds encStr w g 0 ss.toArray := by
      intro j hj
      have hj' : j < ss.length := by simpa using hj
      refine ⟨?_, by rw [Nat.zero_add]; exact World.ownsRow.frozenAt ho j⟩
      rw [Nat.zero_add, World.ownsRow.cellAt ho j (by omega)]
      rw [getElem!_pos ss.toArray j hj]
      simp only [Sv, List.getElem?_map, List.getElem?_eq_getElem hj', Option.map_some]
      rfl
    subst hl
    refine (Tryd.slices_Sort_string g 0 c ss w hH (ho.lies g rfl).2 (by omega)).mono ?_
    rintro e w' ⟨rfl, q, os, hw⟩
    have hw2 : w' = Go.Sort.grow ((w.drewN q).setCells g 0 (Sv (ss.mergeSort leB))) os := by
      rw [hw]
      exact Lib.sorted_world encStr w g 0 q ss.toArray _ os hH (by simp)
    have hu : (Sv (ss.mergeSort leB)).length = ss.length := by rw [Sv_length, List.length_mergeSort]
    refine ⟨rfl, ?_, ?_⟩
    · rw [hw2]; exact ((ho.drewN q).setCells_all hu).grow_ os
    · rw [hw2]; exact below_sorted ho (by omega) hbg hb q os
end Go.Proofs.YtlphlogliphhdaaDoor
