/- A map of texts whose elements are rows of the call's own; the vault over it. -/
import Derived.Test.YtlphlogliphhdaaDoorToNumW
import Derived.Maps.OwnSet
import Derived.Maps.RangeWalk
namespace Go.Proofs.YtlphlogliphhdaaDoor
set_option linter.unusedVariables false
set_option linter.unusedSimpArgs false
open Go.RowKit Go.Maps

/-- An element as it stands. -/
def raw (v : Value) : Option (DataW Value × List MemPlace) := some (.held v, [])
theorem key9 : Keyed Tryd.prog 9 := string_keyed Tryd.underlying9
def kl (S : ByteArray) : Lit := .string S.data.toList
theorem kl_key {S : ByteArray} (h : S.size ≤ maxLen) : keyOf Tryd.prog 9 (.string S) = some (kl S) := WideMaps.keyOf_string_mk Tryd.underlying9 h
theorem kl_inj {S T : ByteArray} (h : kl S = kl T) : S = T := by
  injection h with h
  exact ByteArray.ext (Array.toList_inj.1 h)
theorem zero28 (w : World) : (zeroValue 28).run Tryd.prog w = .ok (.slice none 0 0) w := by kernel_rfl
abbrev Things := List (ByteArray × List Int)

/-- The map's elements are rows, in blocks of a kind. -/
structure Ent (w : World) (Pd : Nat → Prop) (D : DataW Value) (L : Things) : Prop where
  num : Maps.size D = L.length
  all : ∀ S xs, (S, xs) ∈ L → Maps.has D (kl S) = true ∧ S.size ≤ maxLen ∧ Ran xs ∧ ∃ A n c base, (∀ z, D.atKey (kl S) z = .held (.slice A n c)) ∧ Own w base 5 A n c (By xs) ∧ ∀ g, blk A = some g → Pd g
  back : ∀ x, Maps.has D x = true → ∃ S xs, (S, xs) ∈ L ∧ x = kl S
  uniq : L.Pairwise (fun a b => a.1 ≠ b.1)

/-- The vault at p has these things. -/
def Vt (w : World) (Pd : Nat → Prop) (p : Nat) (L : Things) : Prop :=
  Pd p ∧ ((w.heap[p]? = some (.cells #[.map none] 26 (0, 0)) ∧ L = []) ∨
    ∃ b D, w.heap[p]? = some (.cells #[.map (some b)] 26 (0, 0)) ∧ Pd b ∧ w.ownsMap Tryd.prog 9 raw b (Maps.size D) D ∧ Ent w Pd D L)

/-- Only the vault's cell, and maps, have turned. -/
structure Vfr (p : Nat) (w w' : World) : Prop where
  size : w.heap.size ≤ w'.heap.size
  block : ∀ i, i < w.heap.size → i ≠ p → (∀ es c, w.heap[i]? ≠ some (.map es c)) → w'.heap[i]? = w.heap[i]?
theorem Vfr.refl (p : Nat) (w : World) : Vfr p w w := ⟨Nat.le_refl _, fun _ _ _ _ => rfl⟩
theorem Vfr.trans {p : Nat} {a b c : World} (h : Vfr p a b) (k : Vfr p b c) : Vfr p a c :=
  ⟨Nat.le_trans h.size k.size, fun i hi hp hm => by
    have e := h.block i hi hp hm
    rw [← e]
    exact k.block i (Nat.lt_of_lt_of_le hi h.size) hp (fun es cl => by rw [e]; exact hm es cl)⟩
theorem Vfr.of_below {p : Nat} {w w' : World} (h : Below w.heap.size w w') : Vfr p w w' := ⟨h.size, fun i hi _ _ => h.block i hi⟩
theorem Own.vfr {w w' : World} {base p n c : Nat} {e : TypeId} {A : Option Addr} {vs : List Value} (h : Own w base e A n c vs) (hv : Vfr p w w') (hp : blk A ≠ some p) : Own w' base e A n c vs := by
  refine ⟨h.1, ?_⟩
  rcases h.2 with h2 | ⟨g, cap, cur, hvv, hg, hh, r⟩
  · exact .inl h2
  · refine .inr ⟨g, cap, cur, hvv, hg, ?_, r⟩
    have hA : A = some ⟨g, 0, none⟩ := by injection hvv
    rw [hv.block g (lt_of_heap hh) (fun e => hp (by rw [hA, ← e]; rfl)) (fun es cl => by rw [hh]; simp)]; exact hh

theorem tight {w : World} {b n : Nat} {D : DataW Value} (h : w.ownsMap Tryd.prog 9 raw b n D) : w.ownsMap Tryd.prog 9 raw b (Maps.size D) D := by
  obtain ⟨es, clock, hb, F, _, rfl⟩ := h
  exact ⟨es, clock, hb, F, by simp [Maps.size, length_sorted], rfl⟩

theorem Ent.keep {w w' : World} {Pd : Nat → Prop} {D : DataW Value} {L : Things} (h : Ent w Pd D L) (hk : ∀ i, i < w.heap.size → Pd i → (∀ es c, w.heap[i]? ≠ some (.map es c)) → w'.heap[i]? = w.heap[i]?) : Ent w' Pd D L := by
  refine ⟨h.num, fun S xs hm => ?_, h.back, h.uniq⟩
  obtain ⟨h1, h2, h3, A, n, c, base, h4, ho, h5⟩ := h.all S xs hm
  refine ⟨h1, h2, h3, A, n, c, base, h4, ⟨ho.1, ?_⟩, h5⟩
  rcases ho.2 with h2 | ⟨g, cap, cur, hvv, hg, hh, r⟩
  · exact .inl h2
  · refine .inr ⟨g, cap, cur, hvv, hg, ?_, r⟩
    have hA : A = some ⟨g, 0, none⟩ := by injection hvv
    rw [hk g (lt_of_heap hh) (h5 g (by rw [hA]; rfl)) (fun es cl => by rw [hh]; simp)]; exact hh
theorem Ent.imp {w : World} {Pd Pd' : Nat → Prop} {D : DataW Value} {L : Things} (h : Ent w Pd D L) (hi : ∀ i, i < w.heap.size → Pd i → Pd' i) : Ent w Pd' D L := by
  refine ⟨h.num, fun S xs hm => ?_, h.back, h.uniq⟩
  obtain ⟨h1, h2, h3, A, n, c, base, h4, ho, h5⟩ := h.all S xs hm
  exact ⟨h1, h2, h3, A, n, c, base, h4, ho, fun g hg => hi g (ho.lies g hg).2 (h5 g hg)⟩
theorem Vt.keep {w w' : World} {Pd : Nat → Prop} {p : Nat} {L : Things} (h : Vt w Pd p L) (hk : ∀ i, i < w.heap.size → Pd i → w'.heap[i]? = w.heap[i]?) : Vt w' Pd p L := by
  obtain ⟨hp, h | ⟨b, D, hh, hb, hm, he⟩⟩ := h
  · exact ⟨hp, .inl ⟨(hk p (lt_of_heap h.1) hp).trans h.1, h.2⟩⟩
  · refine ⟨hp, .inr ⟨b, D, (hk p (lt_of_heap hh) hp).trans hh, hb, ?_, he.keep (fun i h1 h2 _ => hk i h1 h2)⟩⟩
    have hlt := hm.lt
    obtain ⟨es, clock, hb2, r⟩ := hm
    exact ⟨es, clock, (hk b hlt hb).trans hb2, r⟩
theorem Vt.below {w w' : World} {Pd : Nat → Prop} {p : Nat} {L : Things} (h : Vt w Pd p L) (hk : Below w.heap.size w w') : Vt w' Pd p L := h.keep fun i hi _ => hk.block i hi
theorem Vt.onl {w w' : World} {Pd : Nat → Prop} {p g : Nat} {L : Things} (h : Vt w Pd p L) (hk : Onl g w w') (hg : ¬ Pd g) : Vt w' Pd p L :=
  h.keep fun i hi hp => hk.block i hi (fun e => hg (by injection e with e; rw [← e]; exact hp))
theorem Vt.imp {w : World} {Pd Pd' : Nat → Prop} {p : Nat} {L : Things} (h : Vt w Pd p L) (hi : ∀ i, i < w.heap.size → Pd i → Pd' i) : Vt w Pd' p L := by
  obtain ⟨hp, h | ⟨b, D, hh, hb, hm, he⟩⟩ := h
  · exact ⟨hi p (lt_of_heap h.1) hp, .inl h⟩
  · exact ⟨hi p (lt_of_heap hh) hp, .inr ⟨b, D, hh, hi b hm.lt hb, hm, he.imp hi⟩⟩
theorem Vt.new (w : World) (Pd : Nat → Prop) (hp : Pd w.heap.size) : Vt (w.alloc (.cells #[.map none] 26)) Pd w.heap.size [] := ⟨hp, .inl ⟨heap_alloc_new w _, rfl⟩⟩
theorem Vt.cell {w : World} {Pd : Nat → Prop} {p : Nat} {L : Things} (h : Vt w Pd p L) : p < w.heap.size ∧ w.frozen? ⟨p, 0, none⟩ = false ∧
    ((w.cell? ⟨p, 0, none⟩ = some (.map none) ∧ w.heap[p]? = some (.cells #[.map none] 26 (0, 0)) ∧ L = []) ∨ ∃ b D, w.cell? ⟨p, 0, none⟩ = some (.map (some b)) ∧ w.heap[p]? = some (.cells #[.map (some b)] 26 (0, 0)) ∧ Pd b ∧ w.ownsMap Tryd.prog 9 raw b (Maps.size D) D ∧ Ent w Pd D L) := by
  obtain ⟨hp, h | ⟨b, D, hh, hb, hm, he⟩⟩ := h
  · refine ⟨lt_of_heap h.1, ?_, .inl ⟨?_, h.1, h.2⟩⟩
    · unfold World.frozen?; rw [h.1]; simp
    · rw [cell_of_row _ _ 0 _ _ _ h.1]; rfl
  · refine ⟨lt_of_heap hh, ?_, .inr ⟨b, D, ?_, hh, hb, hm, he⟩⟩
    · unfold World.frozen?; rw [hh]; simp
    · rw [cell_of_row _ _ 0 _ _ _ hh]; rfl

/-- A look at a key. -/
theorem Ent.look {w : World} {Pd : Nat → Prop} {b : Nat} {D : DataW Value} {L : Things} (he : Ent w Pd D L) (hm : w.ownsMap Tryd.prog 9 raw b (Maps.size D) D) {S : ByteArray} (hS : S.size ≤ maxLen) :
    (∃ xs A n c base, (S, xs) ∈ L ∧ Ran xs ∧ Own w base 5 A n c (By xs) ∧ (∀ g, blk A = some g → Pd g) ∧ (Instr.lookup 24 (.map (some b)) (.string S) true).run Tryd.prog w = .ok (.tuple #[.slice A n c, .bool true]) w) ∨
    ((∀ xs, (S, xs) ∉ L) ∧ Maps.has D (kl S) = false ∧ (Instr.lookup 24 (.map (some b)) (.string S) true).run Tryd.prog w = .ok (.tuple #[.slice none 0 0, .bool false]) w) := by
  obtain ⟨v, ps, hrun, hv⟩ := hm.look_ok key9 Tryd.underlying24 (zero28 w) (zd := .held (.slice none 0 0)) (zp := []) rfl (kl_key hS)
  have hv' : DataW.held v = D.atKey (kl S) (.held (.slice none 0 0)) := by
    have h2 : some (DataW.held v, ([] : List MemPlace)) = some (D.atKey (kl S) (.held (.slice none 0 0)), ps) := hv
    exact congrArg Prod.fst (Option.some.inj h2)
  cases hh : Maps.has D (kl S) with
  | true =>
    left
    obtain ⟨S', xs, hmem, hk⟩ := he.back _ hh
    obtain rfl := kl_inj hk
    obtain ⟨_, _, hr, A, n, c, base, hat, ho, hg⟩ := he.all S xs hmem
    rw [hat] at hv'
    have hv2 := DataW.held.inj hv'
    subst hv2
    rw [hh] at hrun
    exact ⟨xs, A, n, c, base, hmem, hr, ho, hg, hrun⟩
  | false =>
    right
    refine ⟨fun xs hx => ?_, rfl, ?_⟩
    · have := (he.all S xs hx).1
      rw [hh] at this; cases this
    · rw [atKey_of_not_has hh] at hv'
      have hv2 := DataW.held.inj hv'
      subst hv2
      rw [hh] at hrun
      exact hrun
theorem isKey (S : ByteArray) : WideAt.IsKeyLit (kl S) := trivial
/-- One more. -/
theorem Ent.put {w' : World} {Pd : Nat → Prop} {D : DataW Value} {L : Things} (he : Ent w' Pd D L) (ht : Tidy D) {S : ByteArray} (hS : S.size ≤ maxLen) (hno : ∀ xs, (S, xs) ∉ L) (hh : Maps.has D (kl S) = false) {A : Option Addr} {n c base : Nat} {xs : List Int}
    (ho : Own w' base 5 A n c (By xs)) (hr : Ran xs) (hg : ∀ g, blk A = some g → Pd g) : Ent w' Pd (D.put (kl S) (.held (.slice A n c))) ((S, xs) :: L) := by
  refine ⟨?_, fun T ys hm => ?_, fun x hx => ?_, ?_⟩
  · rw [size_put ht, hh]; simp [he.num]
  · rcases List.mem_cons.1 hm with hm | hm
    · injection hm with h1 h2
      subst h1; subst h2
      exact ⟨has_put_same ht.isMap (isKey T) _, hS, hr, A, n, c, base, fun z => atKey_put_same ht.isMap (isKey T) _ z, ho, hg⟩
    · have hne : kl T ≠ kl S := fun e => hno ys (by rw [← kl_inj e]; exact hm)
      obtain ⟨h1, h2, h3, A2, n2, c2, b2, h4, h5, h6⟩ := he.all T ys hm
      exact ⟨by rw [has_put_other hne]; exact h1, h2, h3, A2, n2, c2, b2, fun z => by rw [atKey_put_other hne]; exact h4 z, h5, h6⟩
  · by_cases e : x = kl S
    · exact ⟨S, xs, by simp, e⟩
    · rw [has_put_other e] at hx
      obtain ⟨T, ys, hm, hk⟩ := he.back x hx
      exact ⟨T, ys, List.mem_cons_of_mem _ hm, hk⟩
  · refine List.pairwise_cons.2 ⟨fun q hq e => hno q.2 ?_, he.uniq⟩
    rw [show (S, q.2) = q from by rw [show S = q.1 from e]]; exact hq
end Go.Proofs.YtlphlogliphhdaaDoor
