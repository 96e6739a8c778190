/- Slices of slices of bytes; parts of the call's own. No program is named here. -/
import Derived.Test.YtlphlogliphhdaaDoorBase
namespace Go.Proofs.YtlphlogliphhdaaDoor
set_option linter.unusedVariables false
set_option linter.unusedSimpArgs false
open Go.RowKit

/-- Only block g, and what is new, has turned. -/
def Onl (g : Nat) (w w' : World) : Prop := w.grownBy w' (some g)
theorem Onl.refl (g : Nat) (w : World) : Onl g w w := ⟨rfl, rfl, rfl, Nat.le_refl _, fun _ _ _ => rfl⟩
theorem Onl.trans {g : Nat} {a b c : World} (h : Onl g a b) (k : Onl g b c) : Onl g a c :=
  ⟨k.os.trans h.os, k.tape.trans h.tape, k.output.trans h.output, Nat.le_trans h.size k.size, fun i hi hne => (k.block i (Nat.lt_of_lt_of_le hi h.size) hne).trans (h.block i hi hne)⟩
theorem Onl.of_below {g : Nat} {w w' : World} (h : Below w.heap.size w w') : Onl g w w' := ⟨h.os, h.tape, h.output, h.size, fun i hi _ => h.block i hi⟩
theorem Onl.below {g : Nat} {w w' : World} (h : Onl g w w') (hg : g ≤ w.heap.size) : Below g w w' := ⟨h.os, h.tape, h.output, h.size, fun i hi => h.block i (Nat.lt_of_lt_of_le hi hg) (fun e => by injection e with e; omega)⟩
theorem onl_set (w : World) (g i : Nat) (x : Value) : Onl g w (w.setCell ⟨g, i, none⟩ x) :=
  ⟨rfl, rfl, rfl, by simp [World.setCell], fun k _ hne => Below.heap_setCell _ _ _ _ (fun e => hne (by rw [e]))⟩
theorem Own.onl {w w' : World} {base : Nat} {e : TypeId} {A : Option Addr} {n c g : Nat} {vs : List Value} (h : Own w base e A n c vs) (hg : Onl g w w') (hne : blk A ≠ some g) : Own w' base e A n c vs := h.kept hg (.inr hne)
theorem Bs.onl {w w' : World} {A : Option Addr} {n g : Nat} {xs : List Int} (h : Bs w A n xs) (hg : Onl g w w') (hne : blk A ≠ some g) : Bs w' A n xs := by
  refine ⟨⟨h.1.1, fun hn => ?_⟩, h.2⟩
  obtain ⟨b, off, rfl, hlt, hc⟩ := h.1.2 hn
  refine ⟨b, off, rfl, Nat.lt_of_lt_of_le hlt hg.size, fun j u hu => ?_⟩
  rw [World.cell?_of_block (a := ⟨b, off + j, none⟩) (hg.block b hlt (fun e => hne e))]
  exact hc j u hu
theorem lt_of_heap {w : World} {g : Nat} {o : Obj} (h : w.heap[g]? = some o) : g < w.heap.size := (Array.getElem?_eq_some_iff.1 h).1

/-- A slice of bytes that reads, below a block. -/
theorem Bs.keepB {w w' : World} {A : Option Addr} {n B : Nat} {xs : List Int} (h : Bs w A n xs) (hb : Below B w w') (hB : ∀ k, blk A = some k → k < B) : Bs w' A n xs := by
  refine ⟨⟨h.1.1, fun hn => ?_⟩, h.2⟩
  obtain ⟨b, off, rfl, hlt, hc⟩ := h.1.2 hn
  refine ⟨b, off, rfl, Nat.lt_of_lt_of_le hlt hb.size, fun j u hu => ?_⟩
  rw [hb.cell (p := ⟨b, off + j, none⟩) (hB b rfl)]; exact hc j u hu

/-! Readings whose blocks are of a kind. -/
def RdP (w : World) (Pd : Nat → Prop) (A : Option Addr) (n : Nat) (vs : List Value) : Prop :=
  vs.length = n ∧ (0 < n → ∃ b off, A = some ⟨b, off, none⟩ ∧ Pd b ∧ ∀ j u, vs[j]? = some u → w.cell? ⟨b, off + j, none⟩ = some u)
def BsP (w : World) (Pd : Nat → Prop) (A : Option Addr) (n : Nat) (xs : List Int) : Prop := RdP w Pd A n (By xs) ∧ Ran xs
section
variable {w w' : World} {Pd Pd' : Nat → Prop} {A : Option Addr} {n : Nat} {xs : List Int} {vs : List Value}
theorem RdP.keep (h : RdP w Pd A n vs) (hk : ∀ b, Pd b → w'.heap[b]? = w.heap[b]?) : RdP w' Pd A n vs := by
  refine ⟨h.1, fun hn => ?_⟩
  obtain ⟨b, off, rfl, hb, hc⟩ := h.2 hn
  refine ⟨b, off, rfl, hb, fun j u hu => ?_⟩
  rw [World.cell?_of_block (a := ⟨b, off + j, none⟩) (hk b hb)]
  exact hc j u hu
theorem RdP.imp (h : RdP w Pd A n vs) (hi : ∀ b, Pd b → Pd' b) : RdP w Pd' A n vs :=
  ⟨h.1, fun hn => by obtain ⟨b, off, hA, hb, hc⟩ := h.2 hn; exact ⟨b, off, hA, hi b hb, hc⟩⟩
theorem RdP.rd (h : RdP w Pd A n vs) : Rd w A n vs := by
  refine ⟨h.1, fun hn => ?_⟩
  obtain ⟨b, off, rfl, hb, hc⟩ := h.2 hn
  have h0 : vs[0]? = some (vs[0]'(by have := h.1; omega)) := List.getElem?_eq_getElem (by have := h.1; omega)
  exact ⟨b, off, rfl, World.block_lt_of_cell? w ⟨b, off + 0, none⟩ (hc 0 _ h0), hc⟩
theorem Rd.rdP (h : Rd w A n vs) : RdP w (· < w.heap.size) A n vs := h
theorem BsP.keep (h : BsP w Pd A n xs) (hk : ∀ b, Pd b → w'.heap[b]? = w.heap[b]?) : BsP w' Pd A n xs := ⟨h.1.keep hk, h.2⟩
theorem BsP.imp (h : BsP w Pd A n xs) (hi : ∀ b, Pd b → Pd' b) : BsP w Pd' A n xs := ⟨h.1.imp hi, h.2⟩
theorem BsP.bs (h : BsP w Pd A n xs) : Bs w A n xs := ⟨h.1.rd, h.2⟩
theorem Bs.bsP (h : Bs w A n xs) : BsP w (· < w.heap.size) A n xs := h
end

/-- A slice of slices of bytes. -/
def BssP (w : World) (Pd : Nat → Prop) (A : Option Addr) (n : Nat) (xss : List (List Int)) : Prop :=
  xss.length = n ∧ ∃ vs, RdP w Pd A n vs ∧ ∀ (i : Nat) (v : Value) (xs : List Int), vs[i]? = some v → xss[i]? = some xs → ∃ A' c', v = .slice A' xs.length c' ∧ BsP w Pd A' xs.length xs ∧ xs.length ≤ c'
section
variable {w w' : World} {Pd Pd' : Nat → Prop} {A : Option Addr} {n : Nat} {xss : List (List Int)}
theorem BssP.len (h : BssP w Pd A n xss) : xss.length = n := h.1
theorem BssP.keep (h : BssP w Pd A n xss) (hk : ∀ b, Pd b → w'.heap[b]? = w.heap[b]?) : BssP w' Pd A n xss := by
  obtain ⟨hl, vs, hr, he⟩ := h
  refine ⟨hl, vs, hr.keep hk, fun i v xs hv hx => ?_⟩
  obtain ⟨A', c', e, hb, hc⟩ := he i v xs hv hx
  exact ⟨A', c', e, hb.keep hk, hc⟩
theorem BssP.imp (h : BssP w Pd A n xss) (hi : ∀ b, Pd b → Pd' b) : BssP w Pd' A n xss := by
  obtain ⟨hl, vs, hr, he⟩ := h
  refine ⟨hl, vs, hr.imp hi, fun i v xs hv hx => ?_⟩
  obtain ⟨A', c', e, hb, hc⟩ := he i v xs hv hx
  exact ⟨A', c', e, hb.imp hi, hc⟩
theorem BssP.at_ {k : Nat} (h : BssP w Pd A n xss) (hk : k < n) : ∃ b off A' n' c' xs, A = some ⟨b, off, none⟩ ∧ Pd b ∧ w.cell? ⟨b, off + k, none⟩ = some (.slice A' n' c') ∧ BsP w Pd A' n' xs ∧ n' ≤ c' ∧ Hid (xss[k]? = some xs) := by
  obtain ⟨hl, vs, hr, he⟩ := h
  obtain ⟨b, off, rfl, hb, hc⟩ := hr.2 (by omega)
  have hv : vs[k]? = some (vs[k]'(by have := hr.1; omega)) := List.getElem?_eq_getElem (by have := hr.1; omega)
  have hx : xss[k]? = some (xss[k]'(by omega)) := List.getElem?_eq_getElem (by omega)
  obtain ⟨A', c', e, hbs, hcc⟩ := he k _ _ hv hx
  have := hc k _ hv
  rw [e] at this
  exact ⟨b, off, A', _, c', _, rfl, hb, this, hbs, hcc, hx⟩
end

abbrev Bss (w : World) (A : Option Addr) (n : Nat) (xss : List (List Int)) : Prop := BssP w (· < w.heap.size) A n xss
theorem Bss.keep {w w' : World} {A : Option Addr} {n : Nat} {xss : List (List Int)} (h : Bss w A n xss) (hb : Below w.heap.size w w') : Bss w' A n xss :=
  (BssP.keep h (fun b hb' => hb.block b hb')).imp (fun b hb' => Nat.lt_of_lt_of_le hb' hb.size)
theorem Bss.at_ {w : World} {A : Option Addr} {n k : Nat} {xss : List (List Int)} (h : Bss w A n xss) (hk : k < n) : ∃ b off A' n' c' xs, A = some ⟨b, off, none⟩ ∧ b < w.heap.size ∧ w.cell? ⟨b, off + k, none⟩ = some (.slice A' n' c') ∧ Bs w A' n' xs ∧ n' ≤ c' ∧ Hid (xss[k]? = some xs) := by
  obtain ⟨b, off, A', n', c', xs, hA, hb, hc, hx, hn, HX⟩ := BssP.at_ h hk
  exact ⟨b, off, A', n', c', xs, hA, hb, hc, hx.bs, hn, HX⟩
theorem BssP.ran {w : World} {Pd : Nat → Prop} {A : Option Addr} {n : Nat} {xss : List (List Int)} (h : BssP w Pd A n xss) : ∀ xs ∈ xss, Ran xs := by
  intro xs hx
  obtain ⟨i, hi, rfl⟩ := List.getElem_of_mem hx
  obtain ⟨_, _, _, _, _, ys, _, _, _, hb, _, HY⟩ := h.at_ (k := i) (by have := h.len; omega)
  have := HY.out
  rw [List.getElem?_eq_getElem hi] at this
  injection this with this
  rw [this]; exact hb.2
/-- Two rows of unlike element types are no one block. -/
theorem own_apart {w : World} {b1 b2 : Nat} {e1 e2 : TypeId} {A1 A2 : Option Addr} {n1 c1 n2 c2 : Nat} {v1 v2 : List Value} (h1 : Own w b1 e1 A1 n1 c1 v1) (h2 : Own w b2 e2 A2 n2 c2 v2) (hne : e1 ≠ e2) : blk A1 = none ∨ blk A1 ≠ blk A2 := by
  rcases h1.2 with ⟨hv, _⟩ | ⟨g1, cap1, cur1, hv, _, hg1, _⟩
  · left
    have : A1 = none := by injection hv
    rw [this]; rfl
  · right
    have hA1 : A1 = some ⟨g1, 0, none⟩ := by injection hv
    subst hA1
    rcases h2.2 with ⟨hv2, _⟩ | ⟨g2, cap2, cur2, hv2, _, hg2, _⟩
    · have : A2 = none := by injection hv2
      rw [this]; intro e; cases e
    · have hA2 : A2 = some ⟨g2, 0, none⟩ := by injection hv2
      subst hA2
      intro e
      have e' : g1 = g2 := by injection e
      subst e'
      rw [hg1] at hg2
      injection hg2 with hg2
      injection hg2 with _ ht
      exact hne ht
theorem Own.cap {w : World} {base : Nat} {e : TypeId} {A : Option Addr} {n c : Nat} {vs : List Value} (h : Own w base e A n c vs) : n ≤ c := by
  rcases h.2 with ⟨hv, h0⟩ | ⟨g, cap, cur, hv, _, _, hh, _⟩
  · omega
  · have : c = cap := by injection hv
    omega
theorem Own.len {w : World} {base : Nat} {e : TypeId} {A : Option Addr} {n c : Nat} {vs : List Value} (h : Own w base e A n c vs) : vs.length = n := by have := h.1; simpa using this

/-- Parts of the call's own. -/
def Prts (w : World) (base : Nat) (A : Option Addr) (n c : Nat) (xss : List (List Int)) : Prop :=
  xss.length = n ∧ ∃ vs, Own w base 28 A n c vs ∧ ∀ (i : Nat) (v : Value) (xs : List Int), vs[i]? = some v → xss[i]? = some xs → ∃ A' c', v = .slice A' xs.length c' ∧ Own w base 5 A' xs.length c' (By xs) ∧ Ran xs
section
variable {w w' : World} {base : Nat} {A A' : Option Addr} {n c c' : Nat} {xss : List (List Int)}
theorem Prts.nil_ : Prts w base none 0 0 [] := ⟨rfl, [], Own.nil_, fun i v xs hv _ => by simp at hv⟩
theorem Prts.lies (h : Prts w base A n c xss) : ∀ k, blk A = some k → base ≤ k ∧ k < w.heap.size := by
  obtain ⟨_, vs, ho, _⟩ := h
  exact ho.lies
theorem Prts.keep (h : Prts w base A n c xss) (hb : Below w.heap.size w w') : Prts w' base A n c xss := by
  obtain ⟨hl, vs, ho, he⟩ := h
  refine ⟨hl, vs, ho.below hb (fun k hk => (ho.lies k hk).2), fun i v xs hv hx => ?_⟩
  obtain ⟨A', c', e, ho', hr⟩ := he i v xs hv hx
  exact ⟨A', c', e, ho'.below hb (fun k hk => (ho'.lies k hk).2), hr⟩
theorem Prts.onl {g : Nat} (h : Prts w base A n c xss) (hb : Onl g w w') (hg : g < base) : Prts w' base A n c xss := by
  obtain ⟨hl, vs, ho, he⟩ := h
  refine ⟨hl, vs, ho.onl hb (fun e => by have := (ho.lies g e).1; omega), fun i v xs hv hx => ?_⟩
  obtain ⟨A', c', e, ho', hr⟩ := he i v xs hv hx
  exact ⟨A', c', e, ho'.onl hb (fun e => by have := (ho'.lies g e).1; omega), hr⟩
theorem Prts.bss (h : Prts w base A n c xss) : Bss w A n xss := by
  obtain ⟨hl, vs, ho, he⟩ := h
  refine ⟨hl, vs, ho.rd.rdP, fun i v xs hv hx => ?_⟩
  obtain ⟨A', c', e, ho', hr⟩ := he i v xs hv hx
  exact ⟨A', c', e, (ho'.bs hr).bsP, ho'.cap⟩
theorem rd_oneV (w : World) (v : Value) (t : TypeId) : Rd (w.alloc (.cells #[v] t)) (some ⟨w.heap.size, 0, none⟩) 1 [v] := Rd.of_block (cs := #[v]) (heap_alloc_new w _) rfl
theorem one_slice (A : Option Addr) (n c : Nat) : ∀ u ∈ [Value.slice A n c], u.oneCell' = true := by
  intro u hu
  have : u = .slice A n c := by simpa using hu
  subst this; rfl
/-- One part more: what is to be appended to, and what has been. -/
theorem Prts.row (h : Prts w base A n c xss) (o : Obj) : ∃ vs, Own (w.alloc o) base 28 A n c vs ∧ Hid (∀ (A2 : Option Addr) (c2 : Nat) (xs : List Int) (w2 : World) (A' : Option Addr) (c' : Nat), Own w base 5 A2 xs.length c2 (By xs) → Ran xs → Own w2 base 28 A' (n + 1) c' (vs ++ [.slice A2 xs.length c2]) → Grows (w.alloc o) w2 A A' → Prts w2 base A' (n + 1) c' (xss ++ [xs])) := by
  obtain ⟨hl, vs, ho, he⟩ := h
  refine ⟨vs, ho.alloc o, ?_⟩
  intro A2 c2 xs w2 A' c' ho2 hr2 hn hg
  refine ⟨by simp [hl], _, hn, fun i v ys hv hy => ?_⟩
  have hvl := ho.len
  have keep : ∀ (A3 : Option Addr) (n3 c3 : Nat) (us : List Value), Own w base 5 A3 n3 c3 us → Own w2 base 5 A3 n3 c3 us := by
    intro A3 n3 c3 us h3
    exact (h3.alloc o).kept hg.1 (own_apart (h3.alloc o) (ho.alloc o) (by decide))
  by_cases hi : i < n
  · rw [List.getElem?_append_left (by omega)] at hv hy
    obtain ⟨A3, c3, e, ho3, hr3⟩ := he i v ys hv hy
    exact ⟨A3, c3, e, keep _ _ _ _ ho3, hr3⟩
  · have hin : i = n := by
      have := (List.getElem?_eq_some_iff.1 hv).1
      simp at this; omega
    subst hin
    rw [List.getElem?_append_right (by omega)] at hv hy
    simp only [hvl, hl, Nat.sub_self, List.getElem?_cons_zero, Option.some.injEq] at hv hy
    subst hv; subst hy
    exact ⟨A2, c2, rfl, keep _ _ _ _ ho2, hr2⟩
end


theorem below_alloc (w : World) (o : Obj) : Below w.heap.size w (w.alloc o) := (Below.refl _ _).alloc (Nat.le_refl _) _
theorem Bss.dr {w w' : World} {A : Option Addr} {n : Nat} {xss : List (List Int)} (h : Bss w A n xss) (hd : Dr w w') : Bss w' A n xss := h.keep (hd.below _)
/-- One slice in a block of its own. -/
theorem Bss.one {w : World} {A : Option Addr} {n c : Nat} {xs : List Int} {t : TypeId} (h : Bs w A n xs) (hc : n ≤ c) : Bss (w.alloc (.cells #[.slice A n c] t)) (some ⟨w.heap.size, 0, none⟩) 1 [xs] := by
  have hl := h.len
  subst hl
  refine ⟨rfl, [.slice A xs.length c], (Rd.of_block (cs := #[.slice A xs.length c]) (heap_alloc_new w _) rfl).rdP, fun i v ys hv hy => ?_⟩
  match i, hv, hy with
  | 0, hv, hy =>
    simp only [List.getElem?_cons_zero, Option.some.injEq] at hv hy
    subst hv; subst hy
    exact ⟨A, c, rfl, (h.keep (below_alloc w _)).bsP, hc⟩
end Go.Proofs.YtlphlogliphhdaaDoor
