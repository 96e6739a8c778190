
/- Lists of byte lists that a call makes: the reference's Copies and Equals. -/
import Derived.Test.YtdlbghjclcdfmabDoorJoinW
namespace Go.Proofs.YtdlbghjclcdfmabDoor
set_option linter.unusedVariables false
set_option linter.unusedSimpArgs false
open Go.RowKit

theorem info23 : (Tryd.prog.info? 34).map (fun i => (i.zero, i.size, i.bytes)) = some (some (.slice none 0 0), 1, 24) := by kernel_rfl

/-- Two rows of unlike element types are no one block. -/
theorem own_apart {w : World} {b1 b2 : Nat} {e1 e2 : TypeId} {A1 A2 : Option Addr} {n1 c1 n2 c2 : Nat} {v1 v2 : List Value} (h1 : Own w b1 e1 A1 n1 c1 v1) (h2 : Own w b2 e2 A2 n2 c2 v2) (hne : e1 ≠ e2) : blk A1 = none ∨ blk A1 ≠ blk A2 := by
  rcases h1.2 with ⟨hv, _⟩ | ⟨g1, cap1, cur1, hv, _, hg1, _⟩
  · left
    have : A1 = none := by injection hv
    rw [this]; rfl
  · right
    have hA1 : A1 = some ⟨g1, 0, none⟩ := by injection hv
    subst hA1
    rcases h2.2 with ⟨hv2, _⟩ | ⟨g2, cap2, cur2, hv2, _, hg2, _⟩
    · have : A2 = none := by injection hv2
      rw [this]; intro e; cases e
    · have hA2 : A2 = some ⟨g2, 0, none⟩ := by injection hv2
      subst hA2
      intro e
      have e' : g1 = g2 := by injection e
      subst e'
      rw [hg1] at hg2
      injection hg2 with hg2
      injection hg2 with _ ht
      exact hne ht
theorem Own.cap {w : World} {base : Nat} {e : TypeId} {A : Option Addr} {n c : Nat} {vs : List Value} (h : Own w base e A n c vs) : n ≤ c := by
  rcases h.2 with ⟨hv, h0⟩ | ⟨g, cap, cur, hv, _, _, hh, _⟩
  · omega
  · have : c = cap := by injection hv
    omega
theorem Own.len {w : World} {base : Nat} {e : TypeId} {A : Option Addr} {n c : Nat} {vs : List Value} (h : Own w base e A n c vs) : vs.length = n := by have := h.1; simpa using this

/-- Parts of the call's own. -/
def Prts (w : World) (base : Nat) (A : Option Addr) (n c : Nat) (xss : List (List Int)) : Prop :=
  xss.length = n ∧ ∃ vs, Own w base 34 A n c vs ∧ ∀ (i : Nat) (v : Value) (xs : List Int), vs[i]? = some v → xss[i]? = some xs → ∃ A' c', v = .slice A' xs.length c' ∧ Own w base 5 A' xs.length c' (By xs) ∧ Ran xs
section
variable {w w' : World} {base : Nat} {A A' : Option Addr} {n c c' : Nat} {xss : List (List Int)}
theorem Prts.nil_ : Prts w base none 0 0 [] := ⟨rfl, [], Own.nil_, fun i v xs hv _ => by simp at hv⟩
theorem Prts.lies (h : Prts w base A n c xss) : ∀ k, blk A = some k → base ≤ k ∧ k < w.heap.size := by
  obtain ⟨_, vs, ho, _⟩ := h
  exact ho.lies
theorem Prts.keep (h : Prts w base A n c xss) (hb : Below w.heap.size w w') : Prts w' base A n c xss := by
  obtain ⟨hl, vs, ho, he⟩ := h
  refine ⟨hl, vs, ho.below hb (fun k hk => (ho.lies k hk).2), fun i v xs hv hx => ?_⟩
  obtain ⟨A', c', e, ho', hr⟩ := he i v xs hv hx
  exact ⟨A', c', e, ho'.below hb (fun k hk => (ho'.lies k hk).2), hr⟩
theorem Prts.onl {g : Nat} (h : Prts w base A n c xss) (hb : Onl g w w') (hg : g < base) : Prts w' base A n c xss := by
  obtain ⟨hl, vs, ho, he⟩ := h
  refine ⟨hl, vs, ho.onl hb (fun e => by have := (ho.lies g e).1; omega), fun i v xs hv hx => ?_⟩
  obtain ⟨A', c', e, ho', hr⟩ := he i v xs hv hx
  exact ⟨A', c', e, ho'.onl hb (fun e => by have := (ho'.lies g e).1; omega), hr⟩
theorem Prts.bss (h : Prts w base A n c xss) : Bss w A n xss := by
  obtain ⟨hl, vs, ho, he⟩ := h
  refine ⟨hl, vs, ho.rd.rdP, fun i v xs hv hx => ?_⟩
  obtain ⟨A', c', e, ho', hr⟩ := he i v xs hv hx
  exact ⟨A', c', e, (ho'.bs hr).bsP, ho'.cap⟩
theorem rd_oneV (w : World) (v : Value) (t : TypeId) : Rd (w.alloc (.cells #[v] t)) (some ⟨w.heap.size, 0, none⟩) 1 [v] := Rd.of_block (cs := #[v]) (heap_alloc_new w _) rfl
theorem one_slice (A : Option Addr) (n c : Nat) : ∀ u ∈ [Value.slice A n c], u.oneCell' = true := by
  intro u hu
  have : u = .slice A n c := by simpa using hu
  subst this; rfl
/-- One part more: what is to be appended to, and what has been. -/
theorem Prts.row (h : Prts w base A n c xss) (o : Obj) : ∃ vs, Own (w.alloc o) base 34 A n c vs ∧ Hid (∀ (A2 : Option Addr) (c2 : Nat) (xs : List Int) (w2 : World) (A' : Option Addr) (c' : Nat), Own w base 5 A2 xs.length c2 (By xs) → Ran xs → Own w2 base 34 A' (n + 1) c' (vs ++ [.slice A2 xs.length c2]) → Grows (w.alloc o) w2 A A' → Prts w2 base A' (n + 1) c' (xss ++ [xs])) := by
  obtain ⟨hl, vs, ho, he⟩ := h
  refine ⟨vs, ho.alloc o, ?_⟩
  intro A2 c2 xs w2 A' c' ho2 hr2 hn hg
  refine ⟨by simp [hl], _, hn, fun i v ys hv hy => ?_⟩
  have hvl := ho.len
  have keep : ∀ (A3 : Option Addr) (n3 c3 : Nat) (us : List Value), Own w base 5 A3 n3 c3 us → Own w2 base 5 A3 n3 c3 us := by
    intro A3 n3 c3 us h3
    exact (h3.alloc o).kept hg.1 (own_apart (h3.alloc o) (ho.alloc o) (by decide))
  by_cases hi : i < n
  · rw [List.getElem?_append_left (by omega)] at hv hy
    obtain ⟨A3, c3, e, ho3, hr3⟩ := he i v ys hv hy
    exact ⟨A3, c3, e, keep _ _ _ _ ho3, hr3⟩
  · have hin : i = n := by
      have := (List.getElem?_eq_some_iff.1 hv).1
      simp at this; omega
    subst hin
    rw [List.getElem?_append_right (by omega)] at hv hy
    simp only [hvl, hl, Nat.sub_self, List.getElem?_cons_zero, Option.some.injEq] at hv hy
    subst hv; subst hy
    exact ⟨A2, c2, rfl, keep _ _ _ _ ho2, hr2⟩
end

theorem take_eq_step {xss yss : List (List Int)} {k : Nat} {xs ys : List Int} (hx : xss[k]? = some xs) (hy : yss[k]? = some ys) (h : xss.take k = yss.take k) (e : xs = ys) : xss.take (k + 1) = yss.take (k + 1) := by
  obtain ⟨h1, e1⟩ := List.getElem?_eq_some_iff.1 hx
  obtain ⟨h2, e2⟩ := List.getElem?_eq_some_iff.1 hy
  rw [List.take_succ_eq_append_getElem h1, List.take_succ_eq_append_getElem h2, h, e1, e2, e]

theorem Bs.n {w : World} {A : Option Addr} {n : Nat} {xs : List Int} (h : Bs w A n xs) (q : Nat) : Bs (w.drewN q) A n xs := h
end Go.Proofs.YtdlbghjclcdfmabDoor
