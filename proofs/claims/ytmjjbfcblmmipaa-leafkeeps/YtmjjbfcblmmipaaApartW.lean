/- Lists with tinted spare room: Kept of the reference. -/
import Derived.Test.YtmjjbfcblmmipaaPrts
import Derived.Deep.DeepAppendRoom
import Derived.Maps.AppendAt
import Derived.Test.YtmjjbfcblmmipaaMem
import Derived.Test.YtmjjbfcblmmipaaRdr
namespace Go.Proofs.Ytmjjbfcblmmipaa
set_option linter.unusedVariables false
set_option linter.unusedSimpArgs false
open Go.RowKit

/-- What the i-th list is filled with, at a place. -/
def stp (i k : Nat) : Nat := (3 * i + 11 * k + 1) % 256
def sts (i n : Nat) : List Int := (List.range n).map (fun k => ((stp i k : Nat) : Int))
theorem sts_length (i n : Nat) : (sts i n).length = n := by simp [sts]
theorem sts_succ (i n : Nat) : sts i (n + 1) = sts i n ++ [((stp i n : Nat) : Int)] := by simp [sts, List.range_succ]
theorem sts_get {i n k : Nat} (h : k < n) : (sts i n)[k]? = some ((stp i k : Nat) : Int) := by simp [sts, h]
theorem sts_take {i n m : Nat} (h : m ≤ n) : (sts i n).take m = sts i m := by
  apply List.ext_getElem?
  intro k
  rw [List.getElem?_take]
  by_cases hk : k < m
  · rw [if_pos hk, sts_get hk, sts_get (by omega)]
  · rw [if_neg hk, List.getElem?_eq_none (by rw [sts_length]; omega)]
theorem stp_lt (i k : Nat) : stp i k < 256 := Nat.mod_lt _ (by omega)
theorem sts_ran (i n : Nat) : Ran (sts i n) := by
  intro x hx
  obtain ⟨k, _, rfl⟩ := List.mem_map.1 hx
  have := stp_lt i k
  omega
theorem By_take (xs : List Int) (k : Nat) : (By xs).take k = By (xs.take k) := by simp [By, List.map_take]
theorem set_take {xs : List Int} {k : Nat} (v : Int) (h : k < xs.length) : (xs.set k v).take (k + 1) = xs.take k ++ [v] := by
  rw [List.take_add_one, List.take_set_of_le (Nat.le_refl k)]
  simp [h]

/-- A shorter slice of the same row. -/
theorem Own.pre {w : World} {base : Nat} {e : TypeId} {A : Option Addr} {n c m : Nat} {vs : List Value} (h : Own w base e A n c vs) (hm : m ≤ n) : Own w base e A m c (vs.take m) := by
  have hl : vs.length = n := by have := h.1; simpa using this
  rcases h.2 with ⟨hv, h0⟩ | ⟨g, cap, cur, hv, hg, hh, hnc, hcm, hcs, htake⟩
  · have hA : A = none := by injection hv
    have hc : c = 0 := by injection hv
    obtain rfl : m = 0 := by omega
    subst hA; subst hc
    simpa using (Own.nil_ : Own w base e none 0 0 [])
  · have hA : A = some ⟨g, 0, none⟩ := by injection hv
    have hc : c = cap := by injection hv
    subst hA; subst hc
    refine ⟨by rw [List.length_take]; omega, .inr ⟨g, c, cur, rfl, hg, hh, by omega, hcm, hcs, ?_⟩⟩
    rw [← htake, List.take_take]
    congr 1; omega
theorem Own.stsPre {w : World} {base : Nat} {A : Option Addr} {i n c m : Nat} (h : Own w base 5 A n c (By (sts i n))) (hm : m ≤ n) : Own w base 5 A m c (By (sts i m)) := by
  have := h.pre hm
  rwa [By_take, sts_take hm] at this
theorem Own.ne_block {w : World} {base : Nat} {e t : TypeId} {A : Option Addr} {n c L : Nat} {vs : List Value} {cs : Array Value} {fr : Nat × Nat} (h : Own w base e A n c vs) (hL : w.heap[L]? = some (.cells cs t fr)) (ht : t ≠ e) : blk A ≠ some L := by
  rcases h.2 with ⟨hv, _⟩ | ⟨g, cap, cur, hv, _, hg, _⟩
  · have : A = none := by injection hv
    rw [this]; intro e; cases e
  · have hA : A = some ⟨g, 0, none⟩ := by injection hv
    subst hA
    intro e'
    have : g = L := by injection e'
    subst this
    rw [hg] at hL
    injection hL with hL
    injection hL with _ h2
    exact ht h2.symm

/-! append: in the row, or in a new one with all else left alone. -/
section
variable {P : Program} {w : World} {base : Nat} {e : TypeId} {A : Option Addr} {n c : Nat} {vs : List Value}
def InOut (w w' : World) (A A' : Option Addr) (c c' : Nat) : Prop := (A' = A ∧ c' = c ∧ w.grownBy w' (blk A)) ∨ (blk A' = some w.heap.size ∧ Below w.heap.size w w')
theorem run_append_in (t ty : TypeId) (i : TypeInfo) (z : Value) (bytes : Nat) (ht : P.underlying t = some (.slice e)) (hi : P.info? e = some i) (hz : i.zero = some z)
    (hsize : i.size = 1) (hby : i.bytes = bytes) (hzs : z.cells.size = 1) (hown : Own w base e A n c vs)
    (A2 : Option Addr) (m c2 : Nat) (us : List Value) (hr : Rd w A2 m us) (h1 : ∀ u ∈ us, u.oneCell' = true)
    (h63 : n + m ≤ maxLen) (hbytes : (n + m) * bytes ≤ 140737488355328) (hbase : base ≤ w.heap.size) (hm : 0 < m) :
    ∃ A' c' w', (Builtin.append_ #[t, t] ty #[.slice A n c, .slice A2 m c2]).run P w = .ok (.slice A' (n + m) c') w' ∧ Own w' base e A' (n + m) c' (vs ++ us) ∧ InOut w w' A A' c c' := by
  obtain ⟨b, off, rfl, _, hc⟩ := hr.2 hm
  have hcells : ∀ j u, us[j]? = some u → w.cell? ((⟨b, off, none⟩ : Addr).add j) = some u := by
    intro j u hu
    have e : (⟨b, off, none⟩ : Addr).add j = ⟨b, off + j, none⟩ := by unfold Addr.add; split <;> simp_all
    rw [e]; exact hc j u hu
  have hul : us.length = m * 1 := by rw [hr.1]; simp
  obtain ⟨v', w', hrun, ho, hg, _, hb⟩ := run_append_own_at (P := P) w base t ty e i z 1 bytes ht hi hz hsize hby hzs (by decide) (.slice A n c) n vs hown ⟨b, off, none⟩ m c2 us hul hcells h1 h63 hbytes hbase
  rcases hown.2 with ⟨hv, h0⟩ | ⟨g, cap, cur, hv, hbg, hg2, hnc, hcm, hcs, htake⟩
  · have hA : A = none := by injection hv
    have hc0 : c = 0 := by injection hv
    subst hA; subst hc0; subst h0
    have hr2 := run_append_nil (P := P) w t ty e i z ht hi hz ⟨b, off, none⟩ m c2 us (by rw [hsize]; exact hul) hcells hm (by simp only [maxLen] at h63; omega) (by rw [hby]; simp only [Nat.zero_add] at hbytes; omega)
    rw [hr2] at hrun
    injection hrun with e1 e2
    subst e1; subst e2
    rw [Nat.zero_add] at ho ⊢
    refine ⟨some ⟨w.heap.size, 0, none⟩, grownCap w m 0 e, _, hr2, ho, .inr ⟨rfl, ?_⟩⟩
    exact ((Dr.refl w).one.below _).alloc (Nat.le_refl _) _
  · have hA : A = some ⟨g, 0, none⟩ := by injection hv
    have hc0 : c = cap := by injection hv
    subst hA; subst hc0
    by_cases hroom : n + m ≤ c
    · obtain ⟨w2, hr2, ho2, hg3⟩ := run_append_own_spare (P := P) w base t ty e i 1 ht hi hsize g n c vs hown ⟨b, off, none⟩ m c2 us hul hcells h1 hroom
      exact ⟨_, _, w2, hr2, ho2, .inl ⟨rfl, rfl, hg3⟩⟩
    · have holds : ∀ j u, vs[j]? = some u → w.cell? ((⟨g, 0, none⟩ : Addr).add j) = some u := World.ownsRow.cells hown (g := g) rfl
      have hr2 := run_append_grow (P := P) w t ty e i z ht hi hz ⟨g, 0, none⟩ n c vs (by rw [hsize]; exact hown.1) holds ⟨b, off, none⟩ m c2 us (by rw [hsize]; exact hul) hcells (by omega) (by simp only [maxLen] at h63; omega) (growslice_fits (by omega) (by rw [hby]; exact hbytes))
      rw [hr2] at hrun
      injection hrun with e1 e2
      subst e1; subst e2
      refine ⟨_, _, _, hr2, ho, .inr ⟨rfl, ?_⟩⟩
      exact ((Dr.refl w).one.below _).alloc (Nat.le_refl _) _

theorem wp_append_in {o : Oper} {a : Act} {K : Act → World → Prop} {Q : Exit → Act → World → Prop} (s x : Operand) (t : TypeId)
    (ho : o.op = .call { callee := .builtin .append, args := #[s, x], argTypes := #[t, t] })
    (i : TypeInfo) (z : Value) (bytes : Nat) (ht : P.underlying t = some (.slice e)) (hi : P.info? e = some i) (hz : i.zero = some z)
    (hsize : i.size = 1) (hby : i.bytes = bytes) (hzs : z.cells.size = 1) (hs : a.eval s = .slice A n c) (hown : Own w base e A n c vs)
    (A2 : Option Addr) (m c2 : Nat) (us : List Value) (hx : a.eval x = .slice A2 m c2) (hr : Rd w A2 m us) (h1 : ∀ u ∈ us, u.oneCell' = true)
    (h63 : n + m ≤ maxLen) (hbytes : (n + m) * bytes ≤ 140737488355328) (hbase : base ≤ w.heap.size) (hm : 0 < m)
    (h : ∀ A' c' w', Own w' base e A' (n + m) c' (vs ++ us) → InOut w w' A A' c c' → K (a.put o.dst (.slice A' (n + m) c')) w') : o.wp P a w K Q := by
  obtain ⟨A', c', w', hrun, h2, h3⟩ := run_append_in (P := P) t o.type i z bytes ht hi hz hsize hby hzs hown A2 m c2 us hr h1 h63 hbytes hbase hm
  unfold Oper.wp execOp
  simp only [ho, resolve, invoke, builtin, Sem.run_bind, Sem.run_pure, Result.andThen_ok, List.map_toArray, List.map_cons, List.map_nil, hs, hx, hrun]
  exact h A' c' w' h2 h3
theorem wpList_append_in {ops : Array Oper} {rest : List Oper} {o : Oper} {a : Act} {Q : Exit → Act → World → Prop} (hgd : o.guard = none) (s x : Operand) (t : TypeId)
    (ho : o.op = .call { callee := .builtin .append, args := #[s, x], argTypes := #[t, t] })
    (i : TypeInfo) (z : Value) (bytes : Nat) (ht : P.underlying t = some (.slice e)) (hi : P.info? e = some i) (hz : i.zero = some z)
    (hsize : i.size = 1) (hby : i.bytes = bytes) (hzs : z.cells.size = 1) (hs : a.eval s = .slice A n c) (hown : Own w base e A n c vs)
    (A2 : Option Addr) (m c2 : Nat) (us : List Value) (hx : a.eval x = .slice A2 m c2) (hr : Rd w A2 m us) (h1 : ∀ u ∈ us, u.oneCell' = true)
    (h63 : n + m ≤ maxLen) (hbytes : (n + m) * bytes ≤ 140737488355328) (hbase : base ≤ w.heap.size) (hm : 0 < m)
    (h : ∀ A' c' w', Own w' base e A' (n + m) c' (vs ++ us) → InOut w w' A A' c c' → wpList P ops Q rest (a.put o.dst (.slice A' (n + m) c')) w') :
    wpList P ops Q (o :: rest) a w :=
  wpList_plain hgd fun _ hK => wp_append_in s x t ho i z bytes ht hi hz hsize hby hzs hs hown A2 m c2 us hx hr h1 h63 hbytes hbase hm fun A' c' w' h2 h3 => hK _ _ (h A' c' w' h2 h3)
end

/-! Lists of rows: the entries, and the longer slices made of them. -/
abbrev Er := Option Addr × Nat × Nat
def sv (x : Er) : Value := .slice x.1 x.2.1 x.2.2
def K5 (base : Nat) (w w' : World) : Prop := ∀ A n c vs, Own w base 5 A n c vs → Own w' base 5 A n c vs
theorem K5.refl (base : Nat) (w : World) : K5 base w w := fun _ _ _ _ h => h
theorem K5.trans {base : Nat} {a b c : World} (h : K5 base a b) (k : K5 base b c) : K5 base a c := fun A n d vs x => k A n d vs (h A n d vs x)
theorem K5.below {base : Nat} {w w' : World} (h : Below w.heap.size w w') : K5 base w w' := fun A n c vs x => x.below h (fun k hk => (x.lies k hk).2)
theorem K5.grown {base b2 : Nat} {w w' : World} {AL : Option Addr} {nl cl : Nat} {us : List Value} (h : Own w b2 28 AL nl cl us) (hg : w.grownBy w' (blk AL)) : K5 base w w' :=
  fun A n c vs x => x.kept hg (own_apart x h (by decide))

def Dist (ent : List Er) : Prop := ∀ (i j : Nat) (A : Option Addr) (n c : Nat) (B : Option Addr) (m d : Nat), ent[i]? = some (A, n, c) → ent[j]? = some (B, m, d) → i ≠ j → blk A = none ∨ blk A ≠ blk B
def EntLt (S : Nat) (ent : List Er) : Prop := ∀ (j : Nat) (A : Option Addr) (n c : Nat), ent[j]? = some (A, n, c) → ∀ b : Nat, blk A = some b → b < S
def Ent1 (w : World) (base : Nat) (ent : List Er) (i : Nat) : Prop := ∀ (j : Nat) (A : Option Addr) (n c : Nat), ent[j]? = some (A, n, c) → ∃ xs, Own w base 5 A n c (By xs) ∧ Ran xs ∧ (j < i → xs = sts j n)
def EntOK (w : World) (base : Nat) (ent : List Er) : Prop := ∀ (j : Nat) (A : Option Addr) (n c : Nat), ent[j]? = some (A, n, c) → Own w base 5 A n c (By (sts j n))
def LngOK (w : World) (base S : Nat) (ent : List Er) (lst : List (Nat × Er)) : Prop := ∀ (t j : Nat) (G : Option Addr) (n d : Nat), lst[t]? = some (j, G, n, d) → Own w base 5 G n d (By (sts j n)) ∧ ((∃ b : Nat, blk G = some b ∧ S ≤ b) ∨ ∃ m : Nat, ent[j]? = some (G, m, d) ∧ n ≤ m + 33)
def Col (q : Nat) (lst : List (Nat × Er)) : Prop := ∀ (t : Nat) (x : Nat × Er), lst[t]? = some x → x.1 = t % q

section
variable {w w' : World} {base S : Nat} {ent : List Er} {lst : List (Nat × Er)}
theorem EntOK.k5 (h : EntOK w base ent) (k : K5 base w w') : EntOK w' base ent := fun j A n c he => k _ _ _ _ (h j A n c he)
theorem LngOK.k5 (h : LngOK w base S ent lst) (k : K5 base w w') : LngOK w' base S ent lst := fun t j G n d ht => ⟨k _ _ _ _ (h t j G n d ht).1, (h t j G n d ht).2⟩
theorem Ent1.step {i : Nat} {A : Option Addr} {n c : Nat} (h : Ent1 w base ent i) (hd : Dist ent) (he : ent[i]? = some (A, n, c)) (hg : w.grownBy w' (blk A)) (ho : Own w' base 5 A n c (By (sts i n))) : Ent1 w' base ent (i + 1) := by
  intro j B m d hj
  by_cases hji : j = i
  · subst hji
    rw [he] at hj
    injection hj with hj
    injection hj with e1 hj
    injection hj with e2 e3
    subst e1; subst e2; subst e3
    exact ⟨_, ho, sts_ran _ _, fun _ => rfl⟩
  · obtain ⟨xs, h1, h2, h3⟩ := h j B m d hj
    exact ⟨xs, h1.kept hg (hd j i B m d A n c hj he hji), h2, fun hlt => h3 (by omega)⟩
theorem Ent1.done {q : Nat} (h : Ent1 w base ent q) (hq : ent.length = q) : EntOK w base ent := by
  intro j A n c he
  obtain ⟨xs, ho, hr, h1⟩ := h j A n c he
  have hj : j < q := by have := (List.getElem?_eq_some_iff.1 he).1; omega
  rw [← h1 hj]; exact ho
theorem EntLt.of (h : ∀ (j : Nat) (A : Option Addr) (n c : Nat), ent[j]? = some (A, n, c) → ∃ vs, Own w base 5 A n c vs) : EntLt w.heap.size ent := by
  intro j A n c he b hb
  obtain ⟨vs, ho⟩ := h j A n c he
  exact (ho.lies b hb).2

/-- One entry's row has grown in place. -/
theorem EntOK.grow {i m : Nat} {A : Option Addr} {n c : Nat} (h : EntOK w base ent) (hd : Dist ent) (he : ent[i]? = some (A, n, c)) (hg : w.grownBy w' (blk A)) (ho : Own w' base 5 A (n + m) c (By (sts i (n + m)))) : EntOK w' base ent := by
  intro j B p d hj
  by_cases hji : j = i
  · subst hji
    rw [he] at hj
    injection hj with hj
    injection hj with e1 hj
    injection hj with e2 e3
    subst e1; subst e2; subst e3
    exact ho.stsPre (by omega)
  · exact (h j B p d hj).kept hg (hd j i B p d A n c hj he hji)
theorem LngOK.grow {i m : Nat} {A : Option Addr} {n c : Nat} (h : LngOK w base S ent lst) (hd : Dist ent) (hlt : EntLt S ent) (he : ent[i]? = some (A, n, c)) (hg : w.grownBy w' (blk A)) (ho : Own w' base 5 A (n + m) c (By (sts i (n + m))))
    (hi : ∀ (t : Nat) (G : Option Addr) (p d : Nat), lst[t]? = some (i, G, p, d) → p ≤ n + 33 → p ≤ n + m) : LngOK w' base S ent lst := by
  intro t j G p d ht
  obtain ⟨h1, h2⟩ := h t j G p d ht
  refine ⟨?_, h2⟩
  rcases h2 with ⟨b, hb, hS⟩ | ⟨m2, hj, hp⟩
  · refine h1.kept hg (.inr ?_)
    intro e
    rw [hb] at e
    have := hlt i A n c he b e.symm
    omega
  · by_cases hji : j = i
    · subst hji
      rw [he] at hj
      injection hj with hj
      injection hj with e1 hj
      injection hj with e2 e3
      subst e1; subst e3
      subst e2
      exact ho.stsPre (hi t _ _ _ ht hp)
    · exact h1.kept hg (hd j i G m2 d A n c hj he hji)
/-- A row that is newer than all of them has grown. -/
theorem EntOK.apart {T : Nat} {G : Option Addr} {b : Nat} (h : EntOK w base ent) (hlt : EntLt T ent) (hb : blk G = some b) (hT : T ≤ b) (hg : w.grownBy w' (blk G)) : EntOK w' base ent := by
  intro j B p d hj
  refine (h j B p d hj).kept hg (.inr ?_)
  intro e
  rw [hb] at e
  have := hlt j B p d hj b e
  omega
def LngLt (T : Nat) (lst : List (Nat × Er)) : Prop := ∀ (t j : Nat) (G : Option Addr) (n d : Nat), lst[t]? = some (j, G, n, d) → ∀ b : Nat, blk G = some b → b < T
theorem LngOK.lt (h : LngOK w base S ent lst) : LngLt w.heap.size lst := fun t j G n d ht b hb => ((h t j G n d ht).1.lies b hb).2
theorem LngOK.apart {T : Nat} {G : Option Addr} {b : Nat} (h : LngOK w base S ent lst) (hlt : LngLt T lst) (hb : blk G = some b) (hT : T ≤ b) (hg : w.grownBy w' (blk G)) : LngOK w' base S ent lst := by
  intro t j B p d ht
  refine ⟨(h t j B p d ht).1.kept hg (.inr ?_), (h t j B p d ht).2⟩
  intro e
  rw [hb] at e
  have := hlt t j B p d ht b e
  omega
theorem LngOK.push {j : Nat} {G : Option Addr} {n d : Nat} (h : LngOK w base S ent lst) (ho : Own w base 5 G n d (By (sts j n))) (hc : (∃ b : Nat, blk G = some b ∧ S ≤ b) ∨ ∃ m : Nat, ent[j]? = some (G, m, d) ∧ n ≤ m + 33) : LngOK w base S ent (lst ++ [(j, G, n, d)]) := by
  intro t i B p e ht
  by_cases hlt : t < lst.length
  · rw [List.getElem?_append_left hlt] at ht
    exact h t i B p e ht
  · rw [List.getElem?_append_right (by omega)] at ht
    have h0 : t - lst.length = 0 := by
      have := (List.getElem?_eq_some_iff.1 ht).1
      simp at this; omega
    rw [h0] at ht
    simp only [List.getElem?_cons_zero, Option.some.injEq, Prod.mk.injEq] at ht
    obtain ⟨rfl, rfl, rfl, rfl⟩ := ht
    exact ⟨ho, hc⟩
theorem Col.push {q j : Nat} {x : Er} (h : Col q lst) (hj : j = lst.length % q) : Col q (lst ++ [(j, x)]) := by
  intro t y ht
  by_cases hlt : t < lst.length
  · rw [List.getElem?_append_left hlt] at ht
    exact h t y ht
  · rw [List.getElem?_append_right (by omega)] at ht
    have h0 : t - lst.length = 0 := by
      have := (List.getElem?_eq_some_iff.1 ht).1
      simp at this; omega
    rw [h0] at ht
    simp only [List.getElem?_cons_zero, Option.some.injEq] at ht
    subst ht
    have : t = lst.length := by
      have := h0; omega
    rw [this]; exact hj
theorem LngOK.nil_ : LngOK w base S ent [] := fun t j G n d ht => by simp at ht
theorem Col.nil_ {q : Nat} : Col q [] := fun t x ht => by simp at ht
end

/-- A row that grows in the inner loop: still the entry's own, or newer than T. -/
def GOK (T : Nat) (A G : Option Addr) (c d : Nat) : Prop := (G = A ∧ d = c) ∨ ∃ b : Nat, blk G = some b ∧ T ≤ b
section
variable {w w' : World} {base S T : Nat} {ent : List Er} {lst : List (Nat × Er)} {i n c k d d' : Nat} {A G G' : Option Addr}
/-- One place more. -/
theorem grow_one (hent : EntOK w base ent) (hl : LngOK w base S ent lst) (hd : Dist ent) (hS : EntLt S ent) (hST : S ≤ T) (hlt : LngLt T lst) (hTw : T ≤ w.heap.size) (hi : ∀ (t : Nat) (B : Option Addr) (p e : Nat), lst[t]? ≠ some (i, B, p, e)) (he : ent[i]? = some (A, n, c))
    (hg : GOK T A G c d) (ho : Own w' base 5 G' (n + (k + 1)) d' (By (sts i (n + (k + 1))))) (hio : InOut w w' G G' d d') : EntOK w' base ent ∧ LngOK w' base S ent lst ∧ GOK T A G' c d' := by
  rcases hio with ⟨rfl, rfl, hgr⟩ | ⟨hb, hbel⟩
  · rcases hg with ⟨rfl, rfl⟩ | ⟨b, hb, hT⟩
    · exact ⟨hent.grow hd he hgr ho, hl.grow hd hS he hgr ho (fun t B p e ht _ => absurd ht (hi t B p e)), .inl ⟨rfl, rfl⟩⟩
    · have hTT : EntLt T ent := fun j B p e hj b' hb' => Nat.lt_of_lt_of_le (hS j B p e hj b' hb') hST
      exact ⟨hent.apart hTT hb hT hgr, hl.apart hlt hb hT hgr, .inr ⟨b, hb, hT⟩⟩
  · exact ⟨hent.k5 (K5.below hbel), hl.k5 (K5.below hbel), .inr ⟨_, hb, hTw⟩⟩
/-- 33 places more at once. -/
theorem grow_all (hent : EntOK w base ent) (hl : LngOK w base S ent lst) (hd : Dist ent) (hS : EntLt S ent) (hSw : S ≤ w.heap.size) (he : ent[i]? = some (A, n, c))
    (ho : Own w' base 5 G' (n + 33) d' (By (sts i (n + 33)))) (hio : InOut w w' A G' c d') : EntOK w' base ent ∧ LngOK w' base S ent (lst ++ [(i, G', n + 33, d')]) := by
  rcases hio with ⟨rfl, rfl, hgr⟩ | ⟨hb, hbel⟩
  · exact ⟨hent.grow hd he hgr ho, (hl.grow hd hS he hgr ho (fun _ _ _ _ _ h => h)).push ho (.inr ⟨n, he, Nat.le_refl _⟩)⟩
  · exact ⟨hent.k5 (K5.below hbel), (hl.k5 (K5.below hbel)).push ho (.inl ⟨_, hb, hSw⟩)⟩
theorem InOut.block {L : Nat} (h : InOut w w' G G' d d') (hL : L < w.heap.size) (hne : blk G ≠ some L) : w'.heap[L]? = w.heap[L]? := by
  rcases h with ⟨_, _, hg⟩ | ⟨_, hb⟩
  · exact hg.block L hL (fun e => hne e.symm)
  · exact hb.block L hL
theorem InOut.size (h : InOut w w' G G' d d') : w.heap.size ≤ w'.heap.size := by
  rcases h with ⟨_, _, hg⟩ | ⟨_, hb⟩
  · exact hg.size
  · exact hb.size
theorem InOut.belowB {base' : Nat} {nG : Nat} {vs : List Value} (h : InOut w w' G G' d d') (hG : Own w base' 5 G nG d vs) (hb : base' ≤ w.heap.size) : Below base' w w' := by
  rcases h with ⟨_, _, hg⟩ | ⟨_, hb2⟩
  · exact (Below.refl base' w).grown hg hb (fun k hk => (hG.lies k hk).1)
  · exact hb2.mono hb
/-- Another row goes on, while a row of another type grows. -/
theorem InOut.own {b2 : Nat} {e2 : TypeId} {B : Option Addr} {m f : Nat} {us vs : List Value} {base' : Nat} {nG : Nat} (h : InOut w w' G G' d d') (hG : Own w base' 5 G nG d vs) (hB : Own w b2 e2 B m f us) (hne : e2 ≠ 5) : Own w' b2 e2 B m f us := by
  rcases h with ⟨_, _, hg⟩ | ⟨_, hb⟩
  · exact hB.kept hg (own_apart hB hG hne)
  · exact hB.below hb (fun k hk => (hB.lies k hk).2)
end
/-- All that stood below S and is no entry's row is as it was. -/
structure Oth (S : Nat) (ent : List Er) (w w' : World) : Prop where
  os : w'.os = w.os
  tape : w'.tape = w.tape
  output : w'.output = w.output
  size : w.heap.size ≤ w'.heap.size
  block : ∀ b, b < S → (∀ (j : Nat) (A : Option Addr) (n c : Nat), ent[j]? = some (A, n, c) → blk A ≠ some b) → w'.heap[b]? = w.heap[b]?
section
variable {S T : Nat} {ent : List Er} {a w w' : World} {A G G' : Option Addr} {i n c d d' : Nat}
theorem Oth.refl (S : Nat) (ent : List Er) (w : World) : Oth S ent w w := ⟨rfl, rfl, rfl, Nat.le_refl _, fun _ _ _ => rfl⟩
theorem Oth.trans (h : Oth S ent a w) (k : Oth S ent w w') : Oth S ent a w' := ⟨k.os.trans h.os, k.tape.trans h.tape, k.output.trans h.output, Nat.le_trans h.size k.size, fun b hb hn => (k.block b hb hn).trans (h.block b hb hn)⟩
theorem Oth.of_below {B : Nat} (h : Below B w w') (hB : S ≤ B) : Oth S ent w w' := ⟨h.os, h.tape, h.output, h.size, fun b hb _ => h.block b (Nat.lt_of_lt_of_le hb hB)⟩
theorem Oth.of_entry (he : ent[i]? = some (A, n, c)) (hg : w.grownBy w' (blk A)) (hS : S ≤ w.heap.size) : Oth S ent w w' := ⟨hg.os, hg.tape, hg.output, hg.size, fun b hb hn => hg.block b (Nat.lt_of_lt_of_le hb hS) (fun e => hn i A n c he e.symm)⟩
theorem Oth.of_new {b0 : Nat} (hg : w.grownBy w' (some b0)) (hb0 : S ≤ b0) (hS : S ≤ w.heap.size) : Oth S ent w w' := ⟨hg.os, hg.tape, hg.output, hg.size, fun b hb _ => hg.block b (Nat.lt_of_lt_of_le hb hS) (fun e => by injection e with e; omega)⟩
theorem Oth.of_inout (he : ent[i]? = some (A, n, c)) (hgok : GOK T A G c d) (hST : S ≤ T) (hS : S ≤ w.heap.size) (h : InOut w w' G G' d d') : Oth S ent w w' := by
  rcases h with ⟨_, _, hg⟩ | ⟨_, hb⟩
  · rcases hgok with ⟨rfl, rfl⟩ | ⟨b, hb, hT⟩
    · exact Oth.of_entry he hg hS
    · rw [hb] at hg; exact Oth.of_new hg (Nat.le_trans hST hT) hS
  · exact Oth.of_below hb hS
theorem Oth.below {base : Nat} (h : Oth S ent w w') (hb : base ≤ S) (hn : ∀ (j : Nat) (A : Option Addr) (n c : Nat), ent[j]? = some (A, n, c) → ∀ b, blk A = some b → base ≤ b) : Below base w w' :=
  ⟨h.os, h.tape, h.output, h.size, fun b hb' => h.block b (by omega) (fun j A n c he e => by have := hn j A n c he b e; omega)⟩
theorem Oth.dr (h : Oth S ent a w) (hd : Dr w w') : Oth S ent a w' := by
  obtain ⟨q, rfl⟩ := hd
  exact ⟨h.os, h.tape, h.output, h.size, h.block⟩
end
end Go.Proofs.Ytmjjbfcblmmipaa
namespace Go.Proofs.Ytmjjbfcblmmipaa
set_option linter.unusedVariables false
set_option linter.unusedSimpArgs false
open Go.RowKit

theorem slice_hA (A : Option Addr) (n c h : Nat) (hh : h ≤ c) (W : World) :
    (Instr.slice 28 (.slice A n c) none (some (.int .i64 (h : Int))) none).run Try.prog W = .ok (.slice A h c) W := by
  have e0 : A.map (fun x => x.add 0) = A := by
    cases A with
    | none => rfl
    | some a => simp only [Option.map_some, Option.some.injEq]; unfold Addr.add; simp
  rw [run_slice_h (P := Try.prog) W 28 A n c elem23 .i64 h (by omega) (by omega), elem23', Try.sizeOf5]
  simp only [sliced, Result.andThen, Nat.zero_mul, e0, ite_self, Int.toNat_natCast]; rfl
theorem Bs.nat_at {w : World} {b off n : Nat} {xs : List Int} {k : Nat} (h : Bs w (some ⟨b, off, none⟩) n xs) (hk : k < n) : ∃ y : Nat, w.cell? ⟨b, off + k, none⟩ = some (.int .u8 (y : Int)) ∧ y < 256 ∧ Hid (xs[k]? = some (y : Int)) := by
  obtain ⟨b', off', x, he, hb, h0, h1, hc, HX⟩ := h.at_ hk
  injection he with he
  injection he with e1 e2
  subst e1; subst e2
  obtain ⟨y, rfl⟩ := Int.eq_ofNat_of_zero_le h0
  exact ⟨y, hc, by omega, HX⟩

theorem wrapU8 (x : Int) : IntKind.u8.wrap x = x % 256 := by simp [IntKind.wrap, IntKind.bits, IntKind.signed]
def tn (i : Nat) : Nat := (81 + 7 * (i % 31)) % 256
theorem tn_lt (i : Nat) : tn i < 256 := Nat.mod_lt _ (by omega)
theorem stamp_any (i k : Nat) (hi : i ≤ 1000000000) (hk : k ≤ 10000000000) (w : World) : Calls Try.prog 73 #[.int .i64 (i : Int), .int .i64 (k : Int)] w fun e w' => e = .returned (.int .u8 (stp i k : Nat)) ∧ w = w' := by
  have H := Lib.hid (show ((3 : Int) * (i : Int) + 11 * (k : Int) + 1) % 256 = ((stp i k : Nat) : Int) by unfold stp; omega)
  have H2 := Lib.hid (wrapU8 ((3 : Int) * (i : Int) + 11 * (k : Int) + 1))
  go_enter Try.func73, Try.ntmps73
  go_wp2
  go_ret
  exact ⟨by first | exact ret_int H.out | exact ret_int (H2.out.trans H.out), rfl⟩
theorem tint_any (i : Nat) (hi : i ≤ 9223372036854775807) (w : World) : Calls Try.prog 72 #[.int .i64 (i : Int)] w fun e w' => e = .returned (.int .u8 (tn i : Nat)) ∧ w = w' := by
  have H := Lib.hid (show ((81 : Int) + 7 * ((i : Int) % 31)) % 256 = ((tn i : Nat) : Int) by unfold tn; omega)
  have H2 := Lib.hid (wrapU8 ((81 : Int) + 7 * ((i : Int) % 31)))
  have hm : ((i : Int).tmod 31) = (i : Int) % 31 := Int.tmod_eq_emod_of_nonneg (by omega)
  have hm0 : 0 ≤ (i : Int) % 31 := by omega
  have hm1 : (i : Int) % 31 < 31 := by omega
  go_enter Try.func72, Try.ntmps72
  go_wp2
  go_ret
  exact ⟨by first | exact ret_int H.out | exact ret_int (H2.out.trans H.out), rfl⟩

/-- A list with its tinted room. -/
def sp (xs : List Int) : List Int := xs ++ (List.range 33).map (fun t => ((tn (xs.length + t) : Nat) : Int))
theorem sp_length (xs : List Int) : (sp xs).length = xs.length + 33 := by simp [sp]
theorem sp_lo {xs : List Int} {k : Nat} (h : k < xs.length) : (sp xs)[k]? = xs[k]? := by unfold sp; rw [List.getElem?_append_left h]
theorem sp_hi {xs : List Int} {k : Nat} (h : xs.length ≤ k) (h2 : k < xs.length + 33) : (sp xs)[k]? = some ((tn k : Nat) : Int) := by
  unfold sp
  rw [List.getElem?_append_right h, List.getElem?_map, List.getElem?_range (by omega)]
  simp only [Option.map_some]
  congr 4; omega
theorem sp_ran {xs : List Int} (h : Ran xs) : Ran (sp xs) := by
  refine h.append ?_
  intro x hx
  obtain ⟨t, _, rfl⟩ := List.mem_map.1 hx
  have := tn_lt (xs.length + t)
  omega
theorem sp_take (xs : List Int) : (sp xs).take xs.length = xs := by unfold sp; exact List.take_left
theorem take_next {l : List Int} {k : Nat} {x : Int} (h : l[k]? = some x) : l.take (k + 1) = l.take k ++ [x] := by rw [List.take_add_one, h]; rfl
theorem ran_setI {xs : List Int} (h : Ran xs) (k : Nat) {v : Int} (h0 : 0 ≤ v) (h1 : v ≤ 255) : Ran (xs.set k v) := by
  intro x hx
  rcases List.mem_or_eq_of_mem_set hx with h' | rfl
  · exact h x h'
  · exact ⟨h0, h1⟩
theorem By_setI (xs : List Int) (k : Nat) (v : Int) : By (xs.set k v) = (By xs).set k (.int .u8 v) := by simp [By, List.map_set]
/-- One place of an own row is written. -/
theorem Own.put {w : World} {base g n c k : Nat} {xs : List Int} (h : Own w base 5 (some ⟨g, 0, none⟩) n c (By xs)) (v : Int) : Own (w.setCell ⟨g, k, none⟩ (.int .u8 v)) base 5 (some ⟨g, 0, none⟩) n c (By (xs.set k v)) := by
  rw [By_setI]; exact (h.stored k (.int .u8 v)).1
theorem Own.cellI {w : World} {base g n c k : Nat} {xs : List Int} {x : Int} (h : Own w base 5 (some ⟨g, 0, none⟩) n c (By xs)) (hx : xs[k]? = some x) : w.cell? ⟨g, k, none⟩ = some (.int .u8 x) := by
  have hl := h.len
  rw [By_length] at hl
  have hk : k < n := by have := (List.getElem?_eq_some_iff.1 hx).1; omega
  rw [World.ownsRow.cellAt h k (by omega)]
  simp [By, hx]

set_option maxRecDepth 100000 in
set_option maxHeartbeats 4000000 in
theorem spare_any (A : Option Addr) (n c : Nat) (xs : List Int) (w : World) (hx : Bs w A n xs) (hn : n ≤ 1000000000000) :
    Calls Try.prog 27 #[.slice A n c] w fun e w' => e = .returned (.tuple #[.slice (some ⟨w.heap.size, 0, none⟩) n (n + 33), .slice (some ⟨w.heap.size, 0, none⟩) (n + 33) (n + 33)]) ∧ Own w' w.heap.size 5 (some ⟨w.heap.size, 0, none⟩) (n + 33) (n + 33) (By (sp xs)) ∧ Below w.heap.size w w' := by
  obtain ⟨i0, hi, hz0, hz1, hz2⟩ := info_parts info5
  have HL := Lib.hid hx.len
  have hmk := fun W => run_make_bytes (P := Try.prog) 28 5 i0 Try.underlying28 hi hz0 hz1 hz2 ((n : Int) + 33) (n + 33) (by omega) (by omega) W
  have hb0 := below_alloc w (.cells (zerA (n + 33)) 5)
  have ho0 : Own (w.alloc (.cells (zerA (n + 33)) 5)) w.heap.size 5 (some ⟨w.heap.size, 0, none⟩) (n + 33) (n + 33) (By (List.replicate (n + 33) 0)) := by
    have : By (List.replicate (n + 33) 0) = zer (n + 33) := by simp [By, zer]
    rw [this]
    exact Own.of_block (heap_alloc_new w _) (Nat.le_refl _) (by simp [zer]) (by unfold maxLen; omega)
  have hr0 : Ran (List.replicate (n + 33) 0) := by
    intro x hx
    have := List.eq_of_mem_replicate hx
    omega
  have hsl := slice_hA (some ⟨w.heap.size, 0, none⟩) (n + 33) (n + 33) n (by omega)
  go_enter Try.func27, Try.ntmps27
  go_wp2
  go_loopw [5] (fun i wr => ∃ (k : Nat) (ss : List Int), i = .int .i64 k ∧ k ≤ n + 33 ∧ Own wr w.heap.size 5 (some ⟨w.heap.size, 0, none⟩) (n + 33) (n + 33) (By ss) ∧ Ran ss ∧ Hid (ss.take k = (sp xs).take k) ∧ Below w.heap.size w wr) (fun i _ => n + 33 - (intOf i).toNat)
  case atStart => exact ⟨0, _, rfl, Nat.zero_le _, ho0, hr0, by show _ = _; simp, hb0⟩
  case round =>
    obtain ⟨k, ss, rfl, hk, ho, hr, HS, hbr⟩ := hrel
    have hl := ho.len
    rw [By_length] at hl
    have HLS := Lib.hid hl; clear hl
    by_cases hlt : k < n + 33
    · obtain ⟨u, hu⟩ : ∃ u, ss[k]? = some u := ⟨_, List.getElem?_eq_getElem (by rw [HLS.out]; exact hlt)⟩
      have hcu := ho.cellI hu
      have hfz : wr.frozen? ⟨w.heap.size, k, none⟩ = false := ho.frozenAt k
      have htl := tn_lt k
      have ho1 := ho.put (k := k) ((tn k : Nat) : Int)
      have hr1 := ran_setI hr k (v := ((tn k : Nat) : Int)) (by omega) (by omega)
      have hb1 : Below w.heap.size w (wr.setCell ⟨w.heap.size, k, none⟩ (.int .u8 ((tn k : Nat) : Int))) := hbr.setCell (by simp) _
      have hxr := hx.keep hb1
      have hT1 : (ss.set k ((tn k : Nat) : Int)).take k = ss.take k := List.take_set_of_le (Nat.le_refl k)
      have HS1 := Lib.hid (hT1.trans HS.out)
      have HT := Lib.hid (set_take ((tn k : Nat) : Int) (show k < ss.length by rw [HLS.out]; exact hlt))
      have HLS1 := Lib.hid (show (ss.set k ((tn k : Nat) : Int)).length = n + 33 by rw [List.length_set, HLS.out])
      have HU := Lib.hid hu
      clear hu hT1
      go_wp2_with fail
      refine (tint_any k (by omega) _).mono ?_
      rintro e w' ⟨rfl, rfl⟩
      by_cases hkn : k < n
      · obtain ⟨b, off, x, rfl, hbk, h0, h1, hcx, HX⟩ := hxr.at_ hkn
        have hcu1 := ho1.cellI (k := k) (x := ((tn k : Nat) : Int)) (by rw [List.getElem?_set_self (by rw [HLS.out]; exact hlt)])
        have hfz1 : (wr.setCell ⟨w.heap.size, k, none⟩ (.int .u8 ((tn k : Nat) : Int))).frozen? ⟨w.heap.size, k, none⟩ = false := ho1.frozenAt k
        have ho2 := ho1.put (k := k) x
        have hr2 := ran_setI hr1 k h0 h1
        have hb2 : Below w.heap.size w ((wr.setCell ⟨w.heap.size, k, none⟩ (.int .u8 ((tn k : Nat) : Int))).setCell ⟨w.heap.size, k, none⟩ (.int .u8 x)) := hb1.setCell (by simp) _
        have HS2 := Lib.hid (show ((ss.set k ((tn k : Nat) : Int)).set k x).take (k + 1) = (sp xs).take (k + 1) by
          rw [set_take x (by rw [HLS1.out]; exact hlt), HS1.out, take_next (show (sp xs)[k]? = some x by rw [sp_lo (by rw [HL.out]; exact hkn)]; exact HX.out)])
        clear ho ho1 hbr hb1 hr hr1 hxr
        go_wp2
        go_roundw
        case rel => exact ⟨k + 1, _, by go_num, by omega, ho2, hr2, HS2, hb2⟩
        case measure => simp [intOf]; omega
      · have HS2 := Lib.hid (show (ss.set k ((tn k : Nat) : Int)).take (k + 1) = (sp xs).take (k + 1) by
          rw [HT.out, HS.out, take_next (sp_hi (xs := xs) (k := k) (by rw [HL.out]; omega) (by rw [HL.out]; omega))])
        clear ho hbr hr hxr
        go_wp2
        go_roundw
        case rel => exact ⟨k + 1, _, by go_num, by omega, ho1, hr1, HS2, hb1⟩
        case measure => simp [intOf]; omega
    · obtain rfl : k = n + 33 := by omega
      have HE := Lib.hid (show ss = sp xs by
        have := HS.out
        rwa [List.take_of_length_le (by rw [HLS.out]; exact Nat.le_refl _), List.take_of_length_le (by rw [sp_length, HL.out]; exact Nat.le_refl _)] at this)
      clear HS
      go_wp2
      go_ret2
      exact ⟨rfl, by rw [← HE.out]; exact ho, hbr⟩

end Go.Proofs.Ytmjjbfcblmmipaa
namespace Go.Proofs.Ytmjjbfcblmmipaa
set_option linter.unusedVariables false
set_option linter.unusedSimpArgs false
open Go.RowKit

theorem stamp_at (i k : Nat) (x y : Int) (hx : x = (i : Int)) (hy : y = (k : Int)) (hi : i ≤ 1000000000) (hk : k ≤ 10000000000) (w : World) : Calls Try.prog 73 #[.int .i64 x, .int .i64 y] w fun e w' => e = .returned (.int .u8 (stp i k : Nat)) ∧ w = w' := by
  subst hx; subst hy; exact stamp_any i k hi hk w
/-- The row of headers. -/
def HdL (w : World) (L : Nat) (ent : List Er) : Prop := ∃ cs fr, w.heap[L]? = some (.cells cs 28 fr) ∧ cs.toList = ent.map sv
theorem HdL.cell {w : World} {L : Nat} {ent : List Er} {i : Nat} {A : Option Addr} {n c : Nat} (h : HdL w L ent) (he : ent[i]? = some (A, n, c)) : w.cell? ⟨L, i, none⟩ = some (.slice A n c) := by
  obtain ⟨cs, fr, h1, h2⟩ := h
  rw [cell_of_row w L i cs 28 fr h1]
  have : cs.toList[i]? = some (sv (A, n, c)) := by rw [h2, List.getElem?_map, he]; rfl
  simpa [sv] using this
theorem HdL.keep {w w' : World} {L : Nat} {ent : List Er} (h : HdL w L ent) (hk : w'.heap[L]? = w.heap[L]?) : HdL w' L ent := by
  obtain ⟨cs, fr, h1, h2⟩ := h
  exact ⟨cs, fr, hk.trans h1, h2⟩
theorem HdL.lt {w : World} {L : Nat} {ent : List Er} (h : HdL w L ent) : L < w.heap.size := by
  obtain ⟨cs, fr, h1, h2⟩ := h
  exact lt_of_heap h1
theorem HdL.ne {w : World} {L : Nat} {ent : List Er} {base : Nat} {A : Option Addr} {n c : Nat} {vs : List Value} (h : HdL w L ent) (ho : Own w base 5 A n c vs) : blk A ≠ some L := by
  obtain ⟨cs, fr, h1, h2⟩ := h
  exact ho.ne_block h1 (by decide)
theorem HdL.below {w w' : World} {L : Nat} {ent : List Er} (h : HdL w L ent) (hb : Below w.heap.size w w') : HdL w' L ent := h.keep (hb.block L h.lt)
theorem HdL.grown {w w' : World} {L : Nat} {ent : List Er} {b : Option Nat} (h : HdL w L ent) (hg : w.grownBy w' b) (hne : b ≠ some L) : HdL w' L ent := h.keep (hg.block L h.lt (fun e => hne e.symm))
def lv (lst : List (Nat × Er)) : List Value := lst.map (fun x => sv x.2)
theorem lv_push (lst : List (Nat × Er)) (i : Nat) (A : Option Addr) (n c : Nat) : lv (lst ++ [(i, A, n, c)]) = lv lst ++ [.slice A n c] := by simp [lv, sv]
theorem grown_set {a w : World} {g k : Nat} {v : Value} (h : a.grownBy w (some g)) : a.grownBy (w.setCell ⟨g, k, none⟩ v) (some g) := World.grownBy.trans h (onl_set w g k v)
theorem grown_dr {a w w' : World} {b : Option Nat} (h : a.grownBy w b) (hd : Dr w w') : a.grownBy w' b := by
  obtain ⟨q, rfl⟩ := hd
  exact ⟨h.os, h.tape, h.output, h.size, h.block⟩
theorem Own.dr {w w' : World} {base : Nat} {e : TypeId} {A : Option Addr} {n c : Nat} {vs : List Value} (h : Own w base e A n c vs) (hd : Dr w w') : Own w' base e A n c vs := by
  obtain ⟨q, rfl⟩ := hd
  exact h
theorem HdL.dr {w w' : World} {L : Nat} {ent : List Er} (h : HdL w L ent) (hd : Dr w w') : HdL w' L ent := by
  obtain ⟨q, rfl⟩ := hd
  exact h

/-- No list is too long. -/
def Bnd (lst : List (Nat × Er)) : Prop := ∀ (t j : Nat) (G : Option Addr) (n d : Nat), lst[t]? = some (j, G, n, d) → n ≤ 2000000000
theorem Bnd.nil_ : Bnd [] := fun t j G n d ht => by simp at ht
theorem Bnd.push {lst : List (Nat × Er)} {i : Nat} {G : Option Addr} {n d : Nat} (h : Bnd lst) (hn : n ≤ 2000000000) : Bnd (lst ++ [(i, G, n, d)]) := by
  intro t j B m e ht
  by_cases hlt : t < lst.length
  · rw [List.getElem?_append_left hlt] at ht
    exact h t j B m e ht
  · rw [List.getElem?_append_right (by omega)] at ht
    have h0 : t - lst.length = 0 := by
      have := (List.getElem?_eq_some_iff.1 ht).1
      simp at this; omega
    rw [h0] at ht
    simp only [List.getElem?_cons_zero, Option.some.injEq, Prod.mk.injEq] at ht
    obtain ⟨rfl, rfl, rfl, rfl⟩ := ht
    exact hn

set_option maxRecDepth 100000 in
set_option maxHeartbeats 4000000 in
theorem apart_any (L q base : Nat) (ent : List Er) (w : World) (hL : HdL w L ent) (hq : ent.length = q) (hq2 : q ≤ 1000000)
    (hown : ∀ (j : Nat) (A : Option Addr) (n c : Nat), ent[j]? = some (A, n, c) → (∃ xs, Own w base 5 A n c (By xs) ∧ Ran xs) ∧ n ≤ 1000000000) (hd : Dist ent) (hbase : base ≤ w.heap.size) :
    Calls Try.prog 29 #[.slice (some ⟨L, 0, none⟩) q q] w fun e w' => e = .returned (.bool true) ∧ Oth w.heap.size ent w w' := by
  obtain ⟨i0, hi, hz0, hz1, hz2⟩ := info_parts info5
  obtain ⟨i8, hi8, hy0, hy1, hy2⟩ := info_parts info23
  have HQ := Lib.hid hq; clear hq
  have HNB := Lib.hid (fun j A n c he => (hown j A n c he).2)
  have E0 : Ent1 w base ent 0 := fun j A n c he => by
    obtain ⟨xs, h1, h2⟩ := (hown j A n c he).1
    exact ⟨xs, h1, h2, fun h => absurd h (by omega)⟩
  have hS : EntLt w.heap.size ent := EntLt.of (w := w) (base := base) (fun j A n c he => by
    obtain ⟨xs, h1, h2⟩ := (hown j A n c he).1
    exact ⟨_, h1⟩)
  have hLS := hL.lt
  clear hown
  go_enter Try.func29, Try.ntmps29
  go_wp2
  go_loopw [4] (fun v wr => ∃ i : Nat, v = .int .i64 i ∧ i ≤ q ∧ Ent1 wr base ent i ∧ HdL wr L ent ∧ Oth w.heap.size ent w wr) (fun v _ => q - (intOf v).toNat)
  case atStart => exact ⟨0, rfl, Nat.zero_le _, E0, hL, Oth.refl _ _ _⟩
  case round =>
    obtain ⟨i, rfl, hiq, he1, hLr, hbr⟩ := hrel
    have hsr := hbr.size
    by_cases hlt : i < q
    · obtain ⟨⟨A, n, c⟩, he⟩ : ∃ x, ent[i]? = some x := ⟨_, List.getElem?_eq_getElem (by rw [HQ.out]; exact hlt)⟩
      obtain ⟨xs, ho, hr, _⟩ := he1 i A n c he
      have hnb := HNB.out i A n c he
      have HE := Lib.hid he; clear he
      generalize hwB : wr = wB at *
      clear hwB
      go_wp2
      go_loopw [5] (fun v w2 => ∃ (k : Nat) (ys : List Int), v = .int .i64 k ∧ k ≤ n ∧ Own w2 base 5 A n c (By ys) ∧ Ran ys ∧ Hid (ys.take k = sts i k) ∧ wB.grownBy w2 (blk A) ∧ HdL w2 L ent) (fun v _ => n - (intOf v).toNat)
      case atStart => exact ⟨0, xs, rfl, Nat.zero_le _, ho, hr, by show _ = _; simp [sts], ⟨rfl, rfl, rfl, Nat.le_refl _, fun _ _ _ => rfl⟩, hLr⟩
      case round =>
        obtain ⟨k, ys, rfl, hk, hoy, hry, HK, hg, hL2⟩ := hrel
        have hcell := hL2.cell HE.out
        by_cases hlt2 : k < n
        · obtain ⟨g, cap, hv, hglo, hglt⟩ := World.ownsRow.form hoy (by omega)
          obtain rfl : A = some ⟨g, 0, none⟩ := by injection hv
          have hyl : ys.length = n := by have := hoy.len; rwa [By_length] at this
          obtain ⟨u, hu⟩ : ∃ u, ys[k]? = some u := ⟨_, List.getElem?_eq_getElem (by rw [hyl]; exact hlt2)⟩
          have hcu := hoy.cellI hu
          have hfz : wr.frozen? ⟨g, k, none⟩ = false := hoy.frozenAt k
          have hcell' : wr.drew.cell? ⟨L, i, none⟩ = some (.slice (some ⟨g, 0, none⟩) n c) := hcell
          have hcu' : wr.drew.cell? ⟨g, k, none⟩ = some (.int .u8 u) := hcu
          have hfz' : wr.drew.frozen? ⟨g, k, none⟩ = false := hfz
          have hneL := hL2.ne hoy
          have hsl := stp_lt i k
          have HN : Hid (∀ W, Dr wr W → Own (W.setCell ⟨g, k, none⟩ (.int .u8 ((stp i k : Nat) : Int))) base 5 (some ⟨g, 0, none⟩) n c (By (ys.set k ((stp i k : Nat) : Int))) ∧ wB.grownBy (W.setCell ⟨g, k, none⟩ (.int .u8 ((stp i k : Nat) : Int))) (blk (some (⟨g, 0, none⟩ : Addr))) ∧ HdL (W.setCell ⟨g, k, none⟩ (.int .u8 ((stp i k : Nat) : Int))) L ent) := by
            intro W hW
            exact ⟨(hoy.dr hW).put _, grown_set (grown_dr hg hW), (hL2.dr hW).grown (onl_set W g k _) hneL⟩
          have hrn := ran_setI hry k (v := ((stp i k : Nat) : Int)) (by omega) (by omega)
          have HKN := Lib.hid (show (ys.set k ((stp i k : Nat) : Int)).take (k + 1) = sts i (k + 1) by rw [set_take _ (by rw [hyl]; exact hlt2), HK.out, sts_succ])
          clear hu hyl hoy hg hL2 hv hneL HK
          go_wp2
          go_region_with (go_at_call 73; refine (stamp_at i k _ _ rfl rfl (by omega) (by omega) _).mono ?_; rintro e w' ⟨rfl, rfl⟩)
          all_goals
            go_wp2
            go_roundw
            case rel => exact ⟨k + 1, _, by go_num, by omega, (HN.out _ (Dr.refl _).one).1, hrn, HKN, (HN.out _ (Dr.refl _).one).2.1, (HN.out _ (Dr.refl _).one).2.2⟩
            case measure => simp [intOf]; omega
        · obtain rfl : k = n := by omega
          have hon : Own wr base 5 A k c (By (sts i k)) := by
            have hyl : ys.length = k := by have := hoy.len; rwa [By_length] at this
            have := HK.out
            rw [List.take_of_length_le (by rw [hyl]; exact Nat.le_refl _)] at this
            rw [← this]; exact hoy
          have hnext := he1.step hd HE.out hg hon
          have hbn : Oth w.heap.size ent w wr := hbr.trans (Oth.of_entry HE.out hg hsr)
          clear hoy HK hg hon he1 ho hbr
          go_wp2
          go_roundw
          case rel => exact ⟨i + 1, by go_num, by omega, hnext, hL2, hbn⟩
          case measure => simp [intOf]; omega
    · obtain rfl : q = i := by omega
      have hent := he1.done HQ.out
      clear he1 E0 hL
      go_wp2
      go_loopw [3, 6] (fun vl v wr => ∃ (i cl : Nat) (AL : Option Addr) (lst : List (Nat × Er)), v = .int .i64 i ∧ vl = .slice AL i cl ∧ i ≤ q ∧ Hid (lst.length = i) ∧ Own wr w.heap.size 28 AL i cl (lv lst) ∧ EntOK wr base ent ∧ LngOK wr base w.heap.size ent lst ∧ Col q lst ∧ Bnd lst ∧ HdL wr L ent ∧ Oth w.heap.size ent w wr ∧ w.heap.size ≤ wr.heap.size) (fun _ v _ => q - (intOf v).toNat)
      case atStart => exact ⟨0, 0, none, [], rfl, rfl, Nat.zero_le _, rfl, Own.nil_, hent, LngOK.nil_, Col.nil_, Bnd.nil_, hLr, hbr, hsr⟩
      case round =>
        clear hent hLr hbr hsr
        obtain ⟨i, cl, AL, lst, rfl, rfl, hiq, HLL, hlong, hent, hlng, hcol, hbnd, hLr, hbr, hsr⟩ := hrel
        by_cases hlt : i < q
        · obtain ⟨⟨A, n, c⟩, he⟩ : ∃ x, ent[i]? = some x := ⟨_, List.getElem?_eq_getElem (by rw [HQ.out]; exact hlt)⟩
          have hnb := HNB.out i A n c he
          have hcell := hLr.cell he
          have hoA := hent i A n c he
          have HE := Lib.hid he; clear he
          have hTl := hlng.lt
          have HI : Hid (∀ (t : Nat) (B : Option Addr) (p e : Nat), lst[t]? ≠ some (i, B, p, e)) := by
            intro t B p e ht
            have h1 := hcol t _ ht
            have h2 := (List.getElem?_eq_some_iff.1 ht).1
            rw [HLL.out] at h2
            rw [Nat.mod_eq_of_lt (by omega)] at h1
            simp only at h1
            omega
          generalize hwB : wr = wB at *
          clear hwB
          go_wp2
          go_loopw [7, 8] (fun vg v w2 => ∃ (k d : Nat) (G : Option Addr), v = .int .i64 k ∧ vg = .slice G (n + k) d ∧ k ≤ 9 ∧ Own w2 base 5 G (n + k) d (By (sts i (n + k))) ∧ GOK wB.heap.size A G c d ∧ EntOK w2 base ent ∧ LngOK w2 base w.heap.size ent lst ∧ Own w2 w.heap.size 28 AL i cl (lv lst) ∧ HdL w2 L ent ∧ Oth w.heap.size ent w w2 ∧ wB.heap.size ≤ w2.heap.size) (fun _ v _ => 9 - (intOf v).toNat)
          case atStart => exact ⟨0, c, A, rfl, rfl, Nat.zero_le _, hoA, .inl ⟨rfl, rfl⟩, hent, hlng, hlong, hLr, hbr, Nat.le_refl _⟩
          case round =>
            clear hent hlng hlong hLr hbr hcell hoA
            obtain ⟨k, d, G, rfl, rfl, hk, hoG, hgok, hent, hlng, hlong, hLr, hbr, hsB⟩ := hrel
            have hcell := hLr.cell HE.out
            by_cases hlt2 : k < 9
            · have hba := below_alloc wr (.cells #[.int .u8 ((stp i (n + k) : Nat) : Int)] 5)
              have hoG1 := hoG.alloc (.cells #[.int .u8 ((stp i (n + k) : Nat) : Int)] 5)
              have hent1 := hent.k5 (K5.below hba)
              have hlng1 := hlng.k5 (K5.below hba)
              have hlong1 := hlong.alloc (.cells #[.int .u8 ((stp i (n + k) : Nat) : Int)] 5)
              have hL1 := hLr.below hba
              have hsz1 : (wr.alloc (.cells #[.int .u8 ((stp i (n + k) : Nat) : Int)] 5)).heap.size = wr.heap.size + 1 := by simp
              have hb1 : Oth w.heap.size ent w (wr.alloc (.cells #[.int .u8 ((stp i (n + k) : Nat) : Int)] 5)) := hbr.trans (Oth.of_below hba (by omega))
              have hrd := rd_oneV wr (.int .u8 ((stp i (n + k) : Nat) : Int)) 5
              have HSZ := Lib.hid hsz1; clear hsz1
              clear hent hlng hlong hLr hoG hba
              go_wp2_with fail
              refine (stamp_at i (n + k) _ _ rfl (by omega) (by omega) (by omega) _).mono ?_
              rintro e w' ⟨rfl, rfl⟩
              go_wp2_with (at_builtin; refine wpList_append_in rfl _ _ 28 rfl i0 (.int .u8 0) 1 Try.underlying28 hi hz0 hz1 hz2 rfl rfl hoG1 (some ⟨wr.heap.size, 0, none⟩) 1 1 [.int .u8 ((stp i (n + k) : Nat) : Int)] rfl hrd (fun u hu => by obtain rfl := List.mem_singleton.1 hu; rfl) ?c1 ?c2 ?c3 (by omega) ?_)
              case c1 => unfold maxLen; omega
              case c2 => omega
              case c3 => rw [HSZ.out]; omega
              intro G' d' w3 ho3 hio3
              have ho3' : Own w3 base 5 G' (n + (k + 1)) d' (By (sts i (n + (k + 1)))) := by
                have e1 : By (sts i (n + (k + 1))) = By (sts i (n + k)) ++ [.int .u8 ((stp i (n + k) : Nat) : Int)] := by
                  rw [← Nat.add_assoc, sts_succ, By_append]; rfl
                rw [e1]; exact ho3
              obtain ⟨hent3, hlng3, hgok3⟩ := grow_one hent1 hlng1 hd hS hsr hTl (by rw [HSZ.out]; omega) HI.out HE.out hgok ho3' hio3
              have hlong3 := hio3.own hoG1 hlong1 (by decide)
              have hL3 := hL1.keep (hio3.block hL1.lt (hL1.ne hoG1))
              have hb3 := hb1.trans (Oth.of_inout HE.out hgok hsr (by rw [HSZ.out]; omega) hio3)
              have hs3 : wB.heap.size ≤ w3.heap.size := by have := hio3.size; rw [HSZ.out] at this; omega
              clear hent1 hlng1 hlong1 hL1 hb1 hoG1 hrd hio3 ho3 hgok hcell
              go_wp2
              go_roundw
              case rel => exact ⟨k + 1, d', G', by go_num, rfl, by omega, ho3', hgok3, hent3, hlng3, hlong3, hL3, hb3, hs3⟩
              case measure => simp [intOf]; omega
            · obtain rfl : k = 9 := by omega
              have hba := below_alloc wr (.cells #[.slice G (n + 9) d] 28)
              have hlong1 := hlong.alloc (.cells #[.slice G (n + 9) d] 28)
              have hL1 := hLr.below hba
              have hent1 := hent.k5 (K5.below hba)
              have hlng1 := (hlng.push hoG (by
                rcases hgok with ⟨rfl, rfl⟩ | ⟨b, hb, hT⟩
                · exact .inr ⟨n, HE.out, by omega⟩
                · exact .inl ⟨b, hb, by omega⟩)).k5 (K5.below hba)
              have hcol1 := hcol.push (x := (G, n + 9, d)) (show i = lst.length % q by rw [HLL.out, Nat.mod_eq_of_lt hlt])
              have hbnd1 := hbnd.push (i := i) (G := G) (n := n + 9) (d := d) (by omega)
              have HLL1 := Lib.hid (show (lst ++ [(i, G, n + 9, d)]).length = i + 1 by rw [List.length_append, HLL.out]; rfl)
              have hb1 := hbr.trans (Oth.of_below hba (by omega))
              have hsz1 : (wr.alloc (.cells #[.slice G (n + 9) d] 28)).heap.size = wr.heap.size + 1 := by simp
              have HSZ := Lib.hid hsz1; clear hsz1
              clear hent hlng hlong hLr hbr hba hgok hoG
              go_wp2_with (at_builtin; refine wpList_append_rd rfl _ _ 62 rfl i8 (.slice none 0 0) 24 Try.underlying62 hi8 hy0 hy1 hy2 rfl rfl hlong1 (some ⟨wr.heap.size, 0, none⟩) 1 1 [.slice G (n + 9) d] rfl (rd_oneV wr _ 28) (one_slice _ _ _) ?d1 ?d2 ?d3 ?_)
              case d1 => unfold maxLen; omega
              case d2 => omega
              case d3 => rw [HSZ.out]; omega
              intro AL' cl' w3 ho3 hg3
              rw [← lv_push lst i G (n + 9) d] at ho3
              have hk5 := K5.grown (base := base) hlong1 hg3.1
              have hent3 := hent1.k5 hk5
              have hlng3 := hlng1.k5 hk5
              have hL3 := hL1.grown hg3.1 (fun e => by have := (hlong1.lies L e).1; omega)
              have hb3 := hb1.trans (Oth.of_below (hg3.below (by rw [HSZ.out]; omega) (fun k hk => (hlong1.lies k hk).1) : Below w.heap.size _ w3) (Nat.le_refl _))
              have hs3 : w.heap.size ≤ w3.heap.size := by have := hg3.size; rw [HSZ.out] at this; omega
              clear hent1 hlng1 hlong1 hL1 hb1 hk5 hg3 hcell hcol
              go_wp2
              go_roundw
              case rel => exact ⟨i + 1, cl', AL', _, by go_num, rfl, by omega, HLL1, ho3, hent3, hlng3, hcol1, hbnd1, hL3, hb3, hs3⟩
              case measure => simp [intOf]; omega
        · obtain rfl : q = i := by omega
          have hmk33 : ∀ W, (Instr.makeSlice 28 (.int .i64 33) (.int .i64 33)).run Try.prog W = .ok (.slice (some ⟨W.heap.size, 0, none⟩) 33 33) (W.alloc (.cells (zerA 33) 5)) := fun W => run_make_bytes (P := Try.prog) 28 5 i0 Try.underlying28 hi hz0 hz1 hz2 33 33 rfl (by omega) W
          clear hlt
          go_wp2
          go_loopw [3, 9] (fun vl v wr => ∃ (i cl : Nat) (AL : Option Addr) (lst : List (Nat × Er)), v = .int .i64 i ∧ vl = .slice AL (q + i) cl ∧ i ≤ q ∧ Hid (lst.length = q + i) ∧ Own wr w.heap.size 28 AL (q + i) cl (lv lst) ∧ EntOK wr base ent ∧ LngOK wr base w.heap.size ent lst ∧ Col q lst ∧ Bnd lst ∧ HdL wr L ent ∧ Oth w.heap.size ent w wr ∧ w.heap.size ≤ wr.heap.size) (fun _ v _ => q - (intOf v).toNat)
          case atStart => exact ⟨0, cl, AL, lst, rfl, rfl, Nat.zero_le _, HLL, hlong, hent, hlng, hcol, hbnd, hLr, hbr, hsr⟩
          case round =>
            clear hent hLr hbr hsr hlong hlng hcol hbnd HLL
            obtain ⟨i, cl, AL, lst, rfl, rfl, hiq, HLL, hlong, hent, hlng, hcol, hbnd, hLr, hbr, hsr⟩ := hrel
            by_cases hlt : i < q
            · obtain ⟨⟨A, n, c⟩, he⟩ : ∃ x, ent[i]? = some x := ⟨_, List.getElem?_eq_getElem (by rw [HQ.out]; exact hlt)⟩
              have hnb := HNB.out i A n c he
              have HE := Lib.hid he; clear he
              have hTl := hlng.lt
              have hTT : EntLt wr.heap.size ent := fun j B p e hj b' hb' => Nat.lt_of_lt_of_le (hS j B p e hj b' hb') hsr
              have HLies := Lib.hid (fun k hk => (hlong.lies k hk).2)
              have hba := below_alloc wr (.cells (zerA 33) 5)
              have hlong1 := hlong.alloc (.cells (zerA 33) 5)
              have hL1 := hLr.below hba
              have hent1 := hent.k5 (K5.below hba)
              have hlng1 := hlng.k5 (K5.below hba)
              have hb1 : Oth w.heap.size ent w (wr.alloc (.cells (zerA 33) 5)) := hbr.trans (Oth.of_below hba hsr)
              have hot : Own (wr.alloc (.cells (zerA 33) 5)) wr.heap.size 5 (some ⟨wr.heap.size, 0, none⟩) 33 33 (By (List.replicate 33 0)) := by
                have : By (List.replicate 33 0) = zer 33 := by simp [By, zer]
                rw [this]
                exact Own.of_block (heap_alloc_new wr _) (Nat.le_refl _) (by simp [zer]) (by unfold maxLen; omega)
              have hrt : Ran (List.replicate 33 0) := by
                intro x hx
                have := List.eq_of_mem_replicate hx
                omega
              have hszT : wr.heap.size + 1 = (wr.alloc (.cells (zerA 33) 5)).heap.size := by simp
              clear hent hlng hlong hLr hbr hba
              go_wp2
              generalize hwB : wr = wB at *
              clear hwB
              generalize hwT : wB.alloc (.cells (zerA 33) 5) = wT at *
              clear hwT
              have HSZT := Lib.hid hszT; clear hszT
              go_loopw [11] (fun v w2 => ∃ (k : Nat) (ts : List Int), v = .int .i64 k ∧ k ≤ 33 ∧ Own w2 wB.heap.size 5 (some ⟨wB.heap.size, 0, none⟩) 33 33 (By ts) ∧ Ran ts ∧ Hid (ts.take k = ((sts i (n + 33)).drop n).take k) ∧ Onl wB.heap.size wT w2 ∧ HdL w2 L ent) (fun v _ => 33 - (intOf v).toNat)
              case atStart => exact ⟨0, _, rfl, Nat.zero_le _, hot, hrt, by show _ = _; simp, Onl.refl _ _, hL1⟩
              case round =>
                clear hL1
                obtain ⟨k, ts, rfl, hk, hot2, hrt2, HK, hon, hL2⟩ := hrel
                have hcell := hL2.cell HE.out
                have htl : ts.length = 33 := by have := hot2.len; rwa [By_length] at this
                have HTL := Lib.hid htl; clear htl
                by_cases hlt2 : k < 33
                · obtain ⟨u, hu⟩ : ∃ u, ts[k]? = some u := ⟨_, List.getElem?_eq_getElem (by rw [HTL.out]; exact hlt2)⟩
                  have hcu := hot2.cellI hu
                  have hfz : wr.frozen? ⟨wB.heap.size, k, none⟩ = false := hot2.frozenAt k
                  have hsl := stp_lt i (n + k)
                  have ho3 := hot2.put (k := k) ((stp i (n + k) : Nat) : Int)
                  have hr3 := ran_setI hrt2 k (v := ((stp i (n + k) : Nat) : Int)) (by omega) (by omega)
                  have hon3 := hon.trans (onl_set wr wB.heap.size k (.int .u8 ((stp i (n + k) : Nat) : Int)))
                  have hL3 := hL2.grown (onl_set wr wB.heap.size k (.int .u8 ((stp i (n + k) : Nat) : Int))) (hL2.ne hot2)
                  have HK3 := Lib.hid (show (ts.set k ((stp i (n + k) : Nat) : Int)).take (k + 1) = ((sts i (n + 33)).drop n).take (k + 1) by
                    rw [set_take _ (by rw [HTL.out]; exact hlt2), HK.out, take_next (show ((sts i (n + 33)).drop n)[k]? = some ((stp i (n + k) : Nat) : Int) by rw [List.getElem?_drop]; exact sts_get (by omega))])
                  clear hu hot2 hon hL2 HK hrt2
                  go_wp2_with fail
                  refine (stamp_at i (n + k) _ _ rfl (by omega) (by omega) (by omega) _).mono ?_
                  rintro e w' ⟨rfl, rfl⟩
                  go_wp2
                  go_roundw
                  case rel => exact ⟨k + 1, _, by go_num, by omega, ho3, hr3, HK3, hon3, hL3⟩
                  case measure => simp [intOf]; omega
                · obtain rfl : 33 = k := by omega
                  have HT := Lib.hid (show ts = (sts i (n + 33)).drop n by
                    have := HK.out
                    rwa [List.take_of_length_le (by rw [HTL.out]; exact Nat.le_refl _), List.take_of_length_le (by rw [List.length_drop, sts_length]; omega)] at this)
                  have hentE : EntOK wr base ent := hent1.apart (G := some ⟨wB.heap.size, 0, none⟩) (b := wB.heap.size) hTT rfl (Nat.le_refl _) hon
                  have hlngE : LngOK wr base w.heap.size ent lst := hlng1.apart (G := some ⟨wB.heap.size, 0, none⟩) (b := wB.heap.size) hTl rfl (Nat.le_refl _) hon
                  have hlongE := hlong1.onl hon (fun e => by have := HLies.out _ e; omega)
                  have hbE : Oth w.heap.size ent w wr := hb1.trans (Oth.of_new hon hsr (by rw [← HSZT.out]; omega))
                  have hoA := hentE i A n c HE.out
                  have hrdT := hot2.rd
                  have hsE : wB.heap.size < wr.heap.size := by have := hon.size; rw [← HSZT.out] at this; omega
                  clear hent1 hlng1 hlong1 hb1 hot hrt hot2 hrt2 hon HK HTL
                  go_wp2_with (at_builtin; refine wpList_append_in rfl _ _ 28 rfl i0 (.int .u8 0) 1 Try.underlying28 hi hz0 hz1 hz2 rfl rfl hoA (some ⟨wB.heap.size, 0, none⟩) 33 33 (By ts) rfl hrdT (By_one _) ?c1 ?c2 ?c3 (by omega) ?_)
                  case c1 => unfold maxLen; omega
                  case c2 => omega
                  case c3 => omega
                  intro G d w3 ho3 hio3
                  have ho3' : Own w3 base 5 G (n + 33) d (By (sts i (n + 33))) := by
                    have e1 : By (sts i (n + 33)) = By (sts i n) ++ By ts := by
                      rw [← By_append, HT.out, ← sts_take (i := i) (show n ≤ n + 33 by omega), List.take_append_drop]
                    rw [e1]; exact ho3
                  obtain ⟨hent3, hlng3⟩ := grow_all hentE hlngE hd hS (by omega) HE.out ho3' hio3
                  have hlong3 := hio3.own hoA hlongE (by decide)
                  have hL3 := hL2.keep (hio3.block hL2.lt (hL2.ne hoA))
                  have hb3 := hbE.trans (Oth.of_inout (T := wB.heap.size) HE.out (.inl ⟨rfl, rfl⟩) hsr (by omega) hio3)
                  have hs3 : wB.heap.size < w3.heap.size := by have := hio3.size; omega
                  have hba := below_alloc w3 (.cells #[.slice G (n + 33) d] 28)
                  have hlong4 := hlong3.alloc (.cells #[.slice G (n + 33) d] 28)
                  have hL4 := hL3.below hba
                  have hent4 := hent3.k5 (K5.below hba)
                  have hlng4 := hlng3.k5 (K5.below hba)
                  have hcol4 := hcol.push (x := (G, n + 33, d)) (show i = lst.length % q by rw [HLL.out, Nat.add_mod_left, Nat.mod_eq_of_lt hlt])
                  have hbnd4 := hbnd.push (i := i) (G := G) (n := n + 33) (d := d) (by omega)
                  have HLL4 := Lib.hid (show (lst ++ [(i, G, n + 33, d)]).length = q + (i + 1) by rw [List.length_append, HLL.out]; rfl)
                  have hb4 := hb3.trans (Oth.of_below hba (by omega))
                  have hsz4 : (w3.alloc (.cells #[.slice G (n + 33) d] 28)).heap.size = w3.heap.size + 1 := by simp
                  have HSZ := Lib.hid hsz4; clear hsz4
                  clear hentE hlngE hlongE hbE hoA hrdT hio3 ho3 ho3' hent3 hlng3 hlong3 hL3 hb3 hL2 hba HT hcell
                  go_wp2_with (at_builtin; refine wpList_append_rd rfl _ _ 62 rfl i8 (.slice none 0 0) 24 Try.underlying62 hi8 hy0 hy1 hy2 rfl rfl hlong4 (some ⟨w3.heap.size, 0, none⟩) 1 1 [.slice G (n + 33) d] rfl (rd_oneV w3 _ 28) (one_slice _ _ _) ?d1 ?d2 ?d3 ?_)
                  case d1 => unfold maxLen; omega
                  case d2 => omega
                  case d3 => rw [HSZ.out]; omega
                  intro AL' cl' w5 ho5 hg5
                  rw [← lv_push lst i G (n + 33) d] at ho5
                  have hk5 := K5.grown (base := base) hlong4 hg5.1
                  have hent5 := hent4.k5 hk5
                  have hlng5 := hlng4.k5 hk5
                  have hL5 := hL4.grown hg5.1 (fun e => by have := (hlong4.lies L e).1; omega)
                  have hb5 := hb4.trans (Oth.of_below (hg5.below (by rw [HSZ.out]; omega) (fun k hk => (hlong4.lies k hk).1) : Below w.heap.size _ w5) (Nat.le_refl _))
                  have hs5 : w.heap.size ≤ w5.heap.size := by have := hg5.size; rw [HSZ.out] at this; omega
                  clear hent4 hlng4 hlong4 hL4 hb4 hk5 hg5 hcol hbnd
                  go_wp2
                  go_roundw
                  case rel => exact ⟨i + 1, cl', AL', _, by go_num, rfl, by omega, HLL4, ho5, hent5, hlng5, hcol4, hbnd4, hL5, hb5, hs5⟩
                  case measure => simp [intOf]; omega
            · obtain rfl : q = i := by omega
              clear hlt hLr hent hmk33
              generalize hwF : wr = wF at *
              clear hwF
              go_wp2
              go_loopw [12] (fun v w2 => ∃ (i p : Nat), v = .int .i64 i ∧ i ≤ q + q ∧ w2 = wF.drewN p) (fun v _ => q + q - (intOf v).toNat)
              case atStart => exact ⟨0, 0, rfl, Nat.zero_le _, rfl⟩
              case round =>
                obtain ⟨i, p, rfl, hiq2, rfl⟩ := hrel
                by_cases hlt : i < q + q
                · obtain ⟨⟨j, G, m, d⟩, hx⟩ : ∃ x, lst[i]? = some x := ⟨_, List.getElem?_eq_getElem (by rw [HLL.out]; exact hlt)⟩
                  obtain rfl : i % q = j := (hcol i _ hx).symm
                  obtain ⟨hoG, _⟩ := hlng i (i % q) G m d hx
                  have hmb := hbnd i (i % q) G m d hx
                  obtain ⟨gl, capl, hvl, hgllo, hgllt⟩ := World.ownsRow.form hlong (by omega)
                  obtain rfl : AL = some ⟨gl, 0, none⟩ := by injection hvl
                  have hcell : wF.cell? ⟨gl, i, none⟩ = some (.slice G m d) := by
                    rw [World.ownsRow.cellAt hlong i (by omega)]
                    simp [lv, hx, sv]
                  have hcell' : (wF.drewN p).cell? ⟨gl, i, none⟩ = some (.slice G m d) := hcell
                  have hq0 : 0 < q := by omega
                  have hmod : i % q ≤ 1000000 := by have := Nat.mod_lt i hq0; omega
                  have HR1 := Lib.hid (show (i : Int) % (q : Int) = ((i % q : Nat) : Int) by omega)
                  have HR2 := Lib.hid (show (i : Int).tmod (q : Int) = ((i % q : Nat) : Int) by rw [Int.tmod_eq_emod_of_nonneg (by omega)]; omega)
                  clear hx
                  go_wp2
                  go_loopw [13] (fun v w3 => ∃ (k p2 : Nat), v = .int .i64 k ∧ k ≤ m ∧ w3 = wF.drewN p2) (fun v _ => m - (intOf v).toNat)
                  case atStart => exact ⟨0, p, rfl, Nat.zero_le _, rfl⟩
                  case round =>
                    clear hcell'
                    obtain ⟨k, p2, rfl, hk, rfl⟩ := hrel
                    have hcell' : (wF.drewN p2).cell? ⟨gl, i, none⟩ = some (.slice G m d) := hcell
                    by_cases hlt2 : k < m
                    · obtain ⟨gg, capg, hvg, hgglo, hgglt⟩ := World.ownsRow.form hoG (by omega)
                      obtain rfl : G = some ⟨gg, 0, none⟩ := by injection hvg
                      have hcg : wF.cell? ⟨gg, k, none⟩ = some (.int .u8 ((stp (i % q) k : Nat) : Int)) := hoG.cellI (sts_get hlt2)
                      have hcg' : (wF.drewN p2).cell? ⟨gg, k, none⟩ = some (.int .u8 ((stp (i % q) k : Nat) : Int)) := hcg
                      go_wp2
                      go_quiet ((go_at_call 73; first | exact still_call_add (fun W => stamp_at (i % q) k _ _ (by first | exact HR1.out | exact HR2.out | rfl) rfl (by omega) (by omega) W) | exact still_call (fun W => stamp_at (i % q) k _ _ (by first | exact HR1.out | exact HR2.out | rfl) rfl (by omega) (by omega) W)))
                      go_wp2
                      go_roundw
                      case rel => exact ⟨k + 1, _, by go_num, by omega, rfl⟩
                      case measure => simp [intOf]; omega
                    · obtain rfl : k = m := by omega
                      go_wp2
                      go_roundw
                      case rel => exact ⟨i + 1, _, by go_num, by omega, rfl⟩
                      case measure => simp [intOf]; omega
                · obtain rfl : q + q = i := by omega
                  go_wp2
                  go_ret
                  exact ⟨rfl, hbr.dr ⟨_, rfl⟩⟩
end Go.Proofs.Ytmjjbfcblmmipaa
namespace Go.Proofs.Ytmjjbfcblmmipaa
set_option linter.unusedVariables false
set_option linter.unusedSimpArgs false
open Go.RowKit

set_option maxRecDepth 100000 in
set_option maxHeartbeats 4000000 in
theorem kept_any (A B : Option Addr) (m c d : Nat) (xs : List Int) (w : World) (ha : Bs w A (m + 33) (sp xs)) (hb : Bs w B m xs) (hm : m ≤ 1000000000000) :
    Calls Try.prog 28 #[.slice A (m + 33) c, .slice B m d] w fun e w' => e = .returned (.bool true) ∧ Dr w w' := by
  have HL := Lib.hid hb.len
  have hq : (((m + 33 : Nat) : Int) != (m : Int) + 33) = false := by simp
  obtain ⟨b, off, rfl, hbl, _⟩ := ha.1.2 (by omega)
  go_enter Try.func28, Try.ntmps28
  go_wp2
  go_loopw [5] (fun i wr => ∃ (k q : Nat), i = .int .i64 k ∧ k ≤ m + 33 ∧ wr = w.drewN q) (fun i _ => m + 33 - (intOf i).toNat)
  case atStart => exact ⟨0, 0, rfl, Nat.zero_le _, rfl⟩
  case round =>
    obtain ⟨k, q, rfl, hk, rfl⟩ := hrel
    by_cases hlt : k < m + 33
    · obtain ⟨y, hy, hy0, HY⟩ := ha.nat_at (k := k) hlt
      have hy' : (w.drewN q).cell? ⟨b, off + k, none⟩ = some (.int .u8 (y : Int)) := hy
      by_cases hkm : k < m
      · obtain ⟨b2, off2, x, rfl, hb2, hx0, hx1, hcx, HX⟩ := hb.at_ hkm
        have hcx' : (w.drewN q).cell? ⟨b2, off2 + k, none⟩ = some (.int .u8 x) := hcx
        have hxy : x = (y : Int) := by
          have h1 := HY.out
          rw [sp_lo (by rw [HL.out]; exact hkm), HX.out] at h1
          injection h1
        subst hxy
        clear HX HY
        have cg : decide (m ≤ k) = false := by simp; omega
        have cl : decide (k < m) = true := by simp; omega
        go_wp2
        go_quiet ((go_at_call 72; first | exact still_call_add (fun W => tint_any k (by omega) W) | exact still_call (fun W => tint_any k (by omega) W)))
        go_wp2
        go_roundw
        case rel => exact ⟨k + 1, _, by go_num, by omega, rfl⟩
        case measure => simp [intOf]; omega
      · obtain rfl : y = tn k := by
          have h1 := HY.out
          rw [sp_hi (by rw [HL.out]; omega) (by rw [HL.out]; omega)] at h1
          injection h1 with h1
          omega
        have cg : decide (m ≤ k) = true := by simp; omega
        have cl : decide (k < m) = false := by simp; omega
        go_wp2
        go_quiet ((go_at_call 72; first | exact still_call_add (fun W => tint_any k (by omega) W) | exact still_call (fun W => tint_any k (by omega) W)))
        go_wp2
        go_roundw
        case rel => exact ⟨k + 1, _, by go_num, by omega, rfl⟩
        case measure => simp [intOf]; omega
    · obtain rfl : k = m + 33 := by omega
      go_wp2
      go_ret
      exact ⟨rfl, (Dr.refl w).n _⟩
end Go.Proofs.Ytmjjbfcblmmipaa
