/- Rows that are stamped, and lists of them: the mathematics of Apart. No program is named here. -/
import Derived.Test.YtlphlogliphhdaaDoorBss
import Derived.Deep.DeepAppendRoom
import Derived.Maps.AppendAt
namespace Go.Proofs.YtlphlogliphhdaaDoor
set_option linter.unusedVariables false
set_option linter.unusedSimpArgs false
open Go.RowKit

/-- What the i-th list is filled with, at a place. -/
def stp (i k : Nat) : Nat := (3 * i + 11 * k + 1) % 256
def sts (i n : Nat) : List Int := (List.range n).map (fun k => ((stp i k : Nat) : Int))
theorem sts_length (i n : Nat) : (sts i n).length = n := by simp [sts]
theorem sts_succ (i n : Nat) : sts i (n + 1) = sts i n ++ [((stp i n : Nat) : Int)] := by simp [sts, List.range_succ]
theorem sts_get {i n k : Nat} (h : k < n) : (sts i n)[k]? = some ((stp i k : Nat) : Int) := by simp [sts, h]
theorem sts_take {i n m : Nat} (h : m ≤ n) : (sts i n).take m = sts i m := by
  apply List.ext_getElem?
  intro k
  rw [List.getElem?_take]
  by_cases hk : k < m
  · rw [if_pos hk, sts_get hk, sts_get (by omega)]
  · rw [if_neg hk, List.getElem?_eq_none (by rw [sts_length]; omega)]
theorem stp_lt (i k : Nat) : stp i k < 256 := Nat.mod_lt _ (by omega)
theorem sts_ran (i n : Nat) : Ran (sts i n) := by
  intro x hx
  obtain ⟨k, _, rfl⟩ := List.mem_map.1 hx
  have := stp_lt i k
  omega
theorem By_take (xs : List Int) (k : Nat) : (By xs).take k = By (xs.take k) := by simp [By, List.map_take]
theorem set_take {xs : List Int} {k : Nat} (v : Int) (h : k < xs.length) : (xs.set k v).take (k + 1) = xs.take k ++ [v] := by
  rw [List.take_add_one, List.take_set_of_le (Nat.le_refl k)]
  simp [h]

/-- A shorter slice of the same row. -/
theorem Own.pre {w : World} {base : Nat} {e : TypeId} {A : Option Addr} {n c m : Nat} {vs : List Value} (h : Own w base e A n c vs) (hm : m ≤ n) : Own w base e A m c (vs.take m) := by
  have hl : vs.length = n := by have := h.1; simpa using this
  rcases h.2 with ⟨hv, h0⟩ | ⟨g, cap, cur, hv, hg, hh, hnc, hcm, hcs, htake⟩
  · have hA : A = none := by injection hv
    have hc : c = 0 := by injection hv
    obtain rfl : m = 0 := by omega
    subst hA; subst hc
    simpa using (Own.nil_ : Own w base e none 0 0 [])
  · have hA : A = some ⟨g, 0, none⟩ := by injection hv
    have hc : c = cap := by injection hv
    subst hA; subst hc
    refine ⟨by rw [List.length_take]; omega, .inr ⟨g, c, cur, rfl, hg, hh, by omega, hcm, hcs, ?_⟩⟩
    rw [← htake, List.take_take]
    congr 1; omega
theorem Own.stsPre {w : World} {base : Nat} {A : Option Addr} {i n c m : Nat} (h : Own w base 5 A n c (By (sts i n))) (hm : m ≤ n) : Own w base 5 A m c (By (sts i m)) := by
  have := h.pre hm
  rwa [By_take, sts_take hm] at this
theorem Own.ne_block {w : World} {base : Nat} {e t : TypeId} {A : Option Addr} {n c L : Nat} {vs : List Value} {cs : Array Value} {fr : Nat × Nat} (h : Own w base e A n c vs) (hL : w.heap[L]? = some (.cells cs t fr)) (ht : t ≠ e) : blk A ≠ some L := by
  rcases h.2 with ⟨hv, _⟩ | ⟨g, cap, cur, hv, _, hg, _⟩
  · have : A = none := by injection hv
    rw [this]; intro e; cases e
  · have hA : A = some ⟨g, 0, none⟩ := by injection hv
    subst hA
    intro e'
    have : g = L := by injection e'
    subst this
    rw [hg] at hL
    injection hL with hL
    injection hL with _ h2
    exact ht h2.symm

/-! append: in the row, or in a new one with all else left alone. -/
section
variable {P : Program} {w : World} {base : Nat} {e : TypeId} {A : Option Addr} {n c : Nat} {vs : List Value}
def InOut (w w' : World) (A A' : Option Addr) (c c' : Nat) : Prop := (A' = A ∧ c' = c ∧ w.grownBy w' (blk A)) ∨ (blk A' = some w.heap.size ∧ Below w.heap.size w w')
theorem run_append_in (t ty : TypeId) (i : TypeInfo) (z : Value) (bytes : Nat) (ht : P.underlying t = some (.slice e)) (hi : P.info? e = some i) (hz : i.zero = some z)
    (hsize : i.size = 1) (hby : i.bytes = bytes) (hzs : z.cells.size = 1) (hown : Own w base e A n c vs)
    (A2 : Option Addr) (m c2 : Nat) (us : List Value) (hr : Rd w A2 m us) (h1 : ∀ u ∈ us, u.oneCell' = true)
    (h63 : n + m ≤ maxLen) (hbytes : (n + m) * bytes ≤ 140737488355328) (hbase : base ≤ w.heap.size) (hm : 0 < m) :
    ∃ A' c' w', (Builtin.append_ #[t, t] ty #[.slice A n c, .slice A2 m c2]).run P w = .ok (.slice A' (n + m) c') w' ∧ Own w' base e A' (n + m) c' (vs ++ us) ∧ InOut w w' A A' c c' := by
  obtain ⟨b, off, rfl, _, hc⟩ := hr.2 hm
  have hcells : ∀ j u, us[j]? = some u → w.cell? ((⟨b, off, none⟩ : Addr).add j) = some u := by
    intro j u hu
    have e : (⟨b, off, none⟩ : Addr).add j = ⟨b, off + j, none⟩ := by unfold Addr.add; split <;> simp_all
    rw [e]; exact hc j u hu
  have hul : us.length = m * 1 := by rw [hr.1]; simp
  obtain ⟨v', w', hrun, ho, hg, _, hb⟩ := run_append_own_at (P := P) w base t ty e i z 1 bytes ht hi hz hsize hby hzs (by decide) (.slice A n c) n vs hown ⟨b, off, none⟩ m c2 us hul hcells h1 h63 hbytes hbase
  rcases hown.2 with ⟨hv, h0⟩ | ⟨g, cap, cur, hv, hbg, hg2, hnc, hcm, hcs, htake⟩
  · have hA : A = none := by injection hv
    have hc0 : c = 0 := by injection hv
    subst hA; subst hc0; subst h0
    have hr2 := run_append_nil (P := P) w t ty e i z ht hi hz ⟨b, off, none⟩ m c2 us (by rw [hsize]; exact hul) hcells hm (by simp only [maxLen] at h63; omega) (by rw [hby]; simp only [Nat.zero_add] at hbytes; omega)
    rw [hr2] at hrun
    injection hrun with e1 e2
    subst e1; subst e2
    rw [Nat.zero_add] at ho ⊢
    refine ⟨some ⟨w.heap.size, 0, none⟩, grownCap w m 0 e, _, hr2, ho, .inr ⟨rfl, ?_⟩⟩
    exact ((Dr.refl w).one.below _).alloc (Nat.le_refl _) _
  · have hA : A = some ⟨g, 0, none⟩ := by injection hv
    have hc0 : c = cap := by injection hv
    subst hA; subst hc0
    by_cases hroom : n + m ≤ c
    · obtain ⟨w2, hr2, ho2, hg3⟩ := run_append_own_spare (P := P) w base t ty e i 1 ht hi hsize g n c vs hown ⟨b, off, none⟩ m c2 us hul hcells h1 hroom
      exact ⟨_, _, w2, hr2, ho2, .inl ⟨rfl, rfl, hg3⟩⟩
    · have holds : ∀ j u, vs[j]? = some u → w.cell? ((⟨g, 0, none⟩ : Addr).add j) = some u := World.ownsRow.cells hown (g := g) rfl
      have hr2 := run_append_grow (P := P) w t ty e i z ht hi hz ⟨g, 0, none⟩ n c vs (by rw [hsize]; exact hown.1) holds ⟨b, off, none⟩ m c2 us (by rw [hsize]; exact hul) hcells (by omega) (by simp only [maxLen] at h63; omega) (growslice_fits (by omega) (by rw [hby]; exact hbytes))
      rw [hr2] at hrun
      injection hrun with e1 e2
      subst e1; subst e2
      refine ⟨_, _, _, hr2, ho, .inr ⟨rfl, ?_⟩⟩
      exact ((Dr.refl w).one.below _).alloc (Nat.le_refl _) _

theorem wp_append_in {o : Oper} {a : Act} {K : Act → World → Prop} {Q : Exit → Act → World → Prop} (s x : Operand) (t : TypeId)
    (ho : o.op = .call { callee := .builtin .append, args := #[s, x], argTypes := #[t, t] })
    (i : TypeInfo) (z : Value) (bytes : Nat) (ht : P.underlying t = some (.slice e)) (hi : P.info? e = some i) (hz : i.zero = some z)
    (hsize : i.size = 1) (hby : i.bytes = bytes) (hzs : z.cells.size = 1) (hs : a.eval s = .slice A n c) (hown : Own w base e A n c vs)
    (A2 : Option Addr) (m c2 : Nat) (us : List Value) (hx : a.eval x = .slice A2 m c2) (hr : Rd w A2 m us) (h1 : ∀ u ∈ us, u.oneCell' = true)
    (h63 : n + m ≤ maxLen) (hbytes : (n + m) * bytes ≤ 140737488355328) (hbase : base ≤ w.heap.size) (hm : 0 < m)
    (h : ∀ A' c' w', Own w' base e A' (n + m) c' (vs ++ us) → InOut w w' A A' c c' → K (a.put o.dst (.slice A' (n + m) c')) w') : o.wp P a w K Q := by
  obtain ⟨A', c', w', hrun, h2, h3⟩ := run_append_in (P := P) t o.type i z bytes ht hi hz hsize hby hzs hown A2 m c2 us hr h1 h63 hbytes hbase hm
  unfold Oper.wp execOp
  simp only [ho, resolve, invoke, builtin, Sem.run_bind, Sem.run_pure, Result.andThen_ok, List.map_toArray, List.map_cons, List.map_nil, hs, hx, hrun]
  exact h A' c' w' h2 h3
theorem wpList_append_in {ops : Array Oper} {rest : List Oper} {o : Oper} {a : Act} {Q : Exit → Act → World → Prop} (hgd : o.guard = none) (s x : Operand) (t : TypeId)
    (ho : o.op = .call { callee := .builtin .append, args := #[s, x], argTypes := #[t, t] })
    (i : TypeInfo) (z : Value) (bytes : Nat) (ht : P.underlying t = some (.slice e)) (hi : P.info? e = some i) (hz : i.zero = some z)
    (hsize : i.size = 1) (hby : i.bytes = bytes) (hzs : z.cells.size = 1) (hs : a.eval s = .slice A n c) (hown : Own w base e A n c vs)
    (A2 : Option Addr) (m c2 : Nat) (us : List Value) (hx : a.eval x = .slice A2 m c2) (hr : Rd w A2 m us) (h1 : ∀ u ∈ us, u.oneCell' = true)
    (h63 : n + m ≤ maxLen) (hbytes : (n + m) * bytes ≤ 140737488355328) (hbase : base ≤ w.heap.size) (hm : 0 < m)
    (h : ∀ A' c' w', Own w' base e A' (n + m) c' (vs ++ us) → InOut w w' A A' c c' → wpList P ops Q rest (a.put o.dst (.slice A' (n + m) c')) w') :
    wpList P ops Q (o :: rest) a w :=
  wpList_plain hgd fun _ hK => wp_append_in s x t ho i z bytes ht hi hz hsize hby hzs hs hown A2 m c2 us hx hr h1 h63 hbytes hbase hm fun A' c' w' h2 h3 => hK _ _ (h A' c' w' h2 h3)
end

/-! Lists of rows: the entries, and the longer slices made of them. -/
abbrev Tr := Option Addr × Nat × Nat
def sv (x : Tr) : Value := .slice x.1 x.2.1 x.2.2
def K5 (base : Nat) (w w' : World) : Prop := ∀ A n c vs, Own w base 5 A n c vs → Own w' base 5 A n c vs
theorem K5.refl (base : Nat) (w : World) : K5 base w w := fun _ _ _ _ h => h
theorem K5.trans {base : Nat} {a b c : World} (h : K5 base a b) (k : K5 base b c) : K5 base a c := fun A n d vs x => k A n d vs (h A n d vs x)
theorem K5.below {base : Nat} {w w' : World} (h : Below w.heap.size w w') : K5 base w w' := fun A n c vs x => x.below h (fun k hk => (x.lies k hk).2)
theorem K5.grown {base b2 : Nat} {w w' : World} {AL : Option Addr} {nl cl : Nat} {us : List Value} (h : Own w b2 28 AL nl cl us) (hg : w.grownBy w' (blk AL)) : K5 base w w' :=
  fun A n c vs x => x.kept hg (own_apart x h (by decide))

def Dist (ent : List Tr) : Prop := ∀ (i j : Nat) (A : Option Addr) (n c : Nat) (B : Option Addr) (m d : Nat), ent[i]? = some (A, n, c) → ent[j]? = some (B, m, d) → i ≠ j → blk A = none ∨ blk A ≠ blk B
def EntLt (S : Nat) (ent : List Tr) : Prop := ∀ (j : Nat) (A : Option Addr) (n c : Nat), ent[j]? = some (A, n, c) → ∀ b : Nat, blk A = some b → b < S
def Ent1 (w : World) (base : Nat) (ent : List Tr) (i : Nat) : Prop := ∀ (j : Nat) (A : Option Addr) (n c : Nat), ent[j]? = some (A, n, c) → ∃ xs, Own w base 5 A n c (By xs) ∧ Ran xs ∧ (j < i → xs = sts j n)
def EntOK (w : World) (base : Nat) (ent : List Tr) : Prop := ∀ (j : Nat) (A : Option Addr) (n c : Nat), ent[j]? = some (A, n, c) → Own w base 5 A n c (By (sts j n))
def LngOK (w : World) (base S : Nat) (ent : List Tr) (lst : List (Nat × Tr)) : Prop := ∀ (t j : Nat) (G : Option Addr) (n d : Nat), lst[t]? = some (j, G, n, d) → Own w base 5 G n d (By (sts j n)) ∧ ((∃ b : Nat, blk G = some b ∧ S ≤ b) ∨ ∃ m : Nat, ent[j]? = some (G, m, d) ∧ n ≤ m + 33)
def Col (q : Nat) (lst : List (Nat × Tr)) : Prop := ∀ (t : Nat) (x : Nat × Tr), lst[t]? = some x → x.1 = t % q

section
variable {w w' : World} {base S : Nat} {ent : List Tr} {lst : List (Nat × Tr)}
theorem EntOK.k5 (h : EntOK w base ent) (k : K5 base w w') : EntOK w' base ent := fun j A n c he => k _ _ _ _ (h j A n c he)
theorem LngOK.k5 (h : LngOK w base S ent lst) (k : K5 base w w') : LngOK w' base S ent lst := fun t j G n d ht => ⟨k _ _ _ _ (h t j G n d ht).1, (h t j G n d ht).2⟩
theorem Ent1.step {i : Nat} {A : Option Addr} {n c : Nat} (h : Ent1 w base ent i) (hd : Dist ent) (he : ent[i]? = some (A, n, c)) (hg : w.grownBy w' (blk A)) (ho : Own w' base 5 A n c (By (sts i n))) : Ent1 w' base ent (i + 1) := by
  intro j B m d hj
  by_cases hji : j = i
  · subst hji
    rw [he] at hj
    injection hj with hj
    injection hj with e1 hj
    injection hj with e2 e3
    subst e1; subst e2; subst e3
    exact ⟨_, ho, sts_ran _ _, fun _ => rfl⟩
  · obtain ⟨xs, h1, h2, h3⟩ := h j B m d hj
    exact ⟨xs, h1.kept hg (hd j i B m d A n c hj he hji), h2, fun hlt => h3 (by omega)⟩
theorem Ent1.done {q : Nat} (h : Ent1 w base ent q) (hq : ent.length = q) : EntOK w base ent := by
  intro j A n c he
  obtain ⟨xs, ho, hr, h1⟩ := h j A n c he
  have hj : j < q := by have := (List.getElem?_eq_some_iff.1 he).1; omega
  rw [← h1 hj]; exact ho
theorem EntLt.of (h : ∀ (j : Nat) (A : Option Addr) (n c : Nat), ent[j]? = some (A, n, c) → ∃ vs, Own w base 5 A n c vs) : EntLt w.heap.size ent := by
  intro j A n c he b hb
  obtain ⟨vs, ho⟩ := h j A n c he
  exact (ho.lies b hb).2

/-- One entry's row has grown in place. -/
theorem EntOK.grow {i m : Nat} {A : Option Addr} {n c : Nat} (h : EntOK w base ent) (hd : Dist ent) (he : ent[i]? = some (A, n, c)) (hg : w.grownBy w' (blk A)) (ho : Own w' base 5 A (n + m) c (By (sts i (n + m)))) : EntOK w' base ent := by
  intro j B p d hj
  by_cases hji : j = i
  · subst hji
    rw [he] at hj
    injection hj with hj
    injection hj with e1 hj
    injection hj with e2 e3
    subst e1; subst e2; subst e3
    exact ho.stsPre (by omega)
  · exact (h j B p d hj).kept hg (hd j i B p d A n c hj he hji)
theorem LngOK.grow {i m : Nat} {A : Option Addr} {n c : Nat} (h : LngOK w base S ent lst) (hd : Dist ent) (hlt : EntLt S ent) (he : ent[i]? = some (A, n, c)) (hg : w.grownBy w' (blk A)) (ho : Own w' base 5 A (n + m) c (By (sts i (n + m))))
    (hi : ∀ (t : Nat) (G : Option Addr) (p d : Nat), lst[t]? = some (i, G, p, d) → p ≤ n + 33 → p ≤ n + m) : LngOK w' base S ent lst := by
  intro t j G p d ht
  obtain ⟨h1, h2⟩ := h t j G p d ht
  refine ⟨?_, h2⟩
  rcases h2 with ⟨b, hb, hS⟩ | ⟨m2, hj, hp⟩
  · refine h1.kept hg (.inr ?_)
    intro e
    rw [hb] at e
    have := hlt i A n c he b e.symm
    omega
  · by_cases hji : j = i
    · subst hji
      rw [he] at hj
      injection hj with hj
      injection hj with e1 hj
      injection hj with e2 e3
      subst e1; subst e3
      subst e2
      exact ho.stsPre (hi t _ _ _ ht hp)
    · exact h1.kept hg (hd j i G m2 d A n c hj he hji)
/-- A row that is newer than all of them has grown. -/
theorem EntOK.apart {T : Nat} {G : Option Addr} {b : Nat} (h : EntOK w base ent) (hlt : EntLt T ent) (hb : blk G = some b) (hT : T ≤ b) (hg : w.grownBy w' (blk G)) : EntOK w' base ent := by
  intro j B p d hj
  refine (h j B p d hj).kept hg (.inr ?_)
  intro e
  rw [hb] at e
  have := hlt j B p d hj b e
  omega
def LngLt (T : Nat) (lst : List (Nat × Tr)) : Prop := ∀ (t j : Nat) (G : Option Addr) (n d : Nat), lst[t]? = some (j, G, n, d) → ∀ b : Nat, blk G = some b → b < T
theorem LngOK.lt (h : LngOK w base S ent lst) : LngLt w.heap.size lst := fun t j G n d ht b hb => ((h t j G n d ht).1.lies b hb).2
theorem LngOK.apart {T : Nat} {G : Option Addr} {b : Nat} (h : LngOK w base S ent lst) (hlt : LngLt T lst) (hb : blk G = some b) (hT : T ≤ b) (hg : w.grownBy w' (blk G)) : LngOK w' base S ent lst := by
  intro t j B p d ht
  refine ⟨(h t j B p d ht).1.kept hg (.inr ?_), (h t j B p d ht).2⟩
  intro e
  rw [hb] at e
  have := hlt t j B p d ht b e
  omega
theorem LngOK.push {j : Nat} {G : Option Addr} {n d : Nat} (h : LngOK w base S ent lst) (ho : Own w base 5 G n d (By (sts j n))) (hc : (∃ b : Nat, blk G = some b ∧ S ≤ b) ∨ ∃ m : Nat, ent[j]? = some (G, m, d) ∧ n ≤ m + 33) : LngOK w base S ent (lst ++ [(j, G, n, d)]) := by
  intro t i B p e ht
  by_cases hlt : t < lst.length
  · rw [List.getElem?_append_left hlt] at ht
    exact h t i B p e ht
  · rw [List.getElem?_append_right (by omega)] at ht
    have h0 : t - lst.length = 0 := by
      have := (List.getElem?_eq_some_iff.1 ht).1
      simp at this; omega
    rw [h0] at ht
    simp only [List.getElem?_cons_zero, Option.some.injEq, Prod.mk.injEq] at ht
    obtain ⟨rfl, rfl, rfl, rfl⟩ := ht
    exact ⟨ho, hc⟩
theorem Col.push {q j : Nat} {x : Tr} (h : Col q lst) (hj : j = lst.length % q) : Col q (lst ++ [(j, x)]) := by
  intro t y ht
  by_cases hlt : t < lst.length
  · rw [List.getElem?_append_left hlt] at ht
    exact h t y ht
  · rw [List.getElem?_append_right (by omega)] at ht
    have h0 : t - lst.length = 0 := by
      have := (List.getElem?_eq_some_iff.1 ht).1
      simp at this; omega
    rw [h0] at ht
    simp only [List.getElem?_cons_zero, Option.some.injEq] at ht
    subst ht
    have : t = lst.length := by
      have := h0; omega
    rw [this]; exact hj
theorem LngOK.nil_ : LngOK w base S ent [] := fun t j G n d ht => by simp at ht
theorem Col.nil_ {q : Nat} : Col q [] := fun t x ht => by simp at ht
end

/-- A row that grows in the inner loop: still the entry's own, or newer than T. -/
def GOK (T : Nat) (A G : Option Addr) (c d : Nat) : Prop := (G = A ∧ d = c) ∨ ∃ b : Nat, blk G = some b ∧ T ≤ b
section
variable {w w' : World} {base S T : Nat} {ent : List Tr} {lst : List (Nat × Tr)} {i n c k d d' : Nat} {A G G' : Option Addr}
/-- One place more. -/
theorem grow_one (hent : EntOK w base ent) (hl : LngOK w base S ent lst) (hd : Dist ent) (hS : EntLt S ent) (hST : S ≤ T) (hlt : LngLt T lst) (hTw : T ≤ w.heap.size) (hi : ∀ (t : Nat) (B : Option Addr) (p e : Nat), lst[t]? ≠ some (i, B, p, e)) (he : ent[i]? = some (A, n, c))
    (hg : GOK T A G c d) (ho : Own w' base 5 G' (n + (k + 1)) d' (By (sts i (n + (k + 1))))) (hio : InOut w w' G G' d d') : EntOK w' base ent ∧ LngOK w' base S ent lst ∧ GOK T A G' c d' := by
  rcases hio with ⟨rfl, rfl, hgr⟩ | ⟨hb, hbel⟩
  · rcases hg with ⟨rfl, rfl⟩ | ⟨b, hb, hT⟩
    · exact ⟨hent.grow hd he hgr ho, hl.grow hd hS he hgr ho (fun t B p e ht _ => absurd ht (hi t B p e)), .inl ⟨rfl, rfl⟩⟩
    · have hTT : EntLt T ent := fun j B p e hj b' hb' => Nat.lt_of_lt_of_le (hS j B p e hj b' hb') hST
      exact ⟨hent.apart hTT hb hT hgr, hl.apart hlt hb hT hgr, .inr ⟨b, hb, hT⟩⟩
  · exact ⟨hent.k5 (K5.below hbel), hl.k5 (K5.below hbel), .inr ⟨_, hb, hTw⟩⟩
/-- 33 places more at once. -/
theorem grow_all (hent : EntOK w base ent) (hl : LngOK w base S ent lst) (hd : Dist ent) (hS : EntLt S ent) (hSw : S ≤ w.heap.size) (he : ent[i]? = some (A, n, c))
    (ho : Own w' base 5 G' (n + 33) d' (By (sts i (n + 33)))) (hio : InOut w w' A G' c d') : EntOK w' base ent ∧ LngOK w' base S ent (lst ++ [(i, G', n + 33, d')]) := by
  rcases hio with ⟨rfl, rfl, hgr⟩ | ⟨hb, hbel⟩
  · exact ⟨hent.grow hd he hgr ho, (hl.grow hd hS he hgr ho (fun _ _ _ _ _ h => h)).push ho (.inr ⟨n, he, Nat.le_refl _⟩)⟩
  · exact ⟨hent.k5 (K5.below hbel), (hl.k5 (K5.below hbel)).push ho (.inl ⟨_, hb, hSw⟩)⟩
theorem InOut.block {L : Nat} (h : InOut w w' G G' d d') (hL : L < w.heap.size) (hne : blk G ≠ some L) : w'.heap[L]? = w.heap[L]? := by
  rcases h with ⟨_, _, hg⟩ | ⟨_, hb⟩
  · exact hg.block L hL (fun e => hne e.symm)
  · exact hb.block L hL
theorem InOut.size (h : InOut w w' G G' d d') : w.heap.size ≤ w'.heap.size := by
  rcases h with ⟨_, _, hg⟩ | ⟨_, hb⟩
  · exact hg.size
  · exact hb.size
theorem InOut.belowB {base' : Nat} {nG : Nat} {vs : List Value} (h : InOut w w' G G' d d') (hG : Own w base' 5 G nG d vs) (hb : base' ≤ w.heap.size) : Below base' w w' := by
  rcases h with ⟨_, _, hg⟩ | ⟨_, hb2⟩
  · exact (Below.refl base' w).grown hg hb (fun k hk => (hG.lies k hk).1)
  · exact hb2.mono hb
/-- Another row goes on, while a row of another type grows. -/
theorem InOut.own {b2 : Nat} {e2 : TypeId} {B : Option Addr} {m f : Nat} {us vs : List Value} {base' : Nat} {nG : Nat} (h : InOut w w' G G' d d') (hG : Own w base' 5 G nG d vs) (hB : Own w b2 e2 B m f us) (hne : e2 ≠ 5) : Own w' b2 e2 B m f us := by
  rcases h with ⟨_, _, hg⟩ | ⟨_, hb⟩
  · exact hB.kept hg (own_apart hB hG hne)
  · exact hB.below hb (fun k hk => (hB.lies k hk).2)
end
end Go.Proofs.YtlphlogliphhdaaDoor
