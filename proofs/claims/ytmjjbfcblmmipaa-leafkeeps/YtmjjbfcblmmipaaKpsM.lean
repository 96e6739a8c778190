/- LeafKeeps: what its walk leans on. -/
import Derived.Test.YtmjjbfcblmmipaaDecX
import Derived.Test.YtmjjbfcblmmipaaWithX
import Derived.Test.YtmjjbfcblmmipaaJoinX
import Derived.Test.YtmjjbfcblmmipaaApartW
namespace Go.Proofs.Ytmjjbfcblmmipaa
set_option linter.unusedVariables false
set_option linter.unusedSimpArgs false
open Go.RowKit
theorem dist_grpL {ent : List Er} (f g : Nat → Nat) (hf : ∀ j, f j ≤ f (j + 1)) (h : ∀ (j : Nat) (A : Option Addr) (n c : Nat), ent[j]? = some (A, n, c) → ∀ b, blk A = some b → f (g j) ≤ b ∧ b < f (g j + 1))
    (hp : ∀ (i j : Nat) (A : Option Addr) (n c : Nat) (B : Option Addr) (m d : Nat), ent[i]? = some (A, n, c) → ent[j]? = some (B, m, d) → i ≠ j → g i = g j → blk A = none ∨ blk A ≠ blk B) : Dist ent := by
  have mono : ∀ i d, f i ≤ f (i + d) := by
    intro i d
    induction d with
    | zero => exact Nat.le_refl _
    | succ d ih => exact Nat.le_trans ih (hf (i + d))
  intro i j A n c B m d hi hj hne
  by_cases hg : g i = g j
  · exact hp i j A n c B m d hi hj hne hg
  cases hA : blk A with
  | none => exact .inl rfl
  | some b =>
    right
    intro e
    have h1 := h i A n c hi b hA
    have h2 := h j B m d hj b e.symm
    rcases Nat.lt_or_ge (g i) (g j) with hlt | hge
    · have := mono (g i + 1) (g j - (g i + 1))
      rw [show g i + 1 + (g j - (g i + 1)) = g j by omega] at this
      omega
    · have := mono (g j + 1) (g i - (g j + 1))
      rw [show g j + 1 + (g i - (g j + 1)) = g i by omega] at this
      omega
theorem dr_cellL {w w' : World} (h : Dr w w') (a : Addr) : w'.cell? a = w.cell? a := by obtain ⟨q, rfl⟩ := h; rfl
def thrL (a b c d e f g h : Nat) : Nat → Nat
  | 0 => a | 1 => b | 2 => c | 3 => d | 4 => e | 5 => f | 6 => g | _ => h
def grpL : Nat → Nat
  | 0 => 0 | 1 => 1 | 2 => 2 | 3 => 3 | 4 => 3 | 5 => 4 | 6 => 4 | 7 => 4 | 8 => 5 | 9 => 5 | 10 => 6 | 11 => 6 | 12 => 6 | 13 => 6 | j => j + 1
theorem Own.cellsL {w : World} {base : Nat} {e : TypeId} {A : Option Addr} {n c : Nat} {vs : List Value} (h : Own w base e A n c vs) (hn : 0 < n) : ∃ g, A = some ⟨g, 0, none⟩ ∧ base ≤ g ∧ g < w.heap.size ∧ ∀ j u, vs[j]? = some u → w.cell? ⟨g, j, none⟩ = some u := by
  obtain ⟨g, cap, hv, hg, hlt⟩ := World.ownsRow.form h hn
  have hA : A = some ⟨g, 0, none⟩ := by injection hv
  subst hA
  refine ⟨g, rfl, (h.lies g rfl).1, hlt, fun j u hu => ?_⟩
  have := World.ownsRow.cells h (g := g) rfl j u hu
  have e : (⟨g, 0, none⟩ : Addr).add j = ⟨g, j, none⟩ := by unfold Addr.add; split <;> simp_all
  rwa [e] at this
/-- A text of a row of texts. -/
theorem Prts.text {w : World} {base n c i : Nat} {A : Option Addr} {xss : List (List Int)} {xs : List Int} (h : Prts w base A n c xss) (hi : xss[i]? = some xs) :
    ∃ g P p, A = some ⟨g, 0, none⟩ ∧ g < w.heap.size ∧ w.cell? ⟨g, i, none⟩ = some (.slice P xs.length p) ∧ Own w base 5 P xs.length p (By xs) ∧ Ran xs ∧ (∃ us, Rd w A n us ∧ us[i]? = some (.slice P xs.length p)) := by
  obtain ⟨hl, us, ho, hd, he⟩ := h
  have hil := (List.getElem?_eq_some_iff.1 hi).1
  have hol := ho.len
  obtain ⟨P, p, e, o, r⟩ := he i _ xs (List.getElem?_eq_getElem (show i < us.length by omega)) hi
  obtain ⟨g, rfl, _, hlt, hc⟩ := ho.cellsL (by omega)
  have hu : us[i]? = some (.slice P xs.length p) := by rw [List.getElem?_eq_getElem (show i < us.length by omega), e]
  exact ⟨g, P, p, rfl, hlt, hc _ _ hu, o, r, us, ho.rd, hu⟩
/-- Two texts of a row lie apart. -/
theorem Prts.apart {w : World} {base n c i j : Nat} {A : Option Addr} {xss : List (List Int)} (h : Prts w base A n c xss) (hij : i ≠ j) {us ts : List Value} {P Q : Option Addr} {a b d e : Nat} (hu : Rd w A n us) (ht : Rd w A n ts) (hi : us[i]? = some (.slice P a b)) (hj : ts[j]? = some (.slice Q d e)) : blk P = none ∨ blk P ≠ blk Q := by
  obtain ⟨hl, vs, ho, hd, he⟩ := h
  rw [hu.uniq ho.rd] at hi
  rw [ht.uniq ho.rd] at hj
  exact hd i j _ _ _ _ _ _ hi hj hij
theorem Bss.at0 {w : World} {g n c : Nat} {xs : List Int} {t : TypeId} {fr : Nat × Nat} (h : w.heap[g]? = some (.cells #[.slice (some ⟨n, 0, none⟩) xs.length c] t fr)) (hb : Bs w (some ⟨n, 0, none⟩) xs.length xs) (hc : xs.length ≤ c) : Bss w (some ⟨g, 0, none⟩) 1 [xs] :=
  bss_one (Rd.of_block h rfl) hb hc
/-- A leaf of one entry that is short enough is in form and fits. -/
theorem enc_one {xs ys : List Int} (h1 : xs.length ≤ 64) (h2 : ys.length ≤ 128) : encC true [xs] [ys] [] = 0 := by
  have hc : chkN true [xs] [ys] [] = 0 := by
    unfold chkN anyL badF risB dsB
    simp [Nat.not_lt.2 h1, Nat.not_lt.2 h2]

  unfold encC
  rw [if_pos hc, if_neg]
  unfold sizeN
  simp only [szW, if_pos]
  simp
  omega
theorem ins_nil_ (w : World) : Ins w none 0 [] := ⟨(Own.nil_ (base := 0) (e := 3)).rd, fun d hd => by cases hd⟩
end Go.Proofs.Ytmjjbfcblmmipaa
