/- GroynePacked: tables of texts, rows that are apart, how long what is packed is. -/
import Derived.Test.YtdlbghjclcdfmabDoorSplitW
import Derived.Test.YtdlbghjclcdfmabDoorSortsW
namespace Go.Proofs.YtdlbghjclcdfmabDoor
set_option linter.unusedVariables false
set_option linter.unusedSimpArgs false
open Go.RowKit

/-- A table of texts. -/
def Tab (w : World) (A : Option Addr) (n : Nat) (rows : List (List (List Int))) : Prop :=
  rows.length = n ∧ (0 < n → ∃ b off, A = some ⟨b, off, none⟩ ∧ b < w.heap.size ∧ ∀ k r, rows[k]? = some r → ∃ A' c', w.cell? ⟨b, off + k, none⟩ = some (.slice A' r.length c') ∧ Rd w A' r.length (St r) ∧ r.length ≤ c' ∧ r.length ≤ 9223372036854775807)
theorem Tab.keep {w w' : World} {A : Option Addr} {n : Nat} {rows : List (List (List Int))} (h : Tab w A n rows) (hb : Below w.heap.size w w') : Tab w' A n rows := by
  refine ⟨h.1, fun hn => ?_⟩
  obtain ⟨b, off, hA, hlt, hc⟩ := h.2 hn
  refine ⟨b, off, hA, Nat.lt_of_lt_of_le hlt hb.size, fun k r hr => ?_⟩
  obtain ⟨A', c', h0, h1, h2, h3⟩ := hc k r hr
  exact ⟨A', c', (hb.cell (p := ⟨b, off + k, none⟩) hlt).trans h0, h1.keep hb, h2, h3⟩
theorem Tab.at_ {w : World} {A : Option Addr} {n k : Nat} {rows : List (List (List Int))} (h : Tab w A n rows) (hk : k < n) : ∃ b off A' m c' r, A = some ⟨b, off, none⟩ ∧ w.cell? ⟨b, off + k, none⟩ = some (.slice A' m c') ∧ Rd w A' m (St r) ∧ m ≤ c' ∧ m ≤ 9223372036854775807 ∧ Hid (rows[k]? = some r) ∧ Hid (r.length = m) := by
  obtain ⟨b, off, hA, hlt, hc⟩ := h.2 (by omega)
  have hr : rows[k]? = some (rows[k]'(by have := h.1; omega)) := List.getElem?_eq_getElem _
  obtain ⟨A', c', h0, h1, h2, h3⟩ := hc k _ hr
  exact ⟨b, off, A', _, c', _, hA, h0, h1, h2, h3, hr, rfl⟩

/-- Two slices in unlike blocks. -/
def Ap (A B : Option Addr) : Prop := ∀ k, blk A = some k → blk B ≠ some k
theorem Ap.symm {A B : Option Addr} (h : Ap A B) : Ap B A := fun k hk he => h k he hk
theorem Ap.grow {w w' : World} {A A' B : Option Addr} (h : Ap A B) (hg : Grows w w' A A') (hB : ∀ k, blk B = some k → k < w.heap.size) : Ap A' B := by
  intro k hk hb
  rcases hg.2 with e | ⟨g, e, hle⟩
  · exact h k (e ▸ hk) hb
  · have := hB k hb
    rw [e] at hk; injection hk with hk; omega
theorem Ap.none (B : Option Addr) : Ap none B := fun k hk => by simp [blk] at hk
theorem Own.ap {w w' : World} {A A' B : Option Addr} {base n c : Nat} {e : TypeId} {vs : List Value} (ho : Own w base e B n c vs) (h : Ap A B) (hg : Grows w w' A A') : Own w' base e B n c vs := by
  refine ho.kept hg.1 ?_
  cases hB : blk B with
  | none => exact .inl rfl
  | some k => exact .inr (fun he => h k he.symm hB)
theorem Own.byBlock {w w' : World} {A : Option Addr} {base n c : Nat} {e : TypeId} {vs : List Value} (h : Own w base e A n c vs) (hb : ∀ k, blk A = some k → w'.heap[k]? = w.heap[k]?) : Own w' base e A n c vs := by
  refine ⟨h.1, ?_⟩
  rcases h.2 with h2 | ⟨g, cap, cur, hv, hg, hh, r⟩
  · exact .inl h2
  · refine .inr ⟨g, cap, cur, hv, hg, ?_, r⟩
    have hA : A = some ⟨g, 0, none⟩ := by injection hv
    rw [hb g (by rw [hA]; rfl)]; exact hh
theorem Own.ne_blk {w : World} {base : Nat} {e t : TypeId} {A : Option Addr} {n c L : Nat} {vs : List Value} {cs : Array Value} {fr : Nat × Nat} (h : Own w base e A n c vs) (hL : w.heap[L]? = some (.cells cs t fr)) (ht : t ≠ e) : blk A ≠ some L := by
  intro he
  rcases h.2 with ⟨hv, _⟩ | ⟨g, cap, cur, hv, _, hh, _⟩
  · have : A = none := by injection hv
    subst this; cases he
  · have hA : A = some ⟨g, 0, none⟩ := by injection hv
    subst hA
    simp only [blk, Option.map_some, Option.some.injEq] at he
    subst he
    rw [hL] at hh
    injection hh with hh
    injection hh with _ hh
    exact ht hh
/-- A writer's deed leaves rows of texts alone. -/
theorem Own.weff {w w' : World} {A AW AW' : Option Addr} {base n c g nW cW : Nat} {vs : List Value} {xs : List Int} (h : Own w base 9 A n c vs) (hw : Wtr w g AW nW cW xs) (he : WEff g AW AW' w w') : Own w' base 9 A n c vs := by
  refine h.byBlock (fun k hk => he.block k (h.lies k hk).2 (fun e => ?_) (fun e => ?_))
  · subst e; exact h.ne_blk hw.1 (by decide) hk
  · rcases own_apart h hw.2 (by decide) with h0 | h0
    · rw [h0] at hk; cases hk
    · exact h0 (hk.trans e)
theorem Wtr.grow9 {w w' : World} {B B' AW : Option Addr} {b m d g nW cW : Nat} {us : List Value} {xs : List Int} (h : Wtr w g AW nW cW xs) (ho : Own w b 9 B m d us) (hg : Grows w w' B B') : Wtr w' g AW nW cW xs :=
  ⟨(hg.1.block g h.lt (fun e => ho.ne_blk h.1 (by decide) e.symm)).trans h.1, h.2.kept hg.1 (own_apart h.2 ho (by decide))⟩
theorem Prts.grow9 {w w' : World} {base b : Nat} {A B B' : Option Addr} {n c m d : Nat} {xss : List (List Int)} {us : List Value} (h : Prts w base A n c xss) (ho : Own w b 9 B m d us) (hg : Grows w w' B B') : Prts w' base A n c xss := by
  obtain ⟨hl, vs, h1, he⟩ := h
  refine ⟨hl, vs, h1.kept hg.1 (own_apart h1 ho (by decide)), fun i v xs hv hx => ?_⟩
  obtain ⟨A', c', e, ho', hr⟩ := he i v xs hv hx
  exact ⟨A', c', e, ho'.kept hg.1 (own_apart ho' ho (by decide)), hr⟩
theorem Prts.keepB {w w' : World} {base B : Nat} {A : Option Addr} {n c : Nat} {xss : List (List Int)} (h : Prts w base A n c xss) (hb : Below B w w') (hB : w.heap.size ≤ B) : Prts w' base A n c xss := by
  obtain ⟨hl, vs, h1, he⟩ := h
  refine ⟨hl, vs, h1.below hb (fun k hk => by have := (h1.lies k hk).2; omega), fun i v xs hv hx => ?_⟩
  obtain ⟨A', c', e, ho', hr⟩ := he i v xs hv hx
  exact ⟨A', c', e, ho'.below hb (fun k hk => by have := (ho'.lies k hk).2; omega), hr⟩

/-! How long things are. -/
theorem flat_le {T : List (List (List Int))} {m : Nat} (h : ∀ r ∈ T, r.length ≤ m) : T.flatten.length ≤ m * T.length := by
  induction T with
  | nil => simp
  | cons r T ih =>
    have h1 := h r (by simp)
    have h2 := ih (fun x hx => h x (by simp [hx]))
    simp only [List.flatten_cons, List.length_append, List.length_cons, Nat.mul_succ]; omega
theorem texts_len {r : List (List Int)} {m : Nat} (h : ∀ x ∈ r, x.length ≤ m) : (texts r).length ≤ (m + 9) * r.length := by
  induction r with
  | nil => simp [texts]
  | cons x r ih =>
    have h1 := h x (by simp)
    have h2 := ih (fun y hy => h y (by simp [hy]))
    have h3 := num_le (x.length : Int)
    simp only [texts, List.map_cons, List.flatten_cons, List.length_append, List.length_cons, Nat.mul_succ] at h2 ⊢; omega
theorem joinL_len {r : List (List Int)} {m : Nat} (h : ∀ x ∈ r, x.length ≤ m) : (joinL r).length ≤ 9 + (m + 9) * r.length := by
  have h1 := texts_len h
  have h2 := num_le (r.length : Int)
  simp only [joinL, List.length_append]; omega
theorem nodup_le : ∀ {M L : List (List Int)}, M.Nodup → (∀ x ∈ M, x ∈ L) → M.length ≤ L.length
  | [], L, _, _ => by simp
  | x :: M, L, hn, hs => by
    have hx := hs x (by simp)
    obtain ⟨h1, h2⟩ := List.nodup_cons.1 hn
    have := nodup_le (L := L.erase x) h2 (fun y hy => (List.mem_erase_of_ne (fun (e : y = x) => h1 (e ▸ hy))).2 (hs y (by simp [hy])))
    rw [List.length_erase_of_mem hx] at this
    have : 0 < L.length := List.length_pos_of_mem hx
    simp only [List.length_cons]; omega
theorem Srt.nodup {M : List (List Int)} (h : Srt M) : M.Nodup := by
  refine List.Pairwise.imp ?_ h
  intro a b hab he
  subst he
  have : cmpS a a = 0 := by have := cmpS_swap a a; omega
  omega
theorem texts_head (x : List Int) (r : List (List Int)) : texts (x :: r) = num x.length ++ (x ++ texts r) := by simp [texts]
theorem texts_app (a b : List (List Int)) : texts (a ++ b) = texts a ++ texts b := by simp [texts]
theorem texts_single (x : List Int) : texts [x] = num x.length ++ x := by simp [texts]
theorem textS_cons (x : List Int) (r : List (List Int)) (h : (x.length : Int) ≤ 18446744073709551615) : textS (texts (x :: r)) 0 = (x, texts r, 0) := by
  rw [texts_head]; exact textS_head x (texts r) h
theorem numS_join (r : List (List Int)) (h : (r.length : Int) ≤ 18446744073709551615) : numS (joinL r) 0 = ((r.length : Int), texts r, 0) := by
  unfold joinL numS; rw [tkN_head _ _ (by omega) h]; simp
theorem texts_nil : texts [] = [] := rfl
end Go.Proofs.YtdlbghjclcdfmabDoor
