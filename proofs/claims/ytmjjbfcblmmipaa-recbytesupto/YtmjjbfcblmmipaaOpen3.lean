/- How arguments read: slices of slices of bytes, with their bulk. -/
import Derived.Test.YtmjjbfcblmmipaaOpen2
import Derived.Test.YtmjjbfcblmmipaaBulk
import Derived.Test.YtmjjbfcblmmipaaJoinW
import Derived.Deep.Slices
namespace Go.Proofs.Ytmjjbfcblmmipaa
set_option linter.unusedVariables false
set_option linter.unusedSimpArgs false
open Go.ChangeShapes Go.WideShapes Go.ChangeAt Go.RowKit Go.Deep

/-- All letters, and one more for each text. -/
def tot : List (List Int) → Nat
  | [] => 0
  | x :: r => x.length + 1 + tot r
theorem tot_mem {xss : List (List Int)} {t : List Int} (h : t ∈ xss) : t.length + 1 ≤ tot xss := by
  induction xss with
  | nil => cases h
  | cons x r ih =>
    simp only [tot]
    rcases List.mem_cons.1 h with rfl | h
    · omega
    · have := ih h; omega
theorem tot_len (xss : List (List Int)) : xss.length ≤ tot xss := by
  induction xss with
  | nil => simp [tot]
  | cons x r ih => simp only [tot, List.length_cons]; omega
theorem texts_tot (xss : List (List Int)) : (texts xss).length ≤ 10 * tot xss := by
  induction xss with
  | nil => simp [texts, tot]
  | cons x r ih =>
    have e : texts (x :: r) = num x.length ++ (x ++ texts r) := by simp [texts]
    have := num_le (x.length : Int)
    rw [e]; simp only [tot, List.length_append]; omega
theorem joinL_tot (xss : List (List Int)) : (joinL xss).length ≤ 9 + 10 * tot xss := by
  have h1 := texts_tot xss
  have h2 := num_le (xss.length : Int)
  simp only [joinL, List.length_append]; omega

section
variable {H : Type} {enc : TypeId × Value → H} {P : Program} {w : World} {held : Bool}

theorem bulk_map (D : Nat → DataW H) (f : Nat → List Int) : ∀ l : List Nat, (∀ i ∈ l, (f i).length + 1 ≤ Rows.uptoBulk (D i)) → tot (l.map f) ≤ Rows.uptoBulkAll (l.map D)
  | [], _ => by simp [tot]
  | x :: r, h => by
    have ih := bulk_map D f r (fun i hi => h i (by simp [hi]))
    have := h x (by simp)
    simp only [List.map_cons, tot, Rows.uptoBulkAll]; omega

/-- One slice of bytes, out of its cells. -/
theorem el_bs {t e : TypeId} {fuel : Nat} {cs : List Value} {x : DataW H × List MemPlace} (ht : P.underlying t = some (.slice e)) (he : P.underlying e = some (.int .u8)) (hc : P.cellsOf e = 1)
    (h : DataW.trod enc P w 0 (fun _ => true) held fuel t cs = some x) :
    ∃ xs A' c', cs = [.slice A' xs.length c'] ∧ Bs w A' xs.length xs ∧ xs.length ≤ c' ∧ xs.length + 1 ≤ Rows.uptoBulk x.1 := by
  rcases open_ints ht he hc h with ⟨hcs, hx⟩ | ⟨a, l, c, zs, hcs, _, hl, hm, hz, hx, hcell, hwz⟩
  · exact ⟨[], none, 0, hcs, Bs.nil_, Nat.le_refl _, by rw [hx]; simp [Rows.uptoBulk]⟩
  · have hz' : zs.length = c := by simpa using hz
    have hlen : (zs.take l).length = l := by rw [List.length_take]; omega
    refine ⟨zs.take l, some a, c, by rw [hlen]; exact hcs, ?_, by omega, ?_⟩
    · rw [hlen]
      exact ⟨rd_of_ints (by omega) hcell, fun x hx => bounds_u8 (hwz x (List.mem_of_mem_take hx))⟩
    · rw [hx, hlen]
      have := bulk_slice (H := H) (lits .u8 (zs.take l)) (lits .u8 (zs.drop l))
      have e : (lits (H := H) .u8 (zs.take l)).length = l := by simp [lits]; omega
      rw [e] at this; exact this

theorem open_bss {t s e : TypeId} {a : Option Addr} {len cap : Nat} {d : DataW H} {p : List MemPlace} (ht : P.underlying t = some (.slice s)) (hs : P.underlying s = some (.slice e)) (he : P.underlying e = some (.int .u8)) (hc1 : P.cellsOf s = 1) (hc : P.cellsOf e = 1)
    (h : DataW.Trod enc P w 0 (fun _ => true) held t (.slice a len cap) d p) :
    ∃ xss, Bss w a len xss ∧ len ≤ cap ∧ tot xss ≤ Rows.uptoBulk d := by
  obtain ⟨fuel, hf⟩ := h
  rcases open_slice ht hf with ⟨hcs, hx⟩ | ⟨ad, l, c, m, n, D, Pl, hcs, _, hl, hm, hmm, hx, hel⟩
  · simp [Value.cells] at hcs
    obtain ⟨rfl, rfl, rfl⟩ := hcs
    exact ⟨[], ⟨rfl, [], ⟨rfl, fun h => absurd h (by omega)⟩, fun i v xs hv _ => by simp at hv⟩, Nat.le_refl _, by simp [tot]⟩
  · simp [Value.cells] at hcs
    obtain ⟨rfl, rfl, rfl⟩ := hcs
    simp only [Prod.mk.injEq] at hx
    have hmc : m = cap := by simpa using hmm
    have each : ∀ i, i < len → ∃ (xs : List Int) (A' : Option Addr) (c' : Nat), w.cell? (ad.add i) = some (.slice A' xs.length c') ∧ Bs w A' xs.length xs ∧ xs.length ≤ c' ∧ xs.length + 1 ≤ Rows.uptoBulk (D i) := by
      intro i hi
      obtain ⟨cs', hcell, htr⟩ := hel i (by omega)
      obtain ⟨xs, A', c', hcs', hb, hc', hbk⟩ := el_bs hs he hc htr
      rw [hc1, Nat.mul_one] at hcell
      obtain ⟨_, _, hat⟩ := World.cells?_some hcell
      have h0 := hat 0 (by omega)
      have e0 : (ad.add i).add 0 = ad.add i := by unfold Addr.add; simp
      rw [e0, hcs'] at h0
      exact ⟨xs, A', c', h0, hb, hc', hbk⟩
    let f : Nat → List Int := fun i => if h : i < len then (each i h).choose else []
    have hfs : ∀ i, i < len → ∃ (A' : Option Addr) (c' : Nat), w.cell? (ad.add i) = some (.slice A' (f i).length c') ∧ Bs w A' (f i).length (f i) ∧ (f i).length ≤ c' ∧ (f i).length + 1 ≤ Rows.uptoBulk (D i) := by
      intro i hi
      have e : f i = (each i hi).choose := by simp [f, hi]
      rw [e]; exact (each i hi).choose_spec
    have hrd : Rd w (some ad) len ((List.range len).map fun i => ((w.cell? (ad.add i)).getD (.slice none 0 0))) := by
      refine ⟨by simp, fun hn => ?_⟩
      obtain ⟨b, off, spot⟩ := ad
      obtain ⟨A', c', h0, _⟩ := hfs 0 hn
      have hsp : spot = none := by simpa [Addr.add] using World.cell?_spot h0
      subst hsp
      refine ⟨b, off, rfl, World.block_lt_of_cell? w ⟨b, off, none⟩ (u := _) (by simpa [Addr.add] using h0), fun j u hu => ?_⟩
      have hj : j < len := by have := (List.getElem?_eq_some_iff.1 hu).1; simpa using this
      obtain ⟨A', c', hcj, _⟩ := hfs j hj
      have e : (⟨b, off, none⟩ : Addr).add j = ⟨b, off + j, none⟩ := by unfold Addr.add; split <;> simp_all
      rw [List.getElem?_map, List.getElem?_range hj] at hu
      simp only [Option.map_some, Option.some.injEq, e] at hu
      rw [e] at hcj
      rw [hcj] at hu ⊢
      exact congrArg some hu
    refine ⟨(List.range len).map f, ⟨by simp, _, hrd, fun i v xs hv hx => ?_⟩, hl, ?_⟩
    · have hi : i < len := by have := (List.getElem?_eq_some_iff.1 hv).1; simpa using this
      rw [List.getElem?_map, List.getElem?_range hi] at hv hx
      simp only [Option.map_some, Option.some.injEq] at hv hx
      obtain ⟨A', c', hci, hb, hc', _⟩ := hfs i hi
      subst hx
      rw [hci] at hv
      exact ⟨A', c', hv.symm, hb.bsP, hc'⟩
    · rw [hx.1]
      have hbm := bulk_map D f (List.range len) (fun i hi => by
        obtain ⟨_, _, _, _, _, hb⟩ := hfs i (by simpa using hi)
        exact hb)
      simp only [Rows.uptoBulk]; omega
end
end Go.Proofs.Ytmjjbfcblmmipaa
