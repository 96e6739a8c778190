/- How arguments read: slices of slices of bytes, with their bulk. -/
import Derived.Test.YtmjjbfcblmmipaaBase
import Derived.Test.YtmjjbfcblmmipaaNumW
import Derived.ProofKit
import Derived.OpenShut
import Derived.Test.YtmjjbfcblmmipaaSteps
import Derived.Test.YtmjjbfcblmmipaaRows
import Derived.Test.YtmjjbfcblmmipaaJoinW
import Derived.Deep.Slices
namespace Go.Proofs.Ytmjjbfcblmmipaa
set_option linter.unusedVariables false
set_option linter.unusedSimpArgs false
open Go.ChangeShapes Go.WideShapes Go.ChangeAt Go.RowKit

section
variable {H : Type} {enc : TypeId × Value → H} {P : Program} {w : World} {spare : Nat → Bool} {held : Bool}

theorem rd_of_ints {a : Addr} {k : IntKind} {zs : List Int} {len : Nat} (hl : len ≤ zs.length) (hc : ∀ i, i < zs.length → w.cell? (a.add i) = some (.int k (zs.getD i 0))) : Rd w (some a) len ((zs.take len).map (Value.int k)) := by
  refine ⟨by simp; omega, fun hn => ?_⟩
  obtain ⟨b, off, spot⟩ := a
  have h0 := hc 0 (by omega)
  have hs : spot = none := by simpa [Addr.add] using World.cell?_spot h0
  subst hs
  refine ⟨b, off, rfl, World.block_lt_of_cell? w ⟨b, off, none⟩ (u := .int k (zs.getD 0 0)) (by simpa [Addr.add] using h0), fun j u hu => ?_⟩
  have hj : j < len := by
    have := (List.getElem?_eq_some_iff.1 hu).1
    simp at this; omega
  have hcj := hc j (by omega)
  have e : (⟨b, off, none⟩ : Addr).add j = ⟨b, off + j, none⟩ := by unfold Addr.add; split <;> simp_all
  rw [e] at hcj
  rw [hcj]
  rw [List.getElem?_map, List.getElem?_take, if_pos hj, List.getElem?_eq_getElem (by omega)] at hu
  simp only [Option.map_some, Option.some.injEq] at hu
  rw [← hu, List.getD_eq_getElem?_getD, List.getElem?_eq_getElem (by omega)]
  rfl

theorem open_bs {t e : TypeId} {a : Option Addr} {len cap : Nat} {d : DataW H} {p : List MemPlace} (ht : P.underlying t = some (.slice e)) (he : P.underlying e = some (.int .u8)) (hc : P.cellsOf e = 1)
    (h : DataW.Trod enc P w 0 (fun _ => true) held t (.slice a len cap) d p) :
    ∃ xs, Bs w a len xs ∧ ((len = 0 ∧ d = .nil) ∨ ∃ elems spare, d = .slice elems spare ∧ elems.length = len) := by
  obtain ⟨fuel, hf⟩ := h
  rcases open_ints ht he hc hf with ⟨hcs, hx⟩ | ⟨x, l, c, zs, hcs, _, hl, hm, hz, hx, hcell, hwz⟩
  · simp [Value.cells] at hcs
    obtain ⟨rfl, rfl, rfl⟩ := hcs
    simp only [Prod.mk.injEq] at hx
    exact ⟨[], Bs.nil_, .inl ⟨rfl, hx.1⟩⟩
  · simp [Value.cells] at hcs
    obtain ⟨rfl, rfl, rfl⟩ := hcs
    simp only [Prod.mk.injEq] at hx
    have hz' : zs.length = cap := by simpa using hz
    refine ⟨zs.take len, ⟨rd_of_ints (by omega) hcell, fun x hx => bounds_u8 (hwz x (List.mem_of_mem_take hx))⟩, .inr ⟨_, _, hx.1, by simp [lits]; omega⟩⟩

theorem bounds_u64' {n : Int} (h : (Lit.int .u64 n).wf = true) : 0 ≤ n ∧ n ≤ 18446744073709551615 := by
  simp [Lit.wf, IntKind.min, IntKind.max, IntKind.signed, IntKind.bits] at h
  omega

theorem open_us {t e : TypeId} {a : Option Addr} {len cap : Nat} {d : DataW H} {p : List MemPlace} (ht : P.underlying t = some (.slice e)) (he : P.underlying e = some (.int .u64)) (hc : P.cellsOf e = 1)
    (h : DataW.Trod enc P w 0 (fun _ => true) held t (.slice a len cap) d p) :
    ∃ xs, Us w a len xs ∧ ((len = 0 ∧ d = .nil) ∨ ∃ elems spare, d = .slice elems spare ∧ elems.length = len) := by
  obtain ⟨fuel, hf⟩ := h
  rcases open_ints ht he hc hf with ⟨hcs, hx⟩ | ⟨x, l, c, zs, hcs, _, hl, hm, hz, hx, hcell, hwz⟩
  · simp [Value.cells] at hcs
    obtain ⟨rfl, rfl, rfl⟩ := hcs
    simp only [Prod.mk.injEq] at hx
    exact ⟨[], ⟨Rd.nil_, fun _ h => by cases h⟩, .inl ⟨rfl, hx.1⟩⟩
  · simp [Value.cells] at hcs
    obtain ⟨rfl, rfl, rfl⟩ := hcs
    simp only [Prod.mk.injEq] at hx
    have hz' : zs.length = cap := by simpa using hz
    refine ⟨zs.take len, ⟨rd_of_ints (by omega) hcell, fun x hx => bounds_u64' (hwz x (List.mem_of_mem_take hx))⟩, .inr ⟨_, _, hx.1, by simp [lits]; omega⟩⟩

theorem trod_lt' {t : TypeId} {v : Value} {d : DataW H} {p : List MemPlace} (h : DataW.Trod enc P w 0 spare held t v d p) : ∀ x ∈ p, x.block < w.heap.size := by
  obtain ⟨m, hm⟩ := h
  exact DataW.trod_lt m _ _ _ hm
end
end Go.Proofs.Ytmjjbfcblmmipaa
namespace Go.Proofs.Ytmjjbfcblmmipaa
set_option linter.unusedVariables false
set_option linter.unusedSimpArgs false
open Go.ChangeShapes Go.WideShapes Go.ChangeAt Go.RowKit
section
variable {H : Type} {enc : TypeId × Value → H} {P : Program} {w : World} {spare : Nat → Bool} {held : Bool}
theorem len_cap {t e : TypeId} {k : IntKind} {a : Option Addr} {len cap : Nat} {d : DataW H} {p : List MemPlace} (ht : P.underlying t = some (.slice e)) (he : P.underlying e = some (.int k)) (hc : P.cellsOf e = 1)
    (h : DataW.Trod enc P w 0 (fun _ => true) held t (.slice a len cap) d p) : len ≤ cap := by
  obtain ⟨fuel, hf⟩ := h
  rcases open_ints ht he hc hf with ⟨hcs, hx⟩ | ⟨x, l, c, zs, hcs, _, hl, hm, hz, hx, hcell, hwz⟩
  · simp [Value.cells] at hcs; omega
  · simp [Value.cells] at hcs
    obtain ⟨rfl, rfl, rfl⟩ := hcs
    exact hl
theorem bounds_i64' {n : Int} (h : (Lit.int .i64 n).wf = true) : -9223372036854775808 ≤ n ∧ n ≤ 9223372036854775807 := by
  simp [Lit.wf, IntKind.min, IntKind.max, IntKind.signed, IntKind.bits] at h
  omega
theorem open_is {t e : TypeId} {a : Option Addr} {len cap : Nat} {d : DataW H} {p : List MemPlace} (ht : P.underlying t = some (.slice e)) (he : P.underlying e = some (.int .i64)) (hc : P.cellsOf e = 1)
    (h : DataW.Trod enc P w 0 (fun _ => true) held t (.slice a len cap) d p) :
    ∃ xs, Ins w a len xs ∧ ((len = 0 ∧ d = .nil) ∨ ∃ elems spare, d = .slice elems spare ∧ elems.length = len) := by
  obtain ⟨fuel, hf⟩ := h
  rcases open_ints ht he hc hf with ⟨hcs, hx⟩ | ⟨x, l, c, zs, hcs, _, hl, hm, hz, hx, hcell, hwz⟩
  · simp [Value.cells] at hcs
    obtain ⟨rfl, rfl, rfl⟩ := hcs
    simp only [Prod.mk.injEq] at hx
    exact ⟨[], ⟨Rd.nil_, fun _ h => by cases h⟩, .inl ⟨rfl, hx.1⟩⟩
  · simp [Value.cells] at hcs
    obtain ⟨rfl, rfl, rfl⟩ := hcs
    simp only [Prod.mk.injEq] at hx
    have hz' : zs.length = cap := by simpa using hz
    refine ⟨zs.take len, ⟨rd_of_ints (by omega) hcell, fun x hx => bounds_i64' (hwz x (List.mem_of_mem_take hx))⟩, .inr ⟨_, _, hx.1, by simp [lits]; omega⟩⟩
end
end Go.Proofs.Ytmjjbfcblmmipaa
namespace Go.Proofs.Ytmjjbfcblmmipaa
set_option linter.unusedVariables false
set_option linter.unusedSimpArgs false
theorem bulk_pos {H : Type} (d : DataW H) : 1 ≤ Rows.uptoBulk d := by
  cases d with
  | lit l => cases l <;> simp [Rows.uptoBulk]
  | nil => simp [Rows.uptoBulk]
  | ptr d => simp [Rows.uptoBulk]
  | slice elems spare => simp [Rows.uptoBulk]
  | agg parts => simp [Rows.uptoBulk]
  | iface t d => simp [Rows.uptoBulk]
  | map entries => simp [Rows.uptoBulk]
  | held h => simp [Rows.uptoBulk]
theorem bulk_length {H : Type} (l : List (DataW H)) : l.length ≤ Rows.uptoBulkAll l := by
  induction l with
  | nil => simp [Rows.uptoBulkAll]
  | cons x r ih => have := bulk_pos x; simp only [Rows.uptoBulkAll, List.length_cons]; omega
theorem bulk_slice {H : Type} (elems spare : List (DataW H)) : elems.length + 1 ≤ Rows.uptoBulk (.slice elems spare) := by
  have h1 := bulk_length elems
  simp only [Rows.uptoBulk]; omega
end Go.Proofs.Ytmjjbfcblmmipaa
namespace Go.Proofs.Ytmjjbfcblmmipaa
set_option linter.unusedVariables false
set_option linter.unusedSimpArgs false
open Go.ChangeShapes Go.WideShapes Go.ChangeAt Go.RowKit Go.Deep

/-- All letters, and one more for each text. -/
def tot : List (List Int) → Nat
  | [] => 0
  | x :: r => x.length + 1 + tot r
theorem tot_mem {xss : List (List Int)} {t : List Int} (h : t ∈ xss) : t.length + 1 ≤ tot xss := by
  induction xss with
  | nil => cases h
  | cons x r ih =>
    simp only [tot]
    rcases List.mem_cons.1 h with rfl | h
    · omega
    · have := ih h; omega
theorem tot_len (xss : List (List Int)) : xss.length ≤ tot xss := by
  induction xss with
  | nil => simp [tot]
  | cons x r ih => simp only [tot, List.length_cons]; omega
theorem texts_tot (xss : List (List Int)) : (texts xss).length ≤ 10 * tot xss := by
  induction xss with
  | nil => simp [texts, tot]
  | cons x r ih =>
    have e : texts (x :: r) = num x.length ++ (x ++ texts r) := by simp [texts]
    have := num_le (x.length : Int)
    rw [e]; simp only [tot, List.length_append]; omega
theorem joinL_tot (xss : List (List Int)) : (joinL xss).length ≤ 9 + 10 * tot xss := by
  have h1 := texts_tot xss
  have h2 := num_le (xss.length : Int)
  simp only [joinL, List.length_append]; omega

section
variable {H : Type} {enc : TypeId × Value → H} {P : Program} {w : World} {held : Bool}

theorem bulk_map (D : Nat → DataW H) (f : Nat → List Int) : ∀ l : List Nat, (∀ i ∈ l, (f i).length + 1 ≤ Rows.uptoBulk (D i)) → tot (l.map f) ≤ Rows.uptoBulkAll (l.map D)
  | [], _ => by simp [tot]
  | x :: r, h => by
    have ih := bulk_map D f r (fun i hi => h i (by simp [hi]))
    have := h x (by simp)
    simp only [List.map_cons, tot, Rows.uptoBulkAll]; omega

/-- One slice of bytes, out of its cells. -/
theorem el_bs {t e : TypeId} {fuel : Nat} {cs : List Value} {x : DataW H × List MemPlace} (ht : P.underlying t = some (.slice e)) (he : P.underlying e = some (.int .u8)) (hc : P.cellsOf e = 1)
    (h : DataW.trod enc P w 0 (fun _ => true) held fuel t cs = some x) :
    ∃ xs A' c', cs = [.slice A' xs.length c'] ∧ Bs w A' xs.length xs ∧ xs.length ≤ c' ∧ xs.length + 1 ≤ Rows.uptoBulk x.1 := by
  rcases open_ints ht he hc h with ⟨hcs, hx⟩ | ⟨a, l, c, zs, hcs, _, hl, hm, hz, hx, hcell, hwz⟩
  · exact ⟨[], none, 0, hcs, Bs.nil_, Nat.le_refl _, by rw [hx]; simp [Rows.uptoBulk]⟩
  · have hz' : zs.length = c := by simpa using hz
    have hlen : (zs.take l).length = l := by rw [List.length_take]; omega
    refine ⟨zs.take l, some a, c, by rw [hlen]; exact hcs, ?_, by omega, ?_⟩
    · rw [hlen]
      exact ⟨rd_of_ints (by omega) hcell, fun x hx => bounds_u8 (hwz x (List.mem_of_mem_take hx))⟩
    · rw [hx, hlen]
      have := bulk_slice (H := H) (lits .u8 (zs.take l)) (lits .u8 (zs.drop l))
      have e : (lits (H := H) .u8 (zs.take l)).length = l := by simp [lits]; omega
      rw [e] at this; exact this

theorem open_bss {t s e : TypeId} {a : Option Addr} {len cap : Nat} {d : DataW H} {p : List MemPlace} (ht : P.underlying t = some (.slice s)) (hs : P.underlying s = some (.slice e)) (he : P.underlying e = some (.int .u8)) (hc1 : P.cellsOf s = 1) (hc : P.cellsOf e = 1)
    (h : DataW.Trod enc P w 0 (fun _ => true) held t (.slice a len cap) d p) :
    ∃ xss, Bss w a len xss ∧ len ≤ cap ∧ tot xss ≤ Rows.uptoBulk d := by
  obtain ⟨fuel, hf⟩ := h
  rcases open_slice ht hf with ⟨hcs, hx⟩ | ⟨ad, l, c, m, n, D, Pl, hcs, _, hl, hm, hmm, hx, hel⟩
  · simp [Value.cells] at hcs
    obtain ⟨rfl, rfl, rfl⟩ := hcs
    exact ⟨[], ⟨rfl, [], ⟨rfl, fun h => absurd h (by omega)⟩, fun i v xs hv _ => by simp at hv⟩, Nat.le_refl _, by simp [tot]⟩
  · simp [Value.cells] at hcs
    obtain ⟨rfl, rfl, rfl⟩ := hcs
    simp only [Prod.mk.injEq] at hx
    have hmc : m = cap := by simpa using hmm
    have each : ∀ i, i < len → ∃ (xs : List Int) (A' : Option Addr) (c' : Nat), w.cell? (ad.add i) = some (.slice A' xs.length c') ∧ Bs w A' xs.length xs ∧ xs.length ≤ c' ∧ xs.length + 1 ≤ Rows.uptoBulk (D i) := by
      intro i hi
      obtain ⟨cs', hcell, htr⟩ := hel i (by omega)
      obtain ⟨xs, A', c', hcs', hb, hc', hbk⟩ := el_bs hs he hc htr
      rw [hc1, Nat.mul_one] at hcell
      obtain ⟨_, _, hat⟩ := World.cells?_some hcell
      have h0 := hat 0 (by omega)
      have e0 : (ad.add i).add 0 = ad.add i := by unfold Addr.add; simp
      rw [e0, hcs'] at h0
      exact ⟨xs, A', c', h0, hb, hc', hbk⟩
    let f : Nat → List Int := fun i => if h : i < len then (each i h).choose else []
    have hfs : ∀ i, i < len → ∃ (A' : Option Addr) (c' : Nat), w.cell? (ad.add i) = some (.slice A' (f i).length c') ∧ Bs w A' (f i).length (f i) ∧ (f i).length ≤ c' ∧ (f i).length + 1 ≤ Rows.uptoBulk (D i) := by
      intro i hi
      have e : f i = (each i hi).choose := by simp [f, hi]
      rw [e]; exact (each i hi).choose_spec
    have hrd : Rd w (some ad) len ((List.range len).map fun i => ((w.cell? (ad.add i)).getD (.slice none 0 0))) := by
      refine ⟨by simp, fun hn => ?_⟩
      obtain ⟨b, off, spot⟩ := ad
      obtain ⟨A', c', h0, _⟩ := hfs 0 hn
      have hsp : spot = none := by simpa [Addr.add] using World.cell?_spot h0
      subst hsp
      refine ⟨b, off, rfl, World.block_lt_of_cell? w ⟨b, off, none⟩ (u := _) (by simpa [Addr.add] using h0), fun j u hu => ?_⟩
      have hj : j < len := by have := (List.getElem?_eq_some_iff.1 hu).1; simpa using this
      obtain ⟨A', c', hcj, _⟩ := hfs j hj
      have e : (⟨b, off, none⟩ : Addr).add j = ⟨b, off + j, none⟩ := by unfold Addr.add; split <;> simp_all
      rw [List.getElem?_map, List.getElem?_range hj] at hu
      simp only [Option.map_some, Option.some.injEq, e] at hu
      rw [e] at hcj
      rw [hcj] at hu ⊢
      exact congrArg some hu
    refine ⟨(List.range len).map f, ⟨by simp, _, hrd, fun i v xs hv hx => ?_⟩, hl, ?_⟩
    · have hi : i < len := by have := (List.getElem?_eq_some_iff.1 hv).1; simpa using this
      rw [List.getElem?_map, List.getElem?_range hi] at hv hx
      simp only [Option.map_some, Option.some.injEq] at hv hx
      obtain ⟨A', c', hci, hb, hc', _⟩ := hfs i hi
      subst hx
      rw [hci] at hv
      exact ⟨A', c', hv.symm, hb.bsP, hc'⟩
    · rw [hx.1]
      have hbm := bulk_map D f (List.range len) (fun i hi => by
        obtain ⟨_, _, _, _, _, hb⟩ := hfs i (by simpa using hi)
        exact hb)
      simp only [Rows.uptoBulk]; omega
end
end Go.Proofs.Ytmjjbfcblmmipaa
