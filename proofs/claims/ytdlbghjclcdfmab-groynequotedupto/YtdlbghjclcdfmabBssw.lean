/- Slices of slices of bytes. -/
import Derived.Test.YtdlbghjclcdfmabMem
namespace Go.Proofs.Ytdlbghjclcdfmab
set_option linter.unusedVariables false
set_option linter.unusedSimpArgs false
open Go.RowKit

/-! Readings whose blocks are of a kind. -/
def RdP (w : World) (Pd : Nat → Prop) (A : Option Addr) (n : Nat) (vs : List Value) : Prop :=
  vs.length = n ∧ (0 < n → ∃ b off, A = some ⟨b, off, none⟩ ∧ Pd b ∧ ∀ j u, vs[j]? = some u → w.cell? ⟨b, off + j, none⟩ = some u)
def BsP (w : World) (Pd : Nat → Prop) (A : Option Addr) (n : Nat) (xs : List Int) : Prop := RdP w Pd A n (By xs) ∧ Ran xs
section
variable {w w' : World} {Pd Pd' : Nat → Prop} {A : Option Addr} {n : Nat} {xs : List Int} {vs : List Value}
theorem RdP.keep (h : RdP w Pd A n vs) (hk : ∀ b, Pd b → w'.heap[b]? = w.heap[b]?) : RdP w' Pd A n vs := by
  refine ⟨h.1, fun hn => ?_⟩
  obtain ⟨b, off, rfl, hb, hc⟩ := h.2 hn
  refine ⟨b, off, rfl, hb, fun j u hu => ?_⟩
  rw [World.cell?_of_block (a := ⟨b, off + j, none⟩) (hk b hb)]
  exact hc j u hu
theorem RdP.imp (h : RdP w Pd A n vs) (hi : ∀ b, Pd b → Pd' b) : RdP w Pd' A n vs :=
  ⟨h.1, fun hn => by obtain ⟨b, off, hA, hb, hc⟩ := h.2 hn; exact ⟨b, off, hA, hi b hb, hc⟩⟩
theorem RdP.rd (h : RdP w Pd A n vs) : Rd w A n vs := by
  refine ⟨h.1, fun hn => ?_⟩
  obtain ⟨b, off, rfl, hb, hc⟩ := h.2 hn
  have h0 : vs[0]? = some (vs[0]'(by have := h.1; omega)) := List.getElem?_eq_getElem (by have := h.1; omega)
  exact ⟨b, off, rfl, World.block_lt_of_cell? w ⟨b, off + 0, none⟩ (hc 0 _ h0), hc⟩
theorem Rd.rdP (h : Rd w A n vs) : RdP w (· < w.heap.size) A n vs := h
theorem BsP.keep (h : BsP w Pd A n xs) (hk : ∀ b, Pd b → w'.heap[b]? = w.heap[b]?) : BsP w' Pd A n xs := ⟨h.1.keep hk, h.2⟩
theorem BsP.imp (h : BsP w Pd A n xs) (hi : ∀ b, Pd b → Pd' b) : BsP w Pd' A n xs := ⟨h.1.imp hi, h.2⟩
theorem BsP.bs (h : BsP w Pd A n xs) : Bs w A n xs := ⟨h.1.rd, h.2⟩
theorem Bs.bsP (h : Bs w A n xs) : BsP w (· < w.heap.size) A n xs := h
end

/-- A slice of slices of bytes. -/
def BssP (w : World) (Pd : Nat → Prop) (A : Option Addr) (n : Nat) (xss : List (List Int)) : Prop :=
  xss.length = n ∧ ∃ vs, RdP w Pd A n vs ∧ ∀ (i : Nat) (v : Value) (xs : List Int), vs[i]? = some v → xss[i]? = some xs → ∃ A' c', v = .slice A' xs.length c' ∧ BsP w Pd A' xs.length xs ∧ xs.length ≤ c'
section
variable {w w' : World} {Pd Pd' : Nat → Prop} {A : Option Addr} {n : Nat} {xss : List (List Int)}
theorem BssP.len (h : BssP w Pd A n xss) : xss.length = n := h.1
theorem BssP.keep (h : BssP w Pd A n xss) (hk : ∀ b, Pd b → w'.heap[b]? = w.heap[b]?) : BssP w' Pd A n xss := by
  obtain ⟨hl, vs, hr, he⟩ := h
  refine ⟨hl, vs, hr.keep hk, fun i v xs hv hx => ?_⟩
  obtain ⟨A', c', e, hb, hc⟩ := he i v xs hv hx
  exact ⟨A', c', e, hb.keep hk, hc⟩
theorem BssP.imp (h : BssP w Pd A n xss) (hi : ∀ b, Pd b → Pd' b) : BssP w Pd' A n xss := by
  obtain ⟨hl, vs, hr, he⟩ := h
  refine ⟨hl, vs, hr.imp hi, fun i v xs hv hx => ?_⟩
  obtain ⟨A', c', e, hb, hc⟩ := he i v xs hv hx
  exact ⟨A', c', e, hb.imp hi, hc⟩
theorem BssP.at_ {k : Nat} (h : BssP w Pd A n xss) (hk : k < n) : ∃ b off A' n' c' xs, A = some ⟨b, off, none⟩ ∧ Pd b ∧ w.cell? ⟨b, off + k, none⟩ = some (.slice A' n' c') ∧ BsP w Pd A' n' xs ∧ n' ≤ c' ∧ Hid (xss[k]? = some xs) := by
  obtain ⟨hl, vs, hr, he⟩ := h
  obtain ⟨b, off, rfl, hb, hc⟩ := hr.2 (by omega)
  have hv : vs[k]? = some (vs[k]'(by have := hr.1; omega)) := List.getElem?_eq_getElem (by have := hr.1; omega)
  have hx : xss[k]? = some (xss[k]'(by omega)) := List.getElem?_eq_getElem (by omega)
  obtain ⟨A', c', e, hbs, hcc⟩ := he k _ _ hv hx
  have := hc k _ hv
  rw [e] at this
  exact ⟨b, off, A', _, c', _, rfl, hb, this, hbs, hcc, hx⟩
end

abbrev Bss (w : World) (A : Option Addr) (n : Nat) (xss : List (List Int)) : Prop := BssP w (· < w.heap.size) A n xss
theorem Bss.keep {w w' : World} {A : Option Addr} {n : Nat} {xss : List (List Int)} (h : Bss w A n xss) (hb : Below w.heap.size w w') : Bss w' A n xss :=
  (BssP.keep h (fun b hb' => hb.block b hb')).imp (fun b hb' => Nat.lt_of_lt_of_le hb' hb.size)
theorem Bss.at_ {w : World} {A : Option Addr} {n k : Nat} {xss : List (List Int)} (h : Bss w A n xss) (hk : k < n) : ∃ b off A' n' c' xs, A = some ⟨b, off, none⟩ ∧ b < w.heap.size ∧ w.cell? ⟨b, off + k, none⟩ = some (.slice A' n' c') ∧ Bs w A' n' xs ∧ n' ≤ c' ∧ Hid (xss[k]? = some xs) := by
  obtain ⟨b, off, A', n', c', xs, hA, hb, hc, hx, hn, HX⟩ := BssP.at_ h hk
  exact ⟨b, off, A', n', c', xs, hA, hb, hc, hx.bs, hn, HX⟩
theorem BssP.ran {w : World} {Pd : Nat → Prop} {A : Option Addr} {n : Nat} {xss : List (List Int)} (h : BssP w Pd A n xss) : ∀ xs ∈ xss, Ran xs := by
  intro xs hx
  obtain ⟨i, hi, rfl⟩ := List.getElem_of_mem hx
  obtain ⟨_, _, _, _, _, ys, _, _, _, hb, _, HY⟩ := h.at_ (k := i) (by have := h.len; omega)
  have := HY.out
  rw [List.getElem?_eq_getElem hi] at this
  injection this with this
  rw [this]; exact hb.2
section
variable {w : World} {A : Option Addr} {n : Nat}
theorem Rd.short {vs : List Value} {m : Nat} (h : Rd w A n vs) (hm : m ≤ n) : Rd w A m (vs.take m) := by
  refine ⟨by rw [List.length_take, h.1]; omega, fun hp => ?_⟩
  obtain ⟨b, off, rfl, hb, hc⟩ := h.2 (by omega)
  refine ⟨b, off, rfl, hb, fun j u hu => hc j u ?_⟩
  rw [List.getElem?_take] at hu
  split at hu
  · exact hu
  · cases hu
end
theorem headA (A : Option Addr) (c : Nat) : (if c = 0 then A else A.map (fun x => x.add (0 * 1))) = A := by
  split
  · rfl
  · cases A with
    | none => rfl
    | some a => simp only [Option.map_some, Option.some.injEq]; unfold Addr.add; simp
theorem Bss.short {w : World} {A : Option Addr} {n m : Nat} {xss : List (List Int)} (h : Bss w A n xss) (hm : m ≤ n) : Bss w A m (xss.take m) := by
  obtain ⟨hl, vs, hr, he⟩ := h
  refine ⟨by rw [List.length_take]; omega, vs.take m, Rd.short (w := w) hr hm, fun i v xs hv hx => ?_⟩
  have hi : i < m := by
    have := (List.getElem?_eq_some_iff.1 hv).1
    rw [List.length_take] at this; omega
  rw [List.getElem?_take, if_pos hi] at hv hx
  exact he i v xs hv hx
theorem elem22 : Try.prog.underlying 22 = some (.slice (Try.prog.elem 22)) := by kernel_rfl
theorem elem22' : Try.prog.elem 22 = 23 := by kernel_rfl
theorem slice22 (A : Option Addr) (n c hi : Nat) (h : hi ≤ c) (W : World) :
    (Instr.slice 22 (.slice A n c) none (some (.int .i64 (hi : Int))) none).run Try.prog W = .ok (.slice A hi c) W := by
  rw [run_slice_h (P := Try.prog) W 22 A n c elem22 .i64 (hi : Int) (by omega) (by omega), elem22', Try.sizeOf23]
  simp only [sliced, Result.andThen, Int.toNat_natCast]
  rw [headA]; rfl
end Go.Proofs.Ytdlbghjclcdfmab
