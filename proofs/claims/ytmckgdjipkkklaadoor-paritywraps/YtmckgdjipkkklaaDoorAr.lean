/- Arrays of four bytes in blocks of their own; Newton's form as a list. -/
import Derived.Test.YtmckgdjipkkklaaDoorAddsW
import Derived.Test.YtmckgdjipkkklaaDoorNewt
import Derived.Test.YtmckgdjipkkklaaDoorRefW
namespace Go.Proofs.YtmckgdjipkkklaaDoor
set_option linter.unusedVariables false
set_option linter.unusedSimpArgs false
open Go.RowKit

def ar (a b c d : Nat) : Array Value := #[.int .u8 (a : Int), .int .u8 (b : Int), .int .u8 (c : Int), .int .u8 (d : Int)]
/-- An array of four bytes, its block known whole. -/
def Ar (w : World) (g a b c d : Nat) : Prop := w.heap[g]? = some (.cells (ar a b c d) 30 (0, 0))
section
variable {w w' : World} {g a b c d : Nat}
theorem Ar.lt (h : Ar w g a b c d) : g < w.heap.size := (Array.getElem?_eq_some_iff.1 h).1
theorem Ar.c0 (h : Ar w g a b c d) : w.cell? ⟨g, 0, none⟩ = some (.int .u8 (a : Int)) := cell_of_row w g 0 _ 30 (0, 0) h
theorem Ar.c1 (h : Ar w g a b c d) : w.cell? ⟨g, 1, none⟩ = some (.int .u8 (b : Int)) := cell_of_row w g 1 _ 30 (0, 0) h
theorem Ar.c2 (h : Ar w g a b c d) : w.cell? ⟨g, 2, none⟩ = some (.int .u8 (c : Int)) := cell_of_row w g 2 _ 30 (0, 0) h
theorem Ar.c3 (h : Ar w g a b c d) : w.cell? ⟨g, 3, none⟩ = some (.int .u8 (d : Int)) := cell_of_row w g 3 _ 30 (0, 0) h
theorem Ar.fr (h : Ar w g a b c d) (i : Nat) : w.frozen? ⟨g, i, none⟩ = false := frozen_of_row w g i _ 30 h
theorem Ar.keep {B : Nat} (h : Ar w g a b c d) (hb : Below B w w') (hg : g < B) : Ar w' g a b c d := by unfold Ar; rw [hb.block g hg]; exact h
theorem Ar.drew (h : Ar w g a b c d) : Ar w.drew g a b c d := h
theorem Ar.dr (h : Ar w g a b c d) (hd : Dr w w') : Ar w' g a b c d := by obtain ⟨q, rfl⟩ := hd; exact h
theorem Ar.other (h : Ar w g a b c d) {k i : Nat} (v : Value) (hk : g ≠ k) : Ar (w.setCell ⟨k, i, none⟩ v) g a b c d := by
  unfold Ar; rw [heap_setCell_other w ⟨k, i, none⟩ g v (by simpa using hk)]; exact h
theorem Ar.s0 (h : Ar w g a b c d) (v : Nat) : Ar (w.setCell ⟨g, 0, none⟩ (.int .u8 (v : Int))) g v b c d := heap_setCell_same w g 0 _ 30 _ h
theorem Ar.s1 (h : Ar w g a b c d) (v : Nat) : Ar (w.setCell ⟨g, 1, none⟩ (.int .u8 (v : Int))) g a v c d := heap_setCell_same w g 1 _ 30 _ h
theorem Ar.s2 (h : Ar w g a b c d) (v : Nat) : Ar (w.setCell ⟨g, 2, none⟩ (.int .u8 (v : Int))) g a b v d := heap_setCell_same w g 2 _ 30 _ h
theorem Ar.s3 (h : Ar w g a b c d) (v : Nat) : Ar (w.setCell ⟨g, 3, none⟩ (.int .u8 (v : Int))) g a b c v := heap_setCell_same w g 3 _ 30 _ h
theorem Ar.new (w : World) (a b c d : Nat) : Ar (w.alloc (.cells (ar a b c d) 30)) w.heap.size a b c d := heap_alloc_new w _
end

/-- Newton's form, made longer. -/
def ostep (o : Nat × Nat × Nat × Nat) (y d : Nat) : Nat × Nat × Nat × Nat := (mul o.1 y ^^^ o.2.1, mul o.2.1 y ^^^ o.2.2.1, mul o.2.2.1 y ^^^ o.2.2.2, mul o.2.2.2 y ^^^ d)
def l4 (o : Nat × Nat × Nat × Nat) : List Nat := [o.1, o.2.1, o.2.2.1, o.2.2.2]
theorem evf_scale (x y : Nat) : ∀ (l : List Nat) (v : Nat), v < 256 → Rn l → evf x (mul v y) (l.map fun a => mul a y) = mul (evf x v l) y
  | [], _, _, _ => rfl
  | b :: l, v, hv, hl => by
    simp only [List.map_cons, evf]
    rw [← evf_scale x y l _ (xor_lt _ _ (mul_lt _ hv) hl.head) hl.tail, mul_xor_left _ (mul_lt _ hv) hl.head, mul_swap x y hv]
theorem ev_scale (x y : Nat) {l : List Nat} (hl : Rn l) : ev x (l.map fun a => mul a y) = mul (ev x l) y := by
  have := evf_scale x y l 0 (by omega) hl
  rwa [mul_zero_left] at this
theorem ev_ostep {o1 o2 o3 y d x : Nat} (hx : x < 256) (hy : y < 256) (h1 : o1 < 256) (h2 : o2 < 256) (h3 : o3 < 256) (hd : d < 256) :
    ev x (l4 (ostep (0, o1, o2, o3) y d)) = mul (x ^^^ y) (ev x [0, o1, o2, o3]) ^^^ d := by
  have hr : Rn [0, o1, o2, o3] := Rn.cons (by omega) (Rn.cons h1 (Rn.cons h2 (Rn.cons h3 Rn.nil)))
  have e1 : l4 (ostep (0, o1, o2, o3) y d) = xl ([0, o1, o2, o3].map fun a => mul a y) [o1, o2, o3, d] := rfl
  have hr1 : Rn ([0, o1, o2, o3].map fun a => mul a y) := by
    intro z hz
    obtain ⟨a, ha, rfl⟩ := List.mem_map.1 hz
    exact mul_lt _ (hr a ha)
  have hr2 : Rn [o1, o2, o3, d] := Rn.cons h1 (Rn.cons h2 (Rn.cons h3 (Rn.cons hd Rn.nil)))
  have hlen : ([0, o1, o2, o3].map fun a => mul a y).length = [o1, o2, o3, d].length := rfl
  rw [e1, ev_xl x _ _ hlen hr1 hr2, ev_scale x y hr]
  have e2 : ev x [o1, o2, o3, d] = mul (ev x [0, o1, o2, o3]) x ^^^ d := by
    have := ev_snoc x [0, o1, o2, o3] d
    rw [← this]
    simp only [List.cons_append, List.nil_append, ev, evf, mul_zero_left, Nat.zero_xor]
  have hE := ev_lt x hr
  rw [e2, mul_comm (xor_lt _ _ hx hy) hE, mul_xor_right, ← Nat.xor_assoc, Nat.xor_comm (mul _ y)]
/-- The check bytes by Newton's form. -/
def nout (D0 D1 D2 D3 : Nat) : Nat × Nat × Nat × Nat :=
  ostep (ostep (ostep (0, 0, 0, nh3 D0 D1 D2 D3) 4 (nf2 D0 D1 D2 D3)) 2 (ne1 D0 D1 D2 D3)) 1 D0
theorem mul_lt_r {a b : Nat} (ha : a < 256) : mul a b < 256 := mul_lt b ha
theorem invL_lt (a : Nat) : invL a < 256 := by
  unfold invL
  cases h : (List.range 256).find? fun i => mul a i == 1 with
  | none => simp
  | some v =>
    have := List.mem_of_find?_eq_some h
    simpa using this
theorem ne1_lt (D0 D1 D2 D3 : Nat) : ne1 D0 D1 D2 D3 < 256 := mul_lt _ (invL_lt 3)
theorem ne2_lt (D0 D1 D2 D3 : Nat) : ne2 D0 D1 D2 D3 < 256 := mul_lt _ (invL_lt 6)
theorem ne3_lt (D0 D1 D2 D3 : Nat) : ne3 D0 D1 D2 D3 < 256 := mul_lt _ (invL_lt 12)
theorem nf2_lt (D0 D1 D2 D3 : Nat) : nf2 D0 D1 D2 D3 < 256 := mul_lt _ (invL_lt 5)
theorem nf3_lt (D0 D1 D2 D3 : Nat) : nf3 D0 D1 D2 D3 < 256 := mul_lt _ (invL_lt 10)
theorem nh3_lt (D0 D1 D2 D3 : Nat) : nh3 D0 D1 D2 D3 < 256 := mul_lt _ (invL_lt 9)
theorem ostep_zero (o1 o2 o3 y d : Nat) : (ostep (0, o1, o2, o3) y d) = (o1, mul o1 y ^^^ o2, mul o2 y ^^^ o3, mul o3 y ^^^ d) := by
  unfold ostep; simp only [mul_zero_left, Nat.zero_xor]
theorem ev_nout {D0 D1 D2 D3 x : Nat} (hx : x < 256) (h0 : D0 < 256) : ev x (l4 (nout D0 D1 D2 D3)) = nat' x D0 D1 D2 D3 := by
  have hh := nh3_lt D0 D1 D2 D3
  have hf := nf2_lt D0 D1 D2 D3
  have he := ne1_lt D0 D1 D2 D3
  unfold nout nat'
  generalize nh3 D0 D1 D2 D3 = h at *
  generalize nf2 D0 D1 D2 D3 = f at *
  generalize ne1 D0 D1 D2 D3 = e at *
  have q1 : ostep (0, 0, 0, h) 4 f = (0, 0, h, mul h 4 ^^^ f) := by rw [ostep_zero]; simp only [mul_zero_left, Nat.zero_xor]
  have q2 : ostep (0, 0, h, mul h 4 ^^^ f) 2 e = (0, h, mul h 2 ^^^ (mul h 4 ^^^ f), mul (mul h 4 ^^^ f) 2 ^^^ e) := by rw [ostep_zero]; simp only [mul_zero_left, Nat.zero_xor]
  have b1 : mul h 4 ^^^ f < 256 := xor_lt _ _ (mul_lt _ hh) hf
  have b2 : mul h 2 ^^^ (mul h 4 ^^^ f) < 256 := xor_lt _ _ (mul_lt _ hh) b1
  have b3 : mul (mul h 4 ^^^ f) 2 ^^^ e < 256 := xor_lt _ _ (mul_lt _ b1) he
  have r1 := ev_ostep (o1 := 0) (o2 := 0) (o3 := h) (y := 4) (d := f) hx (by omega) (by omega) (by omega) hh hf
  have r2 := ev_ostep (o1 := 0) (o2 := h) (o3 := mul h 4 ^^^ f) (y := 2) (d := e) hx (by omega) (by omega) hh b1 he
  have r3 := ev_ostep (o1 := h) (o2 := mul h 2 ^^^ (mul h 4 ^^^ f)) (o3 := mul (mul h 4 ^^^ f) 2 ^^^ e) (y := 1) (d := D0) hx (by omega) hh b2 b3 h0
  have z1 : ev x [0, 0, 0, h] = h := by simp only [ev, evf, mul_zero_left, Nat.zero_xor]
  rw [q1, q2, r3]
  have z3 : [0, h, mul h 2 ^^^ (mul h 4 ^^^ f), mul (mul h 4 ^^^ f) 2 ^^^ e] = l4 (ostep (0, 0, h, mul h 4 ^^^ f) 2 e) := by rw [q2]; rfl
  have z2 : [0, 0, h, mul h 4 ^^^ f] = l4 (ostep (0, 0, 0, h) 4 f) := by rw [q1]; rfl
  rw [z3, r2, z2, r1, z1]
theorem nout_rn {D0 D1 D2 D3 : Nat} (h0 : D0 < 256) : Rn (l4 (nout D0 D1 D2 D3)) := by
  have hh := nh3_lt D0 D1 D2 D3
  have hf := nf2_lt D0 D1 D2 D3
  have he := ne1_lt D0 D1 D2 D3
  have hs : ∀ (o : Nat × Nat × Nat × Nat) (y d : Nat), Rn (l4 o) → d < 256 → Rn (l4 (ostep o y d)) := by
    intro o y d ho hd
    have a0 : o.1 < 256 := ho _ (by simp [l4])
    have a1 : o.2.1 < 256 := ho _ (by simp [l4])
    have a2 : o.2.2.1 < 256 := ho _ (by simp [l4])
    have a3 : o.2.2.2 < 256 := ho _ (by simp [l4])
    exact Rn.cons (xor_lt _ _ (mul_lt _ a0) a1) (Rn.cons (xor_lt _ _ (mul_lt _ a1) a2) (Rn.cons (xor_lt _ _ (mul_lt _ a2) a3) (Rn.cons (xor_lt _ _ (mul_lt _ a3) hd) Rn.nil)))
  have hz : Rn [0, 0, 0, nh3 D0 D1 D2 D3] := Rn.cons (by omega) (Rn.cons (by omega) (Rn.cons (by omega) (Rn.cons hh Rn.nil)))
  exact hs _ _ _ (hs _ _ _ (hs (0, 0, 0, nh3 D0 D1 D2 D3) _ _ hz hf) he) h0
/-- What the reference reckons are the check bytes. -/
theorem nout_chk {l : List Nat} (hl : Rn l) : l4 (nout (ev 1 (l ++ [0, 0, 0, 0])) (ev 2 (l ++ [0, 0, 0, 0])) (ev 4 (l ++ [0, 0, 0, 0])) (ev 8 (l ++ [0, 0, 0, 0]))) = w4 (chk l) := by
  have hz : Rn [0, 0, 0, 0] := Rn.cons (by omega) (Rn.cons (by omega) (Rn.cons (by omega) (Rn.cons (by omega) Rn.nil)))
  have hl0 : Rn (l ++ [0, 0, 0, 0]) := hl.append hz
  have b0 := ev_lt 1 hl0
  have b1 := ev_lt 2 hl0
  have b2 := ev_lt 4 hl0
  have b3 := ev_lt 8 hl0
  have hD : ∀ i, ev (pw i) (l ++ [0, 0, 0, 0]) = mul (ev (pw i) l) (pw (i * 4)) := by
    intro i
    rw [ev_app hl hz]
    have : ev (pw i) [0, 0, 0, 0] = 0 := by simp only [ev, evf, mul_zero_left, Nat.zero_xor]
    rw [this, Nat.xor_zero]; rfl
  have hn := newt_at b0 b1 b2 b3
  refine chk_only hl (nout_rn b0) rfl fun i hi => ?_
  rw [← hD]
  match i, hi with
  | 0, _ => exact (ev_nout (by decide) b0).trans hn.1
  | 1, _ => exact (ev_nout (by decide) b0).trans hn.2.1
  | 2, _ => exact (ev_nout (by decide) b0).trans hn.2.2.1
  | 3, _ => exact (ev_nout (by decide) b0).trans hn.2.2.2
end Go.Proofs.YtmckgdjipkkklaaDoor
