/- What a call turns, told by the kinds of blocks; parts that are taken one by one. -/
import Derived.Test.YtmjjbfcblmmipaaWide
import Derived.Test.YtmjjbfcblmmipaaSplitW
import Derived.Test.YtmjjbfcblmmipaaPre
namespace Go.Proofs.Ytmjjbfcblmmipaa
set_option linter.unusedVariables false
set_option linter.unusedSimpArgs false
open Go.RowKit

/-- Below base only block g has turned; else only blocks of these types. -/
structure Ef (ex : List TypeId) (g base : Nat) (w w' : World) : Prop where
  os : w'.os = w.os
  tape : w'.tape = w.tape
  output : w'.output = w.output
  size : w.heap.size ≤ w'.heap.size
  low : ∀ i : Nat, i < base → i ≠ g → w'.heap[i]? = w.heap[i]?
  ty : ∀ (i : Nat) (cs : Array Value) (t : TypeId) (fr : Nat × Nat), w.heap[i]? = some (.cells cs t fr) → t ∉ ex → w'.heap[i]? = some (.cells cs t fr)
section
variable {ex : List TypeId} {g base : Nat} {w w1 w' : World}
theorem Ef.refl : Ef ex g base w w := ⟨rfl, rfl, rfl, Nat.le_refl _, fun _ _ _ => rfl, fun _ _ _ _ h _ => h⟩
theorem Ef.trans (h : Ef ex g base w w1) (k : Ef ex g base w1 w') : Ef ex g base w w' :=
  ⟨k.os.trans h.os, k.tape.trans h.tape, k.output.trans h.output, Nat.le_trans h.size k.size, fun i hi hne => (k.low i hi hne).trans (h.low i hi hne), fun i cs t fr hh ht => k.ty i cs t fr (h.ty i cs t fr hh ht) ht⟩
theorem Ef.of_below (h : Below w.heap.size w w') (hb : base ≤ w.heap.size) : Ef ex g base w w' :=
  ⟨h.os, h.tape, h.output, h.size, fun i hi _ => h.block i (by omega), fun i cs t fr hh _ => (h.block i (lt_of_heap hh)).trans hh⟩
theorem Ef.of_onl {cs : Array Value} {t : TypeId} {fr : Nat × Nat} (h : Onl g w w') (hb : base ≤ w.heap.size) (hg : w.heap[g]? = some (.cells cs t fr)) (ht : t ∈ ex) : Ef ex g base w w' :=
  ⟨h.os, h.tape, h.output, h.size, fun i hi hne => h.block i (by omega) (fun e => hne (by injection e)), fun i cs' t' fr' hh ht' => by
    refine (h.block i (lt_of_heap hh) (fun e => ?_)).trans hh
    injection e with e
    subst e
    rw [hg] at hh
    injection hh with hh
    injection hh with _ hh
    exact ht' (hh ▸ ht)⟩
theorem Ef.of_grows {s : Nat} {e : TypeId} {A A' : Option Addr} {n c : Nat} {vs : List Value} (h : Grows w w' A A') (ho : OwnK s w base e A n c vs) (hb : base ≤ w.heap.size) (he : e ∈ ex) : Ef ex g base w w' :=
  ⟨h.1.os, h.1.tape, h.1.output, h.size, fun i hi _ => h.1.block i (by omega) (fun e => by have := (ho.lies i e.symm).1; omega), fun i cs t fr hh ht => by
    refine (h.1.block i (lt_of_heap hh) (fun e1 => ?_)).trans hh
    exact ho.ne_blk hh (fun e2 => ht (e2 ▸ he)) e1.symm⟩
theorem Ef.onl (h : Ef ex g w.heap.size w w') : Onl g w w' := ⟨h.os, h.tape, h.output, h.size, fun i hi hne => h.low i hi (fun e => hne (by rw [e]))⟩
theorem Ef.mono {b : Nat} (h : Ef ex g base w w') (hb : b ≤ base) : Ef ex g b w w' := ⟨h.os, h.tape, h.output, h.size, fun i hi hne => h.low i (by omega) hne, h.ty⟩
theorem OwnK.ef {s b : Nat} {e : TypeId} {A : Option Addr} {n c : Nat} {vs : List Value} (h : OwnK s w b e A n c vs) (hE : Ef ex g base w w') (he : e ∉ ex) : OwnK s w' b e A n c vs := by
  refine ⟨h.1, ?_⟩
  rcases h.2 with h2 | ⟨g2, cap, cur, hv, hg, hh, r⟩
  · exact .inl h2
  · exact .inr ⟨g2, cap, cur, hv, hg, hE.ty _ _ _ _ hh he, r⟩
theorem Own.ef {b : Nat} {e : TypeId} {A : Option Addr} {n c : Nat} {vs : List Value} (h : Own w b e A n c vs) (hE : Ef ex g base w w') (he : e ∉ ex) : Own w' b e A n c vs := OwnK.ef (s := 1) h hE he
theorem TrO.ef {b : Nat} {e : TypeId} {A : Option Addr} {n c : Nat} {l : List Tr} (h : TrO w b e A n c l) (hE : Ef ex g base w w') (he : e ∉ ex) (h5 : 5 ∉ ex) : TrO w' b e A n c l := by
  obtain ⟨hl, vs, ho, hv⟩ := h
  refine ⟨hl, vs, ho.ef hE he, fun k t ht => ?_⟩
  obtain ⟨A1, c1, A2, c2, h0, h1, h2, o1, r1, o2, r2⟩ := hv k t ht
  exact ⟨A1, c1, A2, c2, h0, h1, h2, o1.ef hE h5, r1, o2.ef hE h5, r2⟩
end

/-- Parts that are left: the row's own texts, behind some place of it. -/
def PrR (w : World) (base : Nat) (A : Option Addr) (n c : Nat) (xss : List (List Int)) : Prop :=
  xss.length = n ∧ n ≤ c ∧ (∀ k, blk A = some k → ∃ cs fr, w.heap[k]? = some (.cells cs 28 fr)) ∧ ∃ vs, Rd w A n vs ∧ VD vs ∧ ∀ (i : Nat) (v : Value) (xs : List Int), vs[i]? = some v → xss[i]? = some xs → ∃ A' c', v = .slice A' xs.length c' ∧ Own w base 5 A' xs.length c' (By xs) ∧ Ran xs
section
variable {ex : List TypeId} {g base b : Nat} {w w' : World} {A : Option Addr} {n c : Nat} {xss : List (List Int)}
theorem Prts.prR (h : Prts w base A n c xss) : PrR w base A n c xss := by
  obtain ⟨hl, vs, ho, hd, he⟩ := h
  refine ⟨hl, ho.cap, fun k hk => ?_, vs, ho.rd, hd, he⟩
  rcases ho.2 with ⟨hv, _⟩ | ⟨g2, cap, cur, hv, _, hh, _⟩
  · have : A = none := by injection hv
    subst this; cases hk
  · have hA : A = some ⟨g2, 0, none⟩ := by injection hv
    subst hA
    simp only [blk, Option.map_some, Option.some.injEq] at hk
    subst hk
    exact ⟨_, _, hh⟩
theorem PrR.ef (h : PrR w b A n c xss) (hE : Ef ex g base w w') (h28 : 28 ∉ ex) (h5 : 5 ∉ ex) : PrR w' b A n c xss := by
  obtain ⟨hl, hnc, ht, vs, hr, hd, he⟩ := h
  refine ⟨hl, hnc, fun k hk => ?_, vs, ⟨hr.1, fun hn => ?_⟩, hd, fun i v xs hv hx => ?_⟩
  · obtain ⟨cs, fr, hh⟩ := ht k hk
    exact ⟨cs, fr, hE.ty _ _ _ _ hh h28⟩
  · obtain ⟨b2, off, rfl, hlt, hc⟩ := hr.2 hn
    obtain ⟨cs, fr, hh⟩ := ht b2 rfl
    refine ⟨b2, off, rfl, Nat.lt_of_lt_of_le hlt hE.size, fun j u hu => ?_⟩
    rw [World.cell?_of_block (a := ⟨b2, off + j, none⟩) ((hE.ty _ _ _ _ hh h28).trans hh.symm)]
    exact hc j u hu
  · obtain ⟨A', c', e, ho, hr⟩ := he i v xs hv hx
    exact ⟨A', c', e, ho.ef hE h5, hr⟩
theorem PrR.keep (h : PrR w b A n c xss) (hb : Below w.heap.size w w') : PrR w' b A n c xss := h.ef (ex := []) (g := 0) (base := 0) (Ef.of_below hb (Nat.zero_le _)) (by simp) (by simp)
theorem PrR.iter {s : ByteArray} {p : Nat} (h : PrR w b A n c xss) (ho : Onl g w w') (hg : w.heap[g]? = some (.stringIter s p)) : PrR w' b A n c xss :=
  h.ef (ex := []) (g := g) (base := 0) ⟨ho.os, ho.tape, ho.output, ho.size, fun i hi _ => by omega, fun i cs t fr hh _ => (ho.block i (lt_of_heap hh) (fun e => by injection e with e; subst e; rw [hg] at hh; cases hh)).trans hh⟩ (by simp) (by simp)
theorem PrR.mono {b2 : Nat} (h : PrR w b A n c xss) (hb : b2 ≤ b) : PrR w b2 A n c xss := by
  obtain ⟨hl, hnc, ht, vs, hr, hd, he⟩ := h
  refine ⟨hl, hnc, ht, vs, hr, hd, fun i v xs hv hx => ?_⟩
  obtain ⟨A', c', e, ho, hr⟩ := he i v xs hv hx
  exact ⟨A', c', e, ho.mono hb, hr⟩
theorem PrR.at_ {k : Nat} (h : PrR w b A n c xss) (hk : k < n) : ∃ b2 off A1 n1 c1 xs, A = some ⟨b2, off, none⟩ ∧ b2 < w.heap.size ∧ Hid (xss[k]? = some xs) ∧ Hid (xs.length = n1) ∧ w.cell? ⟨b2, off + k, none⟩ = some (.slice A1 n1 c1) ∧ Own w b 5 A1 n1 c1 (By xs) ∧ Ran xs := by
  obtain ⟨hl, hnc, ht, vs, hr, hd, he⟩ := h
  obtain ⟨b2, off, v, rfl, hlt, hc, HV⟩ := hr.at_ hk
  have hx : xss[k]? = some (xss[k]'(by omega)) := List.getElem?_eq_getElem _
  obtain ⟨A1, c1, rfl, ho, hrn⟩ := he k v _ HV.out hx
  exact ⟨b2, off, A1, _, c1, _, rfl, hlt, hx, rfl, hc, ho, hrn⟩
theorem PrR.dist {k l : Nat} (h : PrR w b A n c xss) (hk : k < n) (hl : l < n) (hkl : k ≠ l) {b2 off : Nat} {A1 A2 : Option Addr} {n1 c1 n2 c2 : Nat} (hA : A = some ⟨b2, off, none⟩)
    (h1 : w.cell? ⟨b2, off + k, none⟩ = some (.slice A1 n1 c1)) (h2 : w.cell? ⟨b2, off + l, none⟩ = some (.slice A2 n2 c2)) : blk A1 = none ∨ blk A1 ≠ blk A2 := by
  obtain ⟨_, hnc, ht, vs, hr, hd, he⟩ := h
  obtain ⟨b3, o3, v, hA3, _, hc, HV⟩ := hr.at_ hk
  obtain ⟨b4, o4, u, hA4, _, hc', HU⟩ := hr.at_ hl
  rw [hA] at hA3 hA4
  injection hA3 with hA3
  injection hA3 with e1 e2
  injection hA4 with hA4
  injection hA4 with e3 e4
  subst e1 e2 e3 e4
  rw [h1] at hc
  injection hc with hc
  rw [h2] at hc'
  injection hc' with hc'
  exact hd k l _ _ _ _ _ _ (by rw [HV.out, hc]) (by rw [HU.out, hc']) hkl
theorem Rd.cut {lo : Nat} {vs : List Value} (h : Rd w A n vs) (h2 : lo ≤ n) (h3 : n ≤ c) : Rd w (cutA A c lo) (n - lo) (vs.drop lo) := by
  refine ⟨by rw [List.length_drop, h.1], fun hn => ?_⟩
  obtain ⟨b2, off, rfl, hlt, hc⟩ := h.2 (by omega)
  refine ⟨b2, off + lo, ?_, hlt, fun j u hu => ?_⟩
  · unfold cutA
    rw [if_neg (by omega)]
    show some ((⟨b2, off, none⟩ : Addr).add lo) = _
    have e : (⟨b2, off, none⟩ : Addr).add lo = ⟨b2, off + lo, none⟩ := by unfold Addr.add; split <;> simp_all
    rw [e]
  · rw [List.getElem?_drop] at hu
    have := hc _ _ hu
    rwa [show off + lo + j = off + (lo + j) by omega]
theorem PrR.cut {lo : Nat} (h : PrR w b A n c xss) (h2 : lo ≤ n) : PrR w b (cutA A c lo) (n - lo) (c - lo) (xss.drop lo) := by
  obtain ⟨hl, hnc, ht, vs, hr, hd, he⟩ := h
  refine ⟨by rw [List.length_drop, hl], by omega, fun k hk => ht k (by rw [← blk_cutA A c lo]; exact hk), vs.drop lo, hr.cut h2 hnc, hd.drop lo, fun i v xs hv hx => ?_⟩
  rw [List.getElem?_drop] at hv hx
  exact he _ v xs hv hx
end
theorem elem62 : Try.prog.underlying 62 = some (.slice (Try.prog.elem 62)) := by kernel_rfl
theorem elem62' : Try.prog.elem 62 = 28 := by kernel_rfl
theorem slice62_lo (A : Option Addr) (n c lo : Nat) (h : lo ≤ n) (W : World) :
    (Instr.slice 62 (.slice A n c) (some (.int .i64 (lo : Int))) none none).run Try.prog W = .ok (.slice (cutA A c lo) (n - lo) (c - lo)) W := by
  rw [run_slice_l (P := Try.prog) W 62 A n c elem62 .i64 (lo : Int) (by omega) (by omega), elem62', Try.sizeOf28]
  simp only [sliced, Result.andThen, Int.toNat_natCast, Nat.mul_one]; rfl
theorem slice62_1 (A : Option Addr) (n c : Nat) (h : 1 ≤ n) (W : World) :
    (Instr.slice 62 (.slice A n c) (some (.int .i64 1)) none none).run Try.prog W = .ok (.slice (cutA A c 1) (n - 1) (c - 1)) W := slice62_lo A n c 1 h W
theorem slice62_3 (A : Option Addr) (n c : Nat) (h : 3 ≤ n) (W : World) :
    (Instr.slice 62 (.slice A n c) (some (.int .i64 3)) none none).run Try.prog W = .ok (.slice (cutA A c 3) (n - 3) (c - 3)) W := slice62_lo A n c 3 h W
end Go.Proofs.Ytmjjbfcblmmipaa
