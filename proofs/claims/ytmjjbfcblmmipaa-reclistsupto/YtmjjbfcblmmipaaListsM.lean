/- RecLists: words of its rows. -/
import Derived.Test.YtmjjbfcblmmipaaBetwS
import Derived.Test.YtmjjbfcblmmipaaTouchW
import Derived.Test.YtmjjbfcblmmipaaTwiceL
namespace Go.Proofs.Ytmjjbfcblmmipaa
set_option linter.unusedVariables false
set_option linter.unusedSimpArgs false
open Go.RowKit

theorem info32 : (Try.prog.info? 32).map (fun i => (i.zero, i.size, i.bytes)) = some (some (.agg zeroV), 11, 160) := by kernel_rfl
theorem un49 : Try.prog.underlying 49 = some (.slice 32) := by kernel_rfl
theorem un50 : Try.prog.underlying 50 = some (.slice 53) := by kernel_rfl
/-- What is known of an argument's record. -/
structure ArgR (w : World) (x : Rc) (s : Sl) : Prop where
  t : RcT w x s
  B : RcB x
  bW : s.nW ≤ 10000000
  bR : s.nR ≤ 10000000
  bS : s.nS ≤ 10000000
  bP : s.nP ≤ 10000000
  tW : (trs x.ws).length ≤ 100000000
  tR : (trs x.rs).length ≤ 100000000
theorem ArgR.keep {w w' : World} {x : Rc} {s : Sl} (h : ArgR w x s) (hb : Below w.heap.size w w') : ArgR w' x s := ⟨h.t.keep hb, h.B, h.bW, h.bR, h.bS, h.bP, h.tW, h.tR⟩
/-- Bounds of a record alone. -/
structure ArgB (x : Rc) : Prop where
  B : RcB x
  bW : x.ws.length ≤ 10000000
  bR : x.rs.length ≤ 10000000
  bS : x.shards.length ≤ 10000000
  bP : x.reply.length ≤ 10000000
  tW : (trs x.ws).length ≤ 100000000
  tR : (trs x.rs).length ≤ 100000000
theorem ArgR.b {w : World} {x : Rc} {s : Sl} (h : ArgR w x s) : ArgB x := by
  have h1 : x.ws.length = s.nW := h.t.ws.1
  have h2 : x.rs.length = s.nR := h.t.rs.1
  have h3 : x.shards.length = s.nS := h.t.sh.len
  have h4 : x.reply.length = s.nP := h.t.rp.len
  exact ⟨h.B, by rw [h1]; exact h.bW, by rw [h2]; exact h.bR, by rw [h3]; exact h.bS, by rw [h4]; exact h.bP, h.tW, h.tR⟩
def ArgL (w : World) (A : Option Addr) (n : Nat) (l : List (Rc × Sl)) : Prop := RcsL w A n l ∧ ∀ p ∈ l, ArgR w p.1 p.2
/-- Records of the call's own. -/
def RgO (w : World) (base : Nat) (A : Option Addr) (n c : Nat) (l : List (Rc × Sl)) : Prop :=
  l.length = n ∧ ∃ vs, OwnK 11 w base 32 A n c vs ∧ ∀ k p, l[k]? = some p → (∀ j u, (rcVs p.1 p.2)[j]? = some u → vs[k * 11 + j]? = some u) ∧ RcO w base p.1 p.2
/-- Places of the call's own. -/
def RpO (w : World) (base : Nat) (A : Option Addr) (n c : Nat) (l : List Po) : Prop :=
  l.length = n ∧ ∃ vs, OwnK 12 w base 53 A n c vs ∧ ∀ k p, l[k]? = some p → (∀ j u, (posV p.x p.s p.i)[j]? = some u → vs[k * 12 + j]? = some u) ∧ RcO w base p.x p.s
section
variable {w w' W W' : World} {base n c : Nat} {A : Option Addr} {gl : List (Rc × Sl)} {el : List Po} {ex : List TypeId} {g b : Nat}
theorem RgO.nil_ : RgO w base none 0 0 [] := ⟨rfl, [], OwnK.nil_, fun k p h => by simp at h⟩
theorem RpO.nil_ : RpO w base none 0 0 [] := ⟨rfl, [], OwnK.nil_, fun k p h => by simp at h⟩
theorem RgO.ef (h : RgO w base A n c gl) (hE : Ef ex g b w w') (h0 : 32 ∉ ex) (h1 : 61 ∉ ex) (h2 : 99 ∉ ex) (h3 : 3 ∉ ex) (h5 : 5 ∉ ex) : RgO w' base A n c gl := by
  obtain ⟨hl, vs, ho, he⟩ := h
  exact ⟨hl, vs, ho.ef hE h0, fun k p hp => ⟨(he k p hp).1, (he k p hp).2.ef hE h1 h2 h3 h5⟩⟩
theorem RpO.ef (h : RpO w base A n c el) (hE : Ef ex g b w w') (h0 : 53 ∉ ex) (h1 : 61 ∉ ex) (h2 : 99 ∉ ex) (h3 : 3 ∉ ex) (h5 : 5 ∉ ex) : RpO w' base A n c el := by
  obtain ⟨hl, vs, ho, he⟩ := h
  exact ⟨hl, vs, ho.ef hE h0, fun k p hp => ⟨(he k p hp).1, (he k p hp).2.ef hE h1 h2 h3 h5⟩⟩
theorem RgO.keep (h : RgO w base A n c gl) (hb : Below w.heap.size w w') : RgO w' base A n c gl := h.ef (ex := []) (g := 0) (b := 0) (Ef.of_below hb (Nat.zero_le _)) (by simp) (by simp) (by simp) (by simp) (by simp)
theorem RpO.keep (h : RpO w base A n c el) (hb : Below w.heap.size w w') : RpO w' base A n c el := h.ef (ex := []) (g := 0) (b := 0) (Ef.of_below hb (Nat.zero_le _)) (by simp) (by simp) (by simp) (by simp) (by simp)
theorem RgO.snoc {A' : Option Addr} {c' : Nat} {vs : List Value} {x : Rc} {s : Sl} (hl : gl.length = n) (ho : OwnK 11 w base 32 A n c vs) (he : ∀ k p, gl[k]? = some p → (∀ j u, (rcVs p.1 p.2)[j]? = some u → vs[k * 11 + j]? = some u) ∧ RcO w base p.1 p.2)
    (o1 : RcO w base x s) (hn : OwnK 11 w' base 32 A' (n + 1) c' (vs ++ (rcVs x s).toList)) (hg : Grows w w' A A') : RgO w' base A' (n + 1) c' (gl ++ [(x, s)]) := by
  have hE : Ef [32] 0 0 w w' := Ef.of_grows (g := 0) (ex := [32]) hg (ho.mono (Nat.zero_le _)) (Nat.zero_le _) (by simp)
  have hvl := ho.len
  refine ⟨by simp [hl], _, hn, fun k y hy => ?_⟩
  by_cases hk : k < n
  · rw [List.getElem?_append_left (by omega)] at hy
    obtain ⟨h1, h2⟩ := he k y hy
    refine ⟨fun j u hu => ?_, h2.ef hE (by simp) (by simp) (by simp) (by simp)⟩
    have hj : j < 11 := by have := (Array.getElem?_eq_some_iff.1 hu).1; simpa [rcVs] using this
    rw [List.getElem?_append_left (by omega)]
    exact h1 j u hu
  · rw [List.getElem?_append_right (by omega)] at hy
    have hk0 : k = n := by
      have := (List.getElem?_eq_some_iff.1 hy).1
      simp at this; omega
    subst hk0
    rw [hl, Nat.sub_self] at hy
    have hy' : (x, s) = y := by simpa using hy
    subst hy'
    refine ⟨fun j u hu => ?_, o1.ef hE (by simp) (by simp) (by simp) (by simp)⟩
    rw [List.getElem?_append_right (by omega), hvl, Nat.add_sub_cancel_left]
    simpa using hu
theorem RpO.snoc {A' : Option Addr} {c' : Nat} {vs : List Value} {x : Rc} {s : Sl} {i : Int} (hl : el.length = n) (ho : OwnK 12 w base 53 A n c vs) (he : ∀ k p, el[k]? = some p → (∀ j u, (posV p.x p.s p.i)[j]? = some u → vs[k * 12 + j]? = some u) ∧ RcO w base p.x p.s)
    (o1 : RcO w base x s) (hn : OwnK 12 w' base 53 A' (n + 1) c' (vs ++ (posV x s i).toList)) (hg : Grows w w' A A') : RpO w' base A' (n + 1) c' (el ++ [⟨x, s, i⟩]) := by
  have hE : Ef [53] 0 0 w w' := Ef.of_grows (g := 0) (ex := [53]) hg (ho.mono (Nat.zero_le _)) (Nat.zero_le _) (by simp)
  have hvl := ho.len
  refine ⟨by simp [hl], _, hn, fun k y hy => ?_⟩
  by_cases hk : k < n
  · rw [List.getElem?_append_left (by omega)] at hy
    obtain ⟨h1, h2⟩ := he k y hy
    refine ⟨fun j u hu => ?_, h2.ef hE (by simp) (by simp) (by simp) (by simp)⟩
    have hj : j < 12 := by have := (Array.getElem?_eq_some_iff.1 hu).1; simpa [posV] using this
    rw [List.getElem?_append_left (by omega)]
    exact h1 j u hu
  · rw [List.getElem?_append_right (by omega)] at hy
    have hk0 : k = n := by
      have := (List.getElem?_eq_some_iff.1 hy).1
      simp at this; omega
    subst hk0
    rw [hl, Nat.sub_self] at hy
    have hy' : (⟨x, s, i⟩ : Po) = y := by simpa using hy
    subst hy'
    refine ⟨fun j u hu => ?_, o1.ef hE (by simp) (by simp) (by simp) (by simp)⟩
    rw [List.getElem?_append_right (by omega), hvl, Nat.add_sub_cancel_left]
    simpa using hu
theorem RgO.rcs (h : RgO w base A n c gl) : RcsL w A n gl := by
  obtain ⟨hl, vs, ho, he⟩ := h
  refine ⟨hl, fun hn => ?_⟩
  obtain ⟨g, rfl, _, hlt, hc⟩ := ho.cells hn
  exact ⟨g, 0, rfl, hlt, fun k p hp i u hu => by rw [Nat.zero_add]; exact hc _ _ ((he k p hp).1 i u hu)⟩
theorem RpO.pos (h : RpO w base A n c el) (hB : ∀ p ∈ el, ArgB p.x ∧ 0 ≤ p.i ∧ p.i ≤ 18446744073709551615) : PosL w A n el := by
  obtain ⟨hl, vs, ho, he⟩ := h
  refine ⟨hl, fun hn => ?_⟩
  obtain ⟨g, rfl, _, hlt, hc⟩ := ho.cells hn
  refine ⟨g, 0, rfl, hlt, fun k p hp => ⟨fun i u hu => by rw [Nat.zero_add]; exact hc _ _ ((he k p hp).1 i u hu), ?_⟩⟩
  obtain ⟨hb, h0, h1⟩ := hB p (List.mem_of_getElem? hp)
  have hO := (he k p hp).2
  have hT := hO.rcT hb.B.sh
  have e1 : p.x.ws.length = p.s.nW := hT.ws.1
  have e2 : p.x.rs.length = p.s.nR := hT.rs.1
  have e3 : p.x.shards.length = p.s.nS := hT.sh.len
  have e4 : p.x.reply.length = p.s.nP := hT.rp.len
  have b1 := hb.bW; have b2 := hb.bR; have b3 := hb.bS; have b4 := hb.bP; have b5 := hb.tW; have b6 := hb.tR
  obtain ⟨_, _, o1, _⟩ := hO.ws
  obtain ⟨_, _, o2, _⟩ := hO.rs
  exact ⟨hT, o1.shp, o2.shp, OwnK.shp hO.sh, by omega, by omega, by omega, by omega, by omega, by omega, h0, h1⟩
end
/-- The state of RecLists' first loop. -/
structure LS (w : World) (gl : List (Rc × Sl)) (el : List Po) (acc : List Tx) (A7 : Option Addr) (n7 c7 : Nat) (A8 : Option Addr) (n8 c8 : Nat) (A9 : Option Addr) (n9 c9 : Nat) (W : World) : Prop where
  g : RgO W w.heap.size A7 n7 c7 gl
  p : RpO W w.heap.size A8 n8 c8 el
  t : OwnK 3 W w.heap.size 24 A9 n9 c9 (txV acc)
  hb : Below w.heap.size w W
section
variable {w W W' : World} {gl : List (Rc × Sl)} {el : List Po} {acc : List Tx} {A7 : Option Addr} {n7 c7 : Nat} {A8 : Option Addr} {n8 c8 : Nat} {A9 : Option Addr} {n9 c9 : Nat} {A' : Option Addr} {c' : Nat} {x : Rc} {s : Sl}
theorem LS.keep (h : LS w gl el acc A7 n7 c7 A8 n8 c8 A9 n9 c9 W) (hb : Below W.heap.size W W') : LS w gl el acc A7 n7 c7 A8 n8 c8 A9 n9 c9 W' :=
  ⟨h.g.keep hb, h.p.keep hb, h.t.keep hb, h.hb.trans (hb.mono h.hb.size)⟩
theorem LS.growG {vs : List Value} (h : LS w gl el acc A7 n7 c7 A8 n8 c8 A9 n9 c9 W) (ho : OwnK 11 W w.heap.size 32 A7 n7 c7 vs) (he : ∀ k p, gl[k]? = some p → (∀ j u, (rcVs p.1 p.2)[j]? = some u → vs[k * 11 + j]? = some u) ∧ RcO W w.heap.size p.1 p.2)
    (o1 : RcO W w.heap.size x s) (hn : OwnK 11 W' w.heap.size 32 A' (n7 + 1) c' (vs ++ (rcVs x s).toList)) (hg : Grows W W' A7 A') : LS w (gl ++ [(x, s)]) el acc A' (n7 + 1) c' A8 n8 c8 A9 n9 c9 W' := by
  have hE : Ef [32] 0 0 W W' := Ef.of_grows (g := 0) (ex := [32]) hg (ho.mono (Nat.zero_le _)) (Nat.zero_le _) (by simp)
  exact ⟨RgO.snoc h.g.1 ho he o1 hn hg, h.p.ef hE (by simp) (by simp) (by simp) (by simp) (by simp), h.t.ef hE (by simp), h.hb.trans (hg.below h.hb.size (fun k hk => (ho.lies k hk).1))⟩
theorem LS.growP {vs : List Value} {i : Int} (h : LS w gl el acc A7 n7 c7 A8 n8 c8 A9 n9 c9 W) (ho : OwnK 12 W w.heap.size 53 A8 n8 c8 vs) (he : ∀ k p, el[k]? = some p → (∀ j u, (posV p.x p.s p.i)[j]? = some u → vs[k * 12 + j]? = some u) ∧ RcO W w.heap.size p.x p.s)
    (o1 : RcO W w.heap.size x s) (hn : OwnK 12 W' w.heap.size 53 A' (n8 + 1) c' (vs ++ (posV x s i).toList)) (hg : Grows W W' A8 A') : LS w gl (el ++ [⟨x, s, i⟩]) acc A7 n7 c7 A' (n8 + 1) c' A9 n9 c9 W' := by
  have hE : Ef [53] 0 0 W W' := Ef.of_grows (g := 0) (ex := [53]) hg (ho.mono (Nat.zero_le _)) (Nat.zero_le _) (by simp)
  exact ⟨h.g.ef hE (by simp) (by simp) (by simp) (by simp) (by simp), RpO.snoc h.p.1 ho he o1 hn hg, h.t.ef hE (by simp), h.hb.trans (hg.below h.hb.size (fun k hk => (ho.lies k hk).1))⟩
theorem LS.growT {t : Tx} (h : LS w gl el acc A7 n7 c7 A8 n8 c8 A9 n9 c9 W) (hn : OwnK 3 W' w.heap.size 24 A' (n9 + 1) c' (txV acc ++ [.int .u64 t.1, .int .u64 t.2.1, .int .u64 t.2.2])) (hg : Grows W W' A9 A') : LS w gl el (acc ++ [t]) A7 n7 c7 A8 n8 c8 A' (n9 + 1) c' W' := by
  have hE : Ef [24] 0 0 W W' := Ef.of_grows (g := 0) (ex := [24]) hg (h.t.mono (Nat.zero_le _)) (Nat.zero_le _) (by simp)
  exact ⟨h.g.ef hE (by simp) (by simp) (by simp) (by simp) (by simp), h.p.ef hE (by simp) (by simp) (by simp) (by simp) (by simp), by rw [txV_snoc]; exact hn, h.hb.trans (hg.below h.hb.size (fun k hk => (h.t.lies k hk).1))⟩
end
theorem outL_at {f t : Int} {l : List Po} {k : Nat} {p : Po} (h : l[k]? = some p) (hb : betw f t p = true) : (outL f t l)[(outL f t (l.take k)).length]? = some (p.x, p.i) := by
  have e : outL f t l = outL f t (l.take (k + 1)) ++ outL f t (l.drop (k + 1)) := by
    conv => lhs; rw [← List.take_append_drop (k + 1) l]
    unfold outL; rw [List.filter_append, List.map_append]
  rw [e, outL_yes h hb, List.append_assoc, List.getElem?_append_right (Nat.le_refl _), Nat.sub_self]
  rfl
theorem outS_at {ks : List Int} {f t : Int} {l : List Po} {k : Nat} {p : Po} (h : l[k]? = some p) (hb : betwS ks f t p = true) : (outS ks f t l)[(outS ks f t (l.take k)).length]? = some (p.x, p.i) := by
  have e : outS ks f t l = outS ks f t (l.take (k + 1)) ++ outS ks f t (l.drop (k + 1)) := by
    conv => lhs; rw [← List.take_append_drop (k + 1) l]
    unfold outS; rw [List.filter_append, List.map_append]
  rw [e, outS_yes h hb, List.append_assoc, List.getElem?_append_right (Nat.le_refl _), Nat.sub_self]
  rfl
theorem take_contains {acc : List Tx} {j : Nat} {t u : Tx} (h : acc[j]? = some u) : (acc.take (j + 1)).contains t = ((acc.take j).contains t || (u == t)) := by
  rw [List.take_add_one, h]
  rw [Bool.eq_iff_iff]
  simp only [Option.toList_some, List.contains_iff_mem, List.mem_append, List.mem_singleton, Bool.or_eq_true, beq_iff_eq]
  exact ⟨fun h => h.imp id fun h => h.symm, fun h => h.imp id fun h => h.symm⟩
end Go.Proofs.Ytmjjbfcblmmipaa
