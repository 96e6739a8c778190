/- (Rec).twin: a record that shares no memory with another one. -/
import Derived.Test.YtmjjbfcblmmipaaShelf2
import Derived.Test.YtmjjbfcblmmipaaReadA
import Derived.Laws.ResultCell
namespace Go.Proofs.Ytmjjbfcblmmipaa
set_option linter.unusedVariables false
set_option linter.unusedSimpArgs false
open Go.RowKit

/-- A record's slices read. -/
structure RcT (w : World) (x : Rc) (s : Sl) : Prop where
  ws : Trs w s.AW s.nW x.ws
  rs : Trs w s.AR s.nR x.rs
  sh : Ins w s.AS s.nS x.shards
  rp : Bs w s.AP s.nP x.reply
  rc : s.nP ≤ s.cP
theorem RcT.keep {w w' : World} {x : Rc} {s : Sl} (h : RcT w x s) (hb : Below w.heap.size w w') : RcT w' x s := ⟨h.ws.keep hb, h.rs.keep hb, h.sh.keep hb, h.rp.keep hb, h.rc⟩
/-- A slice's address is plain. -/
def Shp (A : Option Addr) (n : Nat) : Prop := (A = none ∧ n = 0) ∨ ∃ b off, A = some ⟨b, off, none⟩
theorem OwnK.shp {s base n c : Nat} {e : TypeId} {w : World} {A : Option Addr} {vs : List Value} (h : OwnK s w base e A n c vs) : Shp A n := by
  rcases h.2 with ⟨hv, h0⟩ | ⟨g, cap, cur, hv, _⟩
  · exact .inl ⟨by injection hv, h0⟩
  · exact .inr ⟨g, 0, by injection hv⟩
/-- Cells of threes: texts that were there, and flags. -/
def US (w : World) (us : List Value) (l : List Tr) : Prop := ∀ k t, l[k]? = some t → ∃ A1 c1 A2 c2, us[k * 3]? = some (.slice A1 t.a.length c1) ∧ us[k * 3 + 1]? = some (.slice A2 t.b.length c2) ∧ us[k * 3 + 2]? = some (.bool t.f) ∧ Bs w A1 t.a.length t.a ∧ Bs w A2 t.b.length t.b
theorem Trs.flat {w : World} {A : Option Addr} {n : Nat} {l : List Tr} (h : Trs w A n l) (hA : Shp A n) : ∃ us : List Value, us.length = n * 3 ∧ (A ≠ none → ∃ b off, A = some ⟨b, off, none⟩ ∧ ∀ j u, us[j]? = some u → w.cell? ⟨b, off + j, none⟩ = some u) ∧ (A = none → n = 0) ∧ (∀ u ∈ us, u.oneCell' = true) ∧ US w us l := by
  obtain ⟨hl, hc⟩ := h
  rcases Nat.eq_zero_or_pos n with h0 | hn
  · subst h0
    obtain rfl : l = [] := List.eq_nil_of_length_eq_zero hl
    refine ⟨[], rfl, fun hne => ?_, fun _ => rfl, by simp, fun k t ht => by simp at ht⟩
    rcases hA with ⟨h1, _⟩ | ⟨b, off, h1⟩
    · exact absurd h1 hne
    · exact ⟨b, off, h1, fun j u hu => by simp at hu⟩
  · obtain ⟨b, off, rfl, hlt, he⟩ := hc hn
    have key : ∀ j, j < n * 3 → ∃ u, w.cell? ⟨b, off + j, none⟩ = some u ∧ u.oneCell' = true := by
      intro j hj
      have hk : j / 3 < l.length := by omega
      obtain ⟨A1, c1, A2, c2, h0, h1, h2, _⟩ := he (j / 3) _ (List.getElem?_eq_getElem hk)
      have h3 : j % 3 = 0 ∨ j % 3 = 1 ∨ j % 3 = 2 := by omega
      rcases h3 with h3 | h3 | h3
      · rw [show off + j = off + j / 3 * 3 by omega]; exact ⟨_, h0, rfl⟩
      · rw [show off + j = off + j / 3 * 3 + 1 by omega]; exact ⟨_, h1, rfl⟩
      · rw [show off + j = off + j / 3 * 3 + 2 by omega]; exact ⟨_, h2, rfl⟩
    have get : ∀ j, j < n * 3 → ((List.range (n * 3)).map (fun j => (w.cell? ⟨b, off + j, none⟩).getD (.bool false)))[j]? = w.cell? ⟨b, off + j, none⟩ := by
      intro j hj
      obtain ⟨u, hu, _⟩ := key j hj
      rw [List.getElem?_map, List.getElem?_range hj, Option.map_some, hu]; rfl
    refine ⟨(List.range (n * 3)).map (fun j => (w.cell? ⟨b, off + j, none⟩).getD (.bool false)), by simp, fun _ => ⟨b, off, rfl, fun j u hu => ?_⟩, (fun hh => by cases hh), fun u hu => ?_, fun k t ht => ?_⟩
    · have hj : j < n * 3 := by have := (List.getElem?_eq_some_iff.1 hu).1; simpa using this
      rw [← get j hj]; exact hu
    · obtain ⟨j, hj, rfl⟩ := List.mem_map.1 hu
      obtain ⟨u, h1, h2⟩ := key j (List.mem_range.1 hj)
      rw [h1]; exact h2
    · have hk : k < n := by have := (List.getElem?_eq_some_iff.1 ht).1; omega
      obtain ⟨A1, c1, A2, c2, h0, h1, h2, b1, _, b2, _⟩ := he k t ht
      refine ⟨A1, c1, A2, c2, ?_, ?_, ?_, b1, b2⟩
      · rw [get _ (by omega)]; exact h0
      · rw [get _ (by omega), show off + (k * 3 + 1) = off + k * 3 + 1 by omega]; exact h1
      · rw [get _ (by omega), show off + (k * 3 + 2) = off + k * 3 + 2 by omega]; exact h2
theorem Rd.src {w : World} {A : Option Addr} {n : Nat} {vs : List Value} (h : Rd w A n vs) (hA : Shp A n) : (A ≠ none → ∃ b off, A = some ⟨b, off, none⟩ ∧ ∀ j u, vs[j]? = some u → w.cell? ⟨b, off + j, none⟩ = some u) ∧ (A = none → n = 0) := by
  obtain ⟨hl, hc⟩ := h
  rcases Nat.eq_zero_or_pos n with h0 | hn
  · subst h0
    obtain rfl : vs = [] := List.eq_nil_of_length_eq_zero hl
    refine ⟨fun hne => ?_, fun _ => rfl⟩
    rcases hA with ⟨h1, _⟩ | ⟨b, off, h1⟩
    · exact absurd h1 hne
    · exact ⟨b, off, h1, fun j u hu => by simp at hu⟩
  · obtain ⟨b, off, rfl, hlt, he⟩ := hc hn
    exact ⟨fun _ => ⟨b, off, rfl, he⟩, (fun hh => by cases hh)⟩
/-- A row of threes of the call's own: the first k have texts of their own, the others are as they were. -/
def TrM (w : World) (base : Nat) (e : TypeId) (A : Option Addr) (n c : Nat) (l : List Tr) (k : Nat) (us : List Value) : Prop :=
  l.length = n ∧ ∃ vs, OwnK 3 w base e A n c vs ∧ (∀ j, k * 3 ≤ j → vs[j]? = us[j]?) ∧ ∀ i t, i < k → l[i]? = some t → ∃ A1 c1 A2 c2, vs[i * 3]? = some (.slice A1 t.a.length c1) ∧ vs[i * 3 + 1]? = some (.slice A2 t.b.length c2) ∧ vs[i * 3 + 2]? = some (.bool t.f) ∧
    Own w base 5 A1 t.a.length c1 (By t.a) ∧ Ran t.a ∧ Own w base 5 A2 t.b.length c2 (By t.b) ∧ Ran t.b ∧ (blk A1 = none ∨ blk A1 ≠ blk A2)
section
variable {w w' : World} {base : Nat} {e : TypeId} {A : Option Addr} {n c k : Nat} {l : List Tr} {us : List Value}
theorem TrM.start (hl : l.length = n) (h : OwnK 3 w base e A n c us) : TrM w base e A n c l 0 us := ⟨hl, us, h, fun _ _ => rfl, fun i t hi => absurd hi (Nat.not_lt_zero _)⟩
theorem TrM.done (h : TrM w base e A n c l n us) : TrO w base e A n c l := by
  obtain ⟨hl, vs, ho, _, he⟩ := h
  exact ⟨hl, vs, ho, fun k t ht => he k t (by have := (List.getElem?_eq_some_iff.1 ht).1; omega) ht⟩
theorem TrM.keep (h : TrM w base e A n c l k us) (hb : Below w.heap.size w w') : TrM w' base e A n c l k us := by
  obtain ⟨hl, vs, ho, hv, he⟩ := h
  refine ⟨hl, vs, ho.keep hb, hv, fun i t hi ht => ?_⟩
  obtain ⟨A1, c1, A2, c2, h0, h1, h2, o1, r1, o2, r2⟩ := he i t hi ht
  exact ⟨A1, c1, A2, c2, h0, h1, h2, o1.below hb (fun k hk => (o1.lies k hk).2), r1, o2.below hb (fun k hk => (o2.lies k hk).2), r2⟩
theorem TrM.set {g : Nat} {t : TypeId} {cs : Array Value} {fr : Nat × Nat} (h : TrM w base e A n c l k us) (hg : Onl g w w') (hL : w.heap[g]? = some (.cells cs t fr)) (ht : t ≠ e) (ht5 : t ≠ 5) : TrM w' base e A n c l k us := by
  obtain ⟨hl, vs, ho, hv, he⟩ := h
  refine ⟨hl, vs, ho.onl hg (ho.ne_blk hL ht), hv, fun i t hi ht => ?_⟩
  obtain ⟨A1, c1, A2, c2, h0, h1, h2, o1, r1, o2, r2⟩ := he i t hi ht
  exact ⟨A1, c1, A2, c2, h0, h1, h2, o1.onl hg (o1.ne_blk hL ht5), r1, o2.onl hg (o2.ne_blk hL ht5), r2⟩
theorem TrM.row (h : TrM w base e A n c l k us) (hn : 0 < n) : ∃ g cs, A = some ⟨g, 0, none⟩ ∧ base ≤ g ∧ g < w.heap.size ∧ w.heap[g]? = some (.cells cs e (0, 0)) ∧ ∀ j u, k * 3 ≤ j → us[j]? = some u → w.cell? ⟨g, j, none⟩ = some u := by
  obtain ⟨hl, vs, ho, hv, he⟩ := h
  obtain ⟨g, rfl, h1, h2, h3⟩ := ho.cells hn
  have h4 : ∃ cs, w.heap[g]? = some (.cells cs e (0, 0)) := by
    rcases ho.2 with ⟨hv, _⟩ | ⟨g2, cap, cur, hv, _, hh, _⟩
    · cases hv
    · have : g = g2 := by injection hv with hv; injection hv with hv; injection hv
      subst this
      exact ⟨cur, hh⟩
  obtain ⟨cs, h4⟩ := h4
  exact ⟨g, cs, rfl, h1, h2, h4, fun j u hj hu => h3 j u ((hv j hj).trans hu)⟩
theorem TrM.step {g o : Nat} {t : Tr} {A1 A2 : Option Addr} {n1 c1 n2 c2 : Nat} (h : TrM w base e (some ⟨g, o, none⟩) n c l k us) (h0 : o = 0) (he5 : e ≠ 5) (ht : l[k]? = some t) (e1 : t.a.length = n1) (e2 : t.b.length = n2) (o1 : Own w base 5 A1 n1 c1 (By t.a)) (r1 : Ran t.a) (o2 : Own w base 5 A2 n2 c2 (By t.b)) (r2 : Ran t.b) (hd : blk A1 = none ∨ blk A1 ≠ blk A2) (hu : us[k * 3 + 2]? = some (.bool t.f)) :
    TrM ((w.setCell ⟨g, o + k * 3, none⟩ (.slice A1 n1 c1)).setCell ⟨g, o + k * 3 + 1, none⟩ (.slice A2 n2 c2)) base e (some ⟨g, o, none⟩) n c l (k + 1) us := by
  subst h0 e1 e2
  rw [Nat.zero_add]
  obtain ⟨hl, vs, ho, hv, he⟩ := h
  have hkn : k < n := by have := (List.getElem?_eq_some_iff.1 ht).1; omega
  have hvl := ho.len
  have s1 := (World.ownsRow.stored ho (k * 3) (.slice A1 t.a.length c1)).1
  have s2 := (World.ownsRow.stored s1 (k * 3 + 1) (.slice A2 t.b.length c2)).1
  have hh : ∃ cs, w.heap[g]? = some (.cells cs e (0, 0)) := by
    rcases ho.2 with ⟨hv, _⟩ | ⟨g2, cap, cur, hv, _, hh, _⟩
    · cases hv
    · have : g = g2 := by injection hv with hv; injection hv with hv; injection hv
      subst this
      exact ⟨cur, hh⟩
  obtain ⟨cs, hh⟩ := hh
  have hon : Onl g w ((w.setCell ⟨g, k * 3, none⟩ (.slice A1 t.a.length c1)).setCell ⟨g, k * 3 + 1, none⟩ (.slice A2 t.b.length c2)) := (onl_set w g (k * 3) _).trans (onl_set _ g (k * 3 + 1) _)
  have keepO : ∀ {A3 : Option Addr} {n3 c3 : Nat} {xs : List Value}, Own w base 5 A3 n3 c3 xs → Own ((w.setCell ⟨g, k * 3, none⟩ (.slice A1 t.a.length c1)).setCell ⟨g, k * 3 + 1, none⟩ (.slice A2 t.b.length c2)) base 5 A3 n3 c3 xs := fun h3 => h3.onl hon (h3.ne_blk hh he5)
  refine ⟨hl, _, s2, fun j hj => ?_, fun i u hi hx => ?_⟩
  · rw [List.getElem?_set_ne (by omega), List.getElem?_set_ne (by omega)]
    exact hv j (by omega)
  · by_cases hik : i < k
    · obtain ⟨B1, d1, B2, d2, h0, h1, h2, p1, q1, p2, q2⟩ := he i u hik hx
      refine ⟨B1, d1, B2, d2, ?_, ?_, ?_, keepO p1, q1, keepO p2, q2⟩
      · rw [List.getElem?_set_ne (by omega), List.getElem?_set_ne (by omega)]; exact h0
      · rw [List.getElem?_set_ne (by omega), List.getElem?_set_ne (by omega)]; exact h1
      · rw [List.getElem?_set_ne (by omega), List.getElem?_set_ne (by omega)]; exact h2
    · obtain rfl : i = k := by omega
      rw [ht] at hx
      injection hx with hx
      subst hx
      refine ⟨A1, c1, A2, c2, ?_, ?_, ?_, keepO o1, r1, keepO o2, r2, hd⟩
      · rw [List.getElem?_set_ne (by omega), List.getElem?_set_self (by omega)]
      · rw [List.getElem?_set_self (by rw [List.length_set]; omega)]
      · rw [List.getElem?_set_ne (by omega), List.getElem?_set_ne (by omega), hv _ (by omega)]; exact hu
end
/-- All texts of a row are older than a mark. -/
def TxLt (w : World) (A : Option Addr) (n mid : Nat) : Prop := ∀ g off, A = some ⟨g, off, none⟩ → ∀ j, j < n * 3 → ∀ B m d, w.cell? ⟨g, off + j, none⟩ = some (.slice B m d) → ∀ b, blk B = some b → b < mid
theorem TrO.txLt {w : World} {base : Nat} {e : TypeId} {A : Option Addr} {n c : Nat} {l : List Tr} (h : TrO w base e A n c l) : TxLt w A n w.heap.size := by
  obtain ⟨hl, vs, ho, he⟩ := h
  intro g off hA j hj B m d hc b hb
  obtain ⟨g2, hA2, _, _, hcell⟩ := ho.cells (by omega)
  rw [hA] at hA2
  injection hA2 with hA2
  injection hA2 with e1 e2
  subst e1 e2
  rw [Nat.zero_add] at hc
  have hjl : j < vs.length := by rw [ho.len]; exact hj
  have h1 := hcell j _ (List.getElem?_eq_getElem hjl)
  rw [hc] at h1
  injection h1 with h1
  have hv : vs[j]? = some (.slice B m d) := by rw [List.getElem?_eq_getElem hjl, ← h1]
  obtain ⟨A1, c1, A2, c2, h0, h1, h2, o1, r1, o2, r2⟩ := he (j / 3) _ (List.getElem?_eq_getElem (show j / 3 < l.length by omega))
  have h3 : j % 3 = 0 ∨ j % 3 = 1 ∨ j % 3 = 2 := by omega
  rcases h3 with h3 | h3 | h3
  · rw [show j / 3 * 3 = j by omega, hv] at h0
    injection h0 with h0
    injection h0 with e1
    subst e1
    exact (o1.lies b hb).2
  · rw [show j / 3 * 3 + 1 = j by omega, hv] at h1
    injection h1 with h1
    injection h1 with e1
    subst e1
    exact (o2.lies b hb).2
  · rw [show j / 3 * 3 + 2 = j by omega, hv] at h2
    injection h2 with h2
    cases h2
/-- The row's block stays. -/
theorem TxLt.keep {w w' : World} {A : Option Addr} {n mid : Nat} (h : TxLt w A n mid) (hb : ∀ k, blk A = some k → w'.heap[k]? = w.heap[k]?) : TxLt w' A n mid := by
  intro g off hA j hj B m d hc
  refine h g off hA j hj B m d ?_
  rw [← hc]
  exact (World.cell?_of_block (a := ⟨g, off + j, none⟩) (hb g (by rw [hA]; rfl))).symm
/-- The first row, done: its texts are older than a mark. -/
structure TW (w : World) (mid : Nat) (A : Option Addr) (n c : Nat) (l : List Tr) (W : World) : Prop where
  tr : TrO W w.heap.size 61 A n c l
  lt : TxLt W A n mid
  le : mid ≤ W.heap.size
section
variable {w W W' : World} {mid n c : Nat} {A : Option Addr} {l : List Tr}
theorem TW.keep (h : TW w mid A n c l W) (hb : Below W.heap.size W W') : TW w mid A n c l W' :=
  ⟨h.tr.ef (ex := []) (g := 0) (base := 0) (Ef.of_below hb (Nat.zero_le _)) (by simp) (by simp), h.lt.keep (fun k hk => by obtain ⟨_, vs, ho, _⟩ := h.tr; exact hb.block k (ho.lies k hk).2), Nat.le_trans h.le hb.size⟩
theorem TW.set {g : Nat} {t : TypeId} {cs : Array Value} {fr : Nat × Nat} (h : TW w mid A n c l W) (hg : Onl g W W') (hL : W.heap[g]? = some (.cells cs t fr)) (ht : t ≠ 61) (ht5 : t ≠ 5) : TW w mid A n c l W' :=
  ⟨h.tr.ef (ex := [t]) (g := g) (base := 0) (Ef.of_onl hg (Nat.zero_le _) hL (by simp)) (by simpa using fun e => ht e.symm) (by simpa using fun e => ht5 e.symm), h.lt.keep (fun k hk => by obtain ⟨_, vs, ho, _⟩ := h.tr; exact hg.block k (ho.lies k hk).2 (fun e => ho.ne_blk hL ht (by rw [hk, e]))), Nat.le_trans h.le hg.size⟩
end
/-- The state of twin. -/
structure TS (w : World) (V : Array Value) (W : World) : Prop where
  bx : W.heap[w.heap.size]? = some (.cells V 32 (0, 0))
  rs : W.heap[w.heap.size + 1]? = some (.cells zeroV 32 (0, 0))
  hb : Below w.heap.size w W
section
variable {w W W' : World} {V V' : Array Value}
theorem TS.keep (h : TS w V W) (hb : Below W.heap.size W W') : TS w V W' :=
  ⟨(hb.block _ (lt_of_heap h.bx)).trans h.bx, (hb.block _ (lt_of_heap h.rs)).trans h.rs, h.hb.trans (hb.mono h.hb.size)⟩
theorem TS.set (j : Nat) (v : Value) (h : TS w V W) (hv : V.setIfInBounds j v = V') : TS w V' (W.setCell ⟨w.heap.size, j, none⟩ v) :=
  ⟨rc_set j v h.bx hv, (set_other W w.heap.size j v (by omega)).trans h.rs, h.hb.setCell (by simp) _⟩
theorem TS.onl {g : Nat} {cs : Array Value} {t : TypeId} (h : TS w V W) (ho : Onl g W W') (hg : W.heap[g]? = some (.cells cs t (0, 0))) (ht : t ≠ 32) (hgw : w.heap.size ≤ g) : TS w V W' :=
  ⟨(ho.block _ (lt_of_heap h.bx) (fun e => ne_of_type h.bx hg (fun e => ht e.symm) (by injection e))).trans h.bx, (ho.block _ (lt_of_heap h.rs) (fun e => ne_of_type h.rs hg (fun e => ht e.symm) (by injection e))).trans h.rs, h.hb.trans ((ho.below (Nat.le_of_lt (lt_of_heap hg))).mono hgw)⟩
end
theorem own_sh (w : World) (V : Array Value) : ((w.alloc (.cells V 32)).alloc (.cells zeroV 32)).heap.size = w.heap.size + 2 := by simp
theorem trsBd (l : List Tr) (m : Nat) (h : (trs l).length ≤ m) : ∀ t ∈ l, t.a.length ≤ m ∧ t.b.length ≤ m := by
  intro t ht
  obtain ⟨_, h2⟩ := joinL_bd (trP l)
  have h3 : (joinL (trP l)).length ≤ m := h
  have ha : t.a ∈ trP l := by unfold trP; exact List.mem_flatten.2 ⟨_, List.mem_map.2 ⟨t, ht, rfl⟩, by simp⟩
  have hb : t.b ∈ trP l := by unfold trP; exact List.mem_flatten.2 ⟨_, List.mem_map.2 ⟨t, ht, rfl⟩, by simp⟩
  exact ⟨Nat.le_trans (h2 _ ha) h3, Nat.le_trans (h2 _ hb) h3⟩
theorem cell_keep {w W : World} {b o : Nat} {u : Value} (hb : Below w.heap.size w W) (h : w.cell? ⟨b, o, none⟩ = some u) : W.cell? ⟨b, o, none⟩ = some u := by
  by_cases hlt : b < w.heap.size
  · rw [hb.cell (p := ⟨b, o, none⟩) hlt]; exact h
  · exfalso
    have h0 : w.heap[b]? = none := Array.getElem?_eq_none (by omega)
    simp [World.cell?, h0] at h
set_option maxRecDepth 100000 in
set_option maxHeartbeats 16000000 in
theorem twin_any (k b s q : Int) (f : Bool) (i : Int) (S : ByteArray) (AW : Option Addr) (nW cW : Nat) (AR : Option Addr) (nR cR : Nat) (AS : Option Addr) (nS cS : Nat) (AP : Option Addr) (nP cP : Nat) (ws rs : List Tr) (sh rp : List Int) (w : World)
    (hw : Trs w AW nW ws) (hr : Trs w AR nR rs) (hs : Ins w AS nS sh) (hp : Bs w AP nP rp) (sW : Shp AW nW) (sR : Shp AR nR) (sS : Shp AS nS) (bW : nW ≤ 10000000) (bR : nR ≤ 10000000) (bS : nS ≤ 10000000) (bP : nP ≤ 140737488355328)
    (tW : (trs ws).length ≤ 140737488355328) (tR : (trs rs).length ≤ 140737488355328) :
    Calls Try.prog 71 #[.agg (rcV k b s q AW nW cW AR nR cR f AS nS cS AP nP cP i S)] w fun e w' => ∃ A6 c6 A7 c7 A9 c9 A12 c12 mid, e = .returned (.agg (rcV k b s q A6 nW c6 A7 nR c7 f A9 nS c9 A12 nP c12 i S)) ∧ TrO w' w.heap.size 61 A6 nW c6 ws ∧ TrO w' w.heap.size 99 A7 nR c7 rs ∧ Own w' w.heap.size 3 A9 nS c9 (sh.map (Value.int .i64)) ∧ Own w' w.heap.size 5 A12 nP c12 (By rp) ∧ TxLt w' A6 nW mid ∧ (∀ j, blk A12 = some j → mid ≤ j) ∧ Below w.heap.size w w' := by
  obtain ⟨uw, lw, cw, nw, ow, US1'⟩ := hw.flat sW
  obtain ⟨ur, lr, cr, nr, or_, US2'⟩ := hr.flat sR
  have US1 := Lib.hid US1'; have US2 := Lib.hid US2'
  have HCW := Lib.hid cw; have HCR := Lib.hid cr
  have HLW := Lib.hid lw; have HLR := Lib.hid lr
  have HNW := Lib.hid nw; have HNR := Lib.hid nr
  have HOW := Lib.hid ow; have HOR := Lib.hid or_
  have HL1 := Lib.hid hw.1; have HL2 := Lib.hid hr.1
  have HSH := Lib.hid hs; have HRP := Lib.hid hp; have HSS := Lib.hid sS
  have HBW := Lib.hid (trsBd ws _ tW); have HBR := Lib.hid (trsBd rs _ tR)
  have hsz : (w.alloc (.cells (rcV k b s q AW nW cW AR nR cR f AS nS cS AP nP cP i S) 32)).heap.size = w.heap.size + 1 := by simp
  have hb1 := below_alloc w (.cells (rcV k b s q AW nW cW AR nR cR f AS nS cS AP nP cP i S) 32)
  have hb2 := below_alloc (w.alloc (.cells (rcV k b s q AW nW cW AR nR cR f AS nS cS AP nP cP i S) 32)) (.cells zeroV 32)
  have hr2 := heap_alloc_new (w.alloc (.cells (rcV k b s q AW nW cW AR nR cR f AS nS cS AP nP cP i S) 32)) (.cells zeroV 32)
  rw [hsz] at hr2
  have HS0 : Hid (TS w (rcV k b s q AW nW cW AR nR cR f AS nS cS AP nP cP i S) ((w.alloc (.cells (rcV k b s q AW nW cW AR nR cR f AS nS cS AP nP cP i S) 32)).alloc (.cells zeroV 32))) := ⟨(hb2.block w.heap.size (by omega)).trans (heap_alloc_new w (.cells (rcV k b s q AW nW cW AR nR cR f AS nS cS AP nP cP i S) 32)), hr2, hb1.trans (hb2.mono (by omega))⟩
  have HSZ := Lib.hid (own_sh w (rcV k b s q AW nW cW AR nR cR f AS nS cS AP nP cP i S))
  clear US1' US2' cw cr lw lr nw nr ow or_ hw hr hs hp sW sR sS tW tR hsz hb1 hb2 hr2
  have l0 := rc_cell 4 (.slice AW nW cW) HS0.out.bx rfl
  go_enter Try.func71, Try.ntmps71
  go_wp2_with fail
  generalize ((w.alloc (.cells (rcV k b s q AW nW cW AR nR cR f AS nS cS AP nP cP i S) 32)).alloc (.cells zeroV 32)) = x0 at *
  refine (clone_w AW nW cW uw x0 HLW.out (fun hne => ?_) HNW.out HOW.out (by omega)).mono ?_
  · obtain ⟨b9, o9, h1, h2⟩ := HCW.out hne
    exact ⟨b9, o9, h1, fun j u hu => cell_keep HS0.out.hb (h2 j u hu)⟩
  rintro e w1 ⟨A6, c6, rfl, ho6, hb6⟩
  have HS1 := Lib.hid (HS0.out.keep hb6)
  have l1 := rc_cell 4 (.slice AW nW cW) HS1.out.bx rfl
  have f1 := two_frozen (i := 4) HS1.out.bx
  have HT0 : Hid (TS w (rcV k b s q A6 nW c6 AR nR cR f AS nS cS AP nP cP i S) (w1.setCell ⟨w.heap.size, 4, none⟩ (.slice A6 nW c6))) := HS1.out.set 4 _ rfl
  have HM0 : Hid (TrM (w1.setCell ⟨w.heap.size, 4, none⟩ (.slice A6 nW c6)) w.heap.size 61 A6 nW c6 ws 0 uw) := (TrM.start HL1.out (ho6.mono HS0.out.hb.size)).set (onl_set w1 w.heap.size 4 _) HS1.out.bx (by decide) (by decide)
  have l2 := rc_cell 4 (.slice A6 nW c6) HT0.out.bx rfl
  clear l0 ho6 hb6
  go_wp2
  clear l1 f1 l2
  generalize w1.setCell ⟨w.heap.size, 4, none⟩ (.slice A6 nW c6) = y1 at *

  go_loopw [14] (fun iv wr => ∃ kk : Nat, iv = .int .i64 kk ∧ kk ≤ nW ∧ TrM wr w.heap.size 61 A6 nW c6 ws kk uw ∧ Hid (TS w (rcV k b s q A6 nW c6 AR nR cR f AS nS cS AP nP cP i S) wr)) (fun iv _ => nW - (intOf iv).toNat)
  case atStart => exact ⟨0, rfl, Nat.zero_le _, HM0.out, HT0⟩
  case round =>
    clear HM0 HT0
    obtain ⟨kk, rfl, hk, hM, HTS⟩ := hrel
    by_cases hlt : kk < nW
    · obtain ⟨g6, cs6, hA6, hg6b, hg6l, hg6, hcl⟩ := hM.row (by omega)
      obtain ⟨o6, HO6⟩ : ∃ o6 : Nat, Hid (o6 = 0) := ⟨0, rfl⟩
      have hA6' : A6 = some ⟨g6, o6, none⟩ := by rw [hA6, HO6.out]
      obtain ⟨t, ht⟩ : ∃ t, ws[kk]? = some t := ⟨_, List.getElem?_eq_getElem (by have := hM.1; omega)⟩
      obtain ⟨A1, c1, A2, c2, u0, u1, u2, b1, b2⟩ := US1.out kk t ht
      obtain ⟨n1, HN1⟩ : ∃ n1, Hid (t.a.length = n1) := ⟨_, rfl⟩
      obtain ⟨n2, HN2⟩ : ∃ n2, Hid (t.b.length = n2) := ⟨_, rfl⟩
      obtain ⟨tf, HTF⟩ : ∃ tf, Hid (t.f = tf) := ⟨_, rfl⟩
      rw [HN1.out] at u0 b1; rw [HN2.out] at u1 b2
      have hc0 : wr.cell? ⟨g6, o6 + kk * 3, none⟩ = some (.slice A1 n1 c1) := by rw [HO6.out, Nat.zero_add]; exact hcl _ _ (Nat.le_refl _) u0
      have hc1 : wr.cell? ⟨g6, o6 + kk * 3 + 1, none⟩ = some (.slice A2 n2 c2) := by rw [HO6.out, Nat.zero_add]; exact hcl _ _ (by omega) u1
      have hc2 : wr.cell? ⟨g6, o6 + kk * 3 + 2, none⟩ = some (.bool tf) := by rw [HO6.out, Nat.zero_add, ← HTF.out]; exact hcl _ _ (by omega) u2
      have K0 := Lib.hid (show cs6[o6 + kk * 3]? = some (.slice A1 n1 c1) by rw [← cell_of_row wr g6 (o6 + kk * 3) cs6 61 (0, 0) hg6]; exact hc0)
      have K1 := Lib.hid (show cs6[o6 + kk * 3 + 1]? = some (.slice A2 n2 c2) by rw [← cell_of_row wr g6 (o6 + kk * 3 + 1) cs6 61 (0, 0) hg6]; exact hc1)
      have hbd := HBW.out t (List.mem_of_getElem? ht)
      have hm1 : n1 ≤ 140737488355328 := by rw [← HN1.out]; exact hbd.1
      have hm2 : n2 ≤ 140737488355328 := by rw [← HN2.out]; exact hbd.2
      have z0 : (0 : Int) ≤ (kk : Int) := by omega
      have z1 : (kk : Int) < (nW : Int) := by omega
      have hbt := below_alloc wr (.cells #[.slice A1 n1 c1, .slice A2 n2 c2, .bool tf] 61)
      have hysz : (wr.alloc (.cells #[.slice A1 n1 c1, .slice A2 n2 c2, .bool tf] 61)).heap.size = wr.heap.size + 1 := by simp
      have T5 := Lib.hid (heap_alloc_new wr (.cells #[.slice A1 n1 c1, .slice A2 n2 c2, .bool tf] 61))
      have HU2 := Lib.hid u2; have HT := Lib.hid ht
      have HM := Lib.hid (hM.keep hbt)
      have HTSy := Lib.hid (HTS.out.keep hbt)
      have HG6 := Lib.hid ((hbt.block g6 hg6l).trans hg6)
      have HB1 := Lib.hid ((b1.keep HTS.out.hb).keep hbt); have HB2 := Lib.hid ((b2.keep HTS.out.hb).keep hbt)
      have HG6b := Lib.hid hg6b; have HG6l := Lib.hid hg6l
      have HA6 := Lib.hid hA6'
      rw [hA6'] at HM HTSy ⊢
      clear hA6 hA6' hg6 hcl ht u0 u1 u2 b1 b2 hbd hM HTS hg6b hg6l hbt
      go_wp2_with fail
      generalize wr.alloc (.cells #[.slice A1 n1 c1, .slice A2 n2 c2, .bool tf] 61) = y at *
      have HTSd : Hid (TS w (rcV k b s q (some ⟨g6, o6, none⟩) nW c6 AR nR cR f AS nS cS AP nP cP i S) y.drew) := Lib.hid (HTSy.out.keep ((Dr.refl y).one.below _))
      have HMd := Lib.hid (HM.out.keep ((Dr.refl y).one.below _))
      have T5d : Hid (y.drew.heap[wr.heap.size]? = some (.cells #[.slice A1 n1 c1, .slice A2 n2 c2, .bool tf] 61 (0, 0))) := T5
      have G6d : Hid (y.drew.heap[g6]? = some (.cells cs6 61 (0, 0))) := HG6
      have BLd : Hid (Below y.heap.size y y.drew) := Lib.hid ((Dr.refl y).one.below _)
      have hysz' : y.drew.heap.size = wr.heap.size + 1 := hysz
      have q0 := rc_cell 4 (.slice (some ⟨g6, o6, none⟩) nW c6) HTSd.out.bx rfl
      have q1 := rc_cell 0 (.slice A1 n1 c1) T5d.out rfl
      have q2 := rc_cell 1 (.slice A2 n2 c2) T5d.out rfl
      have HSW := Lib.hid HTSd.out.hb.size
      have tok1 : True := trivial
      go_region_held3 (fun w' => w'.cell? ⟨w.heap.size, 4, none⟩ = some (.slice (some ⟨g6, o6, none⟩) nW c6) ∧ w'.cell? ⟨wr.heap.size, 0, none⟩ = some (.slice A1 n1 c1) ∧ w'.cell? ⟨wr.heap.size, 1, none⟩ = some (.slice A2 n2 c2)) (first | exact ⟨v0, v1, v2⟩ | exact ⟨s0, s1, s2⟩ | exact ⟨r0, r1, r2⟩ | exact ⟨p0, p1, p2⟩ | exact ⟨q0, q1, q2⟩) (first | (have _tk := tok1; go_at_call 94; refine (clone_any A1 n1 c1 t.a _ (HB1.out.keep BLd.out) hm1).mono ?_; rintro e x2 ⟨D1, d1, rfl, hP1, hp2⟩; clear tok1; have HTSp := Lib.hid (HTSd.out.keep hp2); have HMp := Lib.hid (HMd.out.keep hp2); have T5p := Lib.hid ((hp2.block _ (lt_of_heap T5d.out)).trans T5d.out); have G6p := Lib.hid ((hp2.block _ (lt_of_heap G6d.out)).trans G6d.out); have BLp := Lib.hid (BLd.out.trans (hp2.mono BLd.out.size)); have HP1 := Lib.hid hP1; have HSP := Lib.hid hp2.size; have p0 := rc_cell 4 (.slice (some ⟨g6, o6, none⟩) nW c6) HTSp.out.bx rfl; have p1 := rc_cell 0 (.slice A1 n1 c1) T5p.out rfl; have p2 := rc_cell 1 (.slice A2 n2 c2) T5p.out rfl; clear hP1 hp2) | (go_at_call 94; refine (clone_any A2 n2 c2 t.b _ (HB2.out.keep BLp.out) hm2).mono ?_; rintro e x3 ⟨D2, d2, rfl, hP2, hp3⟩; have HTSq := Lib.hid (HTSp.out.keep hp3); have HMq := Lib.hid (HMp.out.keep hp3); have T5q := Lib.hid ((hp3.block _ (lt_of_heap T5p.out)).trans T5p.out); have G6q := Lib.hid ((hp3.block _ (lt_of_heap G6p.out)).trans G6p.out); have HDS := Lib.hid (dist_new HP1.out hP2); have HP1q := Lib.hid ((HP1.out.mono (b := w.heap.size) HSW.out).below hp3 (fun k hk => (HP1.out.lies k hk).2)); have HP2q := Lib.hid (hP2.mono (b := w.heap.size) (Nat.le_trans HSW.out HSP.out)); have r0 := rc_cell 4 (.slice (some ⟨g6, o6, none⟩) nW c6) HTSq.out.bx rfl; have r1 := rc_cell 0 (.slice A1 n1 c1) T5q.out rfl; have r2 := rc_cell 1 (.slice A2 n2 c2) T5q.out rfl; have y0 := rc_cell (o6 + kk * 3) _ G6q.out K0.out; have y1 := rc_cell (o6 + kk * 3 + 1) _ G6q.out K1.out; have z3 := two_frozen (i := o6 + kk * 3) G6q.out; have z4 := two_frozen (i := o6 + kk * 3 + 1) G6q.out; have G6r := Lib.hid (rc_set (o6 + kk * 3) (.slice D1 n1 d1) G6q.out rfl); have y2 := rc_cell (o6 + kk * 3 + 1) (.slice A2 n2 c2) G6r.out (by rw [Array.getElem?_setIfInBounds_ne (by omega)]; exact K1.out); have z5 := two_frozen (i := o6 + kk * 3 + 1) G6r.out; have T5s := Lib.hid ((set_other x3 g6 (o6 + kk * 3) (.slice D1 n1 d1) (Nat.ne_of_gt HG6l.out)).trans T5q.out); have BXs := Lib.hid ((set_other x3 g6 (o6 + kk * 3) (.slice D1 n1 d1) (ne_of_type HTSq.out.bx G6q.out (by decide))).trans HTSq.out.bx); have T5t := Lib.hid ((set_other _ g6 (o6 + kk * 3 + 1) (.slice D2 n2 d2) (Nat.ne_of_gt HG6l.out)).trans T5s.out); have BXt := Lib.hid ((set_other _ g6 (o6 + kk * 3 + 1) (.slice D2 n2 d2) (ne_of_type HTSq.out.bx G6q.out (by decide))).trans BXs.out); have s0 := rc_cell 4 (.slice (some ⟨g6, o6, none⟩) nW c6) BXs.out rfl; have s1 := rc_cell 0 (.slice A1 n1 c1) T5s.out rfl; have s2 := rc_cell 1 (.slice A2 n2 c2) T5s.out rfl; have v0 := rc_cell 4 (.slice (some ⟨g6, o6, none⟩) nW c6) BXt.out rfl; have v1 := rc_cell 0 (.slice A1 n1 c1) T5t.out rfl; have v2 := rc_cell 1 (.slice A2 n2 c2) T5t.out rfl; clear hP2 hp3))
      have HON := Lib.hid ((onl_set x3 g6 (o6 + kk * 3) (.slice D1 n1 d1)).trans (onl_set _ g6 (o6 + kk * 3 + 1) (.slice D2 n2 d2)))
      have HTSn := Lib.hid (HTSq.out.onl HON.out G6q.out (by decide) HG6b.out)
      have HMn := Lib.hid (HMq.out.step HO6.out (by decide) HT.out HN1.out HN2.out HP1q.out HB1.out.2 HP2q.out HB2.out.2 HDS.out HU2.out)
      clear s0 s1 s2 v0 v1 v2 r0 r1 r2 y0 y1 y2 z3 z4 z5
      go_wp2
      go_roundw
      case rel => exact ⟨kk + 1, by go_num, by omega, HMn.out, HTSn⟩
      case measure => simp [intOf]; omega
    · obtain rfl : nW = kk := by omega
      clear hlt
      obtain ⟨wa, HWA⟩ : ∃ wa, wa = wr := ⟨wr, rfl⟩
      subst HWA
      obtain ⟨mid, HMID⟩ : ∃ mid, Hid (wa.heap.size = mid) := ⟨_, rfl⟩
      have HEa : Hid (TW w mid A6 nW c6 ws wa) := Lib.hid ⟨hM.done, by rw [← HMID.out]; exact hM.done.txLt, by rw [HMID.out]; exact Nat.le_refl _⟩
      have k0 := rc_cell 5 (.slice AR nR cR) HTS.out.bx rfl
      clear hM
      go_wp2_with fail
      refine (clone_r AR nR cR ur wa HLR.out (fun hne => ?_) HNR.out HOR.out (by omega)).mono ?_
      · obtain ⟨b9, o9, h1, h2⟩ := HCR.out hne
        exact ⟨b9, o9, h1, fun j u hu => cell_keep HTS.out.hb (h2 j u hu)⟩
      rintro e w2 ⟨A7, c7, rfl, ho7, hb7⟩
      have HS2 := Lib.hid (HTS.out.keep hb7)
      have k1 := rc_cell 5 (.slice AR nR cR) HS2.out.bx rfl
      have f2 := two_frozen (i := 5) HS2.out.bx
      have HT0 : Hid (TS w (rcV k b s q A6 nW c6 A7 nR c7 f AS nS cS AP nP cP i S) (w2.setCell ⟨w.heap.size, 5, none⟩ (.slice A7 nR c7))) := HS2.out.set 5 _ rfl
      have HM0 : Hid (TrM (w2.setCell ⟨w.heap.size, 5, none⟩ (.slice A7 nR c7)) w.heap.size 99 A7 nR c7 rs 0 ur) := (TrM.start HL2.out (ho7.mono HTS.out.hb.size)).set (onl_set w2 w.heap.size 5 _) HS2.out.bx (by decide) (by decide)
      have HE0 := Lib.hid ((HEa.out.keep hb7).set (onl_set w2 w.heap.size 5 (.slice A7 nR c7)) HS2.out.bx (by decide) (by decide))
      have k2 := rc_cell 5 (.slice A7 nR c7) HT0.out.bx rfl
      clear k0 ho7 hb7 HS2 HEa HTS
      go_wp2
      clear k1 f2 k2
      generalize w2.setCell ⟨w.heap.size, 5, none⟩ (.slice A7 nR c7) = y2 at *
      have HEW0 := HE0
      go_loopw [43] (fun iv wr => ∃ kk : Nat, iv = .int .i64 kk ∧ kk ≤ nR ∧ TrM wr w.heap.size 99 A7 nR c7 rs kk ur ∧ Hid (TS w (rcV k b s q A6 nW c6 A7 nR c7 f AS nS cS AP nP cP i S) wr) ∧ Hid (TW w mid A6 nW c6 ws wr)) (fun iv _ => nR - (intOf iv).toNat)
      case atStart => exact ⟨0, rfl, Nat.zero_le _, HM0.out, HT0, HEW0⟩
      case round =>
        clear HM0 HT0 HEW0
        obtain ⟨kk, rfl, hk, hM, HTS, HEW⟩ := hrel
        by_cases hlt : kk < nR
        · obtain ⟨g6, cs6, hA6, hg6b, hg6l, hg6, hcl⟩ := hM.row (by omega)
          obtain ⟨o6, HO6⟩ : ∃ o6 : Nat, Hid (o6 = 0) := ⟨0, rfl⟩
          have hA6' : A7 = some ⟨g6, o6, none⟩ := by rw [hA6, HO6.out]
          obtain ⟨t, ht⟩ : ∃ t, rs[kk]? = some t := ⟨_, List.getElem?_eq_getElem (by have := hM.1; omega)⟩
          obtain ⟨A1, c1, A2, c2, u0, u1, u2, b1, b2⟩ := US2.out kk t ht
          obtain ⟨n1, HN1⟩ : ∃ n1, Hid (t.a.length = n1) := ⟨_, rfl⟩
          obtain ⟨n2, HN2⟩ : ∃ n2, Hid (t.b.length = n2) := ⟨_, rfl⟩
          obtain ⟨tf, HTF⟩ : ∃ tf, Hid (t.f = tf) := ⟨_, rfl⟩
          rw [HN1.out] at u0 b1; rw [HN2.out] at u1 b2
          have hc0 : wr.cell? ⟨g6, o6 + kk * 3, none⟩ = some (.slice A1 n1 c1) := by rw [HO6.out, Nat.zero_add]; exact hcl _ _ (Nat.le_refl _) u0
          have hc1 : wr.cell? ⟨g6, o6 + kk * 3 + 1, none⟩ = some (.slice A2 n2 c2) := by rw [HO6.out, Nat.zero_add]; exact hcl _ _ (by omega) u1
          have hc2 : wr.cell? ⟨g6, o6 + kk * 3 + 2, none⟩ = some (.bool tf) := by rw [HO6.out, Nat.zero_add, ← HTF.out]; exact hcl _ _ (by omega) u2
          have K0 := Lib.hid (show cs6[o6 + kk * 3]? = some (.slice A1 n1 c1) by rw [← cell_of_row wr g6 (o6 + kk * 3) cs6 99 (0, 0) hg6]; exact hc0)
          have K1 := Lib.hid (show cs6[o6 + kk * 3 + 1]? = some (.slice A2 n2 c2) by rw [← cell_of_row wr g6 (o6 + kk * 3 + 1) cs6 99 (0, 0) hg6]; exact hc1)
          have hbd := HBR.out t (List.mem_of_getElem? ht)
          have hm1 : n1 ≤ 140737488355328 := by rw [← HN1.out]; exact hbd.1
          have hm2 : n2 ≤ 140737488355328 := by rw [← HN2.out]; exact hbd.2
          have z0 : (0 : Int) ≤ (kk : Int) := by omega
          have z1 : (kk : Int) < (nR : Int) := by omega
          have hbt := below_alloc wr (.cells #[.slice A1 n1 c1, .slice A2 n2 c2, .bool tf] 99)
          have hysz : (wr.alloc (.cells #[.slice A1 n1 c1, .slice A2 n2 c2, .bool tf] 99)).heap.size = wr.heap.size + 1 := by simp
          have T5 := Lib.hid (heap_alloc_new wr (.cells #[.slice A1 n1 c1, .slice A2 n2 c2, .bool tf] 99))
          have HU2 := Lib.hid u2; have HT := Lib.hid ht
          have HM := Lib.hid (hM.keep hbt)
          have HTSy := Lib.hid (HTS.out.keep hbt)
          have HEWy := Lib.hid (HEW.out.keep hbt)
          have HG6 := Lib.hid ((hbt.block g6 hg6l).trans hg6)
          have HB1 := Lib.hid ((b1.keep HTS.out.hb).keep hbt); have HB2 := Lib.hid ((b2.keep HTS.out.hb).keep hbt)
          have HG6b := Lib.hid hg6b; have HG6l := Lib.hid hg6l
          have HA6 := Lib.hid hA6'
          rw [hA6'] at HM HTSy ⊢
          clear hA6 hA6' hg6 hcl ht u0 u1 u2 b1 b2 hbd hM HTS hg6b hg6l hbt HEW
          go_wp2_with fail
          generalize wr.alloc (.cells #[.slice A1 n1 c1, .slice A2 n2 c2, .bool tf] 99) = y at *
          have HTSd : Hid (TS w (rcV k b s q A6 nW c6 (some ⟨g6, o6, none⟩) nR c7 f AS nS cS AP nP cP i S) y.drew) := Lib.hid (HTSy.out.keep ((Dr.refl y).one.below _))
          have HMd := Lib.hid (HM.out.keep ((Dr.refl y).one.below _))
          have HEWd := Lib.hid (HEWy.out.keep ((Dr.refl y).one.below _))
          have T5d : Hid (y.drew.heap[wr.heap.size]? = some (.cells #[.slice A1 n1 c1, .slice A2 n2 c2, .bool tf] 99 (0, 0))) := T5
          have G6d : Hid (y.drew.heap[g6]? = some (.cells cs6 99 (0, 0))) := HG6
          have BLd : Hid (Below y.heap.size y y.drew) := Lib.hid ((Dr.refl y).one.below _)
          have hysz' : y.drew.heap.size = wr.heap.size + 1 := hysz
          have q0 := rc_cell 5 (.slice (some ⟨g6, o6, none⟩) nR c7) HTSd.out.bx rfl
          have q1 := rc_cell 0 (.slice A1 n1 c1) T5d.out rfl
          have q2 := rc_cell 1 (.slice A2 n2 c2) T5d.out rfl
          have HSW := Lib.hid HTSd.out.hb.size
          have tok1 : True := trivial
          go_region_held3 (fun w' => w'.cell? ⟨w.heap.size, 5, none⟩ = some (.slice (some ⟨g6, o6, none⟩) nR c7) ∧ w'.cell? ⟨wr.heap.size, 0, none⟩ = some (.slice A1 n1 c1) ∧ w'.cell? ⟨wr.heap.size, 1, none⟩ = some (.slice A2 n2 c2)) (first | exact ⟨v0, v1, v2⟩ | exact ⟨s0, s1, s2⟩ | exact ⟨r0, r1, r2⟩ | exact ⟨p0, p1, p2⟩ | exact ⟨q0, q1, q2⟩) (first | (have _tk := tok1; go_at_call 94; refine (clone_any A1 n1 c1 t.a _ (HB1.out.keep BLd.out) hm1).mono ?_; rintro e x2 ⟨D1, d1, rfl, hP1, hp2⟩; clear tok1; have HTSp := Lib.hid (HTSd.out.keep hp2); have HMp := Lib.hid (HMd.out.keep hp2); have HEWp := Lib.hid (HEWd.out.keep hp2); have T5p := Lib.hid ((hp2.block _ (lt_of_heap T5d.out)).trans T5d.out); have G6p := Lib.hid ((hp2.block _ (lt_of_heap G6d.out)).trans G6d.out); have BLp := Lib.hid (BLd.out.trans (hp2.mono BLd.out.size)); have HP1 := Lib.hid hP1; have HSP := Lib.hid hp2.size; have p0 := rc_cell 5 (.slice (some ⟨g6, o6, none⟩) nR c7) HTSp.out.bx rfl; have p1 := rc_cell 0 (.slice A1 n1 c1) T5p.out rfl; have p2 := rc_cell 1 (.slice A2 n2 c2) T5p.out rfl; clear hP1 hp2) | (go_at_call 94; refine (clone_any A2 n2 c2 t.b _ (HB2.out.keep BLp.out) hm2).mono ?_; rintro e x3 ⟨D2, d2, rfl, hP2, hp3⟩; have HTSq := Lib.hid (HTSp.out.keep hp3); have HMq := Lib.hid (HMp.out.keep hp3); have HEWq := Lib.hid (HEWp.out.keep hp3); have T5q := Lib.hid ((hp3.block _ (lt_of_heap T5p.out)).trans T5p.out); have G6q := Lib.hid ((hp3.block _ (lt_of_heap G6p.out)).trans G6p.out); have HDS := Lib.hid (dist_new HP1.out hP2); have HP1q := Lib.hid ((HP1.out.mono (b := w.heap.size) HSW.out).below hp3 (fun k hk => (HP1.out.lies k hk).2)); have HP2q := Lib.hid (hP2.mono (b := w.heap.size) (Nat.le_trans HSW.out HSP.out)); have r0 := rc_cell 5 (.slice (some ⟨g6, o6, none⟩) nR c7) HTSq.out.bx rfl; have r1 := rc_cell 0 (.slice A1 n1 c1) T5q.out rfl; have r2 := rc_cell 1 (.slice A2 n2 c2) T5q.out rfl; have y0 := rc_cell (o6 + kk * 3) _ G6q.out K0.out; have y1 := rc_cell (o6 + kk * 3 + 1) _ G6q.out K1.out; have z3 := two_frozen (i := o6 + kk * 3) G6q.out; have z4 := two_frozen (i := o6 + kk * 3 + 1) G6q.out; have G6r := Lib.hid (rc_set (o6 + kk * 3) (.slice D1 n1 d1) G6q.out rfl); have y2 := rc_cell (o6 + kk * 3 + 1) (.slice A2 n2 c2) G6r.out (by rw [Array.getElem?_setIfInBounds_ne (by omega)]; exact K1.out); have z5 := two_frozen (i := o6 + kk * 3 + 1) G6r.out; have T5s := Lib.hid ((set_other x3 g6 (o6 + kk * 3) (.slice D1 n1 d1) (Nat.ne_of_gt HG6l.out)).trans T5q.out); have BXs := Lib.hid ((set_other x3 g6 (o6 + kk * 3) (.slice D1 n1 d1) (ne_of_type HTSq.out.bx G6q.out (by decide))).trans HTSq.out.bx); have T5t := Lib.hid ((set_other _ g6 (o6 + kk * 3 + 1) (.slice D2 n2 d2) (Nat.ne_of_gt HG6l.out)).trans T5s.out); have BXt := Lib.hid ((set_other _ g6 (o6 + kk * 3 + 1) (.slice D2 n2 d2) (ne_of_type HTSq.out.bx G6q.out (by decide))).trans BXs.out); have s0 := rc_cell 5 (.slice (some ⟨g6, o6, none⟩) nR c7) BXs.out rfl; have s1 := rc_cell 0 (.slice A1 n1 c1) T5s.out rfl; have s2 := rc_cell 1 (.slice A2 n2 c2) T5s.out rfl; have v0 := rc_cell 5 (.slice (some ⟨g6, o6, none⟩) nR c7) BXt.out rfl; have v1 := rc_cell 0 (.slice A1 n1 c1) T5t.out rfl; have v2 := rc_cell 1 (.slice A2 n2 c2) T5t.out rfl; clear hP2 hp3))
          have HON := Lib.hid ((onl_set x3 g6 (o6 + kk * 3) (.slice D1 n1 d1)).trans (onl_set _ g6 (o6 + kk * 3 + 1) (.slice D2 n2 d2)))
          have HTSn := Lib.hid (HTSq.out.onl HON.out G6q.out (by decide) HG6b.out)
          have HMn := Lib.hid (HMq.out.step HO6.out (by decide) HT.out HN1.out HN2.out HP1q.out HB1.out.2 HP2q.out HB2.out.2 HDS.out HU2.out)
          have HEWn := Lib.hid (HEWq.out.set HON.out G6q.out (by decide) (by decide))
          clear s0 s1 s2 v0 v1 v2 r0 r1 r2 y0 y1 y2 z3 z4 z5
          go_wp2
          go_roundw
          case rel => exact ⟨kk + 1, by go_num, by omega, HMn.out, HTSn, HEWn⟩
          case measure => simp [intOf]; omega
        · obtain rfl : nR = kk := by omega
          clear hlt
          obtain ⟨wb, HWB⟩ : ∃ wb, wb = wr := ⟨wr, rfl⟩
          subst HWB
          have HRa := Lib.hid hM.done
          have k0 := rc_cell 7 (.slice AS nS cS) HTS.out.bx rfl
          clear hM
          go_wp2_with fail
          refine (clone_i AS nS cS (sh.map (Value.int .i64)) wb (by rw [List.length_map]; exact HSH.out.len) (fun hne => ?_) (HSH.out.1.src HSS.out).2 (by intro u hu; obtain ⟨x, _, rfl⟩ := List.mem_map.1 hu; rfl) (by omega)).mono ?_
          · obtain ⟨b9, o9, h1, h2⟩ := (HSH.out.1.src HSS.out).1 hne
            exact ⟨b9, o9, h1, fun j u hu => cell_keep HTS.out.hb (h2 j u hu)⟩
          rintro e w3 ⟨A9, c9, rfl, ho9, hb9⟩
          have HS3 := Lib.hid (HTS.out.keep hb9)
          have k1 := rc_cell 7 (.slice AS nS cS) HS3.out.bx rfl
          have f2 := two_frozen (i := 7) HS3.out.bx
          have HT1 : Hid (TS w (rcV k b s q A6 nW c6 A7 nR c7 f A9 nS c9 AP nP cP i S) (w3.setCell ⟨w.heap.size, 7, none⟩ (.slice A9 nS c9))) := HS3.out.set 7 _ rfl
          have HE1 := Lib.hid ((HEW.out.keep hb9).set (onl_set w3 w.heap.size 7 (.slice A9 nS c9)) HS3.out.bx (by decide) (by decide))
          have HR1 := Lib.hid (TrO.set (HRa.out.ef (ex := []) (g := 0) (base := 0) (Ef.of_below hb9 (Nat.zero_le _)) (by simp) (by simp)) (onl_set w3 w.heap.size 7 (.slice A9 nS c9)) HS3.out.bx (by decide) (by decide))
          have HI1 := Lib.hid ((ho9.mono HTS.out.hb.size).onl (onl_set w3 w.heap.size 7 (.slice A9 nS c9)) (ho9.ne_blk HS3.out.bx (by decide)))
          have k2 := rc_cell 8 (.slice AP nP cP) HT1.out.bx rfl
          clear k0 ho9 hb9 HS3 HEW HTS HRa
          go_wp2_with fail
          clear k1 f2 k2
          generalize w3.setCell ⟨w.heap.size, 7, none⟩ (.slice A9 nS c9) = y3 at *
          refine (clone_any AP nP cP rp y3 (HRP.out.keep HT1.out.hb) bP).mono ?_
          rintro e w4 ⟨A12, c12, rfl, ho12, hb12⟩
          have HS4 := Lib.hid (HT1.out.keep hb12)
          have k1 := rc_cell 8 (.slice AP nP cP) HS4.out.bx rfl
          have f2 := two_frozen (i := 8) HS4.out.bx
          have HT3 : Hid (TS w (rcV k b s q A6 nW c6 A7 nR c7 f A9 nS c9 A12 nP c12 i S) (w4.setCell ⟨w.heap.size, 8, none⟩ (.slice A12 nP c12))) := HS4.out.set 8 _ rfl
          have HPM : Hid (∀ j, blk A12 = some j → mid ≤ j) := Lib.hid (fun j hj => Nat.le_trans HE1.out.le (ho12.lies j hj).1)
          have HE3 := Lib.hid ((HE1.out.keep hb12).set (onl_set w4 w.heap.size 8 (.slice A12 nP c12)) HS4.out.bx (by decide) (by decide))
          have HR3 := Lib.hid (TrO.set (HR1.out.ef (ex := []) (g := 0) (base := 0) (Ef.of_below hb12 (Nat.zero_le _)) (by simp) (by simp)) (onl_set w4 w.heap.size 8 (.slice A12 nP c12)) HS4.out.bx (by decide) (by decide))
          have HI3 := Lib.hid ((HI1.out.below hb12 (fun k hk => (HI1.out.lies k hk).2)).onl (onl_set w4 w.heap.size 8 (.slice A12 nP c12)) ((HI1.out.below hb12 (fun k hk => (HI1.out.lies k hk).2)).ne_blk HS4.out.bx (by decide)))
          have HP3 := Lib.hid ((ho12.mono HT1.out.hb.size).onl (onl_set w4 w.heap.size 8 (.slice A12 nP c12)) (ho12.ne_blk HS4.out.bx (by decide)))
          clear ho12 hb12 HS4 HE1 HR1 HI1 HT1
          have q0 := rc_cell 0 (.int .i64 k) HT3.out.bx rfl
          have z0 := rc_cell 0 (.int .i64 0) HT3.out.rs rfl
          have y0 := two_frozen (i := 0) HT3.out.rs
          have q1 := rc_cell 1 (.int .u64 b) HT3.out.bx rfl
          have z1 := rc_cell 1 (.int .u64 0) HT3.out.rs rfl
          have y1 := two_frozen (i := 1) HT3.out.rs
          have q2 := rc_cell 2 (.int .u64 s) HT3.out.bx rfl
          have z2 := rc_cell 2 (.int .u64 0) HT3.out.rs rfl
          have y2 := two_frozen (i := 2) HT3.out.rs
          have q3 := rc_cell 3 (.int .u64 q) HT3.out.bx rfl
          have z3 := rc_cell 3 (.int .u64 0) HT3.out.rs rfl
          have y3 := two_frozen (i := 3) HT3.out.rs
          have q4 := rc_cell 4 (.slice A6 nW c6) HT3.out.bx rfl
          have z4 := rc_cell 4 (.slice none 0 0) HT3.out.rs rfl
          have y4 := two_frozen (i := 4) HT3.out.rs
          have q5 := rc_cell 5 (.slice A7 nR c7) HT3.out.bx rfl
          have z5 := rc_cell 5 (.slice none 0 0) HT3.out.rs rfl
          have y5 := two_frozen (i := 5) HT3.out.rs
          have q6 := rc_cell 6 (.bool f) HT3.out.bx rfl
          have z6 := rc_cell 6 (.bool false) HT3.out.rs rfl
          have y6 := two_frozen (i := 6) HT3.out.rs
          have q7 := rc_cell 7 (.slice A9 nS c9) HT3.out.bx rfl
          have z7 := rc_cell 7 (.slice none 0 0) HT3.out.rs rfl
          have y7 := two_frozen (i := 7) HT3.out.rs
          have q8 := rc_cell 8 (.slice A12 nP c12) HT3.out.bx rfl
          have z8 := rc_cell 8 (.slice none 0 0) HT3.out.rs rfl
          have y8 := two_frozen (i := 8) HT3.out.rs
          have q9 := rc_cell 9 (.int .u64 i) HT3.out.bx rfl
          have z9 := rc_cell 9 (.int .u64 0) HT3.out.rs rfl
          have y9 := two_frozen (i := 9) HT3.out.rs
          have q10 := rc_cell 10 (.string S) HT3.out.bx rfl
          have z10 := rc_cell 10 (.string ⟨#[]⟩) HT3.out.rs rfl
          have y10 := two_frozen (i := 10) HT3.out.rs
          go_wp2
          clear q0 z0 y0 q1 z1 y1 q2 z2 y2 q3 z3 y3 q4 z4 y4 q5 z5 y5 q6 z6 y6 q7 z7 y7 q8 z8 y8 q9 z9 y9 q10 z10 y10
          clear k1 f2; generalize w4.setCell ⟨w.heap.size, 8, none⟩ (.slice A12 nP c12) = y4 at *
          have HZ := Lib.hid (set11 y4 (w.heap.size + 1) (.int .i64 k) (.int .u64 b) (.int .u64 s) (.int .u64 q) (.slice A6 nW c6) (.slice A7 nR c7) (.bool f) (.slice A9 nS c9) (.slice A12 nP c12) (.int .u64 i) (.string S) HT3.out.rs)
          have TWz := Lib.hid (HE3.out.set HZ.out.2 HT3.out.rs (by decide) (by decide))
          have TRz := Lib.hid (HR3.out.set HZ.out.2 HT3.out.rs (by decide) (by decide))
          have SHz := Lib.hid (HI3.out.onl HZ.out.2 (HI3.out.ne_blk HT3.out.rs (by decide)))
          have RPz := Lib.hid (HP3.out.onl HZ.out.2 (HP3.out.ne_blk HT3.out.rs (by decide)))
          have HBZ := Lib.hid (HT3.out.hb.trans ((HZ.out.2.below (Nat.le_of_lt (lt_of_heap HT3.out.rs))).mono (by omega)))
          generalize (((((((((((y4.setCell ⟨w.heap.size + 1, 0, none⟩ (.int .i64 k)).setCell ⟨w.heap.size + 1, 1, none⟩ (.int .u64 b)).setCell ⟨w.heap.size + 1, 2, none⟩ (.int .u64 s)).setCell ⟨w.heap.size + 1, 3, none⟩ (.int .u64 q)).setCell ⟨w.heap.size + 1, 4, none⟩ (.slice A6 nW c6)).setCell ⟨w.heap.size + 1, 5, none⟩ (.slice A7 nR c7)).setCell ⟨w.heap.size + 1, 6, none⟩ (.bool f)).setCell ⟨w.heap.size + 1, 7, none⟩ (.slice A9 nS c9)).setCell ⟨w.heap.size + 1, 8, none⟩ (.slice A12 nP c12)).setCell ⟨w.heap.size + 1, 9, none⟩ (.int .u64 i)).setCell ⟨w.heap.size + 1, 10, none⟩ (.string S)) = VZ at *
          have r0 := rc_cell 0 (.int .i64 k) HZ.out.1 rfl
          have r1 := rc_cell 1 (.int .u64 b) HZ.out.1 rfl
          have r2 := rc_cell 2 (.int .u64 s) HZ.out.1 rfl
          have r3 := rc_cell 3 (.int .u64 q) HZ.out.1 rfl
          have r4 := rc_cell 4 (.slice A6 nW c6) HZ.out.1 rfl
          have r5 := rc_cell 5 (.slice A7 nR c7) HZ.out.1 rfl
          have r6 := rc_cell 6 (.bool f) HZ.out.1 rfl
          have r7 := rc_cell 7 (.slice A9 nS c9) HZ.out.1 rfl
          have r8 := rc_cell 8 (.slice A12 nP c12) HZ.out.1 rfl
          have r9 := rc_cell 9 (.int .u64 i) HZ.out.1 rfl
          have r10 := rc_cell 10 (.string S) HZ.out.1 rfl
          refine bodyPost_ret (v := .agg (rcV k b s q A6 nW c6 A7 nR c7 f A9 nS c9 A12 nP c12 i S)) (by simp [results, Try.f71, go_sem, Try.isAgg32, Try.sizeOf32, r0, r1, r2, r3, r4, r5, r6, r7, r8, r9, r10]) rfl ⟨A6, c6, A7, c7, A9, c9, A12, c12, mid, rfl, TWz.out.tr, TRz.out, SHz.out, RPz.out, TWz.out.lt, HPM.out, HBZ.out⟩
end Go.Proofs.Ytmjjbfcblmmipaa

