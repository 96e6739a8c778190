/- Records: what they hold, and what their bytes are. -/
import Derived.Test.YtmjjbfcblmmipaaJoinW
import Derived.Test.YtmjjbfcblmmipaaNumbersW
import Derived.Test.YtmjjbfcblmmipaaPrts
namespace Go.Proofs.Ytmjjbfcblmmipaa
set_option linter.unusedVariables false
set_option linter.unusedSimpArgs false
open Go.RowKit

/-- A write or a range: two lists of bytes, and a flag. -/
structure Tr where
  a : List Int
  b : List Int
  f : Bool
/-- A record. -/
structure Rc where
  kind : Int
  boot : Int
  sess : Int
  seq : Int
  ws : List Tr
  rs : List Tr
  commit : Bool
  shards : List Int
  reply : List Int
  id : Int
  name : List Int
/-- The parts of a frame of threes. -/
def trP (l : List Tr) : List (List Int) := (l.map fun t => [[flagB t.f], t.a, t.b]).flatten
def trs (l : List Tr) : List Int := joinL (trP l)
/-- A number of 64 bits with a sign, as one without. -/
def uw (x : Int) : Int := if x < 0 then x + 18446744073709551616 else x
def txB (x : Rc) : List Int := nums [x.boot, x.sess, x.seq]
def shB (x : Rc) : List Int := nums (x.shards.map uw)
/-- A kind's fields, by letters. -/
def fl (k : Int) : List Int :=
  if k = 1 then [116, 119, 114] else if k = 2 ∨ k = 3 ∨ k = 9 then [116] else if k = 4 then [116, 119, 97] else if k = 5 ∨ k = 7 ∨ k = 8 then [105, 110] else if k = 6 then [116, 99, 115, 97] else []
def partL (x : Rc) (c : Int) : List Int :=
  if c = 116 then txB x else if c = 119 then trs x.ws else if c = 114 then trs x.rs else if c = 99 then [flagB x.commit] else if c = 115 then shB x else if c = 97 then x.reply else if c = 105 then num x.id else if c = 110 then x.name else []
def parts (x : Rc) : List (List Int) := [x.kind % 256] :: (fl x.kind).map (partL x)
def recL (x : Rc) : List Int := joinL (parts x)
/-- What its kind uses of a record. -/
def trimR (x : Rc) : Rc :=
  let t : Bool := (fl x.kind).contains 116
  { kind := x.kind, boot := if t then x.boot else 0, sess := if t then x.sess else 0, seq := if t then x.seq else 0,
    ws := if (fl x.kind).contains 119 then x.ws else [], rs := if (fl x.kind).contains 114 then x.rs else [],
    commit := (fl x.kind).contains 99 && x.commit, shards := if (fl x.kind).contains 115 then x.shards else [],
    reply := if (fl x.kind).contains 97 then x.reply else [], id := if (fl x.kind).contains 105 then x.id else 0,
    name := if (fl x.kind).contains 110 then x.name else [] }
theorem trP_snoc {l : List Tr} {k : Nat} {t : Tr} (h : l[k]? = some t) : trP (l.take (k + 1)) = trP (l.take k) ++ [[flagB t.f], t.a, t.b] := by
  unfold trP
  rw [List.take_add_one, h]
  simp
theorem trP_length (l : List Tr) : (trP l).length = 3 * l.length := by
  induction l with
  | nil => rfl
  | cons t l ih =>
    unfold trP at ih ⊢
    simp only [List.map_cons, List.flatten_cons, List.length_append, List.length_cons, List.length_nil, ih]
    omega
theorem flagB_ran (f : Bool) : Ran [flagB f] := by
  intro y hy
  have : y = flagB f := by simpa using hy
  rw [this]; unfold flagB; split <;> omega
theorem uw_bd (x : Int) (h0 : -9223372036854775808 ≤ x) (h1 : x ≤ 9223372036854775807) : 0 ≤ uw x ∧ uw x ≤ 18446744073709551615 := by
  unfold uw; split <;> omega

/-- A slice of threes (writes, ranges) reads so. -/
def Trs (w : World) (A : Option Addr) (n : Nat) (l : List Tr) : Prop :=
  l.length = n ∧ (0 < n → ∃ b off, A = some ⟨b, off, none⟩ ∧ b < w.heap.size ∧ ∀ k t, l[k]? = some t → ∃ A1 c1 A2 c2,
    w.cell? ⟨b, off + k * 3, none⟩ = some (.slice A1 t.a.length c1) ∧ w.cell? ⟨b, off + k * 3 + 1, none⟩ = some (.slice A2 t.b.length c2) ∧ w.cell? ⟨b, off + k * 3 + 2, none⟩ = some (.bool t.f) ∧
    Bs w A1 t.a.length t.a ∧ t.a.length ≤ c1 ∧ Bs w A2 t.b.length t.b ∧ t.b.length ≤ c2)
section
variable {w w' : World} {A : Option Addr} {n : Nat} {l : List Tr}
theorem Trs.keep (h : Trs w A n l) (hb : Below w.heap.size w w') : Trs w' A n l := by
  refine ⟨h.1, fun hn => ?_⟩
  obtain ⟨b, off, hA, hlt, hc⟩ := h.2 hn
  refine ⟨b, off, hA, Nat.lt_of_lt_of_le hlt hb.size, fun k t ht => ?_⟩
  obtain ⟨A1, c1, A2, c2, h0, h1, h2, h3, h4, h5, h6⟩ := hc k t ht
  exact ⟨A1, c1, A2, c2, (hb.cell (p := ⟨b, off + k * 3, none⟩) hlt).trans h0, (hb.cell (p := ⟨b, off + k * 3 + 1, none⟩) hlt).trans h1, (hb.cell (p := ⟨b, off + k * 3 + 2, none⟩) hlt).trans h2, h3.keep hb, h4, h5.keep hb, h6⟩
theorem Trs.at_ {k : Nat} (h : Trs w A n l) (hk : k < n) : ∃ b off A1 n1 c1 A2 n2 c2 t, A = some ⟨b, off, none⟩ ∧ b < w.heap.size ∧ Hid (l[k]? = some t) ∧ Hid (t.a.length = n1) ∧ Hid (t.b.length = n2) ∧
    w.cell? ⟨b, off + k * 3, none⟩ = some (.slice A1 n1 c1) ∧ w.cell? ⟨b, off + k * 3 + 1, none⟩ = some (.slice A2 n2 c2) ∧ w.cell? ⟨b, off + k * 3 + 2, none⟩ = some (.bool t.f) ∧ Bs w A1 n1 t.a ∧ n1 ≤ c1 ∧ Bs w A2 n2 t.b ∧ n2 ≤ c2 := by
  obtain ⟨b, off, hA, hlt, hc⟩ := h.2 (by omega)
  have hx : l[k]? = some (l[k]'(by have := h.1; omega)) := List.getElem?_eq_getElem _
  obtain ⟨A1, c1, A2, c2, h0, h1, h2, h3, h4, h5, h6⟩ := hc k _ hx
  exact ⟨b, off, A1, _, c1, A2, _, c2, _, hA, hlt, hx, rfl, rfl, h0, h1, h2, h3, h4, h5, h6⟩
theorem Trs.nil_ : Trs w A 0 [] := ⟨rfl, fun h => absurd h (by omega)⟩
end

/-- A slice whose block is one of whoever called, or a row of bytes. -/
def Fo (w : World) (base : Nat) (A : Option Addr) (n : Nat) : Prop := 0 < n → ∀ k, blk A = some k → k < base ∨ ∃ cs fr, w.heap[k]? = some (.cells cs 5 fr)
theorem Fo.keep {w w' : World} {base n : Nat} {A : Option Addr} (h : Fo w base A n) (hb : Below w.heap.size w w') : Fo w' base A n := fun hn k hk => by
  rcases h hn k hk with h1 | ⟨cs, fr, h1⟩
  · exact .inl h1
  · exact .inr ⟨cs, fr, (hb.block k (lt_of_heap h1)).trans h1⟩
theorem Fo.mono {w : World} {b1 b2 n : Nat} {A : Option Addr} (h : Fo w b1 A n) (hb : b1 ≤ b2) : Fo w b2 A n := fun hn k hk => by
  rcases h hn k hk with h1 | h1
  · exact .inl (by omega)
  · exact .inr h1
theorem Own.fo {w : World} {base b : Nat} {A : Option Addr} {n c : Nat} {vs : List Value} (h : Own w b 5 A n c vs) : Fo w base A n := fun _ k hk => by
  rcases h.2 with ⟨hv, _⟩ | ⟨g, cap, cur, hv, _, hh, _⟩
  · have : A = none := by injection hv
    subst this; cases hk
  · have hA : A = some ⟨g, 0, none⟩ := by injection hv
    subst hA
    simp only [blk, Option.map_some, Option.some.injEq] at hk
    subst hk
    exact .inr ⟨_, _, hh⟩
theorem Own.ne_blk {w : World} {base : Nat} {e t : TypeId} {A : Option Addr} {n c L : Nat} {vs : List Value} {cs : Array Value} {fr : Nat × Nat} (h : Own w base e A n c vs) (hL : w.heap[L]? = some (.cells cs t fr)) (ht : t ≠ e) : blk A ≠ some L := by
  intro he
  rcases h.2 with ⟨hv, _⟩ | ⟨g, cap, cur, hv, _, hh, _⟩
  · have : A = none := by injection hv
    subst this; cases he
  · have hA : A = some ⟨g, 0, none⟩ := by injection hv
    subst hA
    simp only [blk, Option.map_some, Option.some.injEq] at he
    subst he
    rw [hL] at hh
    injection hh with hh
    injection hh with _ hh
    exact ht hh

/-- Parts that are read: some of the call's own, some of whoever called. -/
def Pts (w : World) (base : Nat) (A : Option Addr) (n c : Nat) (xss : List (List Int)) : Prop :=
  xss.length = n ∧ ∃ vs, Own w base 28 A n c vs ∧ ∀ (i : Nat) (v : Value) (xs : List Int), vs[i]? = some v → xss[i]? = some xs → ∃ A' c', v = .slice A' xs.length c' ∧ xs.length ≤ c' ∧ Bs w A' xs.length xs ∧ Fo w base A' xs.length
/-- One part that may be put behind others. -/
def Pt (w : World) (base : Nat) (A : Option Addr) (n c : Nat) (xs : List Int) : Prop := n = xs.length ∧ n ≤ c ∧ Bs w A n xs ∧ Fo w base A n
section
variable {w w' : World} {base : Nat} {A A' : Option Addr} {n c c' : Nat} {xss : List (List Int)}
theorem Pts.nil_ : Pts w base none 0 0 [] := ⟨rfl, [], Own.nil_, fun i v xs hv _ => by simp at hv⟩
theorem Pts.lies (h : Pts w base A n c xss) : ∀ k, blk A = some k → base ≤ k ∧ k < w.heap.size := by
  obtain ⟨_, vs, ho, _⟩ := h
  exact ho.lies
theorem Pts.keep (h : Pts w base A n c xss) (hb : Below w.heap.size w w') : Pts w' base A n c xss := by
  obtain ⟨hl, vs, ho, he⟩ := h
  refine ⟨hl, vs, ho.below hb (fun k hk => (ho.lies k hk).2), fun i v xs hv hx => ?_⟩
  obtain ⟨A', c', e, hc, h1, h2⟩ := he i v xs hv hx
  exact ⟨A', c', e, hc, h1.keep hb, h2.keep hb⟩
theorem Pts.bss (h : Pts w base A n c xss) : Bss w A n xss := by
  obtain ⟨hl, vs, ho, he⟩ := h
  refine ⟨hl, vs, ho.rd.rdP, fun i v xs hv hx => ?_⟩
  obtain ⟨A', c', e, hc, h1, _⟩ := he i v xs hv hx
  exact ⟨A', c', e, h1.bsP, hc⟩
theorem Pt.keep {xs : List Int} (h : Pt w base A n c xs) (hb : Below w.heap.size w w') : Pt w' base A n c xs := ⟨h.1, h.2.1, h.2.2.1.keep hb, h.2.2.2.keep hb⟩
theorem Pt.keepW {xs : List Int} (h : Pt w base A n c xs) (hb : Below w.heap.size w w') : Pt w' base A n c xs := h.keep hb
theorem Pt.own {b : Nat} {xs : List Int} (h : Own w b 5 A n c (By xs)) (hr : Ran xs) : Pt w base A n c xs := by
  have hl := h.len
  rw [By_length] at hl
  exact ⟨hl.symm, h.cap, h.bs hr, h.fo⟩
theorem Bs.fo {xs : List Int} (h : Bs w A n xs) (hb : w.heap.size ≤ base) : Fo w base A n := fun hn k hk => by
  obtain ⟨b, off, hA, hlt, _⟩ := h.1.2 hn
  rw [hA] at hk
  simp only [blk, Option.map_some, Option.some.injEq] at hk
  exact .inl (by omega)
theorem Pt.arg {xs : List Int} (h : Bs w A n xs) (hc : n ≤ c) (hb : w.heap.size ≤ base) : Pt w base A n c xs := ⟨h.len.symm, hc, h, h.fo hb⟩
theorem Pts.row (h : Pts w base A n c xss) (o : Obj) : ∃ vs, Own (w.alloc o) base 28 A n c vs ∧ Hid (∀ (news : List Value) (yss : List (List Int)) (w2 : World) (A' : Option Addr) (c' : Nat), news.length = yss.length → (∀ (i : Nat) (v : Value) (xs : List Int), news[i]? = some v → yss[i]? = some xs → ∃ (A2 : Option Addr) (n2 c2 : Nat), v = .slice A2 n2 c2 ∧ Pt w base A2 n2 c2 xs) → Own w2 base 28 A' (n + news.length) c' (vs ++ news) → Grows (w.alloc o) w2 A A' → Pts w2 base A' (n + news.length) c' (xss ++ yss)) := by
  obtain ⟨hl, vs, ho, he⟩ := h
  refine ⟨vs, ho.alloc o, ?_⟩
  intro news yss w2 A' c' hlen hnew hn hg
  have hvl := ho.len
  have hba := below_alloc w o
  have hoa := ho.alloc o
  have keepF : ∀ (A3 : Option Addr) (n3 : Nat), Fo w base A3 n3 → Fo w2 base A3 n3 := by
    intro A3 n3 h3 hn3 k hk
    rcases h3.keep hba hn3 k hk with h4 | ⟨cs, fr, h4⟩
    · exact .inl h4
    · exact .inr ⟨cs, fr, (hg.1.block k (lt_of_heap h4) (fun e => hoa.ne_blk h4 (by decide) e.symm)).trans h4⟩
  have keepB : ∀ (A3 : Option Addr) (n3 : Nat) (xs : List Int), Bs w A3 n3 xs → Fo w base A3 n3 → Bs w2 A3 n3 xs := by
    intro A3 n3 xs h3 hf
    have h4 := h3.keep hba
    refine ⟨⟨h4.1.1, fun hp => ?_⟩, h4.2⟩
    obtain ⟨b, off, hA, hlt, hc⟩ := h4.1.2 hp
    refine ⟨b, off, hA, Nat.lt_of_lt_of_le hlt hg.size, fun j u hu => ?_⟩
    have hne : some b ≠ blk A := fun e => by
      rcases hf.keep hba hp b (by rw [hA]; rfl) with h5 | ⟨cs, fr, h5⟩
      · have := (ho.lies b e.symm).1; omega
      · exact hoa.ne_blk h5 (by decide) e.symm
    rw [World.cell?_of_block (a := ⟨b, off + j, none⟩) (hg.1.block b hlt hne)]
    exact hc j u hu
  refine ⟨by simp [hl, hlen], _, hn, fun i v ys hv hy => ?_⟩
  by_cases hi : i < n
  · rw [List.getElem?_append_left (by omega)] at hv hy
    obtain ⟨A3, c3, e, hc3, h3, h4⟩ := he i v ys hv hy
    exact ⟨A3, c3, e, hc3, keepB _ _ _ h3 h4, keepF _ _ h4⟩
  · rw [List.getElem?_append_right (by omega)] at hv hy
    rw [hvl] at hv
    rw [hl] at hy
    obtain ⟨A2, n2, c2, rfl, hp0, hp1, hp2, hp3⟩ := hnew _ v ys hv hy
    subst hp0
    exact ⟨A2, c2, rfl, hp1, keepB _ _ _ hp2 hp3, keepF _ _ hp3⟩
end
end Go.Proofs.Ytmjjbfcblmmipaa
