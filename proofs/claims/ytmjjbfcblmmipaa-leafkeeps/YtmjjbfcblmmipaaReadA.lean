/- What a read record is, and the state of Read. -/
import Derived.Test.YtmjjbfcblmmipaaTakeSW
import Derived.Test.YtmjjbfcblmmipaaBytesW
namespace Go.Proofs.Ytmjjbfcblmmipaa
set_option linter.unusedVariables false
set_option linter.unusedSimpArgs false
open Go.RowKit

/-- A record's slices, all of the call's own. -/
structure RcO (w : World) (base : Nat) (x : Rc) (s : Sl) : Prop where
  ws : TrO w base 61 s.AW s.nW s.cW x.ws
  rs : TrO w base 99 s.AR s.nR s.cR x.rs
  sh : Own w base 3 s.AS s.nS s.cS (x.shards.map (Value.int .i64))
  rp : Own w base 5 s.AP s.nP s.cP (By x.reply)
  rr : Ran x.reply
def ReadP (x : Rc) (w : World) (e : Ending) (w' : World) : Prop :=
  ∃ s : Sl, e = .returned (.tuple #[.agg (rcV x.kind x.boot x.sess x.seq s.AW s.nW s.cW s.AR s.nR s.cR x.commit s.AS s.nS s.cS s.AP s.nP s.cP x.id (strOfNums x.name)), .int .i64 0]) ∧ RcO w' w.heap.size x s ∧ Below w.heap.size w w'
/-- The texts of the writes are newer than the reply. -/
def ReadP2 (x : Rc) (w : World) (e : Ending) (w' : World) : Prop :=
  ∃ (s : Sl) (mid : Nat), e = .returned (.tuple #[.agg (rcV x.kind x.boot x.sess x.seq s.AW s.nW s.cW s.AR s.nR s.cR x.commit s.AS s.nS s.cS s.AP s.nP s.cP x.id (strOfNums x.name)), .int .i64 0]) ∧ RcO w' w.heap.size x s ∧ TrO w' mid 61 s.AW s.nW s.cW x.ws ∧ w.heap.size ≤ mid ∧ (∀ k, blk s.AP = some k → k < mid) ∧ Below w.heap.size w w'
abbrev zeroV : Array Value := rcV 0 0 0 0 none 0 0 none 0 0 false none 0 0 none 0 0 0 ⟨#[]⟩
/-- Numbers in their ranges. -/
structure RcB (x : Rc) : Prop where
  boot : 0 ≤ x.boot ∧ x.boot ≤ 18446744073709551615
  sess : 0 ≤ x.sess ∧ x.sess ≤ 18446744073709551615
  seq : 0 ≤ x.seq ∧ x.seq ≤ 18446744073709551615
  id : 0 ≤ x.id ∧ x.id ≤ 18446744073709551615
  sh : ∀ z ∈ x.shards, -9223372036854775808 ≤ z ∧ z ≤ 9223372036854775807
/-- The state of Read in its loop. -/
structure RS (w : World) (g gi : Nat) (cs : Array Value) (str : ByteArray) (p : Nat) (A : Option Addr) (n c : Nat) (xss : List (List Int)) (W : World) : Prop where
  hg : W.heap[g]? = some (.cells cs 32 (0, 0))
  hi : W.heap[gi]? = some (.stringIter str p)
  hr : W.heap[w.heap.size]? = some (.cells zeroV 32 (0, 0))
  hp : PrR W w.heap.size A n c xss
  hb : Below w.heap.size w W
  gl : w.heap.size < g
  il : w.heap.size < gi
section
variable {w W W' : World} {g gi p n c : Nat} {cs cs' : Array Value} {str : ByteArray} {A : Option Addr} {xss : List (List Int)} {x : List Int}
theorem iter_ne {cs : Array Value} {t : TypeId} {fr : Nat × Nat} (h : W.heap[g]? = some (.cells cs t fr)) (k : W.heap[gi]? = some (.stringIter str p)) : g ≠ gi := by
  intro e; subst e; rw [h] at k; cases k
theorem RS.next (h : RS w g gi cs str p A n c xss W) (ho : Onl gi W W') (hi : W'.heap[gi]? = some (.stringIter str (p + 1))) : RS w g gi cs str (p + 1) A n c xss W' := by
  have hil := h.il
  exact ⟨(ho.block g (lt_of_heap h.hg) (fun e => iter_ne h.hg h.hi (by injection e))).trans h.hg, hi, (ho.block _ (lt_of_heap h.hr) (fun e => iter_ne h.hr h.hi (by injection e))).trans h.hr, h.hp.iter ho h.hi,
    h.hb.trans ((ho.below (Nat.le_of_lt (lt_of_heap h.hi))).mono (by omega)), h.gl, h.il⟩
theorem RS.took (h : RS w g gi cs str p A n c xss W) (ho : Onl g W W') (hg : W'.heap[g]? = some (.cells cs' 32 (0, 0))) : RS w g gi cs' str p A n c xss W' := by
  have hgl := h.gl
  exact ⟨hg, (ho.block gi (lt_of_heap h.hi) (fun e => iter_ne h.hg h.hi (by injection e with e; exact e.symm))).trans h.hi, (ho.block _ (lt_of_heap h.hr) (fun e => by injection e with e; omega)).trans h.hr,
    h.hp.ef (Ef.of_onl (ex := [32]) (base := 0) ho (Nat.zero_le _) h.hg (by decide)) (by decide) (by decide), h.hb.trans ((ho.below (Nat.le_of_lt (lt_of_heap h.hg))).mono (by omega)), h.gl, h.il⟩
theorem PrR.head {b : Nat} (h : PrR W b A n c (x :: xss)) : ∃ b2 off A1 n1 c1, A = some ⟨b2, off, none⟩ ∧ b2 < W.heap.size ∧ W.cell? ⟨b2, off, none⟩ = some (.slice A1 n1 c1) ∧ Own W b 5 A1 n1 c1 (By x) ∧ Ran x ∧ Hid (n1 = x.length) ∧ 0 < n := by
  have hl := h.1
  simp only [List.length_cons] at hl
  obtain ⟨b2, off, A1, n1, c1, xs, hA, hlt, HX, HL, hc, ho, hr⟩ := h.at_ (k := 0) (by omega)
  have e : xs = x := by have := HX.out; simpa using this.symm
  subst e
  exact ⟨b2, off, A1, n1, c1, hA, hlt, hc, ho, hr, Lib.hid HL.out.symm, by omega⟩
/-- The first part's block is older than a later world. -/
theorem PrR.headLt {b b2 off : Nat} {B : Option Addr} {m e : Nat} (h : PrR W b A n c (x :: xss)) (hty : ∀ (i : Nat) (cs : Array Value) (fr : Nat × Nat), W.heap[i]? = some (.cells cs 28 fr) → W'.heap[i]? = some (.cells cs 28 fr)) (hA : A = some ⟨b2, off, none⟩) (hc : W'.cell? ⟨b2, off, none⟩ = some (.slice B m e)) : ∀ k, blk B = some k → k < W.heap.size := by
  obtain ⟨b3, o3, A1, n1, c1, hA1, hlt, hc1, ho, hr, _, _⟩ := h.head
  rw [hA] at hA1
  injection hA1 with hA1
  injection hA1 with e1 e2
  subst e1 e2
  obtain ⟨cs, fr, hh⟩ := h.2.2.1 b2 (by rw [hA]; rfl)
  have h1 : W'.cell? ⟨b2, off, none⟩ = W.cell? ⟨b2, off, none⟩ := World.cell?_of_block (a := ⟨b2, off, none⟩) ((hty _ _ _ hh).trans hh.symm)
  rw [h1, hc1] at hc
  injection hc with hc
  injection hc with e1 e2 e3
  subst e1
  exact fun k hk => (ho.lies k hk).2
theorem PrR.tail {b : Nat} (h : PrR W b A n c (x :: xss)) : ∃ A' m c', (∀ W', (Instr.slice 62 (.slice A n c) (some (.int .i64 1)) none none).run Try.prog W' = .ok (.slice A' m c') W') ∧ PrR W b A' m c' xss := by
  have hl := h.1
  simp only [List.length_cons] at hl
  exact ⟨_, _, _, slice62_1 A n c (by omega), h.cut (lo := 1) (by omega)⟩
end
theorem trim_t (y : Rc) (h : fl y.kind = [116]) : trimR y = ⟨y.kind, y.boot, y.sess, y.seq, [], [], false, [], [], 0, []⟩ := by simp [trimR, h]
theorem trim_twr (y : Rc) (h : fl y.kind = [116, 119, 114]) : trimR y = ⟨y.kind, y.boot, y.sess, y.seq, y.ws, y.rs, false, [], [], 0, []⟩ := by simp [trimR, h]
theorem trim_twa (y : Rc) (h : fl y.kind = [116, 119, 97]) : trimR y = ⟨y.kind, y.boot, y.sess, y.seq, y.ws, [], false, [], y.reply, 0, []⟩ := by simp [trimR, h]
theorem trim_in (y : Rc) (h : fl y.kind = [105, 110]) : trimR y = ⟨y.kind, 0, 0, 0, [], [], false, [], [], y.id, y.name⟩ := by simp [trimR, h]
theorem trim_tcsa (y : Rc) (h : fl y.kind = [116, 99, 115, 97]) : trimR y = ⟨y.kind, y.boot, y.sess, y.seq, [], [], y.commit, y.shards, y.reply, 0, []⟩ := by simp [trimR, h]
def NE (S : ByteArray) : Prop := (S.toList == (⟨#[]⟩ : ByteArray).toList) = false ∧ (S.toList == []) = false ∧ S.toList.isEmpty = false ∧ ¬ S.toList = []
theorem str_ne {xs : List Int} (h : 0 < xs.length) : NE (strOfNums xs) := by
  have e : (strOfNums xs).toList ≠ [] := by
    rw [ByteArray.toList_eq]
    intro e
    rw [strOfNums_data] at e
    have := congrArg List.length e
    simp at this
    subst this
    simp at h
  have e2 : (⟨#[]⟩ : ByteArray).toList = [] := by rw [ByteArray.toList_eq]
  refine ⟨by rw [e2]; simpa using e, by simpa using e, by simpa using e, e⟩
/-- All eleven cells are set. -/
theorem set11 (W : World) (a : Nat) (v0 v1 v2 v3 v4 v5 v6 v7 v8 v9 v10 : Value) (h : W.heap[a]? = some (.cells zeroV 32 (0, 0))) :
    (((((((((((W.setCell ⟨a, 0, none⟩ v0).setCell ⟨a, 1, none⟩ v1).setCell ⟨a, 2, none⟩ v2).setCell ⟨a, 3, none⟩ v3).setCell ⟨a, 4, none⟩ v4).setCell ⟨a, 5, none⟩ v5).setCell ⟨a, 6, none⟩ v6).setCell ⟨a, 7, none⟩ v7).setCell ⟨a, 8, none⟩ v8).setCell ⟨a, 9, none⟩ v9).setCell ⟨a, 10, none⟩ v10).heap[a]? = some (.cells #[v0, v1, v2, v3, v4, v5, v6, v7, v8, v9, v10] 32 (0, 0)) ∧ Onl a W (((((((((((W.setCell ⟨a, 0, none⟩ v0).setCell ⟨a, 1, none⟩ v1).setCell ⟨a, 2, none⟩ v2).setCell ⟨a, 3, none⟩ v3).setCell ⟨a, 4, none⟩ v4).setCell ⟨a, 5, none⟩ v5).setCell ⟨a, 6, none⟩ v6).setCell ⟨a, 7, none⟩ v7).setCell ⟨a, 8, none⟩ v8).setCell ⟨a, 9, none⟩ v9).setCell ⟨a, 10, none⟩ v10) := by
  have h1 := rc_set (cs' := #[v0, .int .u64 0, .int .u64 0, .int .u64 0, .slice none 0 0, .slice none 0 0, .bool false, .slice none 0 0, .slice none 0 0, .int .u64 0, .string ⟨#[]⟩]) 0 v0 h rfl
  have h2 := rc_set (cs' := #[v0, v1, .int .u64 0, .int .u64 0, .slice none 0 0, .slice none 0 0, .bool false, .slice none 0 0, .slice none 0 0, .int .u64 0, .string ⟨#[]⟩]) 1 v1 h1 rfl
  have h3 := rc_set (cs' := #[v0, v1, v2, .int .u64 0, .slice none 0 0, .slice none 0 0, .bool false, .slice none 0 0, .slice none 0 0, .int .u64 0, .string ⟨#[]⟩]) 2 v2 h2 rfl
  have h4 := rc_set (cs' := #[v0, v1, v2, v3, .slice none 0 0, .slice none 0 0, .bool false, .slice none 0 0, .slice none 0 0, .int .u64 0, .string ⟨#[]⟩]) 3 v3 h3 rfl
  have h5 := rc_set (cs' := #[v0, v1, v2, v3, v4, .slice none 0 0, .bool false, .slice none 0 0, .slice none 0 0, .int .u64 0, .string ⟨#[]⟩]) 4 v4 h4 rfl
  have h6 := rc_set (cs' := #[v0, v1, v2, v3, v4, v5, .bool false, .slice none 0 0, .slice none 0 0, .int .u64 0, .string ⟨#[]⟩]) 5 v5 h5 rfl
  have h7 := rc_set (cs' := #[v0, v1, v2, v3, v4, v5, v6, .slice none 0 0, .slice none 0 0, .int .u64 0, .string ⟨#[]⟩]) 6 v6 h6 rfl
  have h8 := rc_set (cs' := #[v0, v1, v2, v3, v4, v5, v6, v7, .slice none 0 0, .int .u64 0, .string ⟨#[]⟩]) 7 v7 h7 rfl
  have h9 := rc_set (cs' := #[v0, v1, v2, v3, v4, v5, v6, v7, v8, .int .u64 0, .string ⟨#[]⟩]) 8 v8 h8 rfl
  have h10 := rc_set (cs' := #[v0, v1, v2, v3, v4, v5, v6, v7, v8, v9, .string ⟨#[]⟩]) 9 v9 h9 rfl
  have h11 := rc_set (cs' := #[v0, v1, v2, v3, v4, v5, v6, v7, v8, v9, v10]) 10 v10 h10 rfl
  refine ⟨h11, ?_⟩
  exact (((((((((((onl_set W a 0 v0).trans (onl_set _ a 1 v1)).trans (onl_set _ a 2 v2)).trans (onl_set _ a 3 v3)).trans (onl_set _ a 4 v4)).trans (onl_set _ a 5 v5)).trans (onl_set _ a 6 v6)).trans (onl_set _ a 7 v7)).trans (onl_set _ a 8 v8)).trans (onl_set _ a 9 v9)).trans (onl_set _ a 10 v10))
end Go.Proofs.Ytmjjbfcblmmipaa
