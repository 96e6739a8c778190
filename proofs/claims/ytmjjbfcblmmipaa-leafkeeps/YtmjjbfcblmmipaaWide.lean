/- Rows of wide elements: writes and ranges that a call makes. -/
import Derived.Test.YtmjjbfcblmmipaaPart2W
import Derived.Laws.RangeString
import Derived.Laws.RangeAny
namespace Go.Proofs.Ytmjjbfcblmmipaa
set_option linter.unusedVariables false
set_option linter.unusedSimpArgs false
open Go.RowKit

/-- The iterator in block g is set to a place. -/
def itSet (W : World) (g : Nat) (s : ByteArray) (p : Nat) : World := { W with heap := W.heap.setIfInBounds g (.stringIter s p) }
theorem itSet_onl (W : World) (g : Nat) (s : ByteArray) (p : Nat) : Onl g W (itSet W g s p) := by
  refine ⟨rfl, rfl, rfl, by simp [itSet], fun i hi hne => ?_⟩
  simp only [itSet]
  rw [Array.getElem?_setIfInBounds_ne]
  exact fun e => hne (by rw [e])
theorem itSet_size (W : World) (g : Nat) (s : ByteArray) (p : Nat) : (itSet W g s p).heap.size = W.heap.size := by simp [itSet]
theorem itSet_at (W : World) (g : Nat) (s : ByteArray) (p : Nat) (h : g < W.heap.size) : (itSet W g s p).heap[g]? = some (.stringIter s p) := by
  simp only [itSet]
  rw [Array.getElem?_setIfInBounds_self_of_lt h]
theorem next_at {P : Program} (W : World) (g : Nat) (fs : List Int) (k : Nat) (c : Int) (ty : TypeId) (hg : W.heap[g]? = some (.stringIter (strOfNums fs) k)) (hc : fs[k]? = some c) (h0 : 0 ≤ c) (h1 : c < 128) :
    (Instr.next (.pointer (some ⟨g, 0, none⟩)) true ty).run P W = .ok (.tuple #[.bool true, .int .i64 k, .int .i32 c]) (itSet W g (strOfNums fs) (k + 1)) := by
  obtain ⟨hk, hfc⟩ := List.getElem?_eq_some_iff.1 hc
  have hsz : k < (strOfNums fs).size := by rw [strOfNums_size]; exact hk
  have hch : ((strOfNums fs)[k]'hsz).toNat = c.toNat := by
    have : (strOfNums fs)[k]'hsz = UInt8.ofNat c.toNat := by
      show (strOfNums fs).data[k] = _
      simp only [strOfNums]
      simp [hfc]
    rw [this, UInt8.toNat_ofNat']
    omega
  have hd := decode_ascii (strOfNums fs) k hsz (by rw [hch]; omega)
  rw [hch] at hd
  simp only [Instr.next, getObj, setObj, Sem.run_bind, Sem.run, hg, Result.andThen, hsz, if_true, hd]
  simp [goInt, Sem.run, hg, itSet]
  omega
theorem next_done {P : Program} (W : World) (g : Nat) (fs : List Int) (k : Nat) (ty : TypeId) (hg : W.heap[g]? = some (.stringIter (strOfNums fs) k)) (hk : ¬ k < fs.length) :
    (Instr.next (.pointer (some ⟨g, 0, none⟩)) true ty).run P W = .ok (.tuple #[.bool false]) W := by
  have h : ¬ k < (strOfNums fs).size := by rw [strOfNums_size]; exact hk
  simp [Instr.next, getObj, Sem.run, hg, h]
theorem iterPos_of {w : World} {g p : Nat} {s : ByteArray} (h : w.heap[g]? = some (.stringIter s p)) : w.iterPos g = p := by simp [World.iterPos, h]
theorem Own.ne_iter {w : World} {base : Nat} {e : TypeId} {A : Option Addr} {n c L : Nat} {vs : List Value} {s : ByteArray} {p : Nat} (h : Own w base e A n c vs) (hL : w.heap[L]? = some (.stringIter s p)) : blk A ≠ some L := by
  intro he
  rcases h.2 with ⟨hv, _⟩ | ⟨g, cap, cur, hv, _, hh, _⟩
  · have : A = none := by injection hv
    subst this; cases he
  · have hA : A = some ⟨g, 0, none⟩ := by injection hv
    subst hA
    simp only [blk, Option.map_some, Option.some.injEq] at he
    subst he
    rw [hL] at hh
    injection hh with hh
    cases hh
/-- Parts stay as they are when an iterator of the call's own is set. -/
theorem Pts.iter {w w' : World} {base g : Nat} {A : Option Addr} {n c : Nat} {xss : List (List Int)} {s : ByteArray} {p : Nat} (h : Pts w base A n c xss) (ho : Onl g w w') (hg : w.heap[g]? = some (.stringIter s p)) (hb : base ≤ g) : Pts w' base A n c xss := by
  obtain ⟨hl, vs, h1, he⟩ := h
  refine ⟨hl, vs, h1.onl ho (h1.ne_iter hg), fun i v xs hv hx => ?_⟩
  obtain ⟨A', c', e, hc, h2, h3⟩ := he i v xs hv hx
  have hne : 0 < xs.length → blk A' ≠ some g := fun hn e => by
    rcases h3 hn g e with h4 | ⟨cs, fr, h4⟩
    · omega
    · rw [hg] at h4; cases h4
  refine ⟨A', c', e, hc, ⟨⟨h2.1.1, fun hn => ?_⟩, h2.2⟩, fun hn k hk => ?_⟩
  · obtain ⟨b, off, hA, hlt, hcc⟩ := h2.1.2 hn
    refine ⟨b, off, hA, Nat.lt_of_lt_of_le hlt ho.size, fun j u hu => ?_⟩
    rw [World.cell?_of_block (a := ⟨b, off + j, none⟩) (ho.block b hlt (fun e => hne hn (by rw [hA]; injection e with e; rw [e]; rfl)))]
    exact hcc j u hu
  · rcases h3 hn k hk with h4 | ⟨cs, fr, h4⟩
    · exact .inl h4
    · refine .inr ⟨cs, fr, (ho.block k (lt_of_heap h4) (fun e => ?_)).trans h4⟩
      injection e with e
      exact hne hn (by rw [hk, e])

/-- A record's value, at its slices. -/
structure Sl where
  AW : Option Addr
  nW : Nat
  cW : Nat
  AR : Option Addr
  nR : Nat
  cR : Nat
  AS : Option Addr
  nS : Nat
  cS : Nat
  AP : Option Addr
  nP : Nat
  cP : Nat
structure RcR (w : World) (x : Rc) (s : Sl) : Prop where
  ws : Trs w s.AW s.nW x.ws
  rs : Trs w s.AR s.nR x.rs
  sh : Ins w s.AS s.nS x.shards
  rp : Bs w s.AP s.nP x.reply
  rc : s.nP ≤ s.cP
  boot : 0 ≤ x.boot ∧ x.boot ≤ 18446744073709551615
  sess : 0 ≤ x.sess ∧ x.sess ≤ 18446744073709551615
  seq : 0 ≤ x.seq ∧ x.seq ≤ 18446744073709551615
  id : 0 ≤ x.id ∧ x.id ≤ 18446744073709551615
  name : Ran x.name
  bW : s.nW ≤ 20000000
  bR : s.nR ≤ 20000000
  bS : s.nS ≤ 20000000
  tW : (trs x.ws).length + 20 ≤ 140737488355328
  tR : (trs x.rs).length + 20 ≤ 140737488355328
theorem RcR.keep {w w' : World} {x : Rc} {s : Sl} (h : RcR w x s) (hb : Below w.heap.size w w') : RcR w' x s :=
  ⟨h.ws.keep hb, h.rs.keep hb, h.sh.keep hb, h.rp.keep hb, h.rc, h.boot, h.sess, h.seq, h.id, h.name, h.bW, h.bR, h.bS, h.tW, h.tR⟩
/-- Its eleven cells. -/
abbrev rcV (k b s q : Int) (AW : Option Addr) (nW cW : Nat) (AR : Option Addr) (nR cR : Nat) (f : Bool) (AS : Option Addr) (nS cS : Nat) (AP : Option Addr) (nP cP : Nat) (i : Int) (S : ByteArray) : Array Value :=
  #[.int .i64 k, .int .u64 b, .int .u64 s, .int .u64 q, .slice AW nW cW, .slice AR nR cR, .bool f, .slice AS nS cS, .slice AP nP cP, .int .u64 i, .string S]
theorem part_any {B : Nat} (x : Rc) (s : Sl) (c : Int) (w : World) (h : RcR w x s) (hfo : Fo w B s.AP s.nP) (hc : c = 116 ∨ c = 119 ∨ c = 114 ∨ c = 99 ∨ c = 115 ∨ c = 97 ∨ c = 105 ∨ c = 110) :
    Calls Try.prog 54 #[.agg (rcV x.kind x.boot x.sess x.seq s.AW s.nW s.cW s.AR s.nR s.cR x.commit s.AS s.nS s.cS s.AP s.nP s.cP x.id (strOfNums x.name)), .int .i32 c] w (PartP B w (partL x c)) := by
  rcases hc with rfl | rfl | rfl | rfl | rfl | rfl | rfl | rfl
  · exact part_t _ _ _ _ _ _ _ _ _ _ _ w h.boot h.sess h.seq
  · exact part_w _ _ _ _ _ _ _ _ _ _ _ _ _ x.ws w h.ws h.bW h.tW
  · exact part_r _ _ _ _ _ _ _ _ _ _ _ _ _ x.rs w h.rs h.bR h.tR
  · exact part_c _ _ _ _ x.commit _ _ _ _ _ _ w
  · exact part_s _ _ _ _ _ _ _ _ _ _ _ _ _ x.shards w h.sh h.bS
  · exact part_a _ _ _ _ _ _ _ _ _ _ _ _ _ x.reply w h.rp h.rc hfo
  · exact part_i _ _ _ _ x.id _ _ _ _ _ _ w h.id
  · exact part_n _ _ _ _ _ _ _ _ _ _ x.name w h.name
theorem fl_mem {k c : Int} (h : c ∈ fl k) : (c = 116 ∨ c = 119 ∨ c = 114 ∨ c = 99 ∨ c = 115 ∨ c = 97 ∨ c = 105 ∨ c = 110) ∧ 0 ≤ c ∧ c < 128 := by
  unfold fl at h
  repeat' split at h
  all_goals (simp only [List.mem_cons, List.not_mem_nil, or_false] at h; try omega)
set_option maxHeartbeats 1000000 in
theorem fields_any (k : Int) (w : World) : Calls Try.prog 53 #[.int .i64 k] w fun e w' => e = .returned (.string (strOfNums (fl k))) ∧ w = w' := by
  have hE : ∀ c : Int, k = c → (k == c) = true := fun c h => by simp [h]
  have hN : ∀ c : Int, k ≠ c → (k == c) = false := fun c h => by simp [h]
  by_cases h1 : k = 1
  · subst h1
    go_enter Try.func53, Try.ntmps53
    go_wp2
    go_ret
    exact ⟨rfl, rfl⟩
  by_cases h2 : k = 2
  · subst h2
    go_enter Try.func53, Try.ntmps53
    go_wp2
    go_ret
    exact ⟨rfl, rfl⟩
  by_cases h3 : k = 3
  · subst h3
    go_enter Try.func53, Try.ntmps53
    go_wp2
    go_ret
    exact ⟨rfl, rfl⟩
  by_cases h9 : k = 9
  · subst h9
    go_enter Try.func53, Try.ntmps53
    go_wp2
    go_ret
    exact ⟨rfl, rfl⟩
  by_cases h4 : k = 4
  · subst h4
    go_enter Try.func53, Try.ntmps53
    go_wp2
    go_ret
    exact ⟨rfl, rfl⟩
  by_cases h5 : k = 5
  · subst h5
    go_enter Try.func53, Try.ntmps53
    go_wp2
    go_ret
    exact ⟨rfl, rfl⟩
  by_cases h7 : k = 7
  · subst h7
    go_enter Try.func53, Try.ntmps53
    go_wp2
    go_ret
    exact ⟨rfl, rfl⟩
  by_cases h8 : k = 8
  · subst h8
    go_enter Try.func53, Try.ntmps53
    go_wp2
    go_ret
    exact ⟨rfl, rfl⟩
  by_cases h6 : k = 6
  · subst h6
    go_enter Try.func53, Try.ntmps53
    go_wp2
    go_ret
    exact ⟨rfl, rfl⟩
  have HFL := Lib.hid (show strOfNums (fl k) = ⟨#[]⟩ by unfold fl; simp [h1, h2, h3, h4, h5, h6, h7, h8, h9, strOfNums])
  have b1 := hN 1 h1; have b2 := hN 2 h2; have b3 := hN 3 h3; have b4 := hN 4 h4; have b5 := hN 5 h5; have b6 := hN 6 h6; have b7 := hN 7 h7; have b8 := hN 8 h8; have b9 := hN 9 h9
  clear hE hN h1 h2 h3 h4 h5 h6 h7 h8 h9
  go_enter Try.func53, Try.ntmps53
  go_wp2
  go_ret
  exact ⟨by rw [HFL.out]; rfl, rfl⟩
end Go.Proofs.Ytmjjbfcblmmipaa
namespace Go.Proofs.Ytmjjbfcblmmipaa
set_option linter.unusedVariables false
set_option linter.unusedSimpArgs false
open Go.RowKit

/-- A row of the call's own, with elements of s cells. -/
def OwnK (s : Nat) (w : World) (base : Nat) (e : TypeId) (A : Option Addr) (n c : Nat) (vs : List Value) : Prop := w.ownsRow base e s (.slice A n c) n vs
section
variable {P : Program} {s : Nat} {w w' : World} {base : Nat} {e : TypeId} {A : Option Addr} {n c : Nat} {vs : List Value}
theorem OwnK.nil_ : OwnK s w base e none 0 0 [] := World.ownsRow_nil w base e s
theorem OwnK.mono {b : Nat} (h : OwnK s w base e A n c vs) (hb : b ≤ base) : OwnK s w b e A n c vs := by
  refine ⟨h.1, ?_⟩
  rcases h.2 with h2 | ⟨g, cap, cur, hv, hg, r⟩
  · exact .inl h2
  · exact .inr ⟨g, cap, cur, hv, by omega, r⟩
theorem OwnK.lies (h : OwnK s w base e A n c vs) : ∀ k, blk A = some k → base ≤ k ∧ k < w.heap.size := by
  intro k hk
  refine World.ownsRow.lt h k ?_
  cases A with
  | none => cases hk
  | some a => exact hk
theorem OwnK.kept {row : Option Nat} (h : OwnK s w base e A n c vs) (hg : w.grownBy w' row) (hne : blk A = none ∨ blk A ≠ row) : OwnK s w' base e A n c vs :=
  World.ownsRow.kept h hg (by rw [ownBlock_eq]; exact hne)
theorem OwnK.onl {g : Nat} (h : OwnK s w base e A n c vs) (hg : Onl g w w') (hne : blk A ≠ some g) : OwnK s w' base e A n c vs := h.kept hg (.inr hne)
theorem OwnK.alloc (h : OwnK s w base e A n c vs) (o : Obj) : OwnK s (w.alloc o) base e A n c vs := World.ownsRow.alloc h o
theorem OwnK.below {B : Nat} (h : OwnK s w base e A n c vs) (hb : Below B w w') (hB : ∀ k, blk A = some k → k < B) : OwnK s w' base e A n c vs := by
  refine ⟨h.1, ?_⟩
  rcases h.2 with h2 | ⟨g, cap, cur, hv, hg, hh, r⟩
  · exact .inl h2
  · refine .inr ⟨g, cap, cur, hv, hg, ?_, r⟩
    have hA : A = some ⟨g, 0, none⟩ := by injection hv
    rw [hb.block g (hB g (by rw [hA]; rfl))]; exact hh
theorem OwnK.keep (h : OwnK s w base e A n c vs) (hb : Below w.heap.size w w') : OwnK s w' base e A n c vs := h.below hb fun k hk => (h.lies k hk).2
theorem OwnK.ne_blk {t : TypeId} {L : Nat} {cs : Array Value} {fr : Nat × Nat} (h : OwnK s w base e A n c vs) (hL : w.heap[L]? = some (.cells cs t fr)) (ht : t ≠ e) : blk A ≠ some L := by
  intro he
  rcases h.2 with ⟨hv, _⟩ | ⟨g, cap, cur, hv, _, hh, _⟩
  · have : A = none := by injection hv
    subst this; cases he
  · have hA : A = some ⟨g, 0, none⟩ := by injection hv
    subst hA
    simp only [blk, Option.map_some, Option.some.injEq] at he
    subst he
    rw [hL] at hh
    injection hh with hh
    injection hh with _ hh
    exact ht hh
theorem OwnK.ne_iter {L : Nat} {st : ByteArray} {p : Nat} (h : OwnK s w base e A n c vs) (hL : w.heap[L]? = some (.stringIter st p)) : blk A ≠ some L := by
  intro he
  rcases h.2 with ⟨hv, _⟩ | ⟨g, cap, cur, hv, _, hh, _⟩
  · have : A = none := by injection hv
    subst this; cases he
  · have hA : A = some ⟨g, 0, none⟩ := by injection hv
    subst hA
    simp only [blk, Option.map_some, Option.some.injEq] at he
    subst he
    rw [hL] at hh
    injection hh with hh
    cases hh
theorem OwnK.cap (h : OwnK s w base e A n c vs) : n ≤ c := by
  rcases h.2 with ⟨hv, h0⟩ | ⟨g, cap, cur, hv, _, _, hh, _⟩
  · omega
  · have : c = cap := by injection hv
    omega
theorem OwnK.len (h : OwnK s w base e A n c vs) : vs.length = n * s := h.1
/-- Its cells, where it isn't empty. -/
theorem OwnK.cells (h : OwnK s w base e A n c vs) (hn : 0 < n) : ∃ g, A = some ⟨g, 0, none⟩ ∧ base ≤ g ∧ g < w.heap.size ∧ ∀ j u, vs[j]? = some u → w.cell? ⟨g, j, none⟩ = some u := by
  obtain ⟨g, cap, hv, hg, hlt⟩ := World.ownsRow.form h hn
  have hA : A = some ⟨g, 0, none⟩ := by injection hv
  subst hA
  refine ⟨g, rfl, (h.lies g rfl).1, hlt, fun j u hu => ?_⟩
  have := World.ownsRow.cells h (g := g) rfl j u hu
  have e : (⟨g, 0, none⟩ : Addr).add j = ⟨g, j, none⟩ := by unfold Addr.add; split <;> simp_all
  rwa [e] at this
theorem run_append_wide (t ty : TypeId) (i : TypeInfo) (z : Value) (bytes : Nat) (ht : P.underlying t = some (.slice e)) (hi : P.info? e = some i) (hz : i.zero = some z)
    (hsize : i.size = s) (hby : i.bytes = bytes) (hzs : z.cells.size = s) (hs0 : 0 < s) (hown : OwnK s w base e A n c vs)
    (b off m c2 : Nat) (us : List Value) (hl : us.length = m * s) (hr : ∀ j u, us[j]? = some u → w.cell? ⟨b, off + j, none⟩ = some u) (h1 : ∀ u ∈ us, u.oneCell' = true)
    (h63 : n + m ≤ maxLen) (hbytes : (n + m) * bytes ≤ 140737488355328) (hbase : base ≤ w.heap.size) :
    ∃ A' c' w', (Builtin.append_ #[t, t] ty #[.slice A n c, .slice (some ⟨b, off, none⟩) m c2]).run P w = .ok (.slice A' (n + m) c') w' ∧ OwnK s w' base e A' (n + m) c' (vs ++ us) ∧ Grows w w' A A' := by
  have hcells : ∀ j u, us[j]? = some u → w.cell? ((⟨b, off, none⟩ : Addr).add j) = some u := by
    intro j u hu
    have e : (⟨b, off, none⟩ : Addr).add j = ⟨b, off + j, none⟩ := by unfold Addr.add; split <;> simp_all
    rw [e]; exact hr j u hu
  obtain ⟨v', w', hrun, ho, hg, _, hb⟩ := run_append_own_at (P := P) w base t ty e i z s bytes ht hi hz hsize hby hzs hs0 (.slice A n c) n vs hown ⟨b, off, none⟩ m c2 us hl hcells h1 h63 hbytes hbase
  have key : ∃ A' c', v' = .slice A' (n + m) c' ∧ OwnK s w' base e A' (n + m) c' (vs ++ us) ∧ (blk A' = blk A ∨ blk A' = some w.heap.size) := by
    rcases ho.2 with ⟨rfl, h0⟩ | ⟨g, cap, cur, rfl, _⟩
    · refine ⟨none, 0, by rw [h0], ?_, ?_⟩
      · unfold OwnK; rw [h0] at ho ⊢; exact ho
      · rw [← ownBlock_eq A n c]; exact hb
    · refine ⟨some ⟨g, 0, none⟩, cap, rfl, ho, ?_⟩
      rw [← ownBlock_eq A n c]; exact hb
  obtain ⟨A', c', rfl, h2, h3⟩ := key
  exact ⟨A', c', w', hrun, h2, by rw [← ownBlock_eq A n c]; exact hg, h3.imp id fun h => ⟨_, h, Nat.le_refl _⟩⟩
theorem wp_append_wide {o : Oper} {a : Act} {K : Act → World → Prop} {Q : Exit → Act → World → Prop} (sl x : Operand) (t : TypeId)
    (ho : o.op = .call { callee := .builtin .append, args := #[sl, x], argTypes := #[t, t] })
    (i : TypeInfo) (z : Value) (bytes : Nat) (ht : P.underlying t = some (.slice e)) (hi : P.info? e = some i) (hz : i.zero = some z)
    (hsize : i.size = s) (hby : i.bytes = bytes) (hzs : z.cells.size = s) (hs0 : 0 < s) (hs : a.eval sl = .slice A n c) (hown : OwnK s w base e A n c vs)
    (b off m c2 : Nat) (us : List Value) (hx : a.eval x = .slice (some ⟨b, off, none⟩) m c2) (hl : us.length = m * s) (hr : ∀ j u, us[j]? = some u → w.cell? ⟨b, off + j, none⟩ = some u) (h1 : ∀ u ∈ us, u.oneCell' = true)
    (h63 : n + m ≤ maxLen) (hbytes : (n + m) * bytes ≤ 140737488355328) (hbase : base ≤ w.heap.size)
    (h : ∀ A' c' w', OwnK s w' base e A' (n + m) c' (vs ++ us) → Grows w w' A A' → K (a.put o.dst (.slice A' (n + m) c')) w') : o.wp P a w K Q := by
  obtain ⟨A', c', w', hrun, h2, h3⟩ := run_append_wide (P := P) t o.type i z bytes ht hi hz hsize hby hzs hs0 hown b off m c2 us hl hr h1 h63 hbytes hbase
  unfold Oper.wp execOp
  simp only [ho, resolve, invoke, builtin, Sem.run_bind, Sem.run_pure, Result.andThen_ok, List.map_toArray, List.map_cons, List.map_nil, hs, hx, hrun]
  exact h A' c' w' h2 h3
theorem wpList_append_wide {ops : Array Oper} {rest : List Oper} {o : Oper} {a : Act} {Q : Exit → Act → World → Prop} (hgd : o.guard = none) (sl x : Operand) (t : TypeId)
    (ho : o.op = .call { callee := .builtin .append, args := #[sl, x], argTypes := #[t, t] })
    (i : TypeInfo) (z : Value) (bytes : Nat) (ht : P.underlying t = some (.slice e)) (hi : P.info? e = some i) (hz : i.zero = some z)
    (hsize : i.size = s) (hby : i.bytes = bytes) (hzs : z.cells.size = s) (hs0 : 0 < s) (hs : a.eval sl = .slice A n c) (hown : OwnK s w base e A n c vs)
    (b off m c2 : Nat) (us : List Value) (hx : a.eval x = .slice (some ⟨b, off, none⟩) m c2) (hl : us.length = m * s) (hr : ∀ j u, us[j]? = some u → w.cell? ⟨b, off + j, none⟩ = some u) (h1 : ∀ u ∈ us, u.oneCell' = true)
    (h63 : n + m ≤ maxLen) (hbytes : (n + m) * bytes ≤ 140737488355328) (hbase : base ≤ w.heap.size)
    (h : ∀ A' c' w', OwnK s w' base e A' (n + m) c' (vs ++ us) → Grows w w' A A' → wpList P ops Q rest (a.put o.dst (.slice A' (n + m) c')) w') :
    wpList P ops Q (o :: rest) a w :=
  wpList_plain hgd fun _ hK => wp_append_wide sl x t ho i z bytes ht hi hz hsize hby hzs hs0 hs hown b off m c2 us hx hl hr h1 h63 hbytes hbase fun A' c' w' h2 h3 => hK _ _ (h A' c' w' h2 h3)
theorem step_append_wide {ops : Array Oper} {o : Oper} {a : Act} {K : Act → World → Prop} {Q : Exit → Act → World → Prop} {E : Prop} (hgd : o.guard = none) (sl x : Operand) (t : TypeId)
    (ho : o.op = .call { callee := .builtin .append, args := #[sl, x], argTypes := #[t, t] })
    (i : TypeInfo) (z : Value) (bytes : Nat) (ht : P.underlying t = some (.slice e)) (hi : P.info? e = some i) (hz : i.zero = some z)
    (hsize : i.size = s) (hby : i.bytes = bytes) (hzs : z.cells.size = s) (hs0 : 0 < s) (hs : a.eval sl = .slice A n c) (hown : OwnK s w base e A n c vs)
    (b off m c2 : Nat) (us : List Value) (hx : a.eval x = .slice (some ⟨b, off, none⟩) m c2) (hl : us.length = m * s) (hr : ∀ j u, us[j]? = some u → w.cell? ⟨b, off + j, none⟩ = some u) (h1 : ∀ u ∈ us, u.oneCell' = true)
    (h63 : n + m ≤ maxLen) (hbytes : (n + m) * bytes ≤ 140737488355328) (hbase : base ≤ w.heap.size)
    (h : ∀ A' c' w', OwnK s w' base e A' (n + m) c' (vs ++ us) → Grows w w' A A' → K (a.put o.dst (.slice A' (n + m) c')) w') :
    if Region.wanted o (yielded ops a.tmps) = true then Oper.wp P o a w K Q else E := by
  have hw : Region.wanted o (yielded ops a.tmps) = true := by simp [Region.wanted, hgd]
  rw [if_pos hw]
  exact wp_append_wide sl x t ho i z bytes ht hi hz hsize hby hzs hs0 hs hown b off m c2 us hx hl hr h1 h63 hbytes hbase h
end

/-- Threes of the call's own: the row, and the texts of each. -/
def TrO (w : World) (base : Nat) (e : TypeId) (A : Option Addr) (n c : Nat) (l : List Tr) : Prop :=
  l.length = n ∧ ∃ vs, OwnK 3 w base e A n c vs ∧ ∀ k t, l[k]? = some t → ∃ A1 c1 A2 c2, vs[k * 3]? = some (.slice A1 t.a.length c1) ∧ vs[k * 3 + 1]? = some (.slice A2 t.b.length c2) ∧ vs[k * 3 + 2]? = some (.bool t.f) ∧
    Own w base 5 A1 t.a.length c1 (By t.a) ∧ Ran t.a ∧ Own w base 5 A2 t.b.length c2 (By t.b) ∧ Ran t.b ∧ (blk A1 = none ∨ blk A1 ≠ blk A2)
section
variable {w w' : World} {base : Nat} {e : TypeId} {A : Option Addr} {n c : Nat} {l : List Tr}
theorem TrO.nil_ : TrO w base e none 0 0 [] := ⟨rfl, [], OwnK.nil_, fun k t h => by simp at h⟩
theorem TrO.trs (h : TrO w base e A n c l) : Trs w A n l := by
  obtain ⟨hl, vs, ho, he⟩ := h
  refine ⟨hl, fun hn => ?_⟩
  obtain ⟨g, rfl, _, hlt, hc⟩ := ho.cells hn
  refine ⟨g, 0, rfl, hlt, fun k t ht => ?_⟩
  obtain ⟨A1, c1, A2, c2, h0, h1, h2, o1, r1, o2, r2⟩ := he k t ht
  refine ⟨A1, c1, A2, c2, ?_, ?_, ?_, o1.bs r1, o1.cap, o2.bs r2.1, o2.cap⟩
  · rw [Nat.zero_add]; exact hc _ _ h0
  · rw [Nat.zero_add]; exact hc _ _ h1
  · rw [Nat.zero_add]; exact hc _ _ h2
theorem TrO.len (h : TrO w base e A n c l) : l.length = n := h.1
theorem TrO.cap (h : TrO w base e A n c l) : n ≤ c := by obtain ⟨hl, vs, ho, he⟩ := h; exact ho.cap
theorem TrO.lies (h : TrO w base e A n c l) : ∀ k, blk A = some k → base ≤ k ∧ k < w.heap.size := by obtain ⟨hl, vs, ho, he⟩ := h; exact ho.lies
theorem TrO.mono {b : Nat} (h : TrO w base e A n c l) (hb : b ≤ base) : TrO w b e A n c l := by
  obtain ⟨hl, vs, ho, he⟩ := h
  refine ⟨hl, vs, ho.mono hb, fun k t ht => ?_⟩
  obtain ⟨A1, c1, A2, c2, h0, h1, h2, o1, r1, o2, r2⟩ := he k t ht
  exact ⟨A1, c1, A2, c2, h0, h1, h2, o1.mono hb, r1, o2.mono hb, r2⟩
theorem TrO.keep (h : TrO w base e A n c l) (hb : Below w.heap.size w w') : TrO w' base e A n c l := by
  obtain ⟨hl, vs, ho, he⟩ := h
  refine ⟨hl, vs, ho.keep hb, fun k t ht => ?_⟩
  obtain ⟨A1, c1, A2, c2, h0, h1, h2, o1, r1, o2, r2⟩ := he k t ht
  exact ⟨A1, c1, A2, c2, h0, h1, h2, o1.below hb (fun k hk => (o1.lies k hk).2), r1, o2.below hb (fun k hk => (o2.lies k hk).2), r2⟩
/-- A block of another kind is set. -/
theorem TrO.set {g : Nat} {t : TypeId} {cs : Array Value} {fr : Nat × Nat} (h : TrO w base e A n c l) (hg : Onl g w w') (hL : w.heap[g]? = some (.cells cs t fr)) (ht : t ≠ e) (ht5 : t ≠ 5) : TrO w' base e A n c l := by
  obtain ⟨hl, vs, ho, he⟩ := h
  refine ⟨hl, vs, ho.onl hg (ho.ne_blk hL ht), fun k t ht => ?_⟩
  obtain ⟨A1, c1, A2, c2, h0, h1, h2, o1, r1, o2, r2⟩ := he k t ht
  exact ⟨A1, c1, A2, c2, h0, h1, h2, o1.onl hg (o1.ne_blk hL ht5), r1, o2.onl hg (o2.ne_blk hL ht5), r2⟩
theorem TrO.setI {g : Nat} {st : ByteArray} {p : Nat} (h : TrO w base e A n c l) (hg : Onl g w w') (hL : w.heap[g]? = some (.stringIter st p)) : TrO w' base e A n c l := by
  obtain ⟨hl, vs, ho, he⟩ := h
  refine ⟨hl, vs, ho.onl hg (ho.ne_iter hL), fun k t ht => ?_⟩
  obtain ⟨A1, c1, A2, c2, h0, h1, h2, o1, r1, o2, r2⟩ := he k t ht
  exact ⟨A1, c1, A2, c2, h0, h1, h2, o1.onl hg (o1.ne_iter hL), r1, o2.onl hg (o2.ne_iter hL), r2⟩
/-- The row grows by one three; the texts of all stay. -/
theorem TrO.snoc {w2 : World} {A' : Option Addr} {c' : Nat} {vs : List Value} {A1 A2 : Option Addr} {c1 c2 : Nat} {t : Tr} (he5 : e ≠ 5)
    (hl : l.length = n) (ho : OwnK 3 w base e A n c vs) (he : ∀ k t, l[k]? = some t → ∃ A1 c1 A2 c2, vs[k * 3]? = some (.slice A1 t.a.length c1) ∧ vs[k * 3 + 1]? = some (.slice A2 t.b.length c2) ∧ vs[k * 3 + 2]? = some (.bool t.f) ∧
    Own w base 5 A1 t.a.length c1 (By t.a) ∧ Ran t.a ∧ Own w base 5 A2 t.b.length c2 (By t.b) ∧ Ran t.b ∧ (blk A1 = none ∨ blk A1 ≠ blk A2))
    (o1 : Own w base 5 A1 t.a.length c1 (By t.a)) (r1 : Ran t.a) (o2 : Own w base 5 A2 t.b.length c2 (By t.b)) (r2 : Ran t.b) (hd : blk A1 = none ∨ blk A1 ≠ blk A2)
    (hn : OwnK 3 w2 base e A' (n + 1) c' (vs ++ [.slice A1 t.a.length c1, .slice A2 t.b.length c2, .bool t.f])) (hg : Grows w w2 A A') : TrO w2 base e A' (n + 1) c' (l ++ [t]) := by
  have hvl := ho.len
  have keepO : ∀ {A3 : Option Addr} {n3 c3 : Nat} {us : List Value}, Own w base 5 A3 n3 c3 us → Own w2 base 5 A3 n3 c3 us := by
    intro A3 n3 c3 us h3
    refine h3.kept hg.1 ?_
    rcases h3.2 with ⟨hv, _⟩ | ⟨g3, cap3, cur3, hv, _, hh3, _⟩
    · left
      have : A3 = none := by injection hv
      rw [this]; rfl
    · right
      have hA3 : A3 = some ⟨g3, 0, none⟩ := by injection hv
      intro e1
      exact ho.ne_blk hh3 (fun e => he5 e.symm) (by rw [← e1, hA3]; rfl)
  refine ⟨by simp [hl], _, hn, fun k u hu => ?_⟩
  by_cases hk : k < n
  · rw [List.getElem?_append_left (by omega)] at hu
    obtain ⟨B1, d1, B2, d2, h0, h1, h2, p1, q1, p2, q2⟩ := he k u hu
    refine ⟨B1, d1, B2, d2, ?_, ?_, ?_, keepO p1, q1, keepO p2, q2⟩
    · rw [List.getElem?_append_left (by omega)]; exact h0
    · rw [List.getElem?_append_left (by omega)]; exact h1
    · rw [List.getElem?_append_left (by omega)]; exact h2
  · rw [List.getElem?_append_right (by omega)] at hu
    have hk0 : k = n := by
      have := (List.getElem?_eq_some_iff.1 hu).1
      simp at this; omega
    subst hk0
    rw [hl, Nat.sub_self] at hu
    have hu' : t = u := by simpa using hu
    subst hu'
    refine ⟨A1, c1, A2, c2, ?_, ?_, ?_, keepO o1, r1, keepO o2, r2, hd⟩
    · rw [List.getElem?_append_right (by omega), hvl, Nat.sub_self]; rfl
    · rw [List.getElem?_append_right (by omega), hvl, Nat.add_sub_cancel_left]; rfl
    · rw [List.getElem?_append_right (by omega), hvl, Nat.add_sub_cancel_left]; rfl
end
end Go.Proofs.Ytmjjbfcblmmipaa
