/- Going through a string of letters, wherever its iterator lies; what a record's value reads as. -/
import Derived.Test.YtmjjbfcblmmipaaPart2W
import Derived.Laws.RangeString
import Derived.Laws.RangeAny
namespace Go.Proofs.Ytmjjbfcblmmipaa
set_option linter.unusedVariables false
set_option linter.unusedSimpArgs false
open Go.RowKit

/-- The iterator in block g is set to a place. -/
def itSet (W : World) (g : Nat) (s : ByteArray) (p : Nat) : World := { W with heap := W.heap.setIfInBounds g (.stringIter s p) }
theorem itSet_onl (W : World) (g : Nat) (s : ByteArray) (p : Nat) : Onl g W (itSet W g s p) := by
  refine ⟨rfl, rfl, rfl, by simp [itSet], fun i hi hne => ?_⟩
  simp only [itSet]
  rw [Array.getElem?_setIfInBounds_ne]
  exact fun e => hne (by rw [e])
theorem itSet_size (W : World) (g : Nat) (s : ByteArray) (p : Nat) : (itSet W g s p).heap.size = W.heap.size := by simp [itSet]
theorem itSet_at (W : World) (g : Nat) (s : ByteArray) (p : Nat) (h : g < W.heap.size) : (itSet W g s p).heap[g]? = some (.stringIter s p) := by
  simp only [itSet]
  rw [Array.getElem?_setIfInBounds_self_of_lt h]
theorem next_at {P : Program} (W : World) (g : Nat) (fs : List Int) (k : Nat) (c : Int) (ty : TypeId) (hg : W.heap[g]? = some (.stringIter (strOfNums fs) k)) (hc : fs[k]? = some c) (h0 : 0 ≤ c) (h1 : c < 128) :
    (Instr.next (.pointer (some ⟨g, 0, none⟩)) true ty).run P W = .ok (.tuple #[.bool true, .int .i64 k, .int .i32 c]) (itSet W g (strOfNums fs) (k + 1)) := by
  obtain ⟨hk, hfc⟩ := List.getElem?_eq_some_iff.1 hc
  have hsz : k < (strOfNums fs).size := by rw [strOfNums_size]; exact hk
  have hch : ((strOfNums fs)[k]'hsz).toNat = c.toNat := by
    have : (strOfNums fs)[k]'hsz = UInt8.ofNat c.toNat := by
      show (strOfNums fs).data[k] = _
      simp only [strOfNums]
      simp [hfc]
    rw [this, UInt8.toNat_ofNat']
    omega
  have hd := decode_ascii (strOfNums fs) k hsz (by rw [hch]; omega)
  rw [hch] at hd
  simp only [Instr.next, getObj, setObj, Sem.run_bind, Sem.run, hg, Result.andThen, hsz, if_true, hd]
  simp [goInt, Sem.run, hg, itSet]
  omega
theorem next_done {P : Program} (W : World) (g : Nat) (fs : List Int) (k : Nat) (ty : TypeId) (hg : W.heap[g]? = some (.stringIter (strOfNums fs) k)) (hk : ¬ k < fs.length) :
    (Instr.next (.pointer (some ⟨g, 0, none⟩)) true ty).run P W = .ok (.tuple #[.bool false]) W := by
  have h : ¬ k < (strOfNums fs).size := by rw [strOfNums_size]; exact hk
  simp [Instr.next, getObj, Sem.run, hg, h]
theorem iterPos_of {w : World} {g p : Nat} {s : ByteArray} (h : w.heap[g]? = some (.stringIter s p)) : w.iterPos g = p := by simp [World.iterPos, h]
theorem Own.ne_iter {w : World} {base : Nat} {e : TypeId} {A : Option Addr} {n c L : Nat} {vs : List Value} {s : ByteArray} {p : Nat} (h : Own w base e A n c vs) (hL : w.heap[L]? = some (.stringIter s p)) : blk A ≠ some L := by
  intro he
  rcases h.2 with ⟨hv, _⟩ | ⟨g, cap, cur, hv, _, hh, _⟩
  · have : A = none := by injection hv
    subst this; cases he
  · have hA : A = some ⟨g, 0, none⟩ := by injection hv
    subst hA
    simp only [blk, Option.map_some, Option.some.injEq] at he
    subst he
    rw [hL] at hh
    injection hh with hh
    cases hh
/-- Parts stay as they are when an iterator of the call's own is set. -/
theorem Pts.iter {w w' : World} {base g : Nat} {A : Option Addr} {n c : Nat} {xss : List (List Int)} {s : ByteArray} {p : Nat} (h : Pts w base A n c xss) (ho : Onl g w w') (hg : w.heap[g]? = some (.stringIter s p)) (hb : base ≤ g) : Pts w' base A n c xss := by
  obtain ⟨hl, vs, h1, he⟩ := h
  refine ⟨hl, vs, h1.onl ho (h1.ne_iter hg), fun i v xs hv hx => ?_⟩
  obtain ⟨A', c', e, hc, h2, h3⟩ := he i v xs hv hx
  have hne : 0 < xs.length → blk A' ≠ some g := fun hn e => by
    rcases h3 hn g e with h4 | ⟨cs, fr, h4⟩
    · omega
    · rw [hg] at h4; cases h4
  refine ⟨A', c', e, hc, ⟨⟨h2.1.1, fun hn => ?_⟩, h2.2⟩, fun hn k hk => ?_⟩
  · obtain ⟨b, off, hA, hlt, hcc⟩ := h2.1.2 hn
    refine ⟨b, off, hA, Nat.lt_of_lt_of_le hlt ho.size, fun j u hu => ?_⟩
    rw [World.cell?_of_block (a := ⟨b, off + j, none⟩) (ho.block b hlt (fun e => hne hn (by rw [hA]; injection e with e; rw [e]; rfl)))]
    exact hcc j u hu
  · rcases h3 hn k hk with h4 | ⟨cs, fr, h4⟩
    · exact .inl h4
    · refine .inr ⟨cs, fr, (ho.block k (lt_of_heap h4) (fun e => ?_)).trans h4⟩
      injection e with e
      exact hne hn (by rw [hk, e])

/-- A record's value, at its slices. -/
structure Sl where
  AW : Option Addr
  nW : Nat
  cW : Nat
  AR : Option Addr
  nR : Nat
  cR : Nat
  AS : Option Addr
  nS : Nat
  cS : Nat
  AP : Option Addr
  nP : Nat
  cP : Nat
structure RcR (w : World) (x : Rc) (s : Sl) : Prop where
  ws : Trs w s.AW s.nW x.ws
  rs : Trs w s.AR s.nR x.rs
  sh : Ins w s.AS s.nS x.shards
  rp : Bs w s.AP s.nP x.reply
  rc : s.nP ≤ s.cP
  boot : 0 ≤ x.boot ∧ x.boot ≤ 18446744073709551615
  sess : 0 ≤ x.sess ∧ x.sess ≤ 18446744073709551615
  seq : 0 ≤ x.seq ∧ x.seq ≤ 18446744073709551615
  id : 0 ≤ x.id ∧ x.id ≤ 18446744073709551615
  name : Ran x.name
  bW : s.nW ≤ 20000000
  bR : s.nR ≤ 20000000
  bS : s.nS ≤ 20000000
  tW : (trs x.ws).length + 20 ≤ 140737488355328
  tR : (trs x.rs).length + 20 ≤ 140737488355328
theorem RcR.keep {w w' : World} {x : Rc} {s : Sl} (h : RcR w x s) (hb : Below w.heap.size w w') : RcR w' x s :=
  ⟨h.ws.keep hb, h.rs.keep hb, h.sh.keep hb, h.rp.keep hb, h.rc, h.boot, h.sess, h.seq, h.id, h.name, h.bW, h.bR, h.bS, h.tW, h.tR⟩
/-- Its eleven cells. -/
abbrev rcV (k b s q : Int) (AW : Option Addr) (nW cW : Nat) (AR : Option Addr) (nR cR : Nat) (f : Bool) (AS : Option Addr) (nS cS : Nat) (AP : Option Addr) (nP cP : Nat) (i : Int) (S : ByteArray) : Array Value :=
  #[.int .i64 k, .int .u64 b, .int .u64 s, .int .u64 q, .slice AW nW cW, .slice AR nR cR, .bool f, .slice AS nS cS, .slice AP nP cP, .int .u64 i, .string S]
theorem part_any {B : Nat} (x : Rc) (s : Sl) (c : Int) (w : World) (h : RcR w x s) (hfo : Fo w B s.AP s.nP) (hc : c = 116 ∨ c = 119 ∨ c = 114 ∨ c = 99 ∨ c = 115 ∨ c = 97 ∨ c = 105 ∨ c = 110) :
    Calls Try.prog 54 #[.agg (rcV x.kind x.boot x.sess x.seq s.AW s.nW s.cW s.AR s.nR s.cR x.commit s.AS s.nS s.cS s.AP s.nP s.cP x.id (strOfNums x.name)), .int .i32 c] w (PartP B w (partL x c)) := by
  rcases hc with rfl | rfl | rfl | rfl | rfl | rfl | rfl | rfl
  · exact part_t _ _ _ _ _ _ _ _ _ _ _ w h.boot h.sess h.seq
  · exact part_w _ _ _ _ _ _ _ _ _ _ _ _ _ x.ws w h.ws h.bW h.tW
  · exact part_r _ _ _ _ _ _ _ _ _ _ _ _ _ x.rs w h.rs h.bR h.tR
  · exact part_c _ _ _ _ x.commit _ _ _ _ _ _ w
  · exact part_s _ _ _ _ _ _ _ _ _ _ _ _ _ x.shards w h.sh h.bS
  · exact part_a _ _ _ _ _ _ _ _ _ _ _ _ _ x.reply w h.rp h.rc hfo
  · exact part_i _ _ _ _ x.id _ _ _ _ _ _ w h.id
  · exact part_n _ _ _ _ _ _ _ _ _ _ x.name w h.name
theorem fl_mem {k c : Int} (h : c ∈ fl k) : (c = 116 ∨ c = 119 ∨ c = 114 ∨ c = 99 ∨ c = 115 ∨ c = 97 ∨ c = 105 ∨ c = 110) ∧ 0 ≤ c ∧ c < 128 := by
  unfold fl at h
  repeat' split at h
  all_goals (simp only [List.mem_cons, List.not_mem_nil, or_false] at h; try omega)
set_option maxHeartbeats 1000000 in
theorem fields_any (k : Int) (w : World) : Calls Try.prog 53 #[.int .i64 k] w fun e w' => e = .returned (.string (strOfNums (fl k))) ∧ w = w' := by
  have hE : ∀ c : Int, k = c → (k == c) = true := fun c h => by simp [h]
  have hN : ∀ c : Int, k ≠ c → (k == c) = false := fun c h => by simp [h]
  by_cases h1 : k = 1
  · subst h1
    go_enter Try.func53, Try.ntmps53
    go_wp2
    go_ret
    exact ⟨rfl, rfl⟩
  by_cases h2 : k = 2
  · subst h2
    go_enter Try.func53, Try.ntmps53
    go_wp2
    go_ret
    exact ⟨rfl, rfl⟩
  by_cases h3 : k = 3
  · subst h3
    go_enter Try.func53, Try.ntmps53
    go_wp2
    go_ret
    exact ⟨rfl, rfl⟩
  by_cases h9 : k = 9
  · subst h9
    go_enter Try.func53, Try.ntmps53
    go_wp2
    go_ret
    exact ⟨rfl, rfl⟩
  by_cases h4 : k = 4
  · subst h4
    go_enter Try.func53, Try.ntmps53
    go_wp2
    go_ret
    exact ⟨rfl, rfl⟩
  by_cases h5 : k = 5
  · subst h5
    go_enter Try.func53, Try.ntmps53
    go_wp2
    go_ret
    exact ⟨rfl, rfl⟩
  by_cases h7 : k = 7
  · subst h7
    go_enter Try.func53, Try.ntmps53
    go_wp2
    go_ret
    exact ⟨rfl, rfl⟩
  by_cases h8 : k = 8
  · subst h8
    go_enter Try.func53, Try.ntmps53
    go_wp2
    go_ret
    exact ⟨rfl, rfl⟩
  by_cases h6 : k = 6
  · subst h6
    go_enter Try.func53, Try.ntmps53
    go_wp2
    go_ret
    exact ⟨rfl, rfl⟩
  have HFL := Lib.hid (show strOfNums (fl k) = ⟨#[]⟩ by unfold fl; simp [h1, h2, h3, h4, h5, h6, h7, h8, h9, strOfNums])
  have b1 := hN 1 h1; have b2 := hN 2 h2; have b3 := hN 3 h3; have b4 := hN 4 h4; have b5 := hN 5 h5; have b6 := hN 6 h6; have b7 := hN 7 h7; have b8 := hN 8 h8; have b9 := hN 9 h9
  clear hE hN h1 h2 h3 h4 h5 h6 h7 h8 h9
  go_enter Try.func53, Try.ntmps53
  go_wp2
  go_ret
  exact ⟨by rw [HFL.out]; rfl, rfl⟩
end Go.Proofs.Ytmjjbfcblmmipaa
