/- VaultCalls: what its round keeps. -/
import Derived.Test.YtlphlogliphhdaaDoorAwakeW
import Derived.Test.YtlphlogliphhdaaDoorOverW
import Derived.Test.YtlphlogliphhdaaDoorSameW
import Derived.Test.YtlphlogliphhdaaDoorRelW
import Derived.Test.YtlphlogliphhdaaDoorActs
namespace Go.Proofs.YtlphlogliphhdaaDoor
set_option linter.unusedVariables false
set_option linter.unusedSimpArgs false
open Go.RowKit Go.Maps
open Go.Proofs (encStr)

/-- Only one row's cells have turned. -/
structure Rowfr (A : Option Addr) (w w' : World) : Prop where
  os : w'.os = w.os
  tape : w'.tape = w.tape
  output : w'.output = w.output
  size : w.heap.size ≤ w'.heap.size
  block : ∀ i, i < w.heap.size → blk A ≠ some i → w'.heap[i]? = w.heap[i]?
theorem Rowfr.below {A : Option Addr} {w w' : World} {B : Nat} (h : Rowfr A w w') (hB : B ≤ w.heap.size) (hA : ∀ g, blk A = some g → B ≤ g) : Below B w w' :=
  ⟨h.os, h.tape, h.output, h.size, fun i hi => h.block i (Nat.lt_of_lt_of_le hi hB) (fun e => absurd (hA i e) (by omega))⟩
set_option maxHeartbeats 1000000 in
theorem over_row (A : Option Addr) (n c base : Nat) (zs : List Int) (w : World) (ho : Own w base 5 A n c (By zs)) (hr : Ran zs) (hN : n ≤ 9223372036854775807) :
    Calls Tryd.prog 11 #[.slice A n c] w fun e w' => e = .returned (.tuple #[]) ∧ Rowfr A w w' := by
  rcases ho.2 with ⟨hv, h0⟩ | ⟨g, cap, cur, hv, _⟩
  · injection hv with h1 h2 h3
    subst h1; subst h2; subst h3
    clear ho hr
    go_enter Tryd.func11, Tryd.ntmps11
    go_wp2
    refine wp_loop_rounds 1 ?_
    rw [rounds_succ]
    go_wp2
    go_end0
    exact ⟨rfl, rfl, rfl, rfl, Nat.le_refl _, fun _ _ _ => rfl⟩
  · injection hv with h1 h2 h3
    subst h1; subst h3
    refine (over_any g n c n c base zs w ho hr (Nat.le_refl _) hN).mono ?_
    rintro e w' ⟨rfl, _, _, _, hon⟩
    exact ⟨rfl, hon.os, hon.tape, hon.output, hon.size, fun i hi hne => hon.block i hi (fun e => hne e.symm)⟩

/-- The act's own block. -/
def Hq (w : World) (g : Nat) (k : Int) (N T : ByteArray) (v : Value) : Prop := w.heap[g]? = some (.cells #[.int .i64 k, .string N, .string T, v] 30 (0, 0))
theorem Hq.cells {w : World} {g : Nat} {k : Int} {N T : ByteArray} {v : Value} (h : Hq w g k N T v) : w.cell? ⟨g, 0, none⟩ = some (.int .i64 k) ∧ w.cell? ⟨g, 1, none⟩ = some (.string N) ∧ w.cell? ⟨g, 2, none⟩ = some (.string T) ∧ w.cell? ⟨g, 3, none⟩ = some v :=
  ⟨by rw [cell_of_row _ _ 0 _ _ _ h]; rfl, by rw [cell_of_row _ _ 1 _ _ _ h]; rfl, by rw [cell_of_row _ _ 2 _ _ _ h]; rfl, by rw [cell_of_row _ _ 3 _ _ _ h]; rfl⟩
theorem Hq.lt {w : World} {g : Nat} {k : Int} {N T : ByteArray} {v : Value} (h : Hq w g k N T v) : g < w.heap.size := lt_of_heap h
theorem Hq.below {w w' : World} {g : Nat} {k : Int} {N T : ByteArray} {v : Value} (h : Hq w g k N T v) (hb : Below w.heap.size w w') : Hq w' g k N T v := (hb.block g h.lt).trans h
theorem Hq.vfr {w w' : World} {g p : Nat} {k : Int} {N T : ByteArray} {v : Value} (h : Hq w g k N T v) (hb : Vfr p w w') (hp : g ≠ p) : Hq w' g k N T v := (hb.block g h.lt hp (fun es c => by rw [h]; simp)).trans h
theorem Hq.row {w w' : World} {A : Option Addr} {g : Nat} {k : Int} {N T : ByteArray} {v : Value} (h : Hq w g k N T v) (hb : Rowfr A w w') (hp : blk A ≠ some g) : Hq w' g k N T v := (hb.block g h.lt hp).trans h

/-- What a round keeps. -/
structure Inv (w : World) (p k : Nat) (wr : World) (B : Option Addr) (m d : Nat) (L R : Things) (vs : List Value) (Pv Pr : Nat → Prop) : Prop where
  md : m ≤ d
  rel : Rel L R
  num : L.length ≤ k
  all : ∀ q ∈ L, q.2.length ≤ 140737488355328
  vt : Vt wr Pv p L
  tg : Tg wr Pr B m R vs
  dis : ∀ i, Pv i → Pr i → False
  old : ∀ i, Pv i → p ≤ i
  vcur : ∀ i, Pv i → i < wr.heap.size
  pcur : ∀ i, Pr i → i < wr.heap.size
  bel : Below w.heap.size w wr
theorem Inv.len {w : World} {p k : Nat} {wr : World} {B : Option Addr} {m d : Nat} {L R : Things} {vs : List Value} {Pv Pr : Nat → Prop} (h : Inv w p k wr B m d L R vs Pv Pr) : L.length = m := by rw [rel_len h.rel]; exact h.tg.len
theorem Inv.below {w : World} {p k : Nat} {wr w' : World} {B : Option Addr} {m d : Nat} {L R : Things} {vs : List Value} {Pv Pr : Nat → Prop} (h : Inv w p k wr B m d L R vs Pv Pr) (hb : Below wr.heap.size wr w') : Inv w p k w' B m d L R vs Pv Pr :=
  ⟨h.md, h.rel, h.num, h.all, h.vt.below hb, h.tg.below hb, h.dis, h.old, fun i hi => Nat.lt_of_lt_of_le (h.vcur i hi) hb.size, fun i hi => Nat.lt_of_lt_of_le (h.pcur i hi) hb.size, h.bel.trans (hb.mono h.bel.size)⟩
theorem Inv.more {w : World} {p k l : Nat} {wr : World} {B : Option Addr} {m d : Nat} {L R : Things} {vs : List Value} {Pv Pr : Nat → Prop} (h : Inv w p k wr B m d L R vs Pv Pr) (hl : k ≤ l) : Inv w p l wr B m d L R vs Pv Pr :=
  { h with num := Nat.le_trans h.num hl }
/-- A row of another block is written over. -/
theorem Inv.over {w : World} {p k : Nat} {wr w' : World} {A B : Option Addr} {m d : Nat} {L R : Things} {vs : List Value} {Pv Pr : Nat → Prop} (h : Inv w p k wr B m d L R vs Pv Pr) (hb : Rowfr A wr w') (hA : ∀ g, blk A = some g → ¬ Pv g ∧ ¬ Pr g ∧ w.heap.size ≤ g) : Inv w p k w' B m d L R vs Pv Pr :=
  ⟨h.md, h.rel, h.num, h.all, h.vt.keep (fun i hi hp => hb.block i hi (fun e => (hA i e).1 hp)), h.tg.keep hb.size (fun i hi hp _ => hb.block i hi (fun e => (hA i e).2.1 hp)), h.dis, h.old, fun i hi => Nat.lt_of_lt_of_le (h.vcur i hi) hb.size, fun i hi => Nat.lt_of_lt_of_le (h.pcur i hi) hb.size,
    h.bel.trans (hb.below h.bel.size (fun g hg => (hA g hg).2.2))⟩
/-- Both have put. -/
theorem Inv.put {w : World} {p k : Nat} {wr w1 w2 : World} {B B' : Option Addr} {m d m' d' : Nat} {L L' R : Things} {vs vs' : List Value} {Pv Pr : Nat → Prop} {S : ByteArray} {xs : List Int} {c : Int} (h : Inv w p k wr B m d L R vs Pv Pr) (hwp : w.heap.size ≤ p)
    (hb1 : Below wr.heap.size wr w1) (htg : Tg w1 (fun i => Pr i ∨ wr.heap.size ≤ i) B' m' (rput R S xs).1 vs') (hmd : m' ≤ d')
    (hR : PutR L L' S xs c) (hvt : Vt w2 (fun i => Pv i ∨ w1.heap.size ≤ i) p L') (hf : Vfr p w1 w2) (hb2 : Below p w1 w2) (hx : xs.length ≤ 140737488355328) :
    c = (rput R S xs).2 ∧ Inv w p (k + 1) w2 B' m' d' L' (rput R S xs).1 vs' (fun i => Pv i ∨ (w1.heap.size ≤ i ∧ i < w2.heap.size)) (fun i => Pr i ∨ (wr.heap.size ≤ i ∧ i < w1.heap.size)) := by
  obtain ⟨r1, r2⟩ := rel_put h.rel hR
  have hPp : Pv p := h.vt.1
  have hs1 := hb1.size
  have hs2 := hf.size
  have htg' : Tg w1 (fun i => Pr i ∨ (wr.heap.size ≤ i ∧ i < w1.heap.size)) B' m' (rput R S xs).1 vs' := htg.imp (fun i hi hp => hp.imp id (fun h => ⟨h, hi⟩))
  refine ⟨r2, hmd, r1, by have := put_len hR; have := h.num; omega, put_all hR h.all hx, hvt.imp (fun i hi hp => hp.imp id (fun h => ⟨h, hi⟩)), htg'.keep hs2 (fun i hi hp hm => hf.block i hi (fun e => ?_) hm), ?_, ?_, ?_, ?_, ?_⟩
  · subst e
    rcases hp with hp | ⟨hp, _⟩
    · exact h.dis _ hPp hp
    · have := h.vcur _ hPp; omega
  · rintro i (h1 | ⟨h1, _⟩) (h2 | ⟨h2, h3⟩)
    · exact h.dis i h1 h2
    · have := h.vcur i h1; omega
    · have := h.pcur i h2; omega
    · omega
  · rintro i (h1 | ⟨h1, _⟩)
    · exact h.old i h1
    · have := h.vcur p hPp; omega
  · rintro i (h1 | ⟨_, h1⟩)
    · have := h.vcur i h1; omega
    · exact h1
  · rintro i (h1 | ⟨_, h1⟩)
    · have := h.pcur i h1; omega
    · omega
  · exact (h.bel.trans (hb1.mono h.bel.size)).trans (hb2.mono hwp)
/-- Both have lost. -/
theorem Inv.lose {w : World} {p k : Nat} {wr w1 w2 : World} {B B' : Option Addr} {m d m' d' : Nat} {L R : Things} {vs vs' : List Value} {Pv Pr : Nat → Prop} {ss : List ByteArray} (h : Inv w p k wr B m d L R vs Pv Pr) (hwp : w.heap.size ≤ p)
    (hb1 : Below wr.heap.size wr w1) (htg : Tg w1 (fun i => Pr i ∨ wr.heap.size ≤ i) B' m' (los R ss) vs') (hmd : m' ≤ d')
    (hvt : Vt w2 Pv p (los L ss)) (hf : Vfr p w1 w2) (hb2 : Below p w1 w2) :
    Inv w p (k + 1) w2 B' m' d' (los L ss) (los R ss) vs' Pv (fun i => Pr i ∨ (wr.heap.size ≤ i ∧ i < w1.heap.size)) := by
  have hPp : Pv p := h.vt.1
  have hs1 := hb1.size
  have hs2 := hf.size
  have htg' : Tg w1 (fun i => Pr i ∨ (wr.heap.size ≤ i ∧ i < w1.heap.size)) B' m' (los R ss) vs' := htg.imp (fun i hi hp => hp.imp id (fun h => ⟨h, hi⟩))
  refine ⟨hmd, rel_lose h.rel ss, by have := los_len (L := L) ss; have := h.num; omega, los_all h.all, hvt, htg'.keep hs2 (fun i hi hp hm => hf.block i hi (fun e => ?_) hm), ?_, h.old, ?_, ?_, ?_⟩
  · subst e
    rcases hp with hp | ⟨hp, _⟩
    · exact h.dis _ hPp hp
    · have := h.vcur _ hPp; omega
  · rintro i h1 (h2 | ⟨h2, h3⟩)
    · exact h.dis i h1 h2
    · have := h.vcur i h1; omega
  · intro i h1
    have := h.vcur i h1; omega
  · rintro i (h1 | ⟨_, h1⟩)
    · have := h.pcur i h1; omega
    · omega
  · exact (h.bel.trans (hb1.mono h.bel.size)).trans (hb2.mono hwp)
end Go.Proofs.YtlphlogliphhdaaDoor
