/- rec.Between, with kinds. -/
import Derived.Test.YtmjjbfcblmmipaaTwinW
namespace Go.Proofs.Ytmjjbfcblmmipaa
set_option linter.unusedVariables false
set_option linter.unusedSimpArgs false
open Go.RowKit

theorem info53 : (Try.prog.info? 53).map (fun i => (i.zero, i.size, i.bytes)) = some (some (.agg (zeroV.push (.int .u64 0))), 12, 168) := by kernel_rfl
/-- A place: a record, its slices, its index. -/
structure Po where
  x : Rc
  s : Sl
  i : Int
def posV (x : Rc) (s : Sl) (i : Int) : Array Value := (rcV x.kind x.boot x.sess x.seq s.AW s.nW s.cW s.AR s.nR s.cR x.commit s.AS s.nS s.cS s.AP s.nP s.cP x.id (strOfNums x.name)).push (.int .u64 i)
theorem posV_one (x : Rc) (s : Sl) (i : Int) : ∀ u ∈ (posV x s i).toList, u.oneCell' = true := by
  intro u hu
  simp only [posV, Array.toList_push, List.mem_append, List.mem_cons, List.not_mem_nil, or_false] at hu
  rcases hu with (rfl | rfl | rfl | rfl | rfl | rfl | rfl | rfl | rfl | rfl | rfl) | rfl <;> rfl
theorem posV_len (x : Rc) (s : Sl) (i : Int) : (posV x s i).toList.length = 12 := rfl
structure PoR (w : World) (p : Po) : Prop where
  t : RcT w p.x p.s
  sW : Shp p.s.AW p.s.nW
  sR : Shp p.s.AR p.s.nR
  sS : Shp p.s.AS p.s.nS
  bW : p.s.nW ≤ 10000000
  bR : p.s.nR ≤ 10000000
  bS : p.s.nS ≤ 10000000
  bP : p.s.nP ≤ 140737488355328
  tW : (trs p.x.ws).length ≤ 140737488355328
  tR : (trs p.x.rs).length ≤ 140737488355328
  at0 : 0 ≤ p.i
  at1 : p.i ≤ 18446744073709551615
theorem PoR.keep {w w' : World} {p : Po} (h : PoR w p) (hb : Below w.heap.size w w') : PoR w' p := ⟨h.t.keep hb, h.sW, h.sR, h.sS, h.bW, h.bR, h.bS, h.bP, h.tW, h.tR, h.at0, h.at1⟩
/-- A row of places that is read. -/
def PosL (w : World) (A : Option Addr) (n : Nat) (l : List Po) : Prop :=
  l.length = n ∧ (0 < n → ∃ b off, A = some ⟨b, off, none⟩ ∧ b < w.heap.size ∧ ∀ k p, l[k]? = some p → (∀ i u, (posV p.x p.s p.i)[i]? = some u → w.cell? ⟨b, off + k * 12 + i, none⟩ = some u) ∧ PoR w p)
theorem PosL.keep {w w' : World} {A : Option Addr} {n : Nat} {l : List Po} (h : PosL w A n l) (hb : Below w.heap.size w w') : PosL w' A n l := by
  refine ⟨h.1, fun hn => ?_⟩
  obtain ⟨b, off, hA, hlt, hc⟩ := h.2 hn
  refine ⟨b, off, hA, Nat.lt_of_lt_of_le hlt hb.size, fun k p hp => ?_⟩
  obtain ⟨h1, h2⟩ := hc k p hp
  exact ⟨fun i u hu => (hb.cell (p := ⟨b, off + k * 12 + i, none⟩) hlt).trans (h1 i u hu), h2.keep hb⟩
/-- What one answered place is. -/
def PoI (w : World) (base : Nat) (vs : List Value) (k : Nat) (x : Rc) (i : Int) : Prop :=
  ∃ (s : Sl) (mid : Nat), (∀ j u, (posV x s i)[j]? = some u → vs[k * 12 + j]? = some u) ∧ RcO w base x s ∧ TxLt w s.AW s.nW mid ∧ ∀ j, blk s.AP = some j → mid ≤ j
/-- A row of places of the call's own. -/
def PoO (w : World) (base : Nat) (A : Option Addr) (n c : Nat) (l : List (Rc × Int)) : Prop :=
  l.length = n ∧ ∃ vs, OwnK 12 w base 53 A n c vs ∧ ∀ k y, l[k]? = some y → PoI w base vs k y.1 y.2
theorem RcO.ef {w w' : World} {base b g : Nat} {x : Rc} {s : Sl} {ex : List TypeId} (h : RcO w base x s) (hE : Ef ex g b w w') (h1 : 61 ∉ ex) (h2 : 99 ∉ ex) (h3 : 3 ∉ ex) (h5 : 5 ∉ ex) : RcO w' base x s :=
  ⟨h.ws.ef hE h1 h5, h.rs.ef hE h2 h5, h.sh.ef hE h3, h.rp.ef hE h5, h.rr⟩
theorem RcO.keep {w w' : World} {base : Nat} {x : Rc} {s : Sl} (h : RcO w base x s) (hb : Below w.heap.size w w') : RcO w' base x s := h.ef (ex := []) (g := 0) (b := 0) (Ef.of_below hb (Nat.zero_le _)) (by simp) (by simp) (by simp) (by simp)
theorem RcO.mono {w : World} {base b : Nat} {x : Rc} {s : Sl} (h : RcO w base x s) (hb : b ≤ base) : RcO w b x s := ⟨h.ws.mono hb, h.rs.mono hb, h.sh.mono hb, h.rp.mono hb, h.rr⟩
theorem RcO.row {w : World} {base : Nat} {x : Rc} {s : Sl} (h : RcO w base x s) : ∀ k, blk s.AW = some k → ∃ cs fr, w.heap[k]? = some (.cells cs 61 fr) := by
  intro k hk
  obtain ⟨_, vs, ho, _⟩ := h.ws
  rcases ho.2 with ⟨hv, _⟩ | ⟨g, cap, cur, hv, _, hh, _⟩
  · have : s.AW = none := by injection hv
    rw [this] at hk; cases hk
  · have : s.AW = some ⟨g, 0, none⟩ := by injection hv
    rw [this] at hk
    injection hk with hk
    subst hk
    exact ⟨_, _, hh⟩
theorem PoI.keep {w w' : World} {base k : Nat} {vs : List Value} {x : Rc} {i : Int} (h : PoI w base vs k x i) (hb : Below w.heap.size w w') : PoI w' base vs k x i := by
  obtain ⟨s, mid, h1, h2, h3, h4⟩ := h
  exact ⟨s, mid, h1, h2.keep hb, h3.keep (fun k hk => hb.block k (h2.ws.lies k hk).2), h4⟩
theorem PoO.nil_ {w : World} {base : Nat} : PoO w base none 0 0 [] := ⟨rfl, [], OwnK.nil_, fun k y h => by simp at h⟩
theorem PoO.keep {w w' : World} {base n c : Nat} {A : Option Addr} {l : List (Rc × Int)} (h : PoO w base A n c l) (hb : Below w.heap.size w w') : PoO w' base A n c l := by
  obtain ⟨hl, vs, ho, he⟩ := h
  exact ⟨hl, vs, ho.keep hb, fun k y hy => (he k y hy).keep hb⟩
theorem PoO.snoc {w w2 : World} {base n c c' : Nat} {A A' : Option Addr} {l : List (Rc × Int)} {vs : List Value} {x : Rc} {i : Int} {s : Sl} {mid : Nat} (hl : l.length = n) (ho : OwnK 12 w base 53 A n c vs) (he : ∀ k y, l[k]? = some y → PoI w base vs k y.1 y.2)
    (o1 : RcO w base x s) (o2 : TxLt w s.AW s.nW mid) (o3 : ∀ j, blk s.AP = some j → mid ≤ j)
    (hn : OwnK 12 w2 base 53 A' (n + 1) c' (vs ++ (posV x s i).toList)) (hg : Grows w w2 A A') (hbs : base ≤ w.heap.size) : PoO w2 base A' (n + 1) c' (l ++ [(x, i)]) := by
  have hE : Ef [53] 0 0 w w2 := Ef.of_grows (g := 0) (ex := [53]) hg (ho.mono (Nat.zero_le _)) (Nat.zero_le _) (by simp)
  have hvl := ho.len
  have hrow : ∀ {x : Rc} {s : Sl}, RcO w base x s → ∀ k, blk s.AW = some k → w2.heap[k]? = w.heap[k]? := by
    intro x s hx k hk
    obtain ⟨cs, fr, hh⟩ := hx.row k hk
    rw [hE.ty k cs 61 fr hh (by simp), hh]
  refine ⟨by simp [hl], _, hn, fun k y hy => ?_⟩
  by_cases hk : k < n
  · rw [List.getElem?_append_left (by omega)] at hy
    obtain ⟨s', mid', h1, h2, h3, h4⟩ := he k y hy
    refine ⟨s', mid', fun j u hu => ?_, h2.ef hE (by simp) (by simp) (by simp) (by simp), h3.keep (hrow h2), h4⟩
    have hj : j < 12 := by have := (Array.getElem?_eq_some_iff.1 hu).1; simpa [posV] using this
    rw [List.getElem?_append_left (by omega)]
    exact h1 j u hu
  · rw [List.getElem?_append_right (by omega)] at hy
    have hk0 : k = n := by
      have := (List.getElem?_eq_some_iff.1 hy).1
      simp at this; omega
    subst hk0
    rw [hl, Nat.sub_self] at hy
    have hy' : (x, i) = y := by simpa using hy
    subst hy'
    refine ⟨s, mid, fun j u hu => ?_, o1.ef hE (by simp) (by simp) (by simp) (by simp), o2.keep (hrow o1), o3⟩
    rw [List.getElem?_append_right (by omega), hvl, Nat.add_sub_cancel_left]
    simpa using hu
/-- Is a place between two? -/
def betw (f t : Int) (p : Po) : Bool := decide (f ≤ p.i) && decide (p.i < t)
def outL (f t : Int) (l : List Po) : List (Rc × Int) := (l.filter (betw f t)).map fun p => (p.x, p.i)
theorem outL_yes {f t : Int} {l : List Po} {k : Nat} {p : Po} (h : l[k]? = some p) (hb : betw f t p = true) : outL f t (l.take (k + 1)) = outL f t (l.take k) ++ [(p.x, p.i)] := by
  unfold outL; rw [List.take_add_one, h]; simp [hb]
theorem outL_no {f t : Int} {l : List Po} {k : Nat} {p : Po} (h : l[k]? = some p) (hb : betw f t p = false) : outL f t (l.take (k + 1)) = outL f t (l.take k) := by
  unfold outL; rw [List.take_add_one, h]; simp [hb]
theorem outL_len (f t : Int) (l : List Po) : (outL f t l).length ≤ l.length := by unfold outL; rw [List.length_map]; exact List.length_filter_le _ _

theorem pos12 {w : World} {b o : Nat} {k b1 s q : Int} {AW : Option Addr} {nW cW : Nat} {AR : Option Addr} {nR cR : Nat} {f : Bool} {AS : Option Addr} {nS cS : Nat} {AP : Option Addr} {nP cP : Nat} {i : Int} {S : ByteArray} {a : Int}
    (h : ∀ j u, (#[.int .i64 k, .int .u64 b1, .int .u64 s, .int .u64 q, .slice AW nW cW, .slice AR nR cR, .bool f, .slice AS nS cS, .slice AP nP cP, .int .u64 i, .string S, .int .u64 a] : Array Value)[j]? = some u → w.cell? ⟨b, o + j, none⟩ = some u) : w.cell? ⟨b, o, none⟩ = some (.int .i64 k) ∧ w.cell? ⟨b, o + 1, none⟩ = some (.int .u64 b1) ∧ w.cell? ⟨b, o + 2, none⟩ = some (.int .u64 s) ∧ w.cell? ⟨b, o + 3, none⟩ = some (.int .u64 q) ∧ w.cell? ⟨b, o + 4, none⟩ = some (.slice AW nW cW) ∧ w.cell? ⟨b, o + 5, none⟩ = some (.slice AR nR cR) ∧ w.cell? ⟨b, o + 6, none⟩ = some (.bool f) ∧ w.cell? ⟨b, o + 7, none⟩ = some (.slice AS nS cS) ∧ w.cell? ⟨b, o + 8, none⟩ = some (.slice AP nP cP) ∧ w.cell? ⟨b, o + 9, none⟩ = some (.int .u64 i) ∧ w.cell? ⟨b, o + 10, none⟩ = some (.string S) ∧ w.cell? ⟨b, o + 11, none⟩ = some (.int .u64 a) :=
  ⟨h 0 _ rfl, h 1 _ rfl, h 2 _ rfl, h 3 _ rfl, h 4 _ rfl, h 5 _ rfl, h 6 _ rfl, h 7 _ rfl, h 8 _ rfl, h 9 _ rfl, h 10 _ rfl, h 11 _ rfl⟩
set_option maxRecDepth 100000 in
set_option maxHeartbeats 16000000 in
theorem between_all (A AK : Option Addr) (n c cK : Nat) (el : List Po) (fr tt : Int) (w : World) (hx : PosL w A n el) (hn : n ≤ 100000) (hf0 : 0 ≤ fr) (hf1 : fr ≤ 18446744073709551615) (ht0 : 0 ≤ tt) (ht1 : tt ≤ 18446744073709551615) :
    Calls Try.prog 26 #[.slice A n c, .int .u64 fr, .int .u64 tt, .slice AK 0 cK] w fun e w' => ∃ A' n' c', e = .returned (.slice A' n' c') ∧ n' = (outL fr tt el).length ∧ PoO w' w.heap.size A' n' c' (outL fr tt el) ∧ Below w.heap.size w w' := by
  obtain ⟨i53, hi53, hz0, hz1, hz2⟩ := info_parts info53
  have HX := Lib.hid hx; clear hx
  go_enter Try.func26, Try.ntmps26
  go_wp2
  go_loopw [9, 15] (fun fv iv wr => ∃ (kk n' c' : Nat) (A' : Option Addr), iv = .int .i64 kk ∧ kk ≤ n ∧ fv = .slice A' n' c' ∧ n' ≤ kk ∧ Hid (PoO wr w.heap.size A' n' c' (outL fr tt (el.take kk))) ∧ Hid (Below w.heap.size w wr)) (fun _ iv _ => n - (intOf iv).toNat)
  case atStart => exact ⟨0, 0, 0, none, rfl, Nat.zero_le _, rfl, Nat.zero_le _, Lib.hid PoO.nil_, Lib.hid (Below.refl _ _)⟩
  case round =>
    obtain ⟨kk, n', c', A', rfl, hk, rfl, hn', HO, HB⟩ := hrel
    by_cases hlt : kk < n
    · obtain ⟨bb, off, rfl, hbl, hcell⟩ := HX.out.2 (by omega)
      obtain ⟨p, hp⟩ : ∃ p, el[kk]? = some p := ⟨_, List.getElem?_eq_getElem (by have := HX.out.1; omega)⟩
      have HP := Lib.hid hp
      obtain ⟨hc, hpr⟩ := hcell kk p hp
      have HPR := Lib.hid (hpr.keep HB.out)
      have ha0 := hpr.at0; have ha1 := hpr.at1
      clear hcell hp hpr
      obtain ⟨⟨k, b, s, q, ws, rs, f, sh, rp, i, nm⟩, ⟨AW, nW, cW, AR, nR, cR, AS, nS, cS, AP, nP, cP⟩, a⟩ := p
      obtain ⟨S, HSN⟩ : ∃ S, Hid (strOfNums nm = S) := ⟨_, rfl⟩
      have hc' : ∀ j u, (#[.int .i64 k, .int .u64 b, .int .u64 s, .int .u64 q, .slice AW nW cW, .slice AR nR cR, .bool f, .slice AS nS cS, .slice AP nP cP, .int .u64 i, .string S, .int .u64 a] : Array Value)[j]? = some u → wr.cell? ⟨bb, off + kk * 12 + j, none⟩ = some u := fun j u hu => by
        rw [HB.out.cell (p := ⟨bb, off + kk * 12 + j, none⟩) hbl]
        exact hc j u (by rw [← hu, ← HSN.out]; rfl)
      obtain ⟨c0, c1, c2, c3, c4, c5, c6, c7, c8, c9, c10, c11⟩ := pos12 hc'
      clear hc hc'
      have z0 : (0 : Int) ≤ (kk : Int) := by omega
      have z1 : (kk : Int) < (n : Int) := by omega
      have ha0' : 0 ≤ a := ha0
      have ha1' : a ≤ 18446744073709551615 := ha1
      clear ha0 ha1
      have hba := below_alloc wr (.cells #[.int .i64 k, .int .u64 b, .int .u64 s, .int .u64 q, .slice AW nW cW, .slice AR nR cR, .bool f, .slice AS nS cS, .slice AP nP cP, .int .u64 i, .string S, .int .u64 a] 53)
      have hys : (wr.alloc (.cells #[.int .i64 k, .int .u64 b, .int .u64 s, .int .u64 q, .slice AW nW cW, .slice AR nR cR, .bool f, .slice AS nS cS, .slice AP nP cP, .int .u64 i, .string S, .int .u64 a] 53)).heap.size = wr.heap.size + 1 := by simp
      have HBX := Lib.hid (heap_alloc_new wr (.cells #[.int .i64 k, .int .u64 b, .int .u64 s, .int .u64 q, .slice AW nW cW, .slice AR nR cR, .bool f, .slice AS nS cS, .slice AP nP cP, .int .u64 i, .string S, .int .u64 a] 53))
      have HOy := Lib.hid (HO.out.keep hba)
      have HPy := Lib.hid (HPR.out.keep hba)
      have HBy := Lib.hid (HB.out.trans (hba.mono HB.out.size))
      have HNB := Lib.hid (fun k (hk : blk A' = some k) => by obtain ⟨_, vs, ho, _⟩ := HO.out; exact (ho.lies k hk).2)
      clear hba
      have q0 := rc_cell 0 (.int .i64 k) HBX.out rfl
      have q1 := rc_cell 1 (.int .u64 b) HBX.out rfl
      have q2 := rc_cell 2 (.int .u64 s) HBX.out rfl
      have q3 := rc_cell 3 (.int .u64 q) HBX.out rfl
      have q4 := rc_cell 4 (.slice AW nW cW) HBX.out rfl
      have q5 := rc_cell 5 (.slice AR nR cR) HBX.out rfl
      have q6 := rc_cell 6 (.bool f) HBX.out rfl
      have q7 := rc_cell 7 (.slice AS nS cS) HBX.out rfl
      have q8 := rc_cell 8 (.slice AP nP cP) HBX.out rfl
      have q9 := rc_cell 9 (.int .u64 i) HBX.out rfl
      have q10 := rc_cell 10 (.string S) HBX.out rfl
      have q11 := rc_cell 11 (.int .u64 a) HBX.out rfl
      clear HO HPR
      by_cases h1 : fr ≤ a
      · by_cases h2 : a < tt
        · have HBT : Hid (betw fr tt ⟨⟨k, b, s, q, ws, rs, f, sh, rp, i, nm⟩, ⟨AW, nW, cW, AR, nR, cR, AS, nS, cS, AP, nP, cP⟩, a⟩ = true) := Lib.hid (by simp [betw, h1, h2])
          have d1 : decide (fr ≤ a) = true := by simpa using h1
          have d2 : decide (a < tt) = true := by simpa using h2
          go_wp2_with fail
          clear c0 c1 c2 c3 c4 c5 c6 c7 c8 c9 c10 c11
          generalize wr.alloc (.cells #[.int .i64 k, .int .u64 b, .int .u64 s, .int .u64 q, .slice AW nW cW, .slice AR nR cR, .bool f, .slice AS nS cS, .slice AP nP cP, .int .u64 i, .string S, .int .u64 a] 53) = y at *
          have HBd := Lib.hid (HBy.out.trans (((Dr.refl y).one.below _)))
          have HOd := Lib.hid (HOy.out.keep ((Dr.refl y).one.below _))
          have HPd := Lib.hid (HPy.out.keep ((Dr.refl y).one.below _))
          have BXd : Hid (y.drew.heap[wr.heap.size]? = some (.cells #[.int .i64 k, .int .u64 b, .int .u64 s, .int .u64 q, .slice AW nW cW, .slice AR nR cR, .bool f, .slice AS nS cS, .slice AP nP cP, .int .u64 i, .string S, .int .u64 a] 53 (0, 0))) := HBX
          have hysd : y.drew.heap.size = wr.heap.size + 1 := hys
          have r0 : y.drew.cell? ⟨wr.heap.size, 0, none⟩ = some (.int .i64 k) := q0
          have r1 : y.drew.cell? ⟨wr.heap.size, 1, none⟩ = some (.int .u64 b) := q1
          have r2 : y.drew.cell? ⟨wr.heap.size, 2, none⟩ = some (.int .u64 s) := q2
          have r3 : y.drew.cell? ⟨wr.heap.size, 3, none⟩ = some (.int .u64 q) := q3
          have r4 : y.drew.cell? ⟨wr.heap.size, 4, none⟩ = some (.slice AW nW cW) := q4
          have r5 : y.drew.cell? ⟨wr.heap.size, 5, none⟩ = some (.slice AR nR cR) := q5
          have r6 : y.drew.cell? ⟨wr.heap.size, 6, none⟩ = some (.bool f) := q6
          have r7 : y.drew.cell? ⟨wr.heap.size, 7, none⟩ = some (.slice AS nS cS) := q7
          have r8 : y.drew.cell? ⟨wr.heap.size, 8, none⟩ = some (.slice AP nP cP) := q8
          have r9 : y.drew.cell? ⟨wr.heap.size, 9, none⟩ = some (.int .u64 i) := q9
          have r10 : y.drew.cell? ⟨wr.heap.size, 10, none⟩ = some (.string S) := q10
          have r11 : y.drew.cell? ⟨wr.heap.size, 11, none⟩ = some (.int .u64 a) := q11
          go_region_held3 (fun w' => w'.cell? ⟨wr.heap.size, 0, none⟩ = some (.int .i64 k) ∧ w'.cell? ⟨wr.heap.size, 1, none⟩ = some (.int .u64 b) ∧ w'.cell? ⟨wr.heap.size, 2, none⟩ = some (.int .u64 s) ∧ w'.cell? ⟨wr.heap.size, 3, none⟩ = some (.int .u64 q) ∧ w'.cell? ⟨wr.heap.size, 4, none⟩ = some (.slice AW nW cW) ∧ w'.cell? ⟨wr.heap.size, 5, none⟩ = some (.slice AR nR cR) ∧ w'.cell? ⟨wr.heap.size, 6, none⟩ = some (.bool f) ∧ w'.cell? ⟨wr.heap.size, 7, none⟩ = some (.slice AS nS cS) ∧ w'.cell? ⟨wr.heap.size, 8, none⟩ = some (.slice AP nP cP) ∧ w'.cell? ⟨wr.heap.size, 9, none⟩ = some (.int .u64 i) ∧ w'.cell? ⟨wr.heap.size, 10, none⟩ = some (.string S) ∧ w'.cell? ⟨wr.heap.size, 11, none⟩ = some (.int .u64 a)) (first | exact ⟨v0, v1, v2, v3, v4, v5, v6, v7, v8, v9, v10, v11⟩ | exact ⟨t0, t1, t2, t3, t4, t5, t6, t7, t8, t9, t10, t11⟩ | exact ⟨s0, s1, s2, s3, s4, s5, s6, s7, s8, s9, s10, s11⟩ | exact ⟨r0, r1, r2, r3, r4, r5, r6, r7, r8, r9, r10, r11⟩) (first | (go_at_call 71; refine (twin_any k b s q f i S AW nW cW AR nR cR AS nS cS AP nP cP ws rs sh rp _ HPd.out.t.ws HPd.out.t.rs HPd.out.t.sh HPd.out.t.rp HPd.out.sW HPd.out.sR HPd.out.sS HPd.out.bW HPd.out.bR HPd.out.bS HPd.out.bP HPd.out.tW HPd.out.tR).mono ?_; rintro e x2 ⟨T1, d1, T2, d2, T3, d3, T4, d4, mid, rfl, tW2, tR2, tS2, tP2, tL2, tM2, hb2⟩; have HR2 : Hid (RcO x2 w.heap.size ⟨k, b, s, q, ws, rs, f, sh, rp, i, nm⟩ ⟨T1, nW, d1, T2, nR, d2, T3, nS, d3, T4, nP, d4⟩) := Lib.hid ⟨tW2.mono HBd.out.size, tR2.mono HBd.out.size, tS2.mono HBd.out.size, tP2.mono HBd.out.size, HPd.out.t.rp.2⟩; have HL2 := Lib.hid tL2; have HM2 := Lib.hid tM2; have HB2 := Lib.hid (HBd.out.trans (hb2.mono HBd.out.size)); have HO2 := Lib.hid (HOd.out.keep hb2); have BX2 := Lib.hid ((hb2.block _ (lt_of_heap BXd.out)).trans BXd.out); have s0 := rc_cell 0 (.int .i64 k) BX2.out rfl; have s1 := rc_cell 1 (.int .u64 b) BX2.out rfl; have s2 := rc_cell 2 (.int .u64 s) BX2.out rfl; have s3 := rc_cell 3 (.int .u64 q) BX2.out rfl; have s4 := rc_cell 4 (.slice AW nW cW) BX2.out rfl; have s5 := rc_cell 5 (.slice AR nR cR) BX2.out rfl; have s6 := rc_cell 6 (.bool f) BX2.out rfl; have s7 := rc_cell 7 (.slice AS nS cS) BX2.out rfl; have s8 := rc_cell 8 (.slice AP nP cP) BX2.out rfl; have s9 := rc_cell 9 (.int .u64 i) BX2.out rfl; have s10 := rc_cell 10 (.string S) BX2.out rfl; have s11 := rc_cell 11 (.int .u64 a) BX2.out rfl; have hba2 := below_alloc x2 (.cells #[.int .i64 k, .int .u64 b, .int .u64 s, .int .u64 q, .slice T1 nW d1, .slice T2 nR d2, .bool f, .slice T3 nS d3, .slice T4 nP d4, .int .u64 i, .string S, .int .u64 a] 53); have HN2 := Lib.hid (heap_alloc_new x2 (.cells #[.int .i64 k, .int .u64 b, .int .u64 s, .int .u64 q, .slice T1 nW d1, .slice T2 nR d2, .bool f, .slice T3 nS d3, .slice T4 nP d4, .int .u64 i, .string S, .int .u64 a] 53)); have BX3 := Lib.hid ((hba2.block _ (lt_of_heap BX2.out)).trans BX2.out); have HO3 := Lib.hid (HO2.out.keep hba2); have HR3 := Lib.hid (HR2.out.keep hba2); have HL3 := Lib.hid (HL2.out.keep (fun k hk => hba2.block k (HR2.out.ws.lies k hk).2)); have HB3 := Lib.hid (HB2.out.trans (hba2.mono HB2.out.size)); have t0 := rc_cell 0 (.int .i64 k) BX3.out rfl; have t1 := rc_cell 1 (.int .u64 b) BX3.out rfl; have t2 := rc_cell 2 (.int .u64 s) BX3.out rfl; have t3 := rc_cell 3 (.int .u64 q) BX3.out rfl; have t4 := rc_cell 4 (.slice AW nW cW) BX3.out rfl; have t5 := rc_cell 5 (.slice AR nR cR) BX3.out rfl; have t6 := rc_cell 6 (.bool f) BX3.out rfl; have t7 := rc_cell 7 (.slice AS nS cS) BX3.out rfl; have t8 := rc_cell 8 (.slice AP nP cP) BX3.out rfl; have t9 := rc_cell 9 (.int .u64 i) BX3.out rfl; have t10 := rc_cell 10 (.string S) BX3.out rfl; have t11 := rc_cell 11 (.int .u64 a) BX3.out rfl; clear tW2 tR2 tS2 tP2 tL2 tM2 hb2 hba2) | (obtain ⟨hl, vs, ho, he⟩ := HO3.out; refine step_append_wide (by rfl) (.tmp 42) (.tmp 49) 50 (by rfl) i53 _ 168 Try.underlying50 hi53 hz0 hz1 hz2 rfl (by decide) (by rfl) ho x2.heap.size 0 1 1 #[.int .i64 k, .int .u64 b, .int .u64 s, .int .u64 q, .slice T1 nW d1, .slice T2 nR d2, .bool f, .slice T3 nS d3, .slice T4 nP d4, .int .u64 i, .string S, .int .u64 a].toList (by rfl) rfl (fun j u hu => by rw [Nat.zero_add, cell_of_row _ _ j _ 53 (0, 0) HN2.out]; simpa using hu) (fun u hu => by rw [← HSN.out] at hu; exact posV_one ⟨k, b, s, q, ws, rs, f, sh, rp, i, nm⟩ ⟨T1, nW, d1, T2, nR, d2, T3, nS, d3, T4, nP, d4⟩ a u hu) (by unfold maxLen; omega) (by omega) HB3.out.size ?_; intro A5 c5 x5 ho5 hg5; have ho6 : OwnK 12 x5 w.heap.size 53 A5 (n' + 1) c5 (vs ++ (posV ⟨k, b, s, q, ws, rs, f, sh, rp, i, nm⟩ ⟨T1, nW, d1, T2, nR, d2, T3, nS, d3, T4, nP, d4⟩ a).toList) := (by rw [← HSN.out] at ho5; exact ho5); have HO5 := Lib.hid (PoO.snoc hl ho he HR3.out HL3.out HM2.out ho6 hg5 HB3.out.size); have HB5 := Lib.hid (HB3.out.trans ((hg5.below (B := w.heap.size) HB3.out.size (fun k hk => (ho.lies k hk).1)))); have BX5 := Lib.hid ((hg5.1.block _ (lt_of_heap BX3.out) (fun e => absurd (HNB.out _ e.symm) (Nat.lt_irrefl _))).trans BX3.out); have v0 := rc_cell 0 (.int .i64 k) BX5.out rfl; have v1 := rc_cell 1 (.int .u64 b) BX5.out rfl; have v2 := rc_cell 2 (.int .u64 s) BX5.out rfl; have v3 := rc_cell 3 (.int .u64 q) BX5.out rfl; have v4 := rc_cell 4 (.slice AW nW cW) BX5.out rfl; have v5 := rc_cell 5 (.slice AR nR cR) BX5.out rfl; have v6 := rc_cell 6 (.bool f) BX5.out rfl; have v7 := rc_cell 7 (.slice AS nS cS) BX5.out rfl; have v8 := rc_cell 8 (.slice AP nP cP) BX5.out rfl; have v9 := rc_cell 9 (.int .u64 i) BX5.out rfl; have v10 := rc_cell 10 (.string S) BX5.out rfl; have v11 := rc_cell 11 (.int .u64 a) BX5.out rfl; clear hl ho he ho5 ho6 hg5))
          clear v0 t0 s0 r0 v1 t1 s1 r1 v2 t2 s2 r2 v3 t3 s3 r3 v4 t4 s4 r4 v5 t5 s5 r5 v6 t6 s6 r6 v7 t7 s7 r7 v8 t8 s8 r8 v9 t9 s9 r9 v10 t10 s10 r10 v11 t11 s11 r11
          go_wp2
          go_roundw
          case rel => exact ⟨kk + 1, n' + 1, c5, A5, by go_num, by omega, rfl, by omega, Lib.hid (by rw [outL_yes HP.out HBT.out]; exact HO5.out), HB5⟩
          case measure => simp [intOf]; omega
        · have d1 : decide (fr ≤ a) = true := by simpa using h1
          have d2 : decide (a < tt) = false := by simpa using h2
          have HBT : Hid (betw fr tt ⟨⟨k, b, s, q, ws, rs, f, sh, rp, i, nm⟩, ⟨AW, nW, cW, AR, nR, cR, AS, nS, cS, AP, nP, cP⟩, a⟩ = false) := Lib.hid (by simp [betw, h2])
          have h2' := h2
          go_wp2
          clear q0 q1 q2 q3 q4 q5 q6 q7 q8 q9 q10 q11
          go_roundw
          case rel => exact ⟨kk + 1, n', c', A', by go_num, by omega, rfl, by omega, Lib.hid (by rw [outL_no HP.out HBT.out]; exact HOy.out), HBy⟩
          case measure => simp [intOf]; omega
      · have d1 : decide (fr ≤ a) = false := by simpa using h1
        have HBT : Hid (betw fr tt ⟨⟨k, b, s, q, ws, rs, f, sh, rp, i, nm⟩, ⟨AW, nW, cW, AR, nR, cR, AS, nS, cS, AP, nP, cP⟩, a⟩ = false) := Lib.hid (by simp [betw, h1])
        have h1' := h1
        go_wp2
        clear q0 q1 q2 q3 q4 q5 q6 q7 q8 q9 q10 q11
        go_roundw
        case rel => exact ⟨kk + 1, n', c', A', by go_num, by omega, rfl, by omega, Lib.hid (by rw [outL_no HP.out HBT.out]; exact HOy.out), HBy⟩
        case measure => simp [intOf]; omega
    · have hke : kk = n := by omega
      subst hke
      have HTA : Hid (el.take kk = el) := Lib.hid (List.take_of_length_le (by have := HX.out.1; omega))
      rw [HTA.out] at HO
      go_wp2
      go_ret
      exact ⟨A', n', c', rfl, HO.out.1.symm, HO.out, HB.out⟩
end Go.Proofs.Ytmjjbfcblmmipaa
namespace Go.Proofs.Ytmjjbfcblmmipaa
set_option linter.unusedVariables false
set_option linter.unusedSimpArgs false
open Go.RowKit

/-- A place, or below 0. -/
def IdxP (ks : List Int) (k r : Int) : Prop := decide (r ≥ 0) = ks.contains k
set_option maxHeartbeats 1000000 in
theorem index_any (A : Option Addr) (n c : Nat) (ks : List Int) (k : Int) (w : World) (hx : Ins w A n ks) (hn : n ≤ 100000) :
    Calls Try.prog 121 #[.slice A n c, .int .i64 k] w fun e w' => (∃ r : Int, IdxP ks k r ∧ e = .returned (.int .i64 r)) ∧ w = w' := by
  have HX := Lib.hid hx; clear hx
  go_enter Try.func121, Try.ntmps121
  go_wp2
  go_loop [8] (fun iv => ∃ kk : Nat, iv = .int .i64 kk ∧ kk ≤ n ∧ Hid (∀ j, j < kk → ks[j]? ≠ some k)) (fun iv => n - (intOf iv).toNat)
  case atStart => exact ⟨0, rfl, Nat.zero_le _, Lib.hid (fun j hj => absurd hj (Nat.not_lt_zero _))⟩
  case round =>
    obtain ⟨kk, rfl, hk, HNO⟩ := hrel
    by_cases hlt : kk < n
    · obtain ⟨b, off, u, rfl, hb, hc, HU⟩ := HX.out.1.at_ hlt
      have hl := HX.out.len
      obtain ⟨x, hxk⟩ : ∃ x, ks[kk]? = some x := ⟨_, List.getElem?_eq_getElem (by omega)⟩
      have hu : u = .int .i64 x := by have := HU.out; rw [List.getElem?_map, hxk] at this; simpa using this.symm
      subst hu
      have HXK := Lib.hid hxk; clear hxk HU hl
      have z0 : (0 : Int) ≤ (kk : Int) := by omega
      have z1 : (kk : Int) < (n : Int) := by omega
      by_cases he : k = x
      · have hd : (k == x) = true := by simpa using he
        have HR : Hid (decide ((kk : Int) ≥ 0) = ks.contains k) := Lib.hid (by
          have h1 : ks.contains k = true := by rw [List.contains_iff_mem, he]; exact List.mem_of_getElem? HXK.out
          rw [h1]; simp)
        clear he
        go_wp2
        go_ret
        exact ⟨⟨_, HR.out, rfl⟩, rfl⟩
      · have hd : (k == x) = false := by simpa using he
        have HN1 : Hid (∀ j, j < kk + 1 → ks[j]? ≠ some k) := Lib.hid (fun j hj => by
          by_cases hjp : j < kk
          · exact HNO.out j hjp
          · obtain rfl : j = kk := by omega
            rw [HXK.out]; intro e; injection e with e; exact he e.symm)
        clear he
        go_wp2
        go_round
        case rel => exact ⟨kk + 1, by go_num, by omega, HN1⟩
        case measure => simp [intOf]; omega
    · have HR : Hid (decide ((-1 : Int) ≥ 0) = ks.contains k) := Lib.hid (by
        have h1 : ks.contains k = false := by
          rw [← Bool.not_eq_true, List.contains_iff_mem]
          intro hm
          obtain ⟨j, hj, hje⟩ := List.mem_iff_getElem.1 hm
          have hl := HX.out.len
          exact HNO.out j (by omega) (by rw [List.getElem?_eq_getElem hj, hje])
        rw [h1]; decide)
      go_wp2
      go_ret
      exact ⟨⟨_, HR.out, rfl⟩, rfl⟩
theorem contains_is (A : Option Addr) (n c : Nat) (ks : List Int) (k : Int) (v : Bool) (h : ks.contains k = v) (w : World) (hx : Ins w A n ks) (hn : n ≤ 100000) :
    Calls Try.prog 70 #[.slice A n c, .int .i64 k] w fun e w' => e = .returned (.bool v) ∧ w = w' := by
  have HI := Lib.hid (index_any A n c ks k w hx hn)
  have HV := Lib.hid h
  clear hx h
  go_enter Try.func70, Try.ntmps70
  go_wp2_with fail
  refine HI.out.mono ?_
  rintro e w' ⟨⟨r, HR, rfl⟩, rfl⟩
  go_wp2
  go_ret
  exact ⟨by rw [← HV.out, ← (show decide (r ≥ 0) = ks.contains k from HR)]; rfl, rfl⟩
/-- Is a place between two, and of a kind? -/
def betwS (ks : List Int) (f t : Int) (p : Po) : Bool := ks.contains p.x.kind && betw f t p
def outS (ks : List Int) (f t : Int) (l : List Po) : List (Rc × Int) := (l.filter (betwS ks f t)).map fun p => (p.x, p.i)
theorem outS_yes {ks : List Int} {f t : Int} {l : List Po} {k : Nat} {p : Po} (h : l[k]? = some p) (hb : betwS ks f t p = true) : outS ks f t (l.take (k + 1)) = outS ks f t (l.take k) ++ [(p.x, p.i)] := by
  unfold outS; rw [List.take_add_one, h]; simp [hb]
theorem outS_no {ks : List Int} {f t : Int} {l : List Po} {k : Nat} {p : Po} (h : l[k]? = some p) (hb : betwS ks f t p = false) : outS ks f t (l.take (k + 1)) = outS ks f t (l.take k) := by
  unfold outS; rw [List.take_add_one, h]; simp [hb]

set_option maxRecDepth 100000 in
set_option maxHeartbeats 16000000 in
theorem between_some (A AK : Option Addr) (n c nK cK : Nat) (ks : List Int) (el : List Po) (fr tt : Int) (w : World) (hK : Ins w AK nK ks) (hK0 : 0 < nK) (hKn : nK ≤ 100000) (hx : PosL w A n el) (hn : n ≤ 100000) (hf0 : 0 ≤ fr) (hf1 : fr ≤ 18446744073709551615) (ht0 : 0 ≤ tt) (ht1 : tt ≤ 18446744073709551615) :
    Calls Try.prog 26 #[.slice A n c, .int .u64 fr, .int .u64 tt, .slice AK nK cK] w fun e w' => ∃ A' n' c', e = .returned (.slice A' n' c') ∧ n' = (outS ks fr tt el).length ∧ PoO w' w.heap.size A' n' c' (outS ks fr tt el) ∧ Below w.heap.size w w' := by
  obtain ⟨i53, hi53, hz0, hz1, hz2⟩ := info_parts info53
  have HX := Lib.hid hx; clear hx
  have HK := Lib.hid hK; clear hK
  have hnk : ((nK : Int) == 0) = false := by simp; omega
  go_enter Try.func26, Try.ntmps26
  go_wp2
  go_loopw [9, 15] (fun fv iv wr => ∃ (kk n' c' : Nat) (A' : Option Addr), iv = .int .i64 kk ∧ kk ≤ n ∧ fv = .slice A' n' c' ∧ n' ≤ kk ∧ Hid (PoO wr w.heap.size A' n' c' (outS ks fr tt (el.take kk))) ∧ Hid (Below w.heap.size w wr)) (fun _ iv _ => n - (intOf iv).toNat)
  case atStart => exact ⟨0, 0, 0, none, rfl, Nat.zero_le _, rfl, Nat.zero_le _, Lib.hid PoO.nil_, Lib.hid (Below.refl _ _)⟩
  case round =>
    obtain ⟨kk, n', c', A', rfl, hk, rfl, hn', HO, HB⟩ := hrel
    by_cases hlt : kk < n
    · obtain ⟨bb, off, rfl, hbl, hcell⟩ := HX.out.2 (by omega)
      obtain ⟨p, hp⟩ : ∃ p, el[kk]? = some p := ⟨_, List.getElem?_eq_getElem (by have := HX.out.1; omega)⟩
      have HP := Lib.hid hp
      obtain ⟨hc, hpr⟩ := hcell kk p hp
      have HPR := Lib.hid (hpr.keep HB.out)
      have ha0 := hpr.at0; have ha1 := hpr.at1
      clear hcell hp hpr
      obtain ⟨⟨k, b, s, q, ws, rs, f, sh, rp, i, nm⟩, ⟨AW, nW, cW, AR, nR, cR, AS, nS, cS, AP, nP, cP⟩, a⟩ := p
      obtain ⟨S, HSN⟩ : ∃ S, Hid (strOfNums nm = S) := ⟨_, rfl⟩
      have hc' : ∀ j u, (#[.int .i64 k, .int .u64 b, .int .u64 s, .int .u64 q, .slice AW nW cW, .slice AR nR cR, .bool f, .slice AS nS cS, .slice AP nP cP, .int .u64 i, .string S, .int .u64 a] : Array Value)[j]? = some u → wr.cell? ⟨bb, off + kk * 12 + j, none⟩ = some u := fun j u hu => by
        rw [HB.out.cell (p := ⟨bb, off + kk * 12 + j, none⟩) hbl]
        exact hc j u (by rw [← hu, ← HSN.out]; rfl)
      obtain ⟨c0, c1, c2, c3, c4, c5, c6, c7, c8, c9, c10, c11⟩ := pos12 hc'
      clear hc hc'
      have z0 : (0 : Int) ≤ (kk : Int) := by omega
      have z1 : (kk : Int) < (n : Int) := by omega
      have ha0' : 0 ≤ a := ha0
      have ha1' : a ≤ 18446744073709551615 := ha1
      clear ha0 ha1
      have hba := below_alloc wr (.cells #[.int .i64 k, .int .u64 b, .int .u64 s, .int .u64 q, .slice AW nW cW, .slice AR nR cR, .bool f, .slice AS nS cS, .slice AP nP cP, .int .u64 i, .string S, .int .u64 a] 53)
      have hys : (wr.alloc (.cells #[.int .i64 k, .int .u64 b, .int .u64 s, .int .u64 q, .slice AW nW cW, .slice AR nR cR, .bool f, .slice AS nS cS, .slice AP nP cP, .int .u64 i, .string S, .int .u64 a] 53)).heap.size = wr.heap.size + 1 := by simp
      have HBX := Lib.hid (heap_alloc_new wr (.cells #[.int .i64 k, .int .u64 b, .int .u64 s, .int .u64 q, .slice AW nW cW, .slice AR nR cR, .bool f, .slice AS nS cS, .slice AP nP cP, .int .u64 i, .string S, .int .u64 a] 53))
      have HOy := Lib.hid (HO.out.keep hba)
      have HPy := Lib.hid (HPR.out.keep hba)
      have HBy := Lib.hid (HB.out.trans (hba.mono HB.out.size))
      have HNB := Lib.hid (fun k (hk : blk A' = some k) => by obtain ⟨_, vs, ho, _⟩ := HO.out; exact (ho.lies k hk).2)
      clear hba
      have q0 := rc_cell 0 (.int .i64 k) HBX.out rfl
      have q1 := rc_cell 1 (.int .u64 b) HBX.out rfl
      have q2 := rc_cell 2 (.int .u64 s) HBX.out rfl
      have q3 := rc_cell 3 (.int .u64 q) HBX.out rfl
      have q4 := rc_cell 4 (.slice AW nW cW) HBX.out rfl
      have q5 := rc_cell 5 (.slice AR nR cR) HBX.out rfl
      have q6 := rc_cell 6 (.bool f) HBX.out rfl
      have q7 := rc_cell 7 (.slice AS nS cS) HBX.out rfl
      have q8 := rc_cell 8 (.slice AP nP cP) HBX.out rfl
      have q9 := rc_cell 9 (.int .u64 i) HBX.out rfl
      have q10 := rc_cell 10 (.string S) HBX.out rfl
      have q11 := rc_cell 11 (.int .u64 a) HBX.out rfl
      clear HO HPR
      have HKy := Lib.hid (HK.out.keep HBy.out)
      by_cases hkin : ks.contains k = true
      · have HKI := Lib.hid hkin
        clear hkin
        go_wp2_with fail
        refine (contains_is AK nK cK ks k true HKI.out _ HKy.out hKn).mono ?_
        rintro e wz ⟨rfl, rfl⟩
        by_cases h1 : fr ≤ a
        · by_cases h2 : a < tt
          · have HBT : Hid (betwS ks fr tt ⟨⟨k, b, s, q, ws, rs, f, sh, rp, i, nm⟩, ⟨AW, nW, cW, AR, nR, cR, AS, nS, cS, AP, nP, cP⟩, a⟩ = true) := Lib.hid (by simp only [betwS, HKI.out, Bool.true_and]; simp [betw, h1, h2])
            have d1 : decide (fr ≤ a) = true := by simpa using h1
            have d2 : decide (a < tt) = true := by simpa using h2
            go_wp2_with fail
            clear c0 c1 c2 c3 c4 c5 c6 c7 c8 c9 c10 c11
            generalize wr.alloc (.cells #[.int .i64 k, .int .u64 b, .int .u64 s, .int .u64 q, .slice AW nW cW, .slice AR nR cR, .bool f, .slice AS nS cS, .slice AP nP cP, .int .u64 i, .string S, .int .u64 a] 53) = y at *
            have HBd := Lib.hid (HBy.out.trans (((Dr.refl y).one.below _)))
            have HOd := Lib.hid (HOy.out.keep ((Dr.refl y).one.below _))
            have HPd := Lib.hid (HPy.out.keep ((Dr.refl y).one.below _))
            have BXd : Hid (y.drew.heap[wr.heap.size]? = some (.cells #[.int .i64 k, .int .u64 b, .int .u64 s, .int .u64 q, .slice AW nW cW, .slice AR nR cR, .bool f, .slice AS nS cS, .slice AP nP cP, .int .u64 i, .string S, .int .u64 a] 53 (0, 0))) := HBX
            have hysd : y.drew.heap.size = wr.heap.size + 1 := hys
            have r0 : y.drew.cell? ⟨wr.heap.size, 0, none⟩ = some (.int .i64 k) := q0
            have r1 : y.drew.cell? ⟨wr.heap.size, 1, none⟩ = some (.int .u64 b) := q1
            have r2 : y.drew.cell? ⟨wr.heap.size, 2, none⟩ = some (.int .u64 s) := q2
            have r3 : y.drew.cell? ⟨wr.heap.size, 3, none⟩ = some (.int .u64 q) := q3
            have r4 : y.drew.cell? ⟨wr.heap.size, 4, none⟩ = some (.slice AW nW cW) := q4
            have r5 : y.drew.cell? ⟨wr.heap.size, 5, none⟩ = some (.slice AR nR cR) := q5
            have r6 : y.drew.cell? ⟨wr.heap.size, 6, none⟩ = some (.bool f) := q6
            have r7 : y.drew.cell? ⟨wr.heap.size, 7, none⟩ = some (.slice AS nS cS) := q7
            have r8 : y.drew.cell? ⟨wr.heap.size, 8, none⟩ = some (.slice AP nP cP) := q8
            have r9 : y.drew.cell? ⟨wr.heap.size, 9, none⟩ = some (.int .u64 i) := q9
            have r10 : y.drew.cell? ⟨wr.heap.size, 10, none⟩ = some (.string S) := q10
            have r11 : y.drew.cell? ⟨wr.heap.size, 11, none⟩ = some (.int .u64 a) := q11
            go_region_held3 (fun w' => w'.cell? ⟨wr.heap.size, 0, none⟩ = some (.int .i64 k) ∧ w'.cell? ⟨wr.heap.size, 1, none⟩ = some (.int .u64 b) ∧ w'.cell? ⟨wr.heap.size, 2, none⟩ = some (.int .u64 s) ∧ w'.cell? ⟨wr.heap.size, 3, none⟩ = some (.int .u64 q) ∧ w'.cell? ⟨wr.heap.size, 4, none⟩ = some (.slice AW nW cW) ∧ w'.cell? ⟨wr.heap.size, 5, none⟩ = some (.slice AR nR cR) ∧ w'.cell? ⟨wr.heap.size, 6, none⟩ = some (.bool f) ∧ w'.cell? ⟨wr.heap.size, 7, none⟩ = some (.slice AS nS cS) ∧ w'.cell? ⟨wr.heap.size, 8, none⟩ = some (.slice AP nP cP) ∧ w'.cell? ⟨wr.heap.size, 9, none⟩ = some (.int .u64 i) ∧ w'.cell? ⟨wr.heap.size, 10, none⟩ = some (.string S) ∧ w'.cell? ⟨wr.heap.size, 11, none⟩ = some (.int .u64 a)) (first | exact ⟨v0, v1, v2, v3, v4, v5, v6, v7, v8, v9, v10, v11⟩ | exact ⟨t0, t1, t2, t3, t4, t5, t6, t7, t8, t9, t10, t11⟩ | exact ⟨s0, s1, s2, s3, s4, s5, s6, s7, s8, s9, s10, s11⟩ | exact ⟨r0, r1, r2, r3, r4, r5, r6, r7, r8, r9, r10, r11⟩) (first | (go_at_call 71; refine (twin_any k b s q f i S AW nW cW AR nR cR AS nS cS AP nP cP ws rs sh rp _ HPd.out.t.ws HPd.out.t.rs HPd.out.t.sh HPd.out.t.rp HPd.out.sW HPd.out.sR HPd.out.sS HPd.out.bW HPd.out.bR HPd.out.bS HPd.out.bP HPd.out.tW HPd.out.tR).mono ?_; rintro e x2 ⟨T1, d1, T2, d2, T3, d3, T4, d4, mid, rfl, tW2, tR2, tS2, tP2, tL2, tM2, hb2⟩; have HR2 : Hid (RcO x2 w.heap.size ⟨k, b, s, q, ws, rs, f, sh, rp, i, nm⟩ ⟨T1, nW, d1, T2, nR, d2, T3, nS, d3, T4, nP, d4⟩) := Lib.hid ⟨tW2.mono HBd.out.size, tR2.mono HBd.out.size, tS2.mono HBd.out.size, tP2.mono HBd.out.size, HPd.out.t.rp.2⟩; have HL2 := Lib.hid tL2; have HM2 := Lib.hid tM2; have HB2 := Lib.hid (HBd.out.trans (hb2.mono HBd.out.size)); have HO2 := Lib.hid (HOd.out.keep hb2); have BX2 := Lib.hid ((hb2.block _ (lt_of_heap BXd.out)).trans BXd.out); have s0 := rc_cell 0 (.int .i64 k) BX2.out rfl; have s1 := rc_cell 1 (.int .u64 b) BX2.out rfl; have s2 := rc_cell 2 (.int .u64 s) BX2.out rfl; have s3 := rc_cell 3 (.int .u64 q) BX2.out rfl; have s4 := rc_cell 4 (.slice AW nW cW) BX2.out rfl; have s5 := rc_cell 5 (.slice AR nR cR) BX2.out rfl; have s6 := rc_cell 6 (.bool f) BX2.out rfl; have s7 := rc_cell 7 (.slice AS nS cS) BX2.out rfl; have s8 := rc_cell 8 (.slice AP nP cP) BX2.out rfl; have s9 := rc_cell 9 (.int .u64 i) BX2.out rfl; have s10 := rc_cell 10 (.string S) BX2.out rfl; have s11 := rc_cell 11 (.int .u64 a) BX2.out rfl; have hba2 := below_alloc x2 (.cells #[.int .i64 k, .int .u64 b, .int .u64 s, .int .u64 q, .slice T1 nW d1, .slice T2 nR d2, .bool f, .slice T3 nS d3, .slice T4 nP d4, .int .u64 i, .string S, .int .u64 a] 53); have HN2 := Lib.hid (heap_alloc_new x2 (.cells #[.int .i64 k, .int .u64 b, .int .u64 s, .int .u64 q, .slice T1 nW d1, .slice T2 nR d2, .bool f, .slice T3 nS d3, .slice T4 nP d4, .int .u64 i, .string S, .int .u64 a] 53)); have BX3 := Lib.hid ((hba2.block _ (lt_of_heap BX2.out)).trans BX2.out); have HO3 := Lib.hid (HO2.out.keep hba2); have HR3 := Lib.hid (HR2.out.keep hba2); have HL3 := Lib.hid (HL2.out.keep (fun k hk => hba2.block k (HR2.out.ws.lies k hk).2)); have HB3 := Lib.hid (HB2.out.trans (hba2.mono HB2.out.size)); have t0 := rc_cell 0 (.int .i64 k) BX3.out rfl; have t1 := rc_cell 1 (.int .u64 b) BX3.out rfl; have t2 := rc_cell 2 (.int .u64 s) BX3.out rfl; have t3 := rc_cell 3 (.int .u64 q) BX3.out rfl; have t4 := rc_cell 4 (.slice AW nW cW) BX3.out rfl; have t5 := rc_cell 5 (.slice AR nR cR) BX3.out rfl; have t6 := rc_cell 6 (.bool f) BX3.out rfl; have t7 := rc_cell 7 (.slice AS nS cS) BX3.out rfl; have t8 := rc_cell 8 (.slice AP nP cP) BX3.out rfl; have t9 := rc_cell 9 (.int .u64 i) BX3.out rfl; have t10 := rc_cell 10 (.string S) BX3.out rfl; have t11 := rc_cell 11 (.int .u64 a) BX3.out rfl; clear tW2 tR2 tS2 tP2 tL2 tM2 hb2 hba2) | (obtain ⟨hl, vs, ho, he⟩ := HO3.out; refine step_append_wide (by rfl) (.tmp 42) (.tmp 49) 50 (by rfl) i53 _ 168 Try.underlying50 hi53 hz0 hz1 hz2 rfl (by decide) (by rfl) ho x2.heap.size 0 1 1 #[.int .i64 k, .int .u64 b, .int .u64 s, .int .u64 q, .slice T1 nW d1, .slice T2 nR d2, .bool f, .slice T3 nS d3, .slice T4 nP d4, .int .u64 i, .string S, .int .u64 a].toList (by rfl) rfl (fun j u hu => by rw [Nat.zero_add, cell_of_row _ _ j _ 53 (0, 0) HN2.out]; simpa using hu) (fun u hu => by rw [← HSN.out] at hu; exact posV_one ⟨k, b, s, q, ws, rs, f, sh, rp, i, nm⟩ ⟨T1, nW, d1, T2, nR, d2, T3, nS, d3, T4, nP, d4⟩ a u hu) (by unfold maxLen; omega) (by omega) HB3.out.size ?_; intro A5 c5 x5 ho5 hg5; have ho6 : OwnK 12 x5 w.heap.size 53 A5 (n' + 1) c5 (vs ++ (posV ⟨k, b, s, q, ws, rs, f, sh, rp, i, nm⟩ ⟨T1, nW, d1, T2, nR, d2, T3, nS, d3, T4, nP, d4⟩ a).toList) := (by rw [← HSN.out] at ho5; exact ho5); have HO5 := Lib.hid (PoO.snoc hl ho he HR3.out HL3.out HM2.out ho6 hg5 HB3.out.size); have HB5 := Lib.hid (HB3.out.trans ((hg5.below (B := w.heap.size) HB3.out.size (fun k hk => (ho.lies k hk).1)))); have BX5 := Lib.hid ((hg5.1.block _ (lt_of_heap BX3.out) (fun e => absurd (HNB.out _ e.symm) (Nat.lt_irrefl _))).trans BX3.out); have v0 := rc_cell 0 (.int .i64 k) BX5.out rfl; have v1 := rc_cell 1 (.int .u64 b) BX5.out rfl; have v2 := rc_cell 2 (.int .u64 s) BX5.out rfl; have v3 := rc_cell 3 (.int .u64 q) BX5.out rfl; have v4 := rc_cell 4 (.slice AW nW cW) BX5.out rfl; have v5 := rc_cell 5 (.slice AR nR cR) BX5.out rfl; have v6 := rc_cell 6 (.bool f) BX5.out rfl; have v7 := rc_cell 7 (.slice AS nS cS) BX5.out rfl; have v8 := rc_cell 8 (.slice AP nP cP) BX5.out rfl; have v9 := rc_cell 9 (.int .u64 i) BX5.out rfl; have v10 := rc_cell 10 (.string S) BX5.out rfl; have v11 := rc_cell 11 (.int .u64 a) BX5.out rfl; clear hl ho he ho5 ho6 hg5))
            clear v0 t0 s0 r0 v1 t1 s1 r1 v2 t2 s2 r2 v3 t3 s3 r3 v4 t4 s4 r4 v5 t5 s5 r5 v6 t6 s6 r6 v7 t7 s7 r7 v8 t8 s8 r8 v9 t9 s9 r9 v10 t10 s10 r10 v11 t11 s11 r11
            go_wp2
            go_roundw
            case rel => exact ⟨kk + 1, n' + 1, c5, A5, by go_num, by omega, rfl, by omega, Lib.hid (by rw [outS_yes HP.out HBT.out]; exact HO5.out), HB5⟩
            case measure => simp [intOf]; omega
          · have d1 : decide (fr ≤ a) = true := by simpa using h1
            have d2 : decide (a < tt) = false := by simpa using h2
            have HBT : Hid (betwS ks fr tt ⟨⟨k, b, s, q, ws, rs, f, sh, rp, i, nm⟩, ⟨AW, nW, cW, AR, nR, cR, AS, nS, cS, AP, nP, cP⟩, a⟩ = false) := Lib.hid (by simp only [betwS, HKI.out, Bool.true_and]; simp [betw, h2])
            have h2' := h2
            go_wp2
            clear q0 q1 q2 q3 q4 q5 q6 q7 q8 q9 q10 q11
            go_roundw
            case rel => exact ⟨kk + 1, n', c', A', by go_num, by omega, rfl, by omega, Lib.hid (by rw [outS_no HP.out HBT.out]; exact HOy.out), HBy⟩
            case measure => simp [intOf]; omega
        · have d1 : decide (fr ≤ a) = false := by simpa using h1
          have HBT : Hid (betwS ks fr tt ⟨⟨k, b, s, q, ws, rs, f, sh, rp, i, nm⟩, ⟨AW, nW, cW, AR, nR, cR, AS, nS, cS, AP, nP, cP⟩, a⟩ = false) := Lib.hid (by simp only [betwS, HKI.out, Bool.true_and]; simp [betw, h1])
          have h1' := h1
          go_wp2
          clear q0 q1 q2 q3 q4 q5 q6 q7 q8 q9 q10 q11
          go_roundw
          case rel => exact ⟨kk + 1, n', c', A', by go_num, by omega, rfl, by omega, Lib.hid (by rw [outS_no HP.out HBT.out]; exact HOy.out), HBy⟩
          case measure => simp [intOf]; omega
      · have HKI : Hid (ks.contains k = false) := Lib.hid (by simpa using hkin)
        clear hkin
        have HBT : Hid (betwS ks fr tt ⟨⟨k, b, s, q, ws, rs, f, sh, rp, i, nm⟩, ⟨AW, nW, cW, AR, nR, cR, AS, nS, cS, AP, nP, cP⟩, a⟩ = false) := Lib.hid (by simp only [betwS, HKI.out, Bool.false_and])
        go_wp2_with fail
        refine (contains_is AK nK cK ks k false HKI.out _ HKy.out hKn).mono ?_
        rintro e wz ⟨rfl, rfl⟩
        go_wp2
        clear q0 q1 q2 q3 q4 q5 q6 q7 q8 q9 q10 q11
        go_roundw
        case rel => exact ⟨kk + 1, n', c', A', by go_num, by omega, rfl, by omega, Lib.hid (by rw [outS_no HP.out HBT.out]; exact HOy.out), HBy⟩
        case measure => simp [intOf]; omega
    · have hke : kk = n := by omega
      subst hke
      have HTA : Hid (el.take kk = el) := Lib.hid (List.take_of_length_le (by have := HX.out.1; omega))
      rw [HTA.out] at HO
      go_wp2
      go_ret
      exact ⟨A', n', c', rfl, HO.out.1.symm, HO.out, HB.out⟩
end Go.Proofs.Ytmjjbfcblmmipaa
