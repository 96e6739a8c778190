/- rec.Touched. -/
import Derived.Test.YtmjjbfcblmmipaaReadA
import Derived.Maps.OwnSet
import Derived.DeepKeys4
namespace Go.Proofs.Ytmjjbfcblmmipaa
set_option linter.unusedVariables false
set_option linter.unusedSimpArgs false
open Go.RowKit

def useT (k : Int) : Bool := (fl k).contains 116
theorem useT_yes {k : Int} {p : Nat} (h : (fl k)[p]? = some 116) : useT k = true := by
  unfold useT; rw [List.contains_iff_mem]; exact List.mem_of_getElem? h
theorem useT_no {k : Int} (h : ∀ j, j < (fl k).length → (fl k)[j]? ≠ some 116) : useT k = false := by
  unfold useT
  rw [← Bool.not_eq_true, List.contains_iff_mem]
  intro hm
  obtain ⟨j, hj, he⟩ := List.mem_iff_getElem.1 hm
  exact h j hj (by rw [List.getElem?_eq_getElem hj, he])
set_option maxRecDepth 100000 in
set_option maxHeartbeats 2000000 in
theorem uses_any (k : Int) (w : World) : Calls Try.prog 69 #[.int .i64 k] w fun e w' => e = .returned (.bool (useT k)) ∧ Below w.heap.size w w' := by
  have HFI := Lib.hid (fields_any k)
  have HFM := Lib.hid (fun c (hc : c ∈ fl k) => (fl_mem hc).2)
  have HY := Lib.hid (fun p (h : (fl k)[p]? = some 116) => useT_yes h)
  have HN := Lib.hid (useT_no (k := k))
  generalize useT k = res at *
  generalize fl k = fs at *
  have hb4 : Below w.heap.size w (w.iter (strOfNums fs) 0) := (Below.refl _ _).alloc (Nat.le_refl _) _
  have HI4 : Hid ((w.iter (strOfNums fs) 0).heap[w.heap.size]? = some (.stringIter (strOfNums fs) 0)) := World.iter_heap w (strOfNums fs) 0
  have HB4 := Lib.hid hb4; clear hb4
  go_enter Try.func69, Try.ntmps69
  go_wp2_with fail
  refine (HFI.out _).mono ?_
  rintro e w3 ⟨rfl, rfl⟩
  go_wp2_with fail
  go_loopw [] (fun wr => ∃ p : Nat, p ≤ fs.length ∧ Hid (wr.heap[w.heap.size]? = some (.stringIter (strOfNums fs) p)) ∧ Hid (Below w.heap.size w wr) ∧ Hid (∀ j, j < p → fs[j]? ≠ some 116)) (fun wr => fs.length - wr.iterPos w.heap.size)
  case atStart => exact ⟨0, Nat.zero_le _, HI4, HB4, Lib.hid (fun j hj => absurd hj (Nat.not_lt_zero _))⟩
  case round =>
    clear HI4 HB4
    obtain ⟨p, hp, HIT, HB, HNO⟩ := hrel
    have hgl := lt_of_heap HIT.out
    by_cases hlt : p < fs.length
    · obtain ⟨c, hc⟩ : ∃ c, fs[p]? = some c := ⟨_, List.getElem?_eq_getElem hlt⟩
      have hc01 := HFM.out c (List.mem_of_getElem? hc)
      have hnx := fun ty => next_at (P := Try.prog) wr w.heap.size fs p c ty HIT.out hc hc01.1 hc01.2
      have hol := itSet_onl wr w.heap.size (strOfNums fs) (p + 1)
      have HAT := Lib.hid (itSet_at wr w.heap.size (strOfNums fs) (p + 1) hgl)
      have HC := Lib.hid hc
      have HP := Lib.hid (iterPos_of HIT.out)
      clear hc hc01
      have HB1 : Hid (Below w.heap.size w (itSet wr w.heap.size (strOfNums fs) (p + 1))) := Lib.hid (HB.out.trans (hol.below (Nat.le_of_lt hgl)))
      clear hol
      generalize itSet wr w.heap.size (strOfNums fs) (p + 1) = w1 at *
      by_cases h116 : c = 116
      · have hd : (c == 116) = true := by simpa using h116
        have HR : Hid (res = true) := Lib.hid (HY.out p (by rw [HC.out, h116]))
        clear h116
        go_wp2
        go_ret
        exact ⟨by rw [HR.out]; rfl, HB1.out⟩
      · have hd : (c == 116) = false := by simpa using h116
        have HNO1 : Hid (∀ j, j < p + 1 → fs[j]? ≠ some 116) := Lib.hid (fun j hj => by
          by_cases hjp : j < p
          · exact HNO.out j hjp
          · obtain rfl : j = p := by omega
            rw [HC.out]; intro e; injection e with e; exact h116 e)
        clear h116
        go_wp2
        go_roundw
        case rel => exact ⟨p + 1, by omega, HAT, HB1, HNO1⟩
        case measure => rw [iterPos_of HAT.out, HP.out]; omega
    · have hnx := fun ty => next_done (P := Try.prog) wr w.heap.size fs p ty HIT.out hlt
      have HR : Hid (res = false) := Lib.hid (HN.out (fun j hj => HNO.out j (by omega)))
      go_wp2
      go_ret
      exact ⟨by rw [HR.out]; rfl, HB.out⟩
theorem uses_is (k : Int) (v : Bool) (h : useT k = v) (w : World) : Calls Try.prog 69 #[.int .i64 k] w fun e w' => e = .returned (.bool v) ∧ Below w.heap.size w w' := by rw [← h]; exact uses_any k w
end Go.Proofs.Ytmjjbfcblmmipaa
namespace Go.Proofs.Ytmjjbfcblmmipaa
set_option linter.unusedVariables false
set_option linter.unusedSimpArgs false
open Go.RowKit Go.Maps

theorem tLaid : laidOutB Try.prog = true := by kernel_rfl
theorem row24 : (24 : TypeId) < Try.prog.types.size := of_decide_eq_true (by kernel_rfl)
theorem un24 : Try.prog.underlying 24 = some (.struct #[⟨ "Boot", 22, 0, false, "", "", 0⟩, ⟨ "Session", 22, 1, false, "", "", 8⟩, ⟨ "Seq", 22, 2, false, "", "", 16⟩]) := by kernel_rfl
set_option maxRecDepth 100000 in
theorem kt2 : Try.prog.keyTypeAt 2 24 = true := by kernel_rfl
theorem law24 : Keyed Try.prog 24 := Keyed.of_law (deep_law_laid tLaid (m := 2) (by omega) row24 kt2 (by generalize h : Try.prog.underlying 24 = u; rw [un24] at h; subst h; rfl))
theorem zero119 (w : World) : (zeroValue 119).run Try.prog w = .ok (.agg #[]) w := by kernel_rfl
theorem un118 : Try.prog.underlying 118 = some (.map 24 119) := by kernel_rfl
theorem un51 : Try.prog.underlying 51 = some (.slice 24) := by kernel_rfl
theorem info24 : (Try.prog.info? 24).map (fun i => (i.zero, i.size, i.bytes)) = some (some (.agg #[.int .u64 0, .int .u64 0, .int .u64 0]), 3, 24) := by kernel_rfl
theorem tsz : Try.prog.types.size = 207 := by kernel_rfl
theorem keyT24 : Try.prog.keyType 24 = true := by kernel_rfl
theorem cof24 : Try.prog.cellsOf 24 = 3 := by kernel_rfl
theorem cof22 : Try.prog.cellsOf 22 = 1 := by kernel_rfl
abbrev Tx := Int × Int × Int
def TxOK (t : Tx) : Prop := (0 ≤ t.1 ∧ t.1 ≤ 18446744073709551615) ∧ (0 ≤ t.2.1 ∧ t.2.1 ≤ 18446744073709551615) ∧ (0 ≤ t.2.2 ∧ t.2.2 ≤ 18446744073709551615)
def txLits (t : Tx) : List Lit := [.int .u64 t.1, .int .u64 t.2.1, .int .u64 t.2.2]
def txK (t : Tx) : Lit := .string (keyBytes (txLits t))
theorem wf64 {n : Int} (h : 0 ≤ n ∧ n ≤ 18446744073709551615) : (Lit.int .u64 n).wf = true := by
  simp only [Lit.wf, IntKind.min, IntKind.max, IntKind.signed, IntKind.bits, Bool.and_eq_true, decide_eq_true_eq, if_true, Bool.false_eq_true, if_false]; omega
theorem kl22 (d : Nat) {n : Int} (h : (Lit.int .u64 n).wf = true) : Try.prog.keyLits (d + 1) 22 [.int .u64 n] = some [.int .u64 n] := by
  unfold Program.keyLits; rw [Try.underlying22]; simp [h]
set_option maxRecDepth 100000 in
theorem kl24 (d : Nat) {a b c : Int} (h1 : (Lit.int .u64 a).wf = true) (h2 : (Lit.int .u64 b).wf = true) (h3 : (Lit.int .u64 c).wf = true) : Try.prog.keyLits (d + 1 + 1) 24 [.int .u64 a, .int .u64 b, .int .u64 c] = some [.int .u64 a, .int .u64 b, .int .u64 c] := by
  unfold Program.keyLits
  rw [un24]
  simp only [cof24, cof22, List.length_cons, List.length_nil, List.mapM_cons, List.mapM_nil, List.drop_zero, List.drop_succ_cons, List.take_succ_cons, List.take_zero, kl22 d h1, kl22 d h2, kl22 d h3]
  simp
theorem fm24 (a b c : Int) : (Value.agg #[.int .u64 a, .int .u64 b, .int .u64 c]).formed Try.prog 24 = true := by simp [Value.formed, un24, cof24]
theorem key24 (t : Tx) (h : TxOK t) : keyOf Try.prog 24 (.agg #[.int .u64 t.1, .int .u64 t.2.1, .int .u64 t.2.2]) = some (txK t) := by
  obtain ⟨h1, h2, h3⟩ := h
  have w1 := wf64 h1; have w2 := wf64 h2; have w3 := wf64 h3
  unfold keyOf
  rw [un24, keyT24, fm24, tsz]
  have e : (Value.agg #[.int .u64 t.1, .int .u64 t.2.1, .int .u64 t.2.2]).cells.toList = [.int .u64 t.1, .int .u64 t.2.1, .int .u64 t.2.2] := rfl
  rw [e, kl24 206 w1 w2 w3]
  rfl
theorem txK_inj {t u : Tx} (ht : TxOK t) (hu : TxOK u) (h : txK t = txK u) : t = u := by
  have e : keyBytes (txLits t) = keyBytes (txLits u) := by injection h
  have := keyBytes_inj (l := txLits t) (l' := txLits u) (by simp [txLits, Alike, Lit.sameKind]) (by intro a ha; simp only [txLits, List.mem_cons, List.not_mem_nil, or_false] at ha; rcases ha with rfl | rfl | rfl <;> first | exact wf64 ht.1 | exact wf64 ht.2.1 | exact wf64 ht.2.2)
    (by intro a ha; simp only [txLits, List.mem_cons, List.not_mem_nil, or_false] at ha; rcases ha with rfl | rfl | rfl <;> first | exact wf64 hu.1 | exact wf64 hu.2.1 | exact wf64 hu.2.2) e
  simp only [txLits, List.cons.injEq, Lit.int.injEq, true_and, and_true] at this
  obtain ⟨a, b, c⟩ := t; obtain ⟨a', b', c'⟩ := u
  simp only at this
  obtain ⟨rfl, rfl, rfl⟩ := this
  rfl
def tset (acc : List Tx) : DataW Unit := setOf (.agg []) (acc.map txK)
theorem has_tset (acc : List Tx) (t : Tx) (ha : ∀ u ∈ acc, TxOK u) (ht : TxOK t) : Maps.has (tset acc) (txK t) = acc.contains t := by
  unfold tset
  rw [has_setOf _ _ _ (by intro x hx; obtain ⟨u, _, rfl⟩ := List.mem_map.1 hx; trivial), List.any_map]
  rw [Bool.eq_iff_iff, List.any_eq_true, List.contains_iff_mem]
  constructor
  · rintro ⟨u, hu, he⟩
    have := txK_inj (ha u hu) ht (WideAt.sameKey_eq he)
    rw [← this]; exact hu
  · intro hm
    exact ⟨t, hm, by simp [txK, Lit.sameKey]⟩
theorem tset_snoc (acc : List Tx) (t : Tx) : tset (acc ++ [t]) = (tset acc).put (txK t) (.agg []) := by unfold tset; rw [List.map_append, List.map_cons, List.map_nil, setOf_snoc]
def txO (x : Rc) : Tx := (x.boot, x.sess, x.seq)
def addT (acc : List Tx) (x : Rc) : List Tx := if useT x.kind && !(acc.contains (txO x)) then acc ++ [txO x] else acc
def txL (l : List Rc) : List Tx := l.foldl addT []
theorem txL_snoc {l : List Rc} {k : Nat} {x : Rc} (h : l[k]? = some x) : txL (l.take (k + 1)) = addT (txL (l.take k)) x := by
  unfold txL; rw [List.take_add_one, h]; simp
theorem txL_len (l : List Rc) : (txL l).length ≤ l.length := by
  have key : ∀ (l : List Rc) (acc : List Tx), (l.foldl addT acc).length ≤ acc.length + l.length := by
    intro l
    induction l with
    | nil => intro acc; simp
    | cons x l ih =>
      intro acc
      have h1 := ih (addT acc x)
      have h2 : (addT acc x).length ≤ acc.length + 1 := by unfold addT; split <;> simp
      simp only [List.foldl_cons, List.length_cons]; omega
  simpa [txL] using key l []
theorem txL_ok (l : List Rc) (h : ∀ x ∈ l, TxOK (txO x)) : ∀ t ∈ txL l, TxOK t := by
  have key : ∀ (l : List Rc) (acc : List Tx), (∀ x ∈ l, TxOK (txO x)) → (∀ t ∈ acc, TxOK t) → ∀ t ∈ l.foldl addT acc, TxOK t := by
    intro l
    induction l with
    | nil => intro acc _ ha t ht; exact ha t ht
    | cons x l ih =>
      intro acc hl ha
      refine ih (addT acc x) (fun y hy => hl y (List.mem_cons_of_mem _ hy)) (fun t ht => ?_)
      unfold addT at ht
      split at ht
      · rcases List.mem_append.1 ht with h1 | h1
        · exact ha t h1
        · obtain rfl := List.mem_singleton.1 h1; exact hl x (List.mem_cons_self ..)
      · exact ha t ht
  exact key l [] h (fun t ht => by cases ht)
def txV (l : List Tx) : List Value := l.flatMap fun t => [.int .u64 t.1, .int .u64 t.2.1, .int .u64 t.2.2]
theorem txV_len (l : List Tx) : (txV l).length = l.length * 3 := by
  induction l with
  | nil => rfl
  | cons t l ih => simp only [txV, List.flatMap_cons, List.length_append, List.length_cons, List.length_nil] at ih ⊢; omega
theorem txV_snoc (l : List Tx) (t : Tx) : txV (l ++ [t]) = txV l ++ [.int .u64 t.1, .int .u64 t.2.1, .int .u64 t.2.2] := by simp [txV]
theorem txV_at {l : List Tx} {k : Nat} {t : Tx} (h : l[k]? = some t) : (txV l)[k * 3]? = some (.int .u64 t.1) ∧ (txV l)[k * 3 + 1]? = some (.int .u64 t.2.1) ∧ (txV l)[k * 3 + 2]? = some (.int .u64 t.2.2) := by
  have hk := (List.getElem?_eq_some_iff.1 h).1
  have e : l = l.take k ++ [t] ++ l.drop (k + 1) := by
    conv => lhs; rw [← List.take_append_drop (k + 1) l, List.take_add_one, h]
    simp
  have hl : (l.take k).length = k := by rw [List.length_take]; omega
  have e2 : txV l = txV (l.take k) ++ ([.int .u64 t.1, .int .u64 t.2.1, .int .u64 t.2.2] ++ txV (l.drop (k + 1))) := by
    conv => lhs; rw [e]
    simp [txV]
  have h3 : (txV (l.take k)).length = k * 3 := by rw [txV_len, hl]
  rw [e2]
  refine ⟨?_, ?_, ?_⟩
  · rw [List.getElem?_append_right (by omega), h3, Nat.sub_self]; rfl
  · rw [List.getElem?_append_right (by omega), h3, Nat.add_sub_cancel_left]; rfl
  · rw [List.getElem?_append_right (by omega), h3, Nat.add_sub_cancel_left]; rfl
/-- A record's eleven cells. -/
def rcVs (x : Rc) (s : Sl) : Array Value := rcV x.kind x.boot x.sess x.seq s.AW s.nW s.cW s.AR s.nR s.cR x.commit s.AS s.nS s.cS s.AP s.nP s.cP x.id (strOfNums x.name)
/-- A row of records that is read. -/
def RcsL (w : World) (A : Option Addr) (n : Nat) (l : List (Rc × Sl)) : Prop :=
  l.length = n ∧ (0 < n → ∃ b off, A = some ⟨b, off, none⟩ ∧ b < w.heap.size ∧ ∀ k p, l[k]? = some p → ∀ i u, (rcVs p.1 p.2)[i]? = some u → w.cell? ⟨b, off + k * 11 + i, none⟩ = some u)
theorem rc11 {w : World} {b o : Nat} {k b1 s q : Int} {AW : Option Addr} {nW cW : Nat} {AR : Option Addr} {nR cR : Nat} {f : Bool} {AS : Option Addr} {nS cS : Nat} {AP : Option Addr} {nP cP : Nat} {i : Int} {S : ByteArray}
    (h : ∀ j u, (#[.int .i64 k, .int .u64 b1, .int .u64 s, .int .u64 q, .slice AW nW cW, .slice AR nR cR, .bool f, .slice AS nS cS, .slice AP nP cP, .int .u64 i, .string S] : Array Value)[j]? = some u → w.cell? ⟨b, o + j, none⟩ = some u) : w.cell? ⟨b, o, none⟩ = some (.int .i64 k) ∧ w.cell? ⟨b, o + 1, none⟩ = some (.int .u64 b1) ∧ w.cell? ⟨b, o + 2, none⟩ = some (.int .u64 s) ∧ w.cell? ⟨b, o + 3, none⟩ = some (.int .u64 q) ∧ w.cell? ⟨b, o + 4, none⟩ = some (.slice AW nW cW) ∧ w.cell? ⟨b, o + 5, none⟩ = some (.slice AR nR cR) ∧ w.cell? ⟨b, o + 6, none⟩ = some (.bool f) ∧ w.cell? ⟨b, o + 7, none⟩ = some (.slice AS nS cS) ∧ w.cell? ⟨b, o + 8, none⟩ = some (.slice AP nP cP) ∧ w.cell? ⟨b, o + 9, none⟩ = some (.int .u64 i) ∧ w.cell? ⟨b, o + 10, none⟩ = some (.string S) :=
  ⟨h 0 _ rfl, h 1 _ rfl, h 2 _ rfl, h 3 _ rfl, h 4 _ rfl, h 5 _ rfl, h 6 _ rfl, h 7 _ rfl, h 8 _ rfl, h 9 _ rfl, h 10 _ rfl⟩
theorem tx_cells (w : World) (u v x : Value) (t : TypeId) : ∀ j y, [u, v, x][j]? = some y → (w.alloc (.cells #[u, v, x] t)).cell? ⟨w.heap.size, 0 + j, none⟩ = some y := by
  intro j y h
  rw [Nat.zero_add, cell_of_row _ _ j _ t (0, 0) (heap_alloc_new w _)]
  simpa using h
theorem tx_one (a b c : Int) : ∀ u ∈ [Value.int .u64 a, .int .u64 b, .int .u64 c], u.oneCell' = true := by
  intro u hu
  simp only [List.mem_cons, List.not_mem_nil, or_false] at hu
  rcases hu with rfl | rfl | rfl <;> rfl
set_option maxRecDepth 100000 in
set_option maxHeartbeats 16000000 in
theorem touched_any (A : Option Addr) (n c : Nat) (l : List (Rc × Sl)) (w : World) (hx : RcsL w A n l) (hn : n ≤ 100000) (hr : ∀ x ∈ l.map (·.1), TxOK (txO x)) :
    Calls Try.prog 25 #[.slice A n c] w fun e w' => ∃ A' n' c', e = .returned (.slice A' n' c') ∧ n' = (txL (l.map (·.1))).length ∧ OwnK 3 w' w.heap.size 24 A' n' c' (txV (txL (l.map (·.1)))) ∧ Below w.heap.size w w' := by
  have hmm := @run_makeMap Try.prog
  obtain ⟨i24, hi24, hz0, hz1, hz2⟩ := info_parts info24
  have HX := Lib.hid hx; clear hx
  have HR := Lib.hid hr; clear hr
  go_enter Try.func25, Try.ntmps25
  go_wp2
  go_loopw [3, 12] (fun fv iv wr => ∃ (kk n' c' : Nat) (A' : Option Addr), iv = .int .i64 kk ∧ kk ≤ n ∧ fv = .slice A' n' c' ∧ n' ≤ kk ∧ Hid (n' = (txL ((l.map (·.1)).take kk)).length) ∧ Hid (wr.ownsMap Try.prog 24 unitElem w.heap.size kk (tset (txL ((l.map (·.1)).take kk)))) ∧
      Hid (OwnK 3 wr (w.heap.size + 1) 24 A' n' c' (txV (txL ((l.map (·.1)).take kk)))) ∧ Hid (Below w.heap.size w wr) ∧ w.heap.size + 1 ≤ wr.heap.size) (fun _ iv _ => n - (intOf iv).toNat)
  case atStart => exact ⟨0, 0, 0, none, rfl, Nat.zero_le _, rfl, Nat.zero_le _, Lib.hid rfl, Lib.hid (World.ownsMap_made _ _ _ _), Lib.hid OwnK.nil_, Lib.hid ((Below.refl _ _).alloc (Nat.le_refl _) _), by simp⟩
  case round =>
    obtain ⟨kk, n', c', A', rfl, hk, rfl, hn', HN, HM, HO, HB, hws⟩ := hrel
    by_cases hlt : kk < n
    · obtain ⟨bb, off, rfl, hbl, hcell⟩ := HX.out.2 (by omega)
      obtain ⟨p, hp⟩ : ∃ p, l[kk]? = some p := ⟨_, List.getElem?_eq_getElem (by have := HX.out.1; omega)⟩
      have hc := hcell kk p hp
      have hpm : (l.map (·.1))[kk]? = some p.1 := by rw [List.getElem?_map, hp]; rfl
      have HST := Lib.hid (txL_snoc hpm)
      have HTO := Lib.hid (HR.out p.1 (List.mem_of_getElem? hpm))
      have HAL : Hid (∀ t ∈ txL ((l.map (·.1)).take kk), TxOK t) := Lib.hid (txL_ok _ (fun x hx => HR.out x (List.mem_of_mem_take hx)))
      clear hcell hp hpm
      generalize txL ((l.map (·.1)).take kk) = acc at *
      obtain ⟨⟨k, b, s, q, ws, rs, f, sh, rp, i, nm⟩, ⟨AW, nW, cW, AR, nR, cR, AS, nS, cS, AP, nP, cP⟩⟩ := p
      obtain ⟨S, HSN⟩ : ∃ S, Hid (strOfNums nm = S) := ⟨_, rfl⟩
      have hc' : ∀ j u, (#[.int .i64 k, .int .u64 b, .int .u64 s, .int .u64 q, .slice AW nW cW, .slice AR nR cR, .bool f, .slice AS nS cS, .slice AP nP cP, .int .u64 i, .string S] : Array Value)[j]? = some u → wr.cell? ⟨bb, off + kk * 11 + j, none⟩ = some u := fun j u hu => by
        rw [HB.out.cell (p := ⟨bb, off + kk * 11 + j, none⟩) hbl]
        exact hc j u (by rw [← hu, ← HSN.out]; rfl)
      obtain ⟨c0, c1, c2, c3, c4, c5, c6, c7, c8, c9, c10⟩ := rc11 hc'
      have HTX : Hid (TxOK (b, s, q)) := HTO
      have HKEY := Lib.hid (key24 (b, s, q) HTX.out)
      have HHAS := Lib.hid (has_tset acc (b, s, q) HAL.out HTX.out)
      clear hc hc' HTO
      have z0 : (0 : Int) ≤ (kk : Int) := by omega
      have z1 : (kk : Int) < (n : Int) := by omega
      have hba := below_alloc wr (.cells #[.int .i64 k, .int .u64 b, .int .u64 s, .int .u64 q, .slice AW nW cW, .slice AR nR cR, .bool f, .slice AS nS cS, .slice AP nP cP, .int .u64 i, .string S] 32)
      have hys : (wr.alloc (.cells #[.int .i64 k, .int .u64 b, .int .u64 s, .int .u64 q, .slice AW nW cW, .slice AR nR cR, .bool f, .slice AS nS cS, .slice AP nP cP, .int .u64 i, .string S] 32)).heap.size = wr.heap.size + 1 := by simp
      have HBX := Lib.hid (heap_alloc_new wr (.cells #[.int .i64 k, .int .u64 b, .int .u64 s, .int .u64 q, .slice AW nW cW, .slice AR nR cR, .bool f, .slice AS nS cS, .slice AP nP cP, .int .u64 i, .string S] 32))
      have HMy : Hid ((wr.alloc (.cells #[.int .i64 k, .int .u64 b, .int .u64 s, .int .u64 q, .slice AW nW cW, .slice AR nR cR, .bool f, .slice AS nS cS, .slice AP nP cP, .int .u64 i, .string S] 32)).ownsMap Try.prog 24 unitElem w.heap.size kk (tset acc)) := Lib.hid (HM.out.alloc _)
      have HOy := Lib.hid (HO.out.keep hba)
      have HBy := Lib.hid (HB.out.trans (hba.mono HB.out.size))
      have q0 := rc_cell 0 (.int .i64 k) HBX.out rfl
      have q1 := rc_cell 1 (.int .u64 b) HBX.out rfl
      have q2 := rc_cell 2 (.int .u64 s) HBX.out rfl
      have q3 := rc_cell 3 (.int .u64 q) HBX.out rfl
      clear hba HM HO
      by_cases hseen : acc.contains (b, s, q) = true
      · have hh : Maps.has (tset acc) (txK (b, s, q)) = true := HHAS.out.trans hseen
        have HAD : Hid (addT acc ⟨k, b, s, q, ws, rs, f, sh, rp, i, nm⟩ = acc) := Lib.hid (by have h1 : acc.contains (txO ⟨k, b, s, q, ws, rs, f, sh, rp, i, nm⟩) = true := hseen; unfold addT; rw [h1]; simp)
        clear hseen
        go_wp2_with (at_lookup; refine wpList_lookup_own_unit _ rfl _ _ 118 rfl 24 119 law24 un118 (zero119 _) w.heap.size kk _ rfl HMy.out _ _ rfl HKEY.out ?_)
        go_roundw
        case rel => exact ⟨kk + 1, n', c', A', by go_num, by omega, rfl, by omega, Lib.hid (by rw [HST.out, HAD.out]; exact HN.out), Lib.hid (by rw [HST.out, HAD.out]; exact (HMy.out.alloc _).mono (Nat.le_succ _)), Lib.hid (by rw [HST.out, HAD.out]; exact HOy.out.keep (below_alloc _ _)), Lib.hid (HBy.out.trans ((below_alloc _ _).mono HBy.out.size)), by simp; omega⟩
        case measure => simp [intOf]; omega
      · have hseen' : acc.contains (b, s, q) = false := by simpa using hseen
        have hh : Maps.has (tset acc) (txK (b, s, q)) = false := HHAS.out.trans hseen'
        by_cases hu : useT k = true
        · have HAD : Hid (addT acc ⟨k, b, s, q, ws, rs, f, sh, rp, i, nm⟩ = acc ++ [(b, s, q)]) := Lib.hid (by have h1 : acc.contains (txO ⟨k, b, s, q, ws, rs, f, sh, rp, i, nm⟩) = false := hseen'; unfold addT; rw [h1]; simp only [hu, Bool.not_false, Bool.and_self, if_true]; rfl)
          have HU := Lib.hid hu
          clear hseen hseen' hu
          go_wp2_with (at_lookup; refine wpList_lookup_own_unit _ rfl _ _ 118 rfl 24 119 law24 un118 (zero119 _) w.heap.size kk _ rfl HMy.out _ _ rfl HKEY.out ?_)
          refine (uses_is k true HU.out _).mono ?_
          have hb119 := below_alloc (wr.alloc (.cells #[.int .i64 k, .int .u64 b, .int .u64 s, .int .u64 q, .slice AW nW cW, .slice AR nR cR, .bool f, .slice AS nS cS, .slice AP nP cP, .int .u64 i, .string S] 32)) (.cells #[] 119)
          have hys2 : ((wr.alloc (.cells #[.int .i64 k, .int .u64 b, .int .u64 s, .int .u64 q, .slice AW nW cW, .slice AR nR cR, .bool f, .slice AS nS cS, .slice AP nP cP, .int .u64 i, .string S] 32)).alloc (.cells #[] 119)).heap.size = wr.heap.size + 2 := by simp
          have HMz : Hid (((wr.alloc (.cells #[.int .i64 k, .int .u64 b, .int .u64 s, .int .u64 q, .slice AW nW cW, .slice AR nR cR, .bool f, .slice AS nS cS, .slice AP nP cP, .int .u64 i, .string S] 32)).alloc (.cells #[] 119)).ownsMap Try.prog 24 unitElem w.heap.size kk (tset acc)) := Lib.hid (HMy.out.alloc _)
          have HOz := Lib.hid (HOy.out.keep hb119)
          have HBz := Lib.hid (HBy.out.trans (hb119.mono HBy.out.size))
          have HBXz := Lib.hid ((hb119.block _ (lt_of_heap HBX.out)).trans HBX.out)
          clear hb119 HMy HOy HBy HBX q0 q1 q2 q3
          generalize ((wr.alloc (.cells #[.int .i64 k, .int .u64 b, .int .u64 s, .int .u64 q, .slice AW nW cW, .slice AR nR cR, .bool f, .slice AS nS cS, .slice AP nP cP, .int .u64 i, .string S] 32)).alloc (.cells #[] 119)) = y2 at *
          rintro e w2 ⟨rfl, hb2⟩
          have hs2 := hb2.size
          have HM2 : Hid (w2.ownsMap Try.prog 24 unitElem w.heap.size kk (tset acc)) := Lib.hid (HMz.out.kept (row := none) ⟨hb2.os, hb2.tape, hb2.output, hb2.size, fun i hi _ => hb2.block i hi⟩ (by simp))
          have HO2 := Lib.hid (HOz.out.keep hb2)
          have HB2 := Lib.hid (HBz.out.trans (hb2.mono HBz.out.size))
          have HBX2 := Lib.hid ((hb2.block _ (lt_of_heap HBXz.out)).trans HBXz.out)
          have r1 := rc_cell 1 (.int .u64 b) HBX2.out rfl
          have r2 := rc_cell 2 (.int .u64 s) HBX2.out rfl
          have r3 := rc_cell 3 (.int .u64 q) HBX2.out rfl
          clear hb2 HMz HOz HBz HBXz
          go_wp2_with (first
            | (at_mapUpdate; refine wpList_mapUpdate_own _ rfl _ _ _ 118 rfl 24 119 law24 un118 (unitElem (H := Unit)) w.heap.size kk _ rfl HM2.out (by unfold maxLen; omega) _ _ _ rfl rfl HKEY.out _ [] unitElem_mk ?_; intro w3 hown3 hgrow3; have hs3 := hgrow3.size; have HM3 := Lib.hid hown3; have HBX3 := Lib.hid ((hgrow3.block _ (lt_of_heap HBX2.out) (by intro e; injection e with e; omega)).trans HBX2.out); have HO3 := Lib.hid (HO2.out.kept hgrow3 (.inr (by intro e; have := (HO2.out.lies _ e).1; omega))); have HB3 := Lib.hid (HB2.out.grown hgrow3 HB2.out.size (fun j hj => by cases hj; exact Nat.le_refl _)); have t1 := rc_cell 1 (.int .u64 b) HBX3.out rfl; have t2 := rc_cell 2 (.int .u64 s) HBX3.out rfl; have t3 := rc_cell 3 (.int .u64 q) HBX3.out rfl; clear hown3 hgrow3 r1 r2 r3)
            | (at_builtin; refine wpList_append_wide rfl (.tmp 34) (.tmp 37) 51 rfl i24 _ 24 un51 hi24 hz0 hz1 hz2 rfl (by decide) rfl (HO3.out.alloc (.cells #[.int .u64 b, .int .u64 s, .int .u64 q] 24)) w3.heap.size 0 1 1 [.int .u64 b, .int .u64 s, .int .u64 q] rfl rfl (tx_cells w3 (.int .u64 b) (.int .u64 s) (.int .u64 q) 24) (tx_one _ _ _) (by unfold maxLen; omega) (by omega) (by simp; omega) ?_; intro A5 c5 w5 ho5 hg5))
          have HM5 := Lib.hid ((HM3.out.alloc (.cells #[.int .u64 b, .int .u64 s, .int .u64 q] 24)).kept hg5.1 (by intro e; have := (HO3.out.lies _ e.symm).1; omega))
          have HB5 := Lib.hid ((HB3.out.alloc HB3.out.size (.cells #[.int .u64 b, .int .u64 s, .int .u64 q] 24)).grown hg5.1 (by have := HB3.out.size; simp; omega) (fun j hj => by have := (HO3.out.lies j hj).1; omega))
          have hs5 := hg5.size
          have hs5' : (w3.alloc (.cells #[.int .u64 b, .int .u64 s, .int .u64 q] 24)).heap.size = w3.heap.size + 1 := by simp
          have HO5 := Lib.hid ho5
          clear ho5 hg5 t1 t2 t3
          go_roundw
          case rel => exact ⟨kk + 1, n' + 1, c5, A5, by go_num, by omega, rfl, by omega, Lib.hid (by rw [HST.out, HAD.out, List.length_append, HN.out]; rfl), Lib.hid (by rw [HST.out, HAD.out, tset_snoc]; exact HM5.out), Lib.hid (by rw [HST.out, HAD.out, txV_snoc]; exact HO5.out), HB5, by omega⟩
          case measure => simp [intOf]; omega
        · have hu' : useT k = false := by simpa using hu
          have HAD : Hid (addT acc ⟨k, b, s, q, ws, rs, f, sh, rp, i, nm⟩ = acc) := Lib.hid (by unfold addT; simp [hu'])
          have HU := Lib.hid hu'
          clear hseen hseen' hu hu'
          go_wp2_with (at_lookup; refine wpList_lookup_own_unit _ rfl _ _ 118 rfl 24 119 law24 un118 (zero119 _) w.heap.size kk _ rfl HMy.out _ _ rfl HKEY.out ?_)
          refine (uses_is k false HU.out _).mono ?_
          have hb119 := below_alloc (wr.alloc (.cells #[.int .i64 k, .int .u64 b, .int .u64 s, .int .u64 q, .slice AW nW cW, .slice AR nR cR, .bool f, .slice AS nS cS, .slice AP nP cP, .int .u64 i, .string S] 32)) (.cells #[] 119)
          have hys2 : ((wr.alloc (.cells #[.int .i64 k, .int .u64 b, .int .u64 s, .int .u64 q, .slice AW nW cW, .slice AR nR cR, .bool f, .slice AS nS cS, .slice AP nP cP, .int .u64 i, .string S] 32)).alloc (.cells #[] 119)).heap.size = wr.heap.size + 2 := by simp
          have HMz : Hid (((wr.alloc (.cells #[.int .i64 k, .int .u64 b, .int .u64 s, .int .u64 q, .slice AW nW cW, .slice AR nR cR, .bool f, .slice AS nS cS, .slice AP nP cP, .int .u64 i, .string S] 32)).alloc (.cells #[] 119)).ownsMap Try.prog 24 unitElem w.heap.size kk (tset acc)) := Lib.hid (HMy.out.alloc _)
          have HOz := Lib.hid (HOy.out.keep hb119)
          have HBz := Lib.hid (HBy.out.trans (hb119.mono HBy.out.size))
          clear hb119 HMy HOy HBy HBX q0 q1 q2 q3
          generalize ((wr.alloc (.cells #[.int .i64 k, .int .u64 b, .int .u64 s, .int .u64 q, .slice AW nW cW, .slice AR nR cR, .bool f, .slice AS nS cS, .slice AP nP cP, .int .u64 i, .string S] 32)).alloc (.cells #[] 119)) = y2 at *
          rintro e w2 ⟨rfl, hb2⟩
          have hs2 := hb2.size
          have HM2 : Hid (w2.ownsMap Try.prog 24 unitElem w.heap.size kk (tset acc)) := Lib.hid (HMz.out.kept (row := none) ⟨hb2.os, hb2.tape, hb2.output, hb2.size, fun i hi _ => hb2.block i hi⟩ (by simp))
          have HO2 := Lib.hid (HOz.out.keep hb2)
          have HB2 := Lib.hid (HBz.out.trans (hb2.mono HBz.out.size))
          clear hb2 HMz HOz HBz
          go_wp2
          go_roundw
          case rel => exact ⟨kk + 1, n', c', A', by go_num, by omega, rfl, by omega, Lib.hid (by rw [HST.out, HAD.out]; exact HN.out), Lib.hid (by rw [HST.out, HAD.out]; exact HM2.out.mono (Nat.le_succ _)), Lib.hid (by rw [HST.out, HAD.out]; exact HO2.out), HB2, by omega⟩
          case measure => simp [intOf]; omega
    · have hke : kk = n := by omega
      subst hke
      have HTA : Hid ((l.map (·.1)).take kk = l.map (·.1)) := Lib.hid (List.take_of_length_le (by rw [List.length_map]; have := HX.out.1; omega))
      rw [HTA.out] at HO HN
      clear HM
      go_wp2
      go_ret
      exact ⟨A', n', c', rfl, HN.out, HO.out.mono (Nat.le_succ _), HB.out⟩
end Go.Proofs.Ytmjjbfcblmmipaa
