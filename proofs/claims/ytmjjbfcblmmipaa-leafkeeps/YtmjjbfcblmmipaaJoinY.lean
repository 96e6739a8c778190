/- leaf.Join's state, its texts apart. -/
import Derived.Test.YtmjjbfcblmmipaaCopiedW
import Derived.Shelf.Spec.SlicesInsertGrow
import Derived.Laws.CopyOwn
import Derived.Test.YtmjjbfcblmmipaaRSplitW
import Derived.Deep.DeepAppendRoom
import Derived.Deep.CutRange
import Derived.Test.YtmjjbfcblmmipaaJoinN
namespace Go.Proofs.Ytmjjbfcblmmipaa
set_option linter.unusedVariables false
set_option linter.unusedSimpArgs false
open Go.RowKit
/-- copy onto a row: the row alone turns. -/
theorem run_copy_onl {P : Program} {w : World} (t ty el : TypeId) (hu : P.underlying t = some (.slice el)) (hsz : (P.info? el).map (·.size) = some 1)
    (dA sA : Option Addr) (dn dc sn sc : Nat) (g off : Nat) (cur : List Value) (T : TypeId) (hg : w.heap[g]? = some (.cells cur.toArray T (0, 0)))
    (cs : List Value) (hn : cs.length = Nat.min sn dn) (hfit : off + cs.length ≤ cur.length) (h1 : ∀ v ∈ cs, v.oneCell' = true)
    (hpos : 0 < cs.length → dA = some ⟨g, off, none⟩ ∧ ∃ ad, sA = some ad ∧ ∀ j v, cs[j]? = some v → w.cell? (ad.add j) = some v) :
    ∃ w', (Builtin.copy_ #[t, t] ty #[.slice dA dn dc, .slice sA sn sc]).run P w = .ok (goInt cs.length) w' ∧ Hid (w'.heap[g]? = some (.cells (splice cur off cs).toArray T (0, 0))) ∧ Hid (Onl g w w') := by
  rcases Nat.eq_zero_or_pos cs.length with h0 | h0
  · have e0 : cs = [] := List.eq_nil_of_length_eq_zero h0
    refine ⟨w, ?_, Lib.hid (by rw [hg, e0]; simp [splice]), Lib.hid (Onl.refl _ _)⟩
    rw [h0]
    exact run_copy_none (P := P) w t t ty el dA sA dn dc sn sc hu hsz (by omega)
  · obtain ⟨e1, ad, e2, hc⟩ := hpos h0
    refine ⟨_, by rw [e1, e2]; exact run_copy_row (P := P) w t t ty el g off dn dc ad sn sc cur.toArray T cs hu hsz hg hn hc (by simpa using hfit) h1, Lib.hid ?_, Lib.hid ?_⟩
    · have := setRow_heap w g _ ((cur.toArray.toList.take off ++ cs ++ cur.toArray.toList.drop (off + cs.length)).toArray) T _ hg
      rw [this]; simp [splice]
    · exact ⟨rfl, rfl, rfl, by simp [World.setRow], fun i _ hne => setRow_other w g i _ (fun e => hne (by rw [e]))⟩
theorem cut_in (b c i : Nat) (h : c ≠ i) : cutA (some ⟨b, 0, none⟩) c i = some ⟨b, i, none⟩ := by
  unfold cutA; rw [if_neg h]; simp [Addr.add]; intro e; exact e.symm
theorem ins_row {vs L : List Value} {n i : Nat} {u : Value} (hl : vs.length = n) (hi : i ≤ n) (hL : L.take i = vs.take i) (hs : n + 1 ≤ L.length) :
    (splice (splice L (i + 1) (vs.drop i)) i [u]).take (n + 1) = vs.take i ++ u :: vs.drop i ∧ (splice (splice L (i + 1) (vs.drop i)) i [u]).length = L.length := by
  have h0 : (vs.drop i).length = n - i := by rw [List.length_drop, hl]
  refine ⟨?_, ?_⟩
  · have e1 : (splice L (i + 1) (vs.drop i)).take i = vs.take i := by
      unfold splice
      rw [List.take_append_of_le_length (by rw [List.length_take]; omega), List.take_take, Nat.min_eq_left (by omega), hL]
    have e2 : (splice L (i + 1) (vs.drop i)).drop (i + [u].length) = vs.drop i ++ L.drop (n + 1) := by
      unfold splice
      rw [List.drop_append, List.drop_eq_nil_of_le (by simp; omega), List.nil_append, show i + [u].length - (L.take (i + 1)).length = 0 by simp; omega, List.drop_zero, h0, show i + 1 + (n - i) = n + 1 by omega]
    rw [show splice (splice L (i + 1) (vs.drop i)) i [u] = (splice L (i + 1) (vs.drop i)).take i ++ ([u] ++ (splice L (i + 1) (vs.drop i)).drop (i + [u].length)) from rfl, e1, e2]
    have e3 : (vs.take i ++ ([u] ++ (vs.drop i ++ L.drop (n + 1)))) = (vs.take i ++ u :: vs.drop i) ++ L.drop (n + 1) := by simp
    rw [e3, List.take_append_of_le_length (by simp [h0]; omega), List.take_of_length_le (by simp [h0]; omega)]
  · rw [length_splice _ _ _ (by rw [length_splice _ _ _ (by rw [h0]; omega)]; simp; omega), length_splice _ _ _ (by rw [h0]; omega)]
theorem ins_row2 {vs L : List Value} {n i : Nat} {u : Value} (hl : vs.length = n) (hi : i ≤ n) (hL : L.take i = vs.take i) (hs : n + 1 ≤ L.length) :
    (splice (splice L i [u]) (i + 1) (vs.drop i)).take (n + 1) = vs.take i ++ u :: vs.drop i ∧ (splice (splice L i [u]) (i + 1) (vs.drop i)).length = L.length := by
  have h0 : (vs.drop i).length = n - i := by rw [List.length_drop, hl]
  have hls : (splice L i [u]).length = L.length := length_splice _ _ _ (by simp; omega)
  refine ⟨?_, ?_⟩
  · have e1 : (splice L i [u]).take (i + 1) = vs.take i ++ [u] := by
      unfold splice
      have e : (L.take i ++ ([u] ++ L.drop (i + [u].length))) = (L.take i ++ [u]) ++ L.drop (i + [u].length) := by simp
      rw [e, List.take_append_of_le_length (by simp; omega), List.take_of_length_le (by simp; omega), hL]
    rw [show splice (splice L i [u]) (i + 1) (vs.drop i) = (splice L i [u]).take (i + 1) ++ (vs.drop i ++ (splice L i [u]).drop (i + 1 + (vs.drop i).length)) from rfl, e1]
    have e3 : ∀ X : List Value, (vs.take i ++ [u] ++ (vs.drop i ++ X)) = (vs.take i ++ u :: vs.drop i) ++ X := fun X => by simp
    rw [e3, List.take_append_of_le_length (by simp [h0]; omega), List.take_of_length_le (by simp [h0]; omega)]
  · rw [length_splice _ _ _ (by rw [h0, hls]; omega), hls]
theorem callFunc130 (A B : Addr) (m c lb cb : Nat) (w : World) (hne : A.block ≠ B.block) (ca cb' : Array Value) (hA : w.heap[A.block]? = some (.cells ca 28 (0, 0))) (hB : w.heap[B.block]? = some (.cells cb' 28 (0, 0))) (h0 : cb'.size ≠ 0) :
    (callFunc 130 #[.slice (some A) m c, .slice (some B) lb cb]).run Try.prog w = .ok (.value (.bool false)) w := by
  rw [run_callFunc_extern Try.func130 (by kernel_rfl) (by kernel_rfl) (by kernel_rfl) (e := Extern.SlicesOverlaps.overlaps #[62, 62] #[4]) (by kernel_rfl),
    Lib.run_overlaps_apart w 62 4 28 Try.underlying62 1 Try.sizeOf28 A B m c lb cb hne 28 28 ca.size cb'.size (by simp [World.shape?, hA]) (by simp [World.shape?, hB]) h0 (by simp [World.frozen?, hA]) (by simp [World.frozen?, hA])]
  rfl
end Go.Proofs.Ytmjjbfcblmmipaa
namespace Go.Proofs.Ytmjjbfcblmmipaa
set_option linter.unusedVariables false
set_option linter.unusedSimpArgs false
open Go.RowKit
theorem size28' : (Try.prog.info? 28).map (·.size) = some 1 := by kernel_rfl
theorem Own.short {w : World} {base n c i : Nat} {e : TypeId} {g : Nat} {vs : List Value} (h : Own w base e (some ⟨g, 0, none⟩) n c vs) (hi : i ≤ n) : Own w base e (some ⟨g, 0, none⟩) i c (vs.take i) := by
  have hl : vs.length = n := by have := h.1; simpa using this
  rcases h.2 with ⟨hv, _⟩ | ⟨g', cap, cur, hv, hg, hh, hnc, hm, hsz, htk⟩
  · cases hv
  · injection hv with e1 e2 e3
    injection e1 with e1; injection e1 with e1
    subst e1 e3
    refine ⟨by rw [List.length_take]; omega, .inr ⟨g, c, cur, rfl, hg, hh, by omega, hm, hsz, ?_⟩⟩
    rw [← htk, List.take_take]; congr 1; omega
theorem Own.tail {w : World} {base n c o : Nat} {e : TypeId} {g : Nat} {vs : List Value} (h : Own w base e (some ⟨g, 0, none⟩) n c vs) (ho : n ≤ o) (z : Value) : Own (w.setCell ⟨g, o, none⟩ z) base e (some ⟨g, 0, none⟩) n c vs := by
  rcases h.2 with ⟨hv, _⟩ | ⟨g', cap, cur, hv, hg, hh, hnc, hm, hsz, htk⟩
  · cases hv
  · injection hv with e1 e2 e3
    injection e1 with e1; injection e1 with e1
    subst e1 e3
    refine ⟨h.1, .inr ⟨g, c, cur.setIfInBounds o z, rfl, hg, rc_set o z hh rfl, hnc, hm, by simpa using hsz, ?_⟩⟩
    rw [Array.toList_setIfInBounds, List.take_set_of_le (by omega)]; exact htk
/-- The row's block, out of the slice. -/
theorem Own.row {w : World} {base n c : Nat} {e : TypeId} {A : Option Addr} {vs : List Value} (h : Own w base e A n c vs) (hn : 0 < n) :
    ∃ (g : Nat) (L : List Value), A = some ⟨g, 0, none⟩ ∧ base ≤ g ∧ w.heap[g]? = some (.cells L.toArray e (0, 0)) ∧ L.length = c ∧ n ≤ c ∧ c ≤ maxLen ∧ L.take n = vs := by
  rcases h.2 with ⟨_, h0⟩ | ⟨g, cap, cur, hv, hg, hh, hnc, hm, hsz, htk⟩
  · omega
  · injection hv with e1 e2 e3
    subst e3
    exact ⟨g, cur.toList, e1, hg, by rw [Array.toArray_toList]; exact hh, by simpa using hsz, hnc, hm, by simpa using htk⟩
theorem Own.mk {w : World} {base n c : Nat} {e : TypeId} {g : Nat} {L vs : List Value} (hg : base ≤ g) (hh : w.heap[g]? = some (.cells L.toArray e (0, 0))) (hl : L.length = c) (hn : n ≤ c) (hm : c ≤ maxLen) (ht : L.take n = vs) : Own w base e (some ⟨g, 0, none⟩) n c vs :=
  ⟨by rw [← ht, List.length_take]; omega, .inr ⟨g, c, L.toArray, rfl, hg, hh, hn, hm, by simpa using hl, by simpa using ht⟩⟩
theorem slice62_lh (A : Option Addr) (n c lo hi : Nat) (h : lo ≤ hi) (h2 : hi ≤ c) (W : World) :
    (Instr.slice 62 (.slice A n c) (some (.int .i64 (lo : Int))) (some (.int .i64 (hi : Int))) none).run Try.prog W = .ok (.slice (cutA A c lo) (hi - lo) (c - lo)) W := by
  rw [run_slice_lh (P := Try.prog) W 62 A n c elem62 .i64 .i64 (lo : Int) (hi : Int) (by omega) (by omega) (by omega), elem62', Try.sizeOf28]
  simp only [sliced, Result.andThen, Int.toNat_natCast, Nat.mul_one]; rfl
theorem step_append_runI {P : Program} {ops : Array Oper} {o : Oper} {a : Act} {w : World} {K : Act → World → Prop} {Q : Exit → Act → World → Prop} {E : Prop} (hg : o.guard = none) (s x : Operand) (sT xT : TypeId)
    (hop : o.op = Op.call { callee := Callee.builtin Builtin.append, args := #[s, x], argTypes := #[sT, xT] }) (v u : Value) (hs : a.eval s = v) (hx : a.eval x = u) {v' : Value} {w' : World}
    (hr : (Builtin.append_ #[sT, xT] o.type #[v, u]).run P w = .ok v' w') (hK : K (a.put o.dst v') w') : if Region.wanted o (yielded ops a.tmps) = true then Oper.wp P o a w K Q else E := by
  have hw : Region.wanted o (yielded ops a.tmps) = true := by simp [Region.wanted, hg]
  rw [if_pos hw]
  unfold Oper.wp
  simp [execOp, hop, resolve, invoke, builtin, hs, hx, hr, Result.andThen]
  exact hK
set_option maxRecDepth 100000 in
set_option maxHeartbeats 4000000 in
theorem insert_any (base : Nat) (A : Option Addr) (n c i vb : Nat) (vs : List Value) (u : Value) (w : World) (ho : Own w base 28 A n c vs) (hb : base ≤ w.heap.size) (hi : i ≤ n) (hn : n ≤ 100000) (hv : w.heap[vb]? = some (.cells #[u] 28 (0, 0))) (hvA : blk A ≠ some vb)
    (h1 : ∀ v ∈ vs, v.oneCell' = true) (hu : u.oneCell' = true) :
    Calls Try.prog 93 #[.slice A n c, .int .i64 (i : Int), .slice (some ⟨vb, 0, none⟩) 1 1] w fun e w' => ∃ A' c', e = .returned (.slice A' (n + 1) c') ∧ Own w' base 28 A' (n + 1) c' (vs.take i ++ u :: vs.drop i) ∧ Grows w w' A A' := by
  obtain ⟨i0, hi0, hz0, hz1, hz2⟩ := info_parts info23
  have hl : vs.length = n := by have := ho.1; simpa using this
  have hone : ∀ x ∈ [u], x.oneCell' = true := fun x hx => by rw [List.mem_singleton.1 hx]; exact hu
  have hrd : Rd w (some ⟨vb, 0, none⟩) 1 [u] := Rd.of_block (cs := #[u]) hv rfl
  by_cases hin : i = n
  · subst hin
    have sl := slice62_lo A i c i (Nat.le_refl _)
    have HO := Lib.hid ho; have HL := Lib.hid hl; have HRD := Lib.hid hrd; have HON := Lib.hid hone
    clear ho hl hrd hone h1 hv
    go_enter Try.func93, Try.ntmps93
    go_wp2_with (at_builtin; refine wpList_append_rd rfl _ _ 62 rfl i0 (.slice none 0 0) 24 Try.underlying62 hi0 hz0 hz1 hz2 rfl rfl HO.out (some ⟨vb, 0, none⟩) 1 1 [u] rfl HRD.out HON.out ?a1 ?a2 ?a3 ?_)
    case a1 => unfold maxLen; omega
    case a2 => omega
    case a3 => exact hb
    intro A' c' w' ho' hg'
    have H1 := Lib.hid ho'; have H2 := Lib.hid hg'
    clear ho' hg'
    go_wp2
    go_ret
    refine ⟨A', c', rfl, ?_, H2.out⟩
    have e : vs.take i ++ u :: vs.drop i = vs ++ [u] := by rw [List.take_of_length_le (by rw [HL.out]; exact Nat.le_refl _), List.drop_eq_nil_of_le (by rw [HL.out]; exact Nat.le_refl _)]
    rw [e]; exact H1.out
  have hlt : i < n := by omega
  obtain ⟨g, L, rfl, hg, hh, hL, hnc, hm, htk⟩ := ho.row (by omega)
  have hci : ¬ c = i := by omega
  have z2 : ¬ (i : Int) = (n : Int) := by omega
  have hw1 : IntKind.i64.wrap ((n : Int) + 1) = (n : Int) + 1 := IntWalk.i64_in _ (by omega)
  have hw2 : IntKind.i64.wrap ((i : Int) + 1) = (i : Int) + 1 := IntWalk.i64_in _ (by omega)
  have s1 := slice62_lo (some ⟨g, 0, none⟩) n c i hi
  rw [cut_in g c i hci] at s1
  have hgv : g ≠ vb := fun e => hvA (by rw [e]; rfl)
  have hLi : L.take i = vs.take i := by rw [← htk, List.take_take, Nat.min_eq_left hi]
  have hdl : (vs.drop i).length = n - i := by rw [List.length_drop, hl]
  have hD1 : ∀ v ∈ vs.drop i, v.oneCell' = true := fun v hv => h1 v (List.mem_of_mem_drop hv)
  have hcell : ∀ (W : World), W.heap[g]? = some (.cells L.toArray 28 (0, 0)) → ∀ j v, (vs.drop i)[j]? = some v → W.cell? ((⟨g, i, none⟩ : Addr).add j) = some v := fun W hW j v hj => by
    have hjl := (List.getElem?_eq_some_iff.1 hj).1
    rw [show (⟨g, i, none⟩ : Addr).add j = ⟨g, i + j, none⟩ by unfold Addr.add; split <;> simp_all]
    refine rc_cell (i + j) v hW ?_
    rw [List.getElem?_drop, ← htk, List.getElem?_take] at hj
    split at hj
    · simpa using hj
    · cases hj
  by_cases hroom : n + 1 ≤ c
  · have z3 : ¬ (c : Int) < (n : Int) + 1 := by omega
    have s2 : ∀ W, (Instr.slice 62 (.slice (some ⟨g, 0, none⟩) n c) none (some (.int .i64 ((n : Int) + 1))) none).run Try.prog W = .ok (.slice (some ⟨g, 0, none⟩) (n + 1) c) W := fun W => by
      have := slice62_h (some ⟨g, 0, none⟩) n c (n + 1) hroom W
      rwa [show (((n + 1 : Nat)) : Int) = (n : Int) + 1 by omega] at this
    have s3 : ∀ W, (Instr.slice 62 (.slice (some ⟨g, 0, none⟩) (n + 1) c) (some (.int .i64 ((i : Int) + 1))) none none).run Try.prog W = .ok (.slice (some ⟨g, i + 1, none⟩) (n + 1 - (i + 1)) (c - (i + 1))) W := fun W => by
      have := slice62_lo (some ⟨g, 0, none⟩) (n + 1) c (i + 1) (by omega) W
      rw [cut_in g c (i + 1) (by omega)] at this
      rwa [show (((i + 1 : Nat)) : Int) = (i : Int) + 1 by omega] at this
    have s4 := slice62_lo (some ⟨g, 0, none⟩) (n + 1) c i (by omega)
    rw [cut_in g c i hci] at s4
    have hov : ∀ lb cb, (callFunc 130 #[.slice (some ⟨vb, 0, none⟩) 1 1, .slice (some ⟨g, i + 1, none⟩) lb cb]).run Try.prog w = .ok (.value (.bool false)) w := fun lb cb => callFunc130 _ _ _ _ _ _ _ (fun e => hgv e.symm) _ _ hv hh (by rw [List.size_toArray, hL]; omega)
    obtain ⟨W1, hcp1, HH1, HO1⟩ := run_copy_onl (P := Try.prog) (w := w.drew) 62 3 28 Try.underlying62 size28' (some ⟨g, i + 1, none⟩) (some ⟨g, i, none⟩) (n + 1 - (i + 1)) (c - (i + 1)) (n + 1 - i) (c - i) g (i + 1) L 28 hh (vs.drop i) (by rw [hdl]; simp only [Nat.min_def]; split <;> omega) (by rw [hdl]; omega) hD1 (fun _ => ⟨rfl, _, rfl, hcell w.drew hh⟩)
    have hv1 := (HO1.out.block vb (by exact lt_of_heap hv) (by intro e; injection e with e; exact hgv e.symm)).trans (show w.drew.heap[vb]? = _ from hv)
    obtain ⟨W2, hcp2, HH2, HO2⟩ := run_copy_onl (P := Try.prog) (w := W1) 62 3 28 Try.underlying62 size28' (some ⟨g, i, none⟩) (some ⟨vb, 0, none⟩) (n + 1 - i) (c - i) 1 1 g i _ 28 HH1.out [u] (by show 1 = min 1 (n + 1 - i); omega) (by rw [length_splice _ _ _ (by rw [hdl]; omega)]; simp; omega) hone (fun _ => ⟨rfl, _, rfl, fun j v hj => by
      rcases j with _ | j
      · simp at hj; subst hj
        exact rc_cell 0 u hv1 rfl
      · simp at hj⟩)
    have hR := ins_row (u := u) hl hi hLi (by omega : n + 1 ≤ L.length)
    have HOw : Hid (Own W2 base 28 (some ⟨g, 0, none⟩) (n + 1) c (vs.take i ++ u :: vs.drop i)) := Lib.hid (Own.mk hg HH2.out (by rw [hR.2]; exact hL) hroom hm hR.1)
    have HGr : Hid (Grows w W2 (some ⟨g, 0, none⟩) (some ⟨g, 0, none⟩)) := Lib.hid ⟨by
      have h0 : Onl g w w.drew := Onl.of_below ((Dr.refl w).one.below _)
      exact (h0.trans HO1.out).trans HO2.out, .inl rfl⟩
    rw [hdl] at hcp1
    clear hR HH1 HO1 HH2 HO2 hv1 hcell hh hv hrd hone h1 hD1 htk hLi ho hdl
    have mixed : Try.prog.follows Departure.mixedOrders = true := by kernel_rfl
    go_enter Try.func93, Try.ntmps93
    go_wp2_with (simp only [hov])
    go_region_law_o (refine step_copy_runI rfl _ _ 62 62 rfl _ _ (by simp [Act.eval, Act.put]) (by simp [Act.eval, Act.put]) hcp1 ?_)
    go_wp2_with (at_builtin; refine wpList_copy_runI _ rfl _ _ 62 62 rfl _ _ rfl rfl hcp2 ?_)
    go_ret
    exact ⟨_, _, rfl, HOw.out, HGr.out⟩
  · obtain rfl : c = n := by omega
    have hold : (Builtin.firstCells i0.size i (.slice (some ⟨g, 0, none⟩) i c)).run Try.prog w.drew = .ok (vs.take i).toArray w.drew := by
      rw [hz1]
      refine run_firstCells_some w.drew 1 i ⟨g, 0, none⟩ i c (vs.take i) (by rw [List.length_take]; omega) (fun j v hj => ?_)
      rw [show (⟨g, 0, none⟩ : Addr).add j = ⟨g, j, none⟩ by unfold Addr.add; split <;> simp_all]
      refine rc_cell j v hh ?_
      rw [← hLi, List.getElem?_take] at hj
      split at hj
      · simpa using hj
      · cases hj
    have hik : i + (c + 1 - i) = c + 1 := by omega
    have hgr : c < i + (c + 1 - i) := by omega
    have hrz := Lib.run_append_grow_zeros w 62 3 62 28 i0 _ .i64 .i64 Try.underlying62 Try.underlying3 hi0 hz0 (some ⟨g, 0, none⟩) i c (vs.take i) hold (c + 1 - i) (by omega) (by omega) hgr (by omega) (by rw [hz2]; omega) (by rw [hz2, hik]; exact growslice_fits (by omega) (by omega))
    rw [hik, show (((c + 1 - i : Nat)) : Int) = (c : Int) + 1 - (i : Int) by omega] at hrz
    have hGn : c + 1 ≤ grownCap w (c + 1) c 28 := grownCap_ge w _ _ _
    have hGm : grownCap w (c + 1) c 28 ≤ maxLen := grownCap_le_maxLen w (c + 1) c 28 (by unfold maxLen; omega)
    generalize grownCap w (c + 1) c 28 = G at *
    obtain ⟨ROW, hROW⟩ : ∃ ROW : Array Value, ROW = (vs.take i).toArray ++ Builtin.zeroCells (Value.slice none 0 0).cells (c + 1 - i) ++ Builtin.zeroCells (Value.slice none 0 0).cells (G - (c + 1)) := ⟨_, rfl⟩
    rw [← hROW] at hrz
    have hRl : ROW.toList.length = G := by rw [hROW]; simp [Builtin.zeroCells, Value.cells]; omega
    have hRt : ROW.toList.take i = vs.take i := by
      rw [hROW, Array.toList_append, Array.toList_append, List.toList_toArray, List.append_assoc, List.take_append_of_le_length (by rw [List.length_take]; omega), List.take_take, Nat.min_self]
    obtain ⟨W0, hW0⟩ : ∃ W0, W0 = w.drew.alloc (.cells ROW 28) := ⟨_, rfl⟩
    rw [← hW0] at hrz
    have hN0 : W0.heap[w.heap.size]? = some (.cells ROW.toList.toArray 28 (0, 0)) := by rw [hW0, Array.toArray_toList]; exact heap_alloc_new w.drew (.cells ROW 28)
    have hB0 : Below w.heap.size w W0 := by rw [hW0]; exact ((Dr.refl w).one.below _).trans (below_alloc w.drew (.cells ROW 28))
    have hgw := lt_of_heap hh; have hvw := lt_of_heap hv
    have c1 : ¬ G = i := by omega
    have c2 : ¬ G = i + 1 := by omega
    have t1 : ∀ W, (Instr.slice 62 (.slice (some ⟨w.heap.size, 0, none⟩) (c + 1) G) (some (.int .i64 (i : Int))) none none).run Try.prog W = .ok (.slice (some ⟨w.heap.size, i, none⟩) (c + 1 - i) (G - i)) W := fun W => by
      have := slice62_lo (some ⟨w.heap.size, 0, none⟩) (c + 1) G i (by omega) W
      rwa [cut_in _ G i c1] at this
    have t2 : ∀ W, (Instr.slice 62 (.slice (some ⟨w.heap.size, 0, none⟩) (c + 1) G) (some (.int .i64 ((i : Int) + 1))) none none).run Try.prog W = .ok (.slice (some ⟨w.heap.size, i + 1, none⟩) (c + 1 - (i + 1)) (G - (i + 1))) W := fun W => by
      have := slice62_lo (some ⟨w.heap.size, 0, none⟩) (c + 1) G (i + 1) (by omega) W
      rw [cut_in _ G (i + 1) c2] at this
      rwa [show (((i + 1 : Nat)) : Int) = (i : Int) + 1 by omega] at this
    have t0 := slice62_h (some ⟨g, 0, none⟩) c c i (by omega)
    obtain ⟨W1, hcp1, HH1, HO1⟩ := run_copy_onl (P := Try.prog) (w := W0) 62 3 28 Try.underlying62 size28' (some ⟨w.heap.size, i, none⟩) (some ⟨vb, 0, none⟩) (c + 1 - i) (G - i) 1 1 w.heap.size i _ 28 hN0 [u] (by show 1 = min 1 (c + 1 - i); omega) (by rw [hRl]; simp; omega) hone (fun _ => ⟨rfl, _, rfl, fun j v hj => by
      rcases j with _ | j
      · simp at hj; subst hj
        exact rc_cell 0 u ((hB0.block vb hvw).trans hv) rfl
      · simp at hj⟩)
    have hg1 : W1.drew.heap[g]? = some (.cells L.toArray 28 (0, 0)) := (HO1.out.block g (by have := hB0.size; omega) (by intro e; injection e with e; omega)).trans ((hB0.block g hgw).trans hh)
    obtain ⟨W2, hcp2, HH2, HO2⟩ := run_copy_onl (P := Try.prog) (w := W1.drew) 62 3 28 Try.underlying62 size28' (some ⟨w.heap.size, i + 1, none⟩) (some ⟨g, i, none⟩) (c + 1 - (i + 1)) (G - (i + 1)) (c - i) (c - i) w.heap.size (i + 1) _ 28 HH1.out (vs.drop i) (by rw [hdl]; simp only [Nat.min_def]; split <;> omega) (by rw [length_splice _ _ _ (by rw [hRl]; simp; omega), hRl, hdl]; omega) hD1 (fun _ => ⟨rfl, _, rfl, hcell W1.drew hg1⟩)
    have hR := ins_row2 (u := u) hl hi hRt (by omega : c + 1 ≤ ROW.toList.length)
    have HOw : Hid (Own W2 base 28 (some ⟨w.heap.size, 0, none⟩) (c + 1) G (vs.take i ++ u :: vs.drop i)) := Lib.hid (Own.mk hb HH2.out (by rw [hR.2]; exact hRl) hGn hGm hR.1)
    have HGr : Hid (Grows w W2 (some ⟨g, 0, none⟩) (some ⟨w.heap.size, 0, none⟩)) := Lib.hid ⟨by
      have b1 : Below w.heap.size W0 W1 := HO1.out.below hB0.size
      have b2 : Below w.heap.size W1 W1.drew := (Dr.refl W1).one.below _
      have b3 : Below w.heap.size W1.drew W2 := HO2.out.below (Nat.le_trans hB0.size b1.size)
      have b := ((hB0.trans b1).trans b2).trans b3
      exact ⟨b.os, b.tape, b.output, b.size, fun k hk _ => b.block k hk⟩, .inr ⟨w.heap.size, rfl, Nat.le_refl _⟩⟩
    rw [hdl] at hcp2
    have z3 : (c : Int) < (c : Int) + 1 := by omega
    have hw3 : IntKind.i64.wrap ((c : Int) + 1 - (i : Int)) = (c : Int) + 1 - (i : Int) := IntWalk.i64_in _ (by omega)
    clear hR HH1 HO1 HH2 HO2 hg1 hcell hh hv hrd hone h1 hD1 htk hLi ho hdl hold hROW hRl hRt hW0 hN0 hB0
    have mixed : Try.prog.follows Departure.mixedOrders = true := by kernel_rfl
    go_enter Try.func93, Try.ntmps93
    go_wp2_with (first
      | (at_builtin; refine Lib.wpList_append_run _ rfl _ _ _ _ rfl _ _ rfl rfl _ _ hrz ?_)
      | (at_builtin; refine wpList_copy_runI _ rfl _ _ 62 62 rfl _ _ rfl rfl hcp1 ?_))
    go_region_law_o (refine step_copy_runI rfl _ _ 62 62 rfl _ _ (by simp [Act.eval, Act.put]) (by simp [Act.eval, Act.put]) hcp2 ?_)
    go_wp2
    go_ret
    exact ⟨_, _, rfl, HOw.out, HGr.out⟩
set_option maxRecDepth 100000 in
set_option maxHeartbeats 4000000 in
theorem delete_any (base : Nat) (A : Option Addr) (n c i : Nat) (vs : List Value) (w : World) (ho : Own w base 28 A n c vs) (hi : i < n) (hn : n ≤ 100000) (h1 : ∀ v ∈ vs, v.oneCell' = true) :
    Calls Try.prog 95 #[.slice A n c, .int .i64 (i : Int), .int .i64 ((i : Int) + 1)] w fun e w' => e = .returned (.slice A (n - 1) c) ∧ Own w' base 28 A (n - 1) c (vs.take i ++ vs.drop (i + 1)) ∧ Grows w w' A A := by
  obtain ⟨i0, hi0, hz0, hz1, hz2⟩ := info_parts info23
  have hl : vs.length = n := by have := ho.1; simpa using this
  obtain ⟨g, L, rfl, hg, hh, hL, hnc, hm, htk⟩ := ho.row (by omega)
  have hdl : (vs.drop (i + 1)).length = n - (i + 1) := by rw [List.length_drop, hl]
  obtain ⟨ad, had, hsrc⟩ : ∃ ad : Addr, cutA (some ⟨g, 0, none⟩) c (i + 1) = some ad ∧ ∀ j v, (vs.drop (i + 1))[j]? = some v → w.drew.cell? (ad.add j) = some v := by
    by_cases hc : c = i + 1
    · refine ⟨⟨g, 0, none⟩, by unfold cutA; rw [if_pos hc], fun j v hj => ?_⟩
      have := (List.getElem?_eq_some_iff.1 hj).1
      omega
    · refine ⟨⟨g, i + 1, none⟩, cut_in g c (i + 1) hc, fun j v hj => ?_⟩
      rw [show (⟨g, i + 1, none⟩ : Addr).add j = ⟨g, i + 1 + j, none⟩ by unfold Addr.add; split <;> simp_all]
      refine rc_cell (i + 1 + j) v hh ?_
      rw [List.getElem?_drop, ← htk, List.getElem?_take] at hj
      split at hj
      · simpa using hj
      · cases hj
  obtain ⟨W1, hap, ho1, hg1⟩ := run_append_own_spare (P := Try.prog) (w := w.drew) base 62 62 28 i0 1 Try.underlying62 hi0 hz1 g i c (vs.take i) (ho.short (by omega)) ad (n - (i + 1)) (c - (i + 1)) (vs.drop (i + 1)) (by rw [hdl]; omega) hsrc (fun v hv => h1 v (List.mem_of_mem_drop hv)) (by omega)
  have hi1 : i + (n - (i + 1)) = n - 1 := by omega
  rw [hi1] at hap ho1
  obtain ⟨k, hk⟩ : ∃ k, n - 1 = k := ⟨_, rfl⟩
  have hnk : n = k + 1 := by omega
  subst hnk
  rw [show k + 1 - 1 = k by omega] at hap ho1
  have ho1' : Own W1 base 28 (some ⟨g, 0, none⟩) k c (vs.take i ++ vs.drop (i + 1)) := ho1
  obtain ⟨L1, hL1, hLl⟩ : ∃ L1 : List Value, W1.heap[g]? = some (.cells L1.toArray 28 (0, 0)) ∧ L1.length = c := by
    rcases ho1.2 with ⟨hv, _⟩ | ⟨g', cap, cur, hv, _, hh', _, _, hsz, _⟩
    · cases hv
    · injection hv with e1 e2 e3
      injection e1 with e1; injection e1 with e1
      subst e1 e3
      exact ⟨cur.toList, by rw [Array.toArray_toList]; exact hh', by simpa using hsz⟩
  have hcl : ∀ ty, (Builtin.clear_ #[62] ty #[.slice (some ⟨g, k, none⟩) 1 (c - k)]).run Try.prog W1 = .ok (.tuple #[]) (W1.setCell ⟨g, k, none⟩ (.slice none 0 0)) := fun ty => by
    exact Lib.run_clear_slice W1 62 28 ty (.slice none 0 0) Try.underlying62 Try.zeroValue28 rfl rfl g k 1 (c - k) (by omega) (fun j hj => by
      rw [show j = 0 by omega, Nat.add_zero, rc_cell k (L1[k]'(by omega)) hL1 (by simp [List.getElem?_eq_getElem (show k < L1.length by omega)])]; rfl) (fun j hj => two_frozen hL1)
  have s3 : ∀ W, (Instr.slice 62 (.slice (some ⟨g, 0, none⟩) k c) (some (.int .i64 (k : Int))) (some (.int .i64 ((k : Int) + 1))) none).run Try.prog W = .ok (.slice (some ⟨g, k, none⟩) (k + 1 - k) (c - k)) W := fun W => by
    have := slice62_lh (some ⟨g, 0, none⟩) k c k (k + 1) (by omega) (by omega) W
    rw [cut_in g c k (by omega)] at this
    rwa [show (((k + 1 : Nat)) : Int) = (k : Int) + 1 by omega] at this
  have HO2 := Lib.hid (ho1'.tail (Nat.le_refl k) (.slice none 0 0))
  have HG2 : Hid (Grows w (W1.setCell ⟨g, k, none⟩ (.slice none 0 0)) (some ⟨g, 0, none⟩) (some ⟨g, 0, none⟩)) := Lib.hid ⟨by
    have h0 : Onl g w w.drew := Onl.of_below ((Dr.refl w).one.below _)
    exact (h0.trans hg1).trans (onl_set W1 g k _), .inl rfl⟩
  have s1 := slice62_h (some ⟨g, 0, none⟩) (k + 1) c i (by omega)
  have s2 : ∀ W, (Instr.slice 62 (.slice (some ⟨g, 0, none⟩) (k + 1) c) (some (.int .i64 ((i : Int) + 1))) none none).run Try.prog W = .ok (.slice (some ad) (k + 1 - (i + 1)) (c - (i + 1))) W := fun W => by
    have := slice62_lo (some ⟨g, 0, none⟩) (k + 1) c (i + 1) (by omega) W
    rw [had] at this
    rwa [show (((i + 1 : Nat)) : Int) = (i : Int) + 1 by omega] at this
  have z1 : ¬ (i : Int) = (i : Int) + 1 := by omega
  generalize W1.setCell ⟨g, k, none⟩ (.slice none 0 0) = W2 at *
  clear ho1 ho1' hg1 hL1 hsrc hh htk ho h1
  have mixed : Try.prog.follows Departure.mixedOrders = true := by kernel_rfl
  go_enter Try.func95, Try.ntmps95
  go_wp2_with fail
  go_region_law_o (refine step_append_runI rfl _ _ 62 62 rfl _ _ (by simp [Act.eval, Act.put]) (by simp [Act.eval, Act.put]) hap ?_)
  go_wp2
  go_ret
  exact ⟨rfl, HO2.out, HG2.out⟩
end Go.Proofs.Ytmjjbfcblmmipaa
namespace Go.Proofs.Ytmjjbfcblmmipaa
set_option linter.unusedVariables false
set_option linter.unusedSimpArgs false
open Go.RowKit
/-- A list with one more at a place, and with one less. -/
def insL {α : Type} (l : List α) (i : Nat) (u : α) : List α := l.take i ++ u :: l.drop i
def delL {α : Type} (l : List α) (i : Nat) : List α := l.take i ++ l.drop (i + 1)
theorem insL_len {α : Type} (l : List α) (i : Nat) (u : α) (hi : i ≤ l.length) : (insL l i u).length = l.length + 1 := by simp [insL]; omega
theorem delL_len {α : Type} (l : List α) (i : Nat) (hi : i < l.length) : (delL l i).length = l.length - 1 := by simp [delL]; omega
theorem ins_get {α : Type} (l : List α) (i j : Nat) (u : α) (hi : i ≤ l.length) : (insL l i u)[j]? = if j < i then l[j]? else if j = i then some u else l[j - 1]? := by
  unfold insL
  by_cases h1 : j < i
  · rw [if_pos h1, List.getElem?_append_left (by rw [List.length_take]; omega), List.getElem?_take, if_pos h1]
  · rw [if_neg h1, List.getElem?_append_right (by rw [List.length_take]; omega), List.length_take, Nat.min_eq_left hi]
    by_cases h2 : j = i
    · rw [if_pos h2, h2, Nat.sub_self]; rfl
    · rw [if_neg h2]
      obtain ⟨k, hk⟩ : ∃ k, j - i = k + 1 := ⟨j - i - 1, by omega⟩
      rw [hk, List.getElem?_cons_succ, List.getElem?_drop, show i + k = j - 1 by omega]
theorem del_get {α : Type} (l : List α) (i j : Nat) (hi : i < l.length) : (delL l i)[j]? = if j < i then l[j]? else l[j + 1]? := by
  unfold delL
  by_cases h1 : j < i
  · rw [if_pos h1, List.getElem?_append_left (by rw [List.length_take]; omega), List.getElem?_take, if_pos h1]
  · rw [if_neg h1, List.getElem?_append_right (by rw [List.length_take]; omega), List.length_take, Nat.min_eq_left (by omega), List.getElem?_drop, show i + 1 + (j - i) = j + 1 by omega]
theorem VD.ins {vs : List Value} {i : Nat} {A2 : Option Addr} {m c2 : Nat} (h : VD vs) (hi : i ≤ vs.length) (hn : ∀ (j : Nat) (B : Option Addr) (n c : Nat), vs[j]? = some (.slice B n c) → blk B = none ∨ blk B ≠ blk A2) : VD (insL vs i (.slice A2 m c2)) := by
  intro a b A n c B n' c' ha hb hab
  rw [ins_get _ _ _ _ hi] at ha hb
  split at ha
  · split at hb
    · exact h a b A n c B n' c' ha hb hab
    · split at hb
      · injection hb with hb; injection hb with e1 e2 e3
        rw [← e1]; exact hn a A n c ha
      · exact h a (b - 1) A n c B n' c' ha hb (by omega)
  · split at ha
    · injection ha with ha; injection ha with e1 e2 e3
      subst e1
      split at hb
      · exact dist_symm (hn b B n' c' hb)
      · split at hb
        · omega
        · exact dist_symm (hn (b - 1) B n' c' hb)
    · split at hb
      · exact h (a - 1) b A n c B n' c' ha hb (by omega)
      · split at hb
        · injection hb with hb; injection hb with e1 e2 e3
          rw [← e1]; exact hn (a - 1) A n c ha
        · exact h (a - 1) (b - 1) A n c B n' c' ha hb (by omega)
theorem VD.del {vs : List Value} {i : Nat} (h : VD vs) (hi : i < vs.length) : VD (delL vs i) := by
  intro a b A n c B n' c' ha hb hab
  rw [del_get _ _ _ hi] at ha hb
  split at ha <;> split at hb <;> exact h _ _ A n c B n' c' ha hb (by omega)
/-- Parts, and what a text more at a place makes of them. -/
theorem Prts.ins {w0 w : World} {base n c : Nat} {A : Option Addr} {xss : List (List Int)} (h : Prts w0 base A n c xss) (hK : ∀ (e : TypeId) (B : Option Addr) (m d : Nat) (us : List Value), Own w0 base e B m d us → Own w base e B m d us) :
    ∃ vs, Own w base 28 A n c vs ∧ (∀ v ∈ vs, v.oneCell' = true) ∧ Hid (∀ (i : Nat) (A2 : Option Addr) (c2 : Nat) (xs : List Int) (w2 : World) (A' : Option Addr) (c' : Nat), i ≤ n → Own w base 5 A2 xs.length c2 (By xs) → (∀ b, blk A2 = some b → w0.heap.size ≤ b) → Ran xs →
      Own w2 base 28 A' (n + 1) c' (insL vs i (.slice A2 xs.length c2)) → Grows w w2 A A' → Prts w2 base A' (n + 1) c' (insL xss i xs)) := by
  obtain ⟨hl, vs, ho0, hd, he0⟩ := h
  have ho := hK _ _ _ _ _ ho0
  have hvl := ho.len
  refine ⟨vs, ho, fun u hu => ?_, ?_⟩
  · obtain ⟨i, hi, rfl⟩ := List.getElem_of_mem hu
    obtain ⟨A2, c2, e, _⟩ := he0 i _ _ (List.getElem?_eq_getElem hi) (List.getElem?_eq_getElem (show i < xss.length by omega))
    rw [e]; rfl
  intro i A2 c2 xs w2 A' c' hi ho2 hnew hr2 hn hg
  have keep : ∀ (A3 : Option Addr) (n3 c3 : Nat) (us : List Value), Own w base 5 A3 n3 c3 us → Own w2 base 5 A3 n3 c3 us := fun A3 n3 c3 us h3 => h3.kept hg.1 (own_apart h3 ho (by decide))
  have he : ∀ (i : Nat) (v : Value) (xs : List Int), vs[i]? = some v → xss[i]? = some xs → ∃ A' c', v = .slice A' xs.length c' ∧ Own w2 base 5 A' xs.length c' (By xs) ∧ Ran xs := fun i v xs hv hx => by
    obtain ⟨A3, c3, e, ho3, hr3⟩ := he0 i v xs hv hx
    exact ⟨A3, c3, e, keep _ _ _ _ (hK _ _ _ _ _ ho3), hr3⟩
  refine ⟨by rw [insL_len _ _ _ (by omega), hl], _, hn, hd.ins (by omega) (fun j B m d hj => ?_), fun j v ys hv hy => ?_⟩
  · have hil := (List.getElem?_eq_some_iff.1 hj).1
    obtain ⟨A3, c3, e, ho3, hr3⟩ := he0 j _ _ hj (List.getElem?_eq_getElem (show j < xss.length by omega))
    injection e with e1 e2 e3
    rw [e1]
    cases hA : blk A3 with
    | none => exact .inl rfl
    | some k =>
      right
      intro e
      have := (ho3.lies k hA).2
      have := hnew k e.symm
      omega
  · rw [ins_get _ _ _ _ (by omega)] at hv hy
    split at hv
    · rw [if_pos (by assumption)] at hy; exact he j v ys hv hy
    · rw [if_neg (by assumption)] at hy
      split at hv
      · rw [if_pos (by assumption)] at hy
        injection hv with hv; injection hy with hy
        subst hv hy
        exact ⟨A2, c2, rfl, keep _ _ _ _ ho2, hr2⟩
      · rw [if_neg (by assumption)] at hy; exact he (j - 1) v ys hv hy
theorem Prts.del {w : World} {base n c : Nat} {A : Option Addr} {xss : List (List Int)} (h : Prts w base A n c xss) :
    ∃ vs, Own w base 28 A n c vs ∧ (∀ v ∈ vs, v.oneCell' = true) ∧ Hid (∀ (i : Nat) (w2 : World), i < n → Own w2 base 28 A (n - 1) c (delL vs i) → Grows w w2 A A → Prts w2 base A (n - 1) c (delL xss i)) := by
  obtain ⟨hl, vs, ho, hd, he0⟩ := h
  have hvl := ho.len
  refine ⟨vs, ho, fun u hu => ?_, ?_⟩
  · obtain ⟨i, hi, rfl⟩ := List.getElem_of_mem hu
    obtain ⟨A2, c2, e, _⟩ := he0 i _ _ (List.getElem?_eq_getElem hi) (List.getElem?_eq_getElem (show i < xss.length by omega))
    rw [e]; rfl
  intro i w2 hi hn hg
  have he : ∀ (i : Nat) (v : Value) (xs : List Int), vs[i]? = some v → xss[i]? = some xs → ∃ A' c', v = .slice A' xs.length c' ∧ Own w2 base 5 A' xs.length c' (By xs) ∧ Ran xs := fun i v xs hv hx => by
    obtain ⟨A3, c3, e, ho3, hr3⟩ := he0 i v xs hv hx
    exact ⟨A3, c3, e, ho3.kept hg.1 (own_apart ho3 ho (by decide)), hr3⟩
  refine ⟨by rw [delL_len _ _ (by omega), hl], _, hn, hd.del (by omega), fun j v ys hv hy => ?_⟩
  rw [del_get _ _ _ (by omega)] at hv hy
  split at hv
  · rw [if_pos (by assumption)] at hy; exact he j v ys hv hy
  · rw [if_neg (by assumption)] at hy; exact he (j + 1) v ys hv hy
theorem dist_newN {A B : Option Addr} {s : Nat} (h1 : ∀ k, blk A = some k → k < s) (h2 : ∀ k, blk B = some k → s ≤ k) : blk A = none ∨ blk A ≠ blk B := by
  cases hA : blk A with
  | none => exact .inl rfl
  | some k => right; intro e; have := h1 k hA; have := h2 k e.symm; omega
end Go.Proofs.Ytmjjbfcblmmipaa
namespace Go.Proofs.Ytmjjbfcblmmipaa
set_option linter.unusedVariables false
set_option linter.unusedSimpArgs false
open Go.RowKit
set_option maxRecDepth 100000 in
set_option maxHeartbeats 8000000 in
theorem copiedD_any (lf : Bool) (AK : Option Addr) (nK cK : Nat) (AV : Option Addr) (nV cV : Nat) (AD : Option Addr) (nD cD : Nat) (ks vs : List (List Int)) (kd : List Int) (w : World) (hk : Bss w AK nK ks) (hv : Bss w AV nV vs) (hd : Ins w AD nD kd) (sD : Shp AD nD)
    (bK : nK ≤ 100000) (bV : nV ≤ 100000) (bD : nD ≤ 100000) (lK : ∀ xs ∈ ks, xs.length ≤ 140737488355328) (lV : ∀ xs ∈ vs, xs.length ≤ 140737488355328) :
    Calls Try.prog 92 #[.agg (ndV lf AK nK cK AV nV cV AD nD cD)] w fun e w' => ∃ A1 c1 A2 c2 A3 c3, e = .returned (.agg (ndV lf A1 nK c1 A2 nV c2 A3 nD c3)) ∧ Prts w' w.heap.size A1 nK c1 ks ∧ Prts w' w.heap.size A2 nV c2 vs ∧ Own w' w.heap.size 3 A3 nD c3 (kd.map (Value.int .i64)) ∧ (blk A1 = none ∨ blk A1 ≠ blk A2) ∧ Below w.heap.size w w' := by
  have HK := Lib.hid hk; have HV := Lib.hid hv; have HD := Lib.hid hd; have HSD := Lib.hid sD
  have HLK := Lib.hid lK; have HLV := Lib.hid lV
  have hsz : (w.alloc (.cells (ndV lf AK nK cK AV nV cV AD nD cD) 70)).heap.size = w.heap.size + 1 := by simp
  have hb1 := below_alloc w (.cells (ndV lf AK nK cK AV nV cV AD nD cD) 70)
  have hb2 := below_alloc (w.alloc (.cells (ndV lf AK nK cK AV nV cV AD nD cD) 70)) (.cells ndZ 70)
  have hr2 := heap_alloc_new (w.alloc (.cells (ndV lf AK nK cK AV nV cV AD nD cD) 70)) (.cells ndZ 70)
  rw [hsz] at hr2
  have BX := Lib.hid ((hb2.block w.heap.size (by omega)).trans (heap_alloc_new w (.cells (ndV lf AK nK cK AV nV cV AD nD cD) 70)))
  have RS := Lib.hid hr2
  have HB := Lib.hid (hb1.trans (hb2.mono (by omega)))
  clear hk hv hd sD lK lV hsz hb1 hb2 hr2
  go_enter Try.func92, Try.ntmps92
  go_wp2_with fail
  generalize ((w.alloc (.cells (ndV lf AK nK cK AV nV cV AD nD cD) 70)).alloc (.cells ndZ 70)) = y at *
  have BXd : Hid (y.drew.heap[w.heap.size]? = some (.cells (ndV lf AK nK cK AV nV cV AD nD cD) 70 (0, 0))) := BX
  have RSd : Hid (y.drew.heap[w.heap.size + 1]? = some (.cells ndZ 70 (0, 0))) := RS
  have HBd := Lib.hid (HB.out.trans ((Dr.refl y).one.below _))
  have q0 := rc_cell 0 (.bool lf) BXd.out rfl
  have q1 := rc_cell 1 (.slice AK nK cK) BXd.out rfl
  have q2 := rc_cell 2 (.slice AV nV cV) BXd.out rfl
  have q3 := rc_cell 3 (.slice AD nD cD) BXd.out rfl
  have tok1 : True := trivial
  go_region_held3 (fun w' => w'.cell? ⟨w.heap.size, 0, none⟩ = some (.bool lf) ∧ w'.cell? ⟨w.heap.size, 1, none⟩ = some (.slice AK nK cK) ∧ w'.cell? ⟨w.heap.size, 2, none⟩ = some (.slice AV nV cV) ∧ w'.cell? ⟨w.heap.size, 3, none⟩ = some (.slice AD nD cD)) (first | exact ⟨v0, v1, v2, v3⟩ | exact ⟨t0, t1, t2, t3⟩ | exact ⟨s0, s1, s2, s3⟩ | exact ⟨r0, r1, r2, r3⟩ | exact ⟨q0, q1, q2, q3⟩) (first
    | (have _tk := tok1; go_at_call 102; refine (texts_any AK nK cK ks _ (HK.out.keep HBd.out) bK HLK.out).mono ?_; rintro e x2 ⟨D1, d1, rfl, hP1, hb2⟩; clear tok1; have tok2 : True := trivial; have P1 := Lib.hid (hP1.mono HBd.out.size); have BX2 := Lib.hid ((hb2.block _ (lt_of_heap BXd.out)).trans BXd.out); have RS2 := Lib.hid ((hb2.block _ (lt_of_heap RSd.out)).trans RSd.out); have HB2 := Lib.hid (HBd.out.trans (hb2.mono HBd.out.size)); have r0 := rc_cell 0 (.bool lf) BX2.out rfl; have r1 := rc_cell 1 (.slice AK nK cK) BX2.out rfl; have r2 := rc_cell 2 (.slice AV nV cV) BX2.out rfl; have r3 := rc_cell 3 (.slice AD nD cD) BX2.out rfl; clear hP1 hb2)
    | (have _tk := tok2; go_at_call 102; refine (texts_any AV nV cV vs _ (HV.out.keep HB2.out) bV HLV.out).mono ?_; rintro e x3 ⟨D2, d2, rfl, hP2, hb3⟩; clear tok2; have P2 := Lib.hid (hP2.mono HB2.out.size); have AP := Lib.hid (dist_newN (fun k hk => (P1.out.lies k hk).2) (fun k hk => (hP2.lies k hk).1)); have P1' := Lib.hid (P1.out.keep hb3); have BX3 := Lib.hid ((hb3.block _ (lt_of_heap BX2.out)).trans BX2.out); have RS3 := Lib.hid ((hb3.block _ (lt_of_heap RS2.out)).trans RS2.out); have HB3 := Lib.hid (HB2.out.trans (hb3.mono HB2.out.size)); have s0 := rc_cell 0 (.bool lf) BX3.out rfl; have s1 := rc_cell 1 (.slice AK nK cK) BX3.out rfl; have s2 := rc_cell 2 (.slice AV nV cV) BX3.out rfl; have s3 := rc_cell 3 (.slice AD nD cD) BX3.out rfl; clear hP2 hb3)
    | (go_at_call 124; refine (clone_i AD nD cD (kd.map (Value.int .i64)) _ (by rw [List.length_map]; exact HD.out.len) (fun hne => by obtain ⟨b9, o9, h1, h2⟩ := (HD.out.1.src HSD.out).1 hne; exact ⟨b9, o9, h1, fun j u hu => cell_keep HB3.out (h2 j u hu)⟩) (HD.out.1.src HSD.out).2 (by intro u hu; obtain ⟨x, _, rfl⟩ := List.mem_map.1 hu; rfl) (by omega)).mono ?_; rintro e x4 ⟨D3, d3, rfl, hP3, hb4⟩; have P3 := Lib.hid (hP3.mono HB3.out.size); have P1q := Lib.hid (P1'.out.keep hb4); have P2q := Lib.hid (P2.out.keep hb4); have BX4 := Lib.hid ((hb4.block _ (lt_of_heap BX3.out)).trans BX3.out); have RS4 := Lib.hid ((hb4.block _ (lt_of_heap RS3.out)).trans RS3.out); have HB4 := Lib.hid (HB3.out.trans (hb4.mono HB3.out.size)); have t0 := rc_cell 0 (.bool lf) BX4.out rfl; have t1 := rc_cell 1 (.slice AK nK cK) BX4.out rfl; have t2 := rc_cell 2 (.slice AV nV cV) BX4.out rfl; have t3 := rc_cell 3 (.slice AD nD cD) BX4.out rfl; have z0 := rc_cell 0 (.bool false) RS4.out rfl; have z1 := rc_cell 1 (.slice none 0 0) RS4.out rfl; have z2 := rc_cell 2 (.slice none 0 0) RS4.out rfl; have z3 := rc_cell 3 (.slice none 0 0) RS4.out rfl; have y0 := two_frozen (i := 0) RS4.out; have y1 := two_frozen (i := 1) RS4.out; have y2 := two_frozen (i := 2) RS4.out; have y3 := two_frozen (i := 3) RS4.out; have HZ := Lib.hid (set4 x4 (w.heap.size + 1) (.bool lf) (.slice D1 nK d1) (.slice D2 nV d2) (.slice D3 nD d3) RS4.out); have BX5 := Lib.hid ((HZ.out.2.block w.heap.size (lt_of_heap BX4.out) (by intro e; injection e with e; omega)).trans BX4.out); have v0 := rc_cell 0 (.bool lf) BX5.out rfl; have v1 := rc_cell 1 (.slice AK nK cK) BX5.out rfl; have v2 := rc_cell 2 (.slice AV nV cV) BX5.out rfl; have v3 := rc_cell 3 (.slice AD nD cD) BX5.out rfl; clear hP3 hb4))
  have R1 := Lib.hid (P1q.out.set HZ.out.2 RS4.out (by decide) (by decide))
  have R2 := Lib.hid (P2q.out.set HZ.out.2 RS4.out (by decide) (by decide))
  have R3 := Lib.hid (P3.out.onl HZ.out.2 (P3.out.ne_blk RS4.out (by decide)))
  have HB5 := Lib.hid (HB4.out.trans ((HZ.out.2.below (Nat.le_of_lt (lt_of_heap RS4.out))).mono (by omega)))
  clear v0 v1 v2 v3 t0 t1 t2 t3 s0 s1 s2 s3 r0 r1 r2 r3 q0 q1 q2 q3 z0 z1 z2 z3 y0 y1 y2 y3
  generalize ((((x4.setCell ⟨w.heap.size + 1, 0, none⟩ (.bool lf)).setCell ⟨w.heap.size + 1, 1, none⟩ (.slice D1 nK d1)).setCell ⟨w.heap.size + 1, 2, none⟩ (.slice D2 nV d2)).setCell ⟨w.heap.size + 1, 3, none⟩ (.slice D3 nD d3)) = VZ at *
  have e0 := rc_cell 0 (.bool lf) HZ.out.1 rfl
  have e1 := rc_cell 1 (.slice D1 nK d1) HZ.out.1 rfl
  have e2 := rc_cell 2 (.slice D2 nV d2) HZ.out.1 rfl
  have e3 := rc_cell 3 (.slice D3 nD d3) HZ.out.1 rfl
  go_wp2
  refine bodyPost_ret (v := .agg (ndV lf D1 nK d1 D2 nV d2 D3 nD d3)) (by simp [results, Try.f92, go_sem, Try.isAgg70, Try.sizeOf70, e0, e1, e2, e3]) rfl ⟨D1, d1, D2, d2, D3, d3, rfl, R1.out, R2.out, R3.out, AP.out, HB5.out⟩
end Go.Proofs.Ytmjjbfcblmmipaa
namespace Go.Proofs.Ytmjjbfcblmmipaa
set_option linter.unusedVariables false
set_option linter.unusedSimpArgs false
open Go.RowKit
theorem Rd.uniq {w : World} {A : Option Addr} {n : Nat} {us ts : List Value} (h : Rd w A n us) (k : Rd w A n ts) : us = ts := by
  refine List.ext_getElem? (fun i => ?_)
  by_cases hi : i < n
  · obtain ⟨b, off, e1, _, c1⟩ := h.2 (by omega)
    obtain ⟨b', off', e2, _, c2⟩ := k.2 (by omega)
    rw [e1] at e2
    obtain ⟨rfl, rfl⟩ : b = b' ∧ off = off' := by injection e2 with e; injection e with e3 e4; exact ⟨e3, e4⟩
    have h1 := c1 i _ (List.getElem?_eq_getElem (by rw [h.1]; exact hi))
    have h2 := c2 i _ (List.getElem?_eq_getElem (by rw [k.1]; exact hi))
    rw [h1] at h2
    rw [List.getElem?_eq_getElem (by rw [h.1]; exact hi), List.getElem?_eq_getElem (by rw [k.1]; exact hi)]
    exact h2
  · rw [List.getElem?_eq_none (by rw [h.1]; omega), List.getElem?_eq_none (by rw [k.1]; omega)]
/-- The texts of a row lie below a block; from a block on. -/
def OldT (w : World) (A : Option Addr) (n s : Nat) : Prop := ∀ us, Rd w A n us → ∀ (i : Nat) (P : Option Addr) (a b : Nat), us[i]? = some (.slice P a b) → ∀ k, blk P = some k → k < s
def NewT (w : World) (A : Option Addr) (n s : Nat) : Prop := ∀ us, Rd w A n us → ∀ (i : Nat) (P : Option Addr) (a b : Nat), us[i]? = some (.slice P a b) → ∀ k, blk P = some k → s ≤ k
/-- No text of the one row lies in a block of one of the other's. -/
def XD (w : World) (A : Option Addr) (n : Nat) (B : Option Addr) (m : Nat) : Prop := ∀ us ts, Rd w A n us → Rd w B m ts → ∀ (i j : Nat) (P : Option Addr) (a b : Nat) (Q : Option Addr) (c d : Nat), us[i]? = some (.slice P a b) → ts[j]? = some (.slice Q c d) → blk P = none ∨ blk P ≠ blk Q
section
variable {w w' : World} {A A' B B' : Option Addr} {n m c d s base n' c' : Nat} {us ts : List Value} {ks vs : List (List Int)}
theorem Prts.texts (h : Prts w base A n c ks) : ∃ us, Own w base 28 A n c us ∧ ∀ (i : Nat) (P : Option Addr) (a b : Nat), us[i]? = some (.slice P a b) → ∀ k, blk P = some k → base ≤ k ∧ k < w.heap.size := by
  obtain ⟨hl, us, ho, hd, he⟩ := h
  refine ⟨us, ho, fun i P a b hi k hk => ?_⟩
  have hil := (List.getElem?_eq_some_iff.1 hi).1
  have hol := ho.len
  obtain ⟨A3, c3, e, o, _⟩ := he i _ _ hi (List.getElem?_eq_getElem (show i < ks.length by omega))
  injection e with e1 e2 e3
  rw [e1] at hk
  exact o.lies k hk
theorem OldT.of (h : Prts w base A n c ks) (hk : ∀ us, Own w base 28 A n c us → Rd w' A n us) (hs : w.heap.size ≤ s) : OldT w' A n s := by
  obtain ⟨us, ho, ht⟩ := h.texts
  intro us' hr i P a b hi k hb
  rw [hr.uniq (hk us ho)] at hi
  have := (ht i P a b hi k hb).2
  omega
theorem NewT.of (h : Prts w base A n c ks) (hk : ∀ us, Own w base 28 A n c us → Rd w' A n us) (hs : s ≤ base) : NewT w' A n s := by
  obtain ⟨us, ho, ht⟩ := h.texts
  intro us' hr i P a b hi k hb
  rw [hr.uniq (hk us ho)] at hi
  have := (ht i P a b hi k hb).1
  omega
theorem XD.of (h : OldT w A n s) (k : NewT w B m s) : XD w A n B m := fun us ts hu ht i j P a b Q c d hi hj => dist_newN (fun x hx => h us hu i P a b hi x hx) (fun x hx => k ts ht j Q c d hj x hx)
theorem XD.nil1 (w : World) (A B : Option Addr) (m : Nat) : XD w A 0 B m := fun us ts hu _ i j P a b Q c d hi _ => by
  rw [List.eq_nil_of_length_eq_zero hu.1] at hi; simp at hi
theorem XD.nil2 (w : World) (A B : Option Addr) (n : Nat) : XD w A n B 0 := fun us ts _ ht i j P a b Q c d _ hj => by
  rw [List.eq_nil_of_length_eq_zero ht.1] at hj; simp at hj
/-- Both rows read as before. -/
theorem XD.turn (h : XD w A n B m) (hA : Rd w A n us) (hB : Rd w B m ts) (hA' : Rd w' A n us) (hB' : Rd w' B m ts) : XD w' A n B m := fun us' ts' hu ht i j P a b Q c d hi hj => by
  rw [hu.uniq hA'] at hi; rw [ht.uniq hB'] at hj
  exact h us ts hA hB i j P a b Q c d hi hj
/-- A newer text at a place of the first row; of the second. -/
theorem XD.ins1 {T : Option Addr} {i0 l e : Nat} (h : XD w A n B m) (hA : Rd w A n us) (hB : Rd w B m ts) (hi0 : i0 ≤ n) (hA' : Rd w' A' (n + 1) (insL us i0 (.slice T l e))) (hB' : Rd w' B m ts) (hnew : ∀ k, blk T = some k → s ≤ k) (hold : OldT w B m s) : XD w' A' (n + 1) B m := fun us' ts' hu ht i j P a b Q c d hi hj => by
  rw [hu.uniq hA', ins_get _ _ _ _ (by rw [hA.1]; exact hi0)] at hi
  rw [ht.uniq hB'] at hj
  split at hi
  · exact h us ts hA hB i j P a b Q c d hi hj
  · split at hi
    · injection hi with hi; injection hi with e1 e2 e3
      rw [← e1]
      exact dist_symm (dist_newN (fun x hx => hold ts hB j Q c d hj x hx) hnew)
    · exact h us ts hA hB (i - 1) j P a b Q c d hi hj
theorem XD.ins2 {T : Option Addr} {i0 l e : Nat} (h : XD w A n B m) (hA : Rd w A n us) (hB : Rd w B m ts) (hi0 : i0 ≤ m) (hA' : Rd w' A n us) (hB' : Rd w' B' (m + 1) (insL ts i0 (.slice T l e))) (hnew : ∀ k, blk T = some k → s ≤ k) (hold : OldT w A n s) : XD w' A n B' (m + 1) := fun us' ts' hu ht i j P a b Q c d hi hj => by
  rw [ht.uniq hB', ins_get _ _ _ _ (by rw [hB.1]; exact hi0)] at hj
  rw [hu.uniq hA'] at hi
  split at hj
  · exact h us ts hA hB i j P a b Q c d hi hj
  · split at hj
    · injection hj with hj; injection hj with e1 e2 e3
      rw [← e1]
      exact dist_newN (fun x hx => hold us hA i P a b hi x hx) hnew
    · exact h us ts hA hB i (j - 1) P a b Q c d hi hj
/-- Newer texts behind the first row; behind the second. -/
theorem XD.more1 {l : Nat} {ns : List Value} (h : XD w A n B m) (hA : Rd w A n us) (hB : Rd w B m ts) (hA' : Rd w' A' (n + l) (us ++ ns)) (hB' : Rd w' B m ts) (hnew : ∀ (i : Nat) (P : Option Addr) (a b : Nat), ns[i]? = some (.slice P a b) → ∀ k, blk P = some k → s ≤ k) (hold : OldT w B m s) : XD w' A' (n + l) B m := fun us' ts' hu ht i j P a b Q c d hi hj => by
  rw [hu.uniq hA'] at hi
  rw [ht.uniq hB'] at hj
  by_cases h1 : i < us.length
  · rw [List.getElem?_append_left h1] at hi
    exact h us ts hA hB i j P a b Q c d hi hj
  · rw [List.getElem?_append_right (by omega)] at hi
    exact dist_symm (dist_newN (fun x hx => hold ts hB j Q c d hj x hx) (fun x hx => hnew _ P a b hi x hx))
theorem XD.more2 {l : Nat} {ns : List Value} (h : XD w A n B m) (hA : Rd w A n us) (hB : Rd w B m ts) (hA' : Rd w' A n us) (hB' : Rd w' B' (m + l) (ts ++ ns)) (hnew : ∀ (i : Nat) (P : Option Addr) (a b : Nat), ns[i]? = some (.slice P a b) → ∀ k, blk P = some k → s ≤ k) (hold : OldT w A n s) : XD w' A n B' (m + l) := fun us' ts' hu ht i j P a b Q c d hi hj => by
  rw [hu.uniq hA'] at hi
  rw [ht.uniq hB'] at hj
  by_cases h1 : j < ts.length
  · rw [List.getElem?_append_left h1] at hj
    exact h us ts hA hB i j P a b Q c d hi hj
  · rw [List.getElem?_append_right (by omega)] at hj
    exact dist_newN (fun x hx => hold us hA i P a b hi x hx) (fun x hx => hnew _ Q c d hj x hx)
theorem insL_end {α : Type} (l : List α) (u : α) : insL l l.length u = l ++ [u] := by simp [insL]
end
end Go.Proofs.Ytmjjbfcblmmipaa
namespace Go.Proofs.Ytmjjbfcblmmipaa
set_option linter.unusedVariables false
set_option linter.unusedSimpArgs false
open Go.RowKit
/-- With's state: the node's box, the result's, the rows. -/
structure WN (w : World) (lf : Bool) (A1 : Option Addr) (n1 c1 : Nat) (ks : List (List Int)) (A2 : Option Addr) (n2 c2 : Nat) (vs : List (List Int)) (A3 : Option Addr) (n3 c3 : Nat) (ds : List Int) (W : World) : Prop where
  nd : W.heap[w.heap.size]? = some (.cells #[.bool lf, .slice A1 n1 c1, .slice A2 n2 c2, .slice A3 n3 c3] 70 (0, 0))
  rs : W.heap[w.heap.size + 1]? = some (.cells ndZ 70 (0, 0))
  pk : Prts W (w.heap.size + 2) A1 n1 c1 ks
  pv : Prts W (w.heap.size + 2) A2 n2 c2 vs
  od : Own W (w.heap.size + 2) 3 A3 n3 c3 (ds.map (Value.int .i64))
  ap : blk A1 = none ∨ blk A1 ≠ blk A2
  hb : Below w.heap.size w W
section
variable {w W W' : World} {A1 A2 A3 A' : Option Addr} {n1 c1 n2 c2 n3 c3 n' c' : Nat} {ds : List Int} {lf : Bool} {ks vs xs' : List (List Int)} {us : List Value}
theorem WN.sz (h : WN w lf A1 n1 c1 ks A2 n2 c2 vs A3 n3 c3 ds W) : w.heap.size + 2 ≤ W.heap.size := by
  have := lt_of_heap h.rs; omega
theorem WN.keep (h : WN w lf A1 n1 c1 ks A2 n2 c2 vs A3 n3 c3 ds W) (hb : Below W.heap.size W W') : WN w lf A1 n1 c1 ks A2 n2 c2 vs A3 n3 c3 ds W' :=
  ⟨(hb.block _ (lt_of_heap h.nd)).trans h.nd, (hb.block _ (lt_of_heap h.rs)).trans h.rs, h.pk.keep hb, h.pv.keep hb, h.od.below hb (fun k hk => (h.od.lies k hk).2), h.ap, h.hb.trans (hb.mono h.hb.size)⟩
theorem WN.grow (h : WN w lf A1 n1 c1 ks A2 n2 c2 vs A3 n3 c3 ds W) {W2 : World} {Ar Ar' : Option Addr} {j : Nat} {x : Value} {cs : Array Value} (hg : Grows W W' Ar Ar') (hl : ∀ b, blk Ar = some b → w.heap.size + 2 ≤ b)
    (h2 : W2 = W'.setCell ⟨w.heap.size, j, none⟩ x) (hx : (#[.bool lf, .slice A1 n1 c1, .slice A2 n2 c2, .slice A3 n3 c3] : Array Value).setIfInBounds j x = cs) :
    W'.heap[w.heap.size]? = some (.cells #[.bool lf, .slice A1 n1 c1, .slice A2 n2 c2, .slice A3 n3 c3] 70 (0, 0)) ∧ Onl w.heap.size W' W2 ∧ W2.heap[w.heap.size + 1]? = some (.cells ndZ 70 (0, 0)) ∧ W2.heap[w.heap.size]? = some (.cells cs 70 (0, 0)) ∧ Below w.heap.size w W2 := by
  have hs := h.sz
  have n1 := (hg.1.block w.heap.size (by omega) (fun e => by have := hl _ e.symm; omega)).trans h.nd
  have r1 := (hg.1.block (w.heap.size + 1) (by omega) (fun e => by have := hl _ e.symm; omega)).trans h.rs
  have o : Onl w.heap.size W' W2 := by rw [h2]; exact onl_set _ _ _ _
  have B1 : Below w.heap.size W W' := (hg.below hs hl).mono (by omega)
  have hs1 := hg.size
  refine ⟨n1, o, (o.block _ (lt_of_heap r1) (by intro e; injection e with e; omega)).trans r1, ?_, (h.hb.trans B1).trans (o.below (by have := lt_of_heap n1; omega))⟩
  rw [h2]; exact rc_set j x n1 hx
theorem WN.put1 (h : WN w lf A1 n1 c1 ks A2 n2 c2 vs A3 n3 c3 ds W) (ho : Own W (w.heap.size + 2) 28 A1 n1 c1 us) (hg : Grows W W' A1 A') (hp : Prts W' (w.heap.size + 2) A' n' c' xs') :
    W'.heap[w.heap.size]? = some (.cells #[.bool lf, .slice A1 n1 c1, .slice A2 n2 c2, .slice A3 n3 c3] 70 (0, 0)) ∧ WN w lf A' n' c' xs' A2 n2 c2 vs A3 n3 c3 ds (W'.setCell ⟨w.heap.size, 1, none⟩ (.slice A' n' c')) := by
  obtain ⟨g1, o, r, n, b⟩ := h.grow (x := .slice A' n' c') (j := 1) hg (fun k hk => (ho.lies k hk).1) rfl rfl
  have od := h.od.kept hg.1 (own_apart h.od ho (by decide))
  exact ⟨g1, n, r, hp.set o g1 (by decide) (by decide), (h.pv.other hg ho (dist_symm h.ap)).set o g1 (by decide) (by decide), od.onl o (od.ne_blk g1 (by decide)), grow_ap h.ap hg (fun k hk => (h.pv.lies k hk).2), b⟩
theorem WN.put2 (h : WN w lf A1 n1 c1 ks A2 n2 c2 vs A3 n3 c3 ds W) (ho : Own W (w.heap.size + 2) 28 A2 n2 c2 us) (hg : Grows W W' A2 A') (hp : Prts W' (w.heap.size + 2) A' n' c' xs') :
    W'.heap[w.heap.size]? = some (.cells #[.bool lf, .slice A1 n1 c1, .slice A2 n2 c2, .slice A3 n3 c3] 70 (0, 0)) ∧ WN w lf A1 n1 c1 ks A' n' c' xs' A3 n3 c3 ds (W'.setCell ⟨w.heap.size, 2, none⟩ (.slice A' n' c')) := by
  obtain ⟨g1, o, r, n, b⟩ := h.grow (x := .slice A' n' c') (j := 2) hg (fun k hk => (ho.lies k hk).1) rfl rfl
  have od := h.od.kept hg.1 (own_apart h.od ho (by decide))
  exact ⟨g1, n, r, (h.pk.other hg ho h.ap).set o g1 (by decide) (by decide), hp.set o g1 (by decide) (by decide), od.onl o (od.ne_blk g1 (by decide)), dist_symm (grow_ap (dist_symm h.ap) hg (fun k hk => (h.pk.lies k hk).2)), b⟩
end
/-- The cells of a slice of slices, and each one's text. -/
theorem Bss.vals {w : World} {A : Option Addr} {n : Nat} {xss : List (List Int)} (h : Bss w A n xss) : ∃ us : List Value, us.length = n ∧ Rd w A n us ∧ (∀ u ∈ us, u.oneCell' = true) ∧
    Hid (∀ (i : Nat) (u : Value) (xs : List Int), us[i]? = some u → xss[i]? = some xs → ∃ A' c', u = .slice A' xs.length c' ∧ Bs w A' xs.length xs ∧ xs.length ≤ c') := by
  obtain ⟨hl, us, hr, he⟩ := h
  have hul := hr.1
  refine ⟨us, hul, hr.rd, fun u hu => ?_, ?_⟩
  · obtain ⟨i, hi, rfl⟩ := List.getElem_of_mem hu
    obtain ⟨A2, c2, e, _⟩ := he i _ _ (List.getElem?_eq_getElem hi) (List.getElem?_eq_getElem (show i < xss.length by omega))
    rw [e]; rfl
  · intro i u xs hu hx
    obtain ⟨A', c', e, hb, hc⟩ := he i u xs hu hx
    exact ⟨A', c', e, ⟨hb.1.rd, hb.2⟩, hc⟩
theorem Bss.mk {w : World} {A : Option Addr} {n : Nat} {xss : List (List Int)} {us : List Value} (hl : xss.length = n) (hr : Rd w A n us) (he : ∀ (i : Nat) (u : Value) (xs : List Int), us[i]? = some u → xss[i]? = some xs → ∃ A' c', u = Value.slice A' xs.length c' ∧ Bs w A' xs.length xs ∧ xs.length ≤ c') : Bss w A n xss :=
  ⟨hl, us, hr.rdP, fun i u xs hu hx => by obtain ⟨A', c', e, hb, hc⟩ := he i u xs hu hx; exact ⟨A', c', e, ⟨hb.1.rdP, hb.2⟩, hc⟩⟩
/-- A row that shares its texts, with one more at a place, or one less. -/
theorem bss_ins {w w' : World} {n i m d : Nat} {A' : Option Addr} {xss : List (List Int)} {us : List Value} {AQ : Option Addr} {key : List Int} (hl : xss.length = n) (hul : us.length = n) (hi : i ≤ n)
    (he : ∀ (i : Nat) (u : Value) (xs : List Int), us[i]? = some u → xss[i]? = some xs → ∃ A' c', u = Value.slice A' xs.length c' ∧ Bs w A' xs.length xs ∧ xs.length ≤ c') (hb : Below w.heap.size w w') (hq : Bs w AQ key.length key) (hd : key.length ≤ d)
    (hr : Rd w' A' (n + 1) (insL us i (Value.slice AQ key.length d))) : Bss w' A' (n + 1) (insL xss i key) := by
  refine Bss.mk (by rw [insL_len _ _ _ (by omega), hl]) hr (fun j u xs hu hx => ?_)
  have keep : ∀ j u xs, us[j]? = some u → xss[j]? = some xs → ∃ A' c', u = Value.slice A' xs.length c' ∧ Bs w' A' xs.length xs ∧ xs.length ≤ c' := fun j u xs h1 h2 => by
    obtain ⟨A3, c3, e, hbs, hc⟩ := he j u xs h1 h2
    exact ⟨A3, c3, e, hbs.keep hb, hc⟩
  rw [ins_get _ _ _ _ (by omega)] at hu hx
  split at hu
  · rw [if_pos (by assumption)] at hx; exact keep j u xs hu hx
  · rw [if_neg (by assumption)] at hx
    split at hu
    · rw [if_pos (by assumption)] at hx
      injection hu with hu; injection hx with hx
      subst hu hx
      exact ⟨AQ, d, rfl, hq.keep hb, hd⟩
    · rw [if_neg (by assumption)] at hx; exact keep (j - 1) u xs hu hx
theorem bss_del {w w' : World} {n i : Nat} {A' : Option Addr} {xss : List (List Int)} {us : List Value} (hl : xss.length = n) (hul : us.length = n) (hi : i < n)
    (he : ∀ (i : Nat) (u : Value) (xs : List Int), us[i]? = some u → xss[i]? = some xs → ∃ A' c', u = Value.slice A' xs.length c' ∧ Bs w A' xs.length xs ∧ xs.length ≤ c') (hb : Below w.heap.size w w')
    (hr : Rd w' A' (n - 1) (delL us i)) : Bss w' A' (n - 1) (delL xss i) := by
  refine Bss.mk (by rw [delL_len _ _ (by omega), hl]) hr (fun j u xs hu hx => ?_)
  have keep : ∀ j u xs, us[j]? = some u → xss[j]? = some xs → ∃ A' c', u = Value.slice A' xs.length c' ∧ Bs w' A' xs.length xs ∧ xs.length ≤ c' := fun j u xs h1 h2 => by
    obtain ⟨A3, c3, e, hbs, hc⟩ := he j u xs h1 h2
    exact ⟨A3, c3, e, hbs.keep hb, hc⟩
  rw [del_get _ _ _ (by omega)] at hu hx
  split at hu
  · rw [if_pos (by assumption)] at hx; exact keep j u xs hu hx
  · rw [if_neg (by assumption)] at hx; exact keep (j + 1) u xs hu hx
end Go.Proofs.Ytmjjbfcblmmipaa
namespace Go.Proofs.Ytmjjbfcblmmipaa
set_option linter.unusedVariables false
set_option linter.unusedSimpArgs false
open Go.RowKit
set_option maxRecDepth 100000 in
set_option maxHeartbeats 8000000 in
theorem copiedX_any (lf : Bool) (AK : Option Addr) (nK cK : Nat) (AV : Option Addr) (nV cV : Nat) (AD : Option Addr) (nD cD : Nat) (ks vs : List (List Int)) (kd : List Int) (w : World) (hk : Bss w AK nK ks) (hv : Bss w AV nV vs) (hd : Ins w AD nD kd) (sD : Shp AD nD)
    (bK : nK ≤ 100000) (bV : nV ≤ 100000) (bD : nD ≤ 100000) (lK : ∀ xs ∈ ks, xs.length ≤ 140737488355328) (lV : ∀ xs ∈ vs, xs.length ≤ 140737488355328) :
    Calls Try.prog 92 #[.agg (ndV lf AK nK cK AV nV cV AD nD cD)] w fun e w' => ∃ A1 c1 A2 c2 A3 c3, e = .returned (.agg (ndV lf A1 nK c1 A2 nV c2 A3 nD c3)) ∧ Prts w' w.heap.size A1 nK c1 ks ∧ Prts w' w.heap.size A2 nV c2 vs ∧ Own w' w.heap.size 3 A3 nD c3 (kd.map (Value.int .i64)) ∧ (blk A1 = none ∨ blk A1 ≠ blk A2) ∧ XD w' A1 nK A2 nV ∧ Below w.heap.size w w' := by
  have HK := Lib.hid hk; have HV := Lib.hid hv; have HD := Lib.hid hd; have HSD := Lib.hid sD
  have HLK := Lib.hid lK; have HLV := Lib.hid lV
  have hsz : (w.alloc (.cells (ndV lf AK nK cK AV nV cV AD nD cD) 70)).heap.size = w.heap.size + 1 := by simp
  have hb1 := below_alloc w (.cells (ndV lf AK nK cK AV nV cV AD nD cD) 70)
  have hb2 := below_alloc (w.alloc (.cells (ndV lf AK nK cK AV nV cV AD nD cD) 70)) (.cells ndZ 70)
  have hr2 := heap_alloc_new (w.alloc (.cells (ndV lf AK nK cK AV nV cV AD nD cD) 70)) (.cells ndZ 70)
  rw [hsz] at hr2
  have BX := Lib.hid ((hb2.block w.heap.size (by omega)).trans (heap_alloc_new w (.cells (ndV lf AK nK cK AV nV cV AD nD cD) 70)))
  have RS := Lib.hid hr2
  have HB := Lib.hid (hb1.trans (hb2.mono (by omega)))
  clear hk hv hd sD lK lV hsz hb1 hb2 hr2
  go_enter Try.func92, Try.ntmps92
  go_wp2_with fail
  generalize ((w.alloc (.cells (ndV lf AK nK cK AV nV cV AD nD cD) 70)).alloc (.cells ndZ 70)) = y at *
  have BXd : Hid (y.drew.heap[w.heap.size]? = some (.cells (ndV lf AK nK cK AV nV cV AD nD cD) 70 (0, 0))) := BX
  have RSd : Hid (y.drew.heap[w.heap.size + 1]? = some (.cells ndZ 70 (0, 0))) := RS
  have HBd := Lib.hid (HB.out.trans ((Dr.refl y).one.below _))
  have q0 := rc_cell 0 (.bool lf) BXd.out rfl
  have q1 := rc_cell 1 (.slice AK nK cK) BXd.out rfl
  have q2 := rc_cell 2 (.slice AV nV cV) BXd.out rfl
  have q3 := rc_cell 3 (.slice AD nD cD) BXd.out rfl
  have tok1 : True := trivial
  go_region_held3 (fun w' => w'.cell? ⟨w.heap.size, 0, none⟩ = some (.bool lf) ∧ w'.cell? ⟨w.heap.size, 1, none⟩ = some (.slice AK nK cK) ∧ w'.cell? ⟨w.heap.size, 2, none⟩ = some (.slice AV nV cV) ∧ w'.cell? ⟨w.heap.size, 3, none⟩ = some (.slice AD nD cD)) (first | exact ⟨v0, v1, v2, v3⟩ | exact ⟨t0, t1, t2, t3⟩ | exact ⟨s0, s1, s2, s3⟩ | exact ⟨r0, r1, r2, r3⟩ | exact ⟨q0, q1, q2, q3⟩) (first
    | (have _tk := tok1; go_at_call 102; refine (texts_any AK nK cK ks _ (HK.out.keep HBd.out) bK HLK.out).mono ?_; rintro e x2 ⟨D1, d1, rfl, hP1, hb2⟩; clear tok1; have tok2 : True := trivial; have Q1 := Lib.hid hP1; have P1 := Lib.hid (hP1.mono HBd.out.size); have BX2 := Lib.hid ((hb2.block _ (lt_of_heap BXd.out)).trans BXd.out); have RS2 := Lib.hid ((hb2.block _ (lt_of_heap RSd.out)).trans RSd.out); have HB2 := Lib.hid (HBd.out.trans (hb2.mono HBd.out.size)); have r0 := rc_cell 0 (.bool lf) BX2.out rfl; have r1 := rc_cell 1 (.slice AK nK cK) BX2.out rfl; have r2 := rc_cell 2 (.slice AV nV cV) BX2.out rfl; have r3 := rc_cell 3 (.slice AD nD cD) BX2.out rfl; clear hP1 hb2)
    | (have _tk := tok2; go_at_call 102; refine (texts_any AV nV cV vs _ (HV.out.keep HB2.out) bV HLV.out).mono ?_; rintro e x3 ⟨D2, d2, rfl, hP2, hb3⟩; clear tok2; have Q2 := Lib.hid hP2; have C3 := Lib.hid hb3; have P2 := Lib.hid (hP2.mono HB2.out.size); have AP := Lib.hid (dist_newN (fun k hk => (P1.out.lies k hk).2) (fun k hk => (hP2.lies k hk).1)); have P1' := Lib.hid (P1.out.keep hb3); have BX3 := Lib.hid ((hb3.block _ (lt_of_heap BX2.out)).trans BX2.out); have RS3 := Lib.hid ((hb3.block _ (lt_of_heap RS2.out)).trans RS2.out); have HB3 := Lib.hid (HB2.out.trans (hb3.mono HB2.out.size)); have s0 := rc_cell 0 (.bool lf) BX3.out rfl; have s1 := rc_cell 1 (.slice AK nK cK) BX3.out rfl; have s2 := rc_cell 2 (.slice AV nV cV) BX3.out rfl; have s3 := rc_cell 3 (.slice AD nD cD) BX3.out rfl; clear hP2 hb3)
    | (go_at_call 124; refine (clone_i AD nD cD (kd.map (Value.int .i64)) _ (by rw [List.length_map]; exact HD.out.len) (fun hne => by obtain ⟨b9, o9, h1, h2⟩ := (HD.out.1.src HSD.out).1 hne; exact ⟨b9, o9, h1, fun j u hu => cell_keep HB3.out (h2 j u hu)⟩) (HD.out.1.src HSD.out).2 (by intro u hu; obtain ⟨x, _, rfl⟩ := List.mem_map.1 hu; rfl) (by omega)).mono ?_; rintro e x4 ⟨D3, d3, rfl, hP3, hb4⟩; have C4 := Lib.hid hb4; have P3 := Lib.hid (hP3.mono HB3.out.size); have P1q := Lib.hid (P1'.out.keep hb4); have P2q := Lib.hid (P2.out.keep hb4); have BX4 := Lib.hid ((hb4.block _ (lt_of_heap BX3.out)).trans BX3.out); have RS4 := Lib.hid ((hb4.block _ (lt_of_heap RS3.out)).trans RS3.out); have HB4 := Lib.hid (HB3.out.trans (hb4.mono HB3.out.size)); have t0 := rc_cell 0 (.bool lf) BX4.out rfl; have t1 := rc_cell 1 (.slice AK nK cK) BX4.out rfl; have t2 := rc_cell 2 (.slice AV nV cV) BX4.out rfl; have t3 := rc_cell 3 (.slice AD nD cD) BX4.out rfl; have z0 := rc_cell 0 (.bool false) RS4.out rfl; have z1 := rc_cell 1 (.slice none 0 0) RS4.out rfl; have z2 := rc_cell 2 (.slice none 0 0) RS4.out rfl; have z3 := rc_cell 3 (.slice none 0 0) RS4.out rfl; have y0 := two_frozen (i := 0) RS4.out; have y1 := two_frozen (i := 1) RS4.out; have y2 := two_frozen (i := 2) RS4.out; have y3 := two_frozen (i := 3) RS4.out; have HZ := Lib.hid (set4 x4 (w.heap.size + 1) (.bool lf) (.slice D1 nK d1) (.slice D2 nV d2) (.slice D3 nD d3) RS4.out); have BX5 := Lib.hid ((HZ.out.2.block w.heap.size (lt_of_heap BX4.out) (by intro e; injection e with e; omega)).trans BX4.out); have v0 := rc_cell 0 (.bool lf) BX5.out rfl; have v1 := rc_cell 1 (.slice AK nK cK) BX5.out rfl; have v2 := rc_cell 2 (.slice AV nV cV) BX5.out rfl; have v3 := rc_cell 3 (.slice AD nD cD) BX5.out rfl; clear hP3 hb4))
  have R1 := Lib.hid (P1q.out.set HZ.out.2 RS4.out (by decide) (by decide))
  have R2 := Lib.hid (P2q.out.set HZ.out.2 RS4.out (by decide) (by decide))
  have R3 := Lib.hid (P3.out.onl HZ.out.2 (P3.out.ne_blk RS4.out (by decide)))
  have XF : Hid (XD ((((x4.setCell ⟨w.heap.size + 1, 0, none⟩ (.bool lf)).setCell ⟨w.heap.size + 1, 1, none⟩ (.slice D1 nK d1)).setCell ⟨w.heap.size + 1, 2, none⟩ (.slice D2 nV d2)).setCell ⟨w.heap.size + 1, 3, none⟩ (.slice D3 nD d3)) D1 nK D2 nV) := Lib.hid (XD.of (OldT.of Q1.out (fun us ho => by
    have h3 := ho.below C3.out (fun k hk => (ho.lies k hk).2)
    have h4 := h3.below C4.out (fun k hk => (h3.lies k hk).2)
    exact (h4.onl HZ.out.2 (h4.ne_blk RS4.out (by decide))).rd) (Nat.le_refl _)) (NewT.of Q2.out (fun us ho => by
    have h4 := ho.below C4.out (fun k hk => (ho.lies k hk).2)
    exact (h4.onl HZ.out.2 (h4.ne_blk RS4.out (by decide))).rd) (Nat.le_refl _)))
  have HB5 := Lib.hid (HB4.out.trans ((HZ.out.2.below (Nat.le_of_lt (lt_of_heap RS4.out))).mono (by omega)))
  clear v0 v1 v2 v3 t0 t1 t2 t3 s0 s1 s2 s3 r0 r1 r2 r3 q0 q1 q2 q3 z0 z1 z2 z3 y0 y1 y2 y3
  generalize ((((x4.setCell ⟨w.heap.size + 1, 0, none⟩ (.bool lf)).setCell ⟨w.heap.size + 1, 1, none⟩ (.slice D1 nK d1)).setCell ⟨w.heap.size + 1, 2, none⟩ (.slice D2 nV d2)).setCell ⟨w.heap.size + 1, 3, none⟩ (.slice D3 nD d3)) = VZ at *
  have e0 := rc_cell 0 (.bool lf) HZ.out.1 rfl
  have e1 := rc_cell 1 (.slice D1 nK d1) HZ.out.1 rfl
  have e2 := rc_cell 2 (.slice D2 nV d2) HZ.out.1 rfl
  have e3 := rc_cell 3 (.slice D3 nD d3) HZ.out.1 rfl
  go_wp2
  refine bodyPost_ret (v := .agg (ndV lf D1 nK d1 D2 nV d2 D3 nD d3)) (by simp [results, Try.f92, go_sem, Try.isAgg70, Try.sizeOf70, e0, e1, e2, e3]) rfl ⟨D1, d1, D2, d2, D3, d3, rfl, R1.out, R2.out, R3.out, AP.out, XF.out, HB5.out⟩
end Go.Proofs.Ytmjjbfcblmmipaa
namespace Go.Proofs.Ytmjjbfcblmmipaa
set_option linter.unusedVariables false
set_option linter.unusedSimpArgs false
open Go.RowKit
/-- With's state, and the texts of both rows lie apart. -/
structure WX (w : World) (lf : Bool) (A1 : Option Addr) (n1 c1 : Nat) (ks : List (List Int)) (A2 : Option Addr) (n2 c2 : Nat) (vs : List (List Int)) (A3 : Option Addr) (n3 c3 : Nat) (ds : List Int) (W : World) : Prop where
  t : WN w lf A1 n1 c1 ks A2 n2 c2 vs A3 n3 c3 ds W
  x : XD W A1 n1 A2 n2
section
variable {w W W' : World} {A1 A2 A3 A' T : Option Addr} {n1 c1 n2 c2 n3 c3 c' l e s i0 : Nat} {ds : List Int} {lf : Bool} {ks vs xs' : List (List Int)} {us : List Value}
theorem WX.keep (h : WX w lf A1 n1 c1 ks A2 n2 c2 vs A3 n3 c3 ds W) (hb : Below W.heap.size W W') : WX w lf A1 n1 c1 ks A2 n2 c2 vs A3 n3 c3 ds W' := by
  obtain ⟨us, ho, _⟩ := h.t.pk.texts
  obtain ⟨ts, hp, _⟩ := h.t.pv.texts
  exact ⟨h.t.keep hb, h.x.turn ho.rd hp.rd (ho.below hb (fun k hk => (ho.lies k hk).2)).rd (hp.below hb (fun k hk => (hp.lies k hk).2)).rd⟩
theorem WX.put1 (h : WX w lf A1 n1 c1 ks A2 n2 c2 vs A3 n3 c3 ds W) (ho : Own W (w.heap.size + 2) 28 A1 n1 c1 us) (hg : Grows W W' A1 A') (hp : Prts W' (w.heap.size + 2) A' (n1 + 1) c' xs') (hw : Own W' (w.heap.size + 2) 28 A' (n1 + 1) c' (insL us i0 (.slice T l e))) (hi0 : i0 ≤ n1) (hnew : ∀ k, blk T = some k → s ≤ k) (hold : OldT W A2 n2 s) :
    W'.heap[w.heap.size]? = some (.cells #[.bool lf, .slice A1 n1 c1, .slice A2 n2 c2, .slice A3 n3 c3] 70 (0, 0)) ∧ WX w lf A' (n1 + 1) c' xs' A2 n2 c2 vs A3 n3 c3 ds (W'.setCell ⟨w.heap.size, 1, none⟩ (.slice A' (n1 + 1) c')) := by
  obtain ⟨g1, t⟩ := h.t.put1 ho hg hp
  obtain ⟨ts, hq, _⟩ := h.t.pv.texts
  have hq' := hq.kept hg.1 (dist_symm h.t.ap)
  have x1 : XD W' A' (n1 + 1) A2 n2 := h.x.ins1 ho.rd hq.rd hi0 hw.rd hq'.rd hnew hold
  have o := onl_set W' w.heap.size 1 (.slice A' (n1 + 1) c')
  exact ⟨g1, t, x1.turn hw.rd hq'.rd (hw.onl o (hw.ne_blk g1 (by decide))).rd (hq'.onl o (hq'.ne_blk g1 (by decide))).rd⟩
theorem WX.put2 (h : WX w lf A1 n1 c1 ks A2 n2 c2 vs A3 n3 c3 ds W) (ho : Own W (w.heap.size + 2) 28 A2 n2 c2 us) (hg : Grows W W' A2 A') (hp : Prts W' (w.heap.size + 2) A' (n2 + 1) c' xs') (hw : Own W' (w.heap.size + 2) 28 A' (n2 + 1) c' (insL us i0 (.slice T l e))) (hi0 : i0 ≤ n2) (hnew : ∀ k, blk T = some k → s ≤ k) (hold : OldT W A1 n1 s) :
    W'.heap[w.heap.size]? = some (.cells #[.bool lf, .slice A1 n1 c1, .slice A2 n2 c2, .slice A3 n3 c3] 70 (0, 0)) ∧ WX w lf A1 n1 c1 ks A' (n2 + 1) c' xs' A3 n3 c3 ds (W'.setCell ⟨w.heap.size, 2, none⟩ (.slice A' (n2 + 1) c')) := by
  obtain ⟨g1, t⟩ := h.t.put2 ho hg hp
  obtain ⟨ts, hq, _⟩ := h.t.pk.texts
  have hq' := hq.kept hg.1 h.t.ap
  have x1 : XD W' A1 n1 A' (n2 + 1) := h.x.ins2 hq.rd ho.rd hi0 hq'.rd hw.rd hnew hold
  have o := onl_set W' w.heap.size 2 (.slice A' (n2 + 1) c')
  exact ⟨g1, t, x1.turn hq'.rd hw.rd (hq'.onl o (hq'.ne_blk g1 (by decide))).rd (hw.onl o (hw.ne_blk g1 (by decide))).rd⟩
end
end Go.Proofs.Ytmjjbfcblmmipaa
namespace Go.Proofs.Ytmjjbfcblmmipaa
set_option linter.unusedVariables false
set_option linter.unusedSimpArgs false
open Go.RowKit
/-- Join's state, and the texts of both rows lie apart. -/
structure JX (w : World) (A : Option Addr) (n c : Nat) (xs : List (List Int)) (B : Option Addr) (m d : Nat) (ys : List (List Int)) (W : World) : Prop where
  t : JS w A n c xs B m d ys W
  x : XD W A n B m
section
variable {w W W' : World} {A A' B B' : Option Addr} {n c m d l c' s : Nat} {xs ys xs' : List (List Int)} {us ns : List Value}
theorem JX.keep (h : JX w A n c xs B m d ys W) (hb : Below W.heap.size W W') : JX w A n c xs B m d ys W' := by
  obtain ⟨us, ho, _⟩ := h.t.pk.texts
  obtain ⟨ts, hp, _⟩ := h.t.pv.texts
  exact ⟨h.t.keep hb, h.x.turn ho.rd hp.rd (ho.below hb (fun k hk => (ho.lies k hk).2)).rd (hp.below hb (fun k hk => (hp.lies k hk).2)).rd⟩
theorem JX.app1 (h : JX w A n c xs B m d ys W) (ho : Own W w.heap.size 28 A n c us) (hg : Grows W W' A A') (hp : Prts W' w.heap.size A' (n + l) c' xs') (hw : Own W' w.heap.size 28 A' (n + l) c' (us ++ ns)) (hnew : ∀ (i : Nat) (P : Option Addr) (a b : Nat), ns[i]? = some (.slice P a b) → ∀ k, blk P = some k → s ≤ k) (hold : OldT W B m s) :
    W'.heap[w.heap.size + 1]? = some (.cells #[.bool true, .slice A n c, .slice B m d, .slice none 0 0] 70 (0, 0)) ∧ JX w A' (n + l) c' xs' B m d ys (W'.setCell ⟨w.heap.size + 1, 1, none⟩ (.slice A' (n + l) c')) := by
  obtain ⟨g1, t⟩ := h.t.app1 ho hg hp
  obtain ⟨ts, hq, _⟩ := h.t.pv.texts
  have hq' := hq.kept hg.1 (dist_symm h.t.ap)
  have x1 : XD W' A' (n + l) B m := h.x.more1 ho.rd hq.rd hw.rd hq'.rd hnew hold
  have o := onl_set W' (w.heap.size + 1) 1 (.slice A' (n + l) c')
  exact ⟨g1, t, x1.turn hw.rd hq'.rd (hw.onl o (hw.ne_blk g1 (by decide))).rd (hq'.onl o (hq'.ne_blk g1 (by decide))).rd⟩
theorem JX.app2 (h : JX w A n c xs B m d ys W) (ho : Own W w.heap.size 28 B m d us) (hg : Grows W W' B B') (hp : Prts W' w.heap.size B' (m + l) c' xs') (hw : Own W' w.heap.size 28 B' (m + l) c' (us ++ ns)) (hnew : ∀ (i : Nat) (P : Option Addr) (a b : Nat), ns[i]? = some (.slice P a b) → ∀ k, blk P = some k → s ≤ k) (hold : OldT W A n s) :
    W'.heap[w.heap.size + 1]? = some (.cells #[.bool true, .slice A n c, .slice B m d, .slice none 0 0] 70 (0, 0)) ∧ JX w A n c xs B' (m + l) c' xs' (W'.setCell ⟨w.heap.size + 1, 2, none⟩ (.slice B' (m + l) c')) := by
  obtain ⟨g1, t⟩ := h.t.app2 ho hg hp
  obtain ⟨ts, hq, _⟩ := h.t.pk.texts
  have hq' := hq.kept hg.1 h.t.ap
  have x1 : XD W' A n B' (m + l) := h.x.more2 hq.rd ho.rd hq'.rd hw.rd hnew hold
  have o := onl_set W' (w.heap.size + 1) 2 (.slice B' (m + l) c')
  exact ⟨g1, t, x1.turn hq'.rd hw.rd (hq'.onl o (hq'.ne_blk g1 (by decide))).rd (hw.onl o (hw.ne_blk g1 (by decide))).rd⟩
end
end Go.Proofs.Ytmjjbfcblmmipaa
