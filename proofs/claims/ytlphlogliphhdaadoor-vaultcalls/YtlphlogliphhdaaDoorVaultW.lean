/- vault: New, Count, Get, Put. -/
import Derived.Test.YtlphlogliphhdaaDoorMp
import Derived.Deep.RegionHeld3
namespace Go.Proofs.YtlphlogliphhdaaDoor
set_option linter.unusedVariables false
set_option linter.unusedSimpArgs false
open Go.RowKit Go.Maps

theorem clone_any (A : Option Addr) (n c : Nat) (xs : List Int) (w : World) (hx : Bs w A n xs) (hn : n ≤ 140737488355328) :
    Calls Tryd.prog 34 #[.slice A n c] w fun e w' => ∃ A' c', e = .returned (.slice A' n c') ∧ Own w' w.heap.size 5 A' n c' (By xs) ∧ Below w.heap.size w w' := by
  rcases A with _ | a
  · obtain rfl : n = 0 := by
      rcases Nat.eq_zero_or_pos n with h | h
      · exact h
      · obtain ⟨_, _, h, _⟩ := hx.1.2 h; cases h
    have : xs = [] := List.eq_nil_of_length_eq_zero hx.len
    subst this
    refine (Tryd.bytes_Clone_nil 0 c w).mono ?_
    rintro e w' ⟨rfl, rfl⟩
    exact ⟨none, 0, rfl, Own.nil_, Below.refl _ _⟩
  · refine (Tryd.bytes_Clone_at a n c xs w hx.len hn (fun i hi => ?_)).mono ?_
    · obtain ⟨b, off, x, hA, _, _, _, hc, HX⟩ := hx.at_ hi
      injection hA with hA
      subst hA
      have e : (⟨b, off, none⟩ : Addr).add i = ⟨b, off + i, none⟩ := by unfold Addr.add; split <;> simp_all
      rw [e, hc, List.getD, HX.out]; rfl
    · rintro e w' ⟨v', rfl, ho, hne, hb⟩
      rcases ho.2 with ⟨hv, _⟩ | ⟨g, cap, cur, rfl, r⟩
      · exact (hne hv).elim
      · exact ⟨some ⟨g, 0, none⟩, cap, rfl, ho, hb⟩

theorem bin_of {w : World} {A : Option Addr} {n : Nat} {xs : List Int} (hx : Bs w A n xs) : Lib.BytesIn w A n xs := by
  intro h
  obtain ⟨b, off, rfl, _, hc⟩ := hx.1.2 h
  refine ⟨b, off, rfl, fun i hi => ?_⟩
  have hl := hx.len
  exact hc i (.int .u8 (xs.getD i 0)) (by simp [By, List.getD, List.getElem?_eq_getElem (show i < xs.length by omega)])
theorem bequal_any (A B : Option Addr) (n m c d : Nat) (xs ys : List Int) (w : World) (hx : Bs w A n xs) (hy : Bs w B m ys) :
    Calls Tryd.prog 33 #[.slice A n c, .slice B m d] w fun e w' => e = .returned (.bool (decide (xs = ys))) ∧ w = w' := by
  refine (Tryd.bytes_Equal_all A B n c m d xs ys w hx.len hy.len (bin_of hx) (bin_of hy)).mono ?_
  rintro e w' ⟨rfl, rfl⟩
  refine ⟨?_, rfl⟩
  have : (Lib.bytesOf xs == Lib.bytesOf ys) = decide (xs = ys) := by
    by_cases h : xs = ys
    · subst h; simp
    · have : ¬ Lib.bytesOf xs = Lib.bytesOf ys := fun e => h (map_u8_inj hx.2 hy.2 e)
      simp [h, this]
  rw [this]

theorem new_any (w : World) : Calls Tryd.prog 21 #[] w fun e w' => e = .returned (.pointer (some ⟨w.heap.size, 0, none⟩)) ∧ w' = w.alloc (.cells #[.map none] 26) := by
  go_enter Tryd.func21, Tryd.ntmps21
  go_wp2
  go_ret
  exact ⟨rfl, rfl⟩

theorem count_any (p : Nat) (L : Things) (Pd : Nat → Prop) (w : World) (hv : Vt w Pd p L) : Calls Tryd.prog 17 #[.pointer (some ⟨p, 0, none⟩)] w fun e w' => e = .returned (.int .i64 (L.length : Int)) ∧ w = w' := by
  obtain ⟨_, hfz, ⟨hc, _, rfl⟩ | ⟨b, D, hc, _, _, hm, he⟩⟩ := hv.cell
  · have hl := fun W ty => Maps.len_nil (P := Tryd.prog) (w := W) Tryd.underlying24 ty
    go_enter Tryd.func17, Tryd.ntmps17
    go_wp2
    go_ret
    exact ⟨rfl, rfl⟩
  · have hl := fun ty => hm.len Tryd.underlying24 ty
    rw [he.num] at hl
    go_enter Tryd.func17, Tryd.ntmps17
    go_wp2
    go_ret
    exact ⟨rfl, rfl⟩

theorem get_any (p : Nat) (L : Things) (Pd : Nat → Prop) (S : ByteArray) (w : World) (hv : Vt w Pd p L) (hS : S.size ≤ maxLen) (hL : ∀ q ∈ L, q.2.length ≤ 140737488355328) :
    Calls Tryd.prog 14 #[.pointer (some ⟨p, 0, none⟩), .string S] w fun e w' =>
      ((∃ xs A c, (S, xs) ∈ L ∧ e = .returned (.tuple #[.slice A xs.length c, .int .i64 0]) ∧ Own w' w.heap.size 5 A xs.length c (By xs) ∧ Ran xs) ∨ ((∀ xs, (S, xs) ∉ L) ∧ e = .returned (.tuple #[.slice none 0 0, .int .i64 6]))) ∧ Below w.heap.size w w' := by
  obtain ⟨_, hfz, ⟨hc, _, hL0⟩ | ⟨b, D, hc, _, _, hm, he⟩⟩ := hv.cell
  · have HN : Hid (∀ xs, (S, xs) ∉ L) := fun xs h => by rw [hL0] at h; simp at h
    clear hL0 hv hL
    have hl := Maps.look_nil (P := Tryd.prog) (w := w) true key9 Tryd.underlying24 (zero28 w) (kl_key hS)
    go_enter Tryd.func14, Tryd.ntmps14
    go_wp2
    go_ret2
    exact ⟨.inr ⟨HN.out, rfl⟩, Below.refl _ _⟩
  · rcases he.look hm hS with ⟨xs, A, n, c, base, hmem, hr, ho, hg, hrun⟩ | ⟨hno, _, hrun⟩
    · have hbs := ho.bs hr
      have hn : n = xs.length := hbs.len.symm
      subst hn
      have hlen := hL _ hmem
      have HM := Lib.hid hmem
      clear hmem hL hv he hm
      go_enter Tryd.func14, Tryd.ntmps14
      go_wp2_with fail
      refine (clone_any A _ c xs w hbs hlen).mono ?_
      rintro e w' ⟨A', c', rfl, ho', hb⟩
      go_wp2
      go_ret2
      exact ⟨.inl ⟨xs, A', c', HM.out, rfl, ho', hr⟩, hb⟩
    · have HN := Lib.hid hno
      clear hno hv he hm hL
      go_enter Tryd.func14, Tryd.ntmps14
      go_wp2
      go_ret2
      exact ⟨.inr ⟨HN.out, rfl⟩, Below.refl _ _⟩

theorem mapeq_some (b : Nat) (W : World) : (binOp .eql 24 (.map (some b)) (.map none)).run Tryd.prog W = .ok (.bool false) W := by kernel_rfl
theorem mapeq_none (W : World) : (binOp .eql 24 (.map none) (.map none)).run Tryd.prog W = .ok (.bool true) W := by kernel_rfl
/-- What a look says, beside the vault's own words. -/
def PutR (L L' : Things) (S : ByteArray) (xs : List Int) (k : Int) : Prop :=
  (k = 0 ∧ (S, xs) ∈ L ∧ L' = L) ∨ (k = 7 ∧ (∃ ys, (S, ys) ∈ L ∧ ys ≠ xs) ∧ L' = L) ∨ (k = 0 ∧ (∀ ys, (S, ys) ∉ L) ∧ L' = (S, xs) :: L)

theorem Ent.one {w : World} {Pd : Nat → Prop} {D : DataW Value} {L : Things} (he : Ent w Pd D L) {S : ByteArray} {xs ys : List Int} (h1 : (S, xs) ∈ L) (h2 : (S, ys) ∈ L) : xs = ys := by
  rcases List.pairwise_iff_getElem.1 he.uniq with hp
  obtain ⟨i, hi, e1⟩ := List.getElem_of_mem h1
  obtain ⟨j, hj, e2⟩ := List.getElem_of_mem h2
  rcases Nat.lt_trichotomy i j with h | h | h
  · exact (hp i j hi hj h (by rw [e1, e2])).elim
  · subst h; rw [e1] at e2; injection e2
  · exact (hp j i hj hi h (by rw [e1, e2])).elim

theorem setcell_one {w : World} {p : Nat} {v u : Value} {t : TypeId} {fr : Nat × Nat} (h : w.heap[p]? = some (.cells #[v] t fr)) : (w.setCell ⟨p, 0, none⟩ u).heap[p]? = some (.cells #[u] t fr) := by
  have hlt := lt_of_heap h
  simp only [World.setCell]
  simp [h, Array.getElem?_modify]
/-- The clone, and the store behind it, at a vault with a map. -/
theorem clput (p b : Nat) (D : DataW Value) (L : Things) (Pd : Nat → Prop) (S : ByteArray) (A : Option Addr) (n c base : Nat) (xs : List Int) (w : World)
    (hh : w.heap[p]? = some (.cells #[.map (some b)] 26 (0, 0))) (hc : w.cell? ⟨p, 0, none⟩ = some (.map (some b))) (hm : w.ownsMap Tryd.prog 9 raw b (Maps.size D) D) (he : Ent w Pd D L) (hx : Bs w A n xs) (HHS : Box (S.size ≤ maxLen)) (HHN : Box (n ≤ 140737488355328)) (HNUM : Box (Maps.size D < maxLen))
    (HN : Hid (∀ ys, (S, ys) ∉ L)) (hhas : Maps.has D (kl S) = false) (HPp : Hid (Pd p)) (HPb : Hid (Pd b)) (HNEW : Hid (∀ i, w.heap.size ≤ i → Pd i)) (HBASE : Hid (∀ i, Pd i → base ≤ i)) (k : Nat) :
    Calls Tryd.prog 34 #[.slice A n c] (w.drewN k) fun e w' => ∃ A' c' w3, e = .returned (.slice A' n c') ∧ (Instr.mapUpdate 24 (.map (some b)) (.string S) (.slice A' n c')).run Tryd.prog w' = .ok () w3 ∧ w'.cell? ⟨p, 0, none⟩ = some (.map (some b)) ∧ w3.cell? ⟨p, 0, none⟩ = some (.map (some b)) ∧ Vt w3 Pd p ((S, xs) :: L) ∧ Vfr p w w3 ∧ Below base w w3 := by
  have hlt : p < w.heap.size := lt_of_heap hh
  have hbk : Below w.heap.size w (w.drewN k) := below_n (Below.refl _ _) k
  refine (clone_any A n c xs (w.drewN k) (hx.keep hbk) HHN.out).mono ?_
  rintro e w' ⟨A', c', rfl, ho', hb'⟩
  have hb2 : Below w.heap.size w w' := hbk.trans hb'
  have hm' : w'.ownsMap Tryd.prog 9 raw b (Maps.size D) D := by
    obtain ⟨es, clock, hb3, r⟩ := hm
    exact ⟨es, clock, (hb2.block b (lt_of_heap hb3)).trans hb3, r⟩
  obtain ⟨w3, hst, hm3, hg3⟩ := hm'.update key9 Tryd.underlying24 HNUM.out (kl_key HHS.out) (val := .slice A' n c') (d := .held (.slice A' n c')) (ps := []) rfl
  have hpb : p ≠ b := fun e => by
    subst e
    obtain ⟨es, clock, hb3, _⟩ := hm
    rw [hh] at hb3; cases hb3
  have hp3 : w3.heap[p]? = w.heap[p]? := (hg3.block p (Nat.lt_of_lt_of_le hlt hb2.size) (fun e => hpb (by injection e))).trans (hb2.block p hlt)
  have he3 : Ent w3 Pd D L := he.keep (fun i hi hPi hnm => by
    have hib : i ≠ b := fun e => by
      subst e
      obtain ⟨es, clock, hb3, _⟩ := hm
      exact hnm es clock hb3
    exact (hg3.block i (Nat.lt_of_lt_of_le hi hb2.size) (fun e => hib (by injection e))).trans (hb2.block i hi))
  have hrow : Own w3 w.heap.size 5 A' n c' (By xs) := by
    refine Own.kept ho' hg3 ?_
    cases hA : blk A' with
    | none => exact .inl rfl
    | some g =>
      right
      intro e
      injection e with e
      have := (ho'.lies g hA).1
      have hbl := hm.lt
      have e2 : (w.drewN k).heap.size = w.heap.size := rfl
      omega
  refine ⟨A', c', w3, rfl, hst, ?_, ?_, ⟨HPp.out, .inr ⟨b, _, hp3.trans hh, HPb.out, tight hm3, he3.put (hm.tidy key9) HHS.out HN.out hhas hrow hx.2 (fun g hg => HNEW.out g (ho'.lies g hg).1)⟩⟩, ?_, ?_⟩
  · exact (hb2.cell (p := ⟨p, 0, none⟩) hlt).trans hc
  · rw [World.cell?_of_block (a := ⟨p, 0, none⟩) hp3]; exact hc
  · refine ⟨Nat.le_trans hb2.size hg3.size, fun i hi hip hnm => ?_⟩
    have hib : i ≠ b := fun e => by
      subst e
      obtain ⟨es, clock, hb3, _⟩ := hm
      exact hnm es clock hb3
    exact (hg3.block i (Nat.lt_of_lt_of_le hi hb2.size) (fun e => hib (by injection e))).trans (hb2.block i hi)
  · have hlt2 := hm.lt
    have hbp := HBASE.out p HPp.out
    have hs2 := hb2.size
    refine (hb2.mono (by omega)).grown hg3 (by omega) ?_
    intro j hj
    injection hj with hj
    subst hj
    exact HBASE.out b HPb.out

set_option maxRecDepth 100000 in
set_option maxHeartbeats 2000000 in
theorem put_any (p : Nat) (L : Things) (Pd : Nat → Prop) (S : ByteArray) (A : Option Addr) (n c base : Nat) (xs : List Int) (w : World) (hv : Vt w Pd p L) (hS : S.size ≤ maxLen) (hx : Bs w A n xs) (hn : n ≤ 140737488355328) (hnum : L.length < 1000000)
    (hnew : ∀ i, w.heap.size ≤ i → Pd i) (hbase : ∀ i, Pd i → base ≤ i) :
    Calls Tryd.prog 10 #[.pointer (some ⟨p, 0, none⟩), .string S, .slice A n c] w fun e w' => ∃ (k : Int) (L' : Things), e = .returned (.int .i64 k) ∧ PutR L L' S xs k ∧ Vt w' Pd p L' ∧ Vfr p w w' ∧ Below base w w' := by
  obtain ⟨hlt, hfz, ⟨hc, hh, hL0⟩ | ⟨b, D, hc, hh, hPb, hm, he⟩⟩ := hv.cell
  · have HPp := Lib.hid hv.1
    have HN : Hid (∀ ys, (S, ys) ∉ L) := fun ys h => by rw [hL0] at h; simp at h
    have HL := Box.mk hL0
    obtain ⟨w0, hw0⟩ : ∃ w0, w0 = w.setCell ⟨p, 0, none⟩ (.map (some w.heap.size)) := ⟨_, rfl⟩
    have hs0 : w0.heap.size = w.heap.size := by rw [hw0]; simp [World.setCell]
    have hh0 : w0.heap[p]? = some (.cells #[.map (some w.heap.size)] 26 (0, 0)) := by rw [hw0]; exact setcell_one hh
    have hm0 := World.ownsMap_made w0 Tryd.prog 9 raw
    have hb01 := below_alloc w0 (.map #[] 0)
    have hon : Onl p w w0 := by rw [hw0]; exact onl_set w p 0 _
    obtain ⟨w1, hw1⟩ : ∃ w1, w1 = w0.alloc (.map #[] 0) := ⟨_, rfl⟩
    rw [← hw1] at hm0 hb01
    rw [hs0] at hm0
    have hh1 : w1.heap[p]? = some (.cells #[.map (some w.heap.size)] 26 (0, 0)) := (hb01.block p (by omega)).trans hh0
    have hc1 : w1.cell? ⟨p, 0, none⟩ = some (.map (some w.heap.size)) := by rw [cell_of_row _ _ 0 _ _ _ hh1]; rfl
    have he1 : Ent w1 Pd (.map []) L := by rw [hL0]; exact ⟨rfl, fun S xs h => by simp at h, fun x h => by simp [Maps.has] at h, List.Pairwise.nil⟩
    have hs1 : w1.heap.size = w.heap.size + 1 := by rw [hw1]; simp [hs0]
    have hfr1 : Vfr p w w1 := ⟨by omega, fun i hi hip _ => (hb01.block i (by omega)).trans (hon.block i hi (fun e => hip (by injection e)))⟩
    have hbe1 : Below base w w1 := by
      have hbp := hbase p HPp.out
      exact ((hon.below (by omega)).mono hbp).trans (hb01.mono (by omega))
    have hx1 : Bs w1 A n xs := by
      rcases Nat.eq_zero_or_pos n with h | h
      · subst h
        have : xs = [] := List.eq_nil_of_length_eq_zero hx.len
        subst this; exact Bs.nil_
      · obtain ⟨b, off, x, rfl, _, _, _, hcx, _⟩ := hx.at_ h
        refine (hx.onl hon (fun e => ?_)).keep hb01
        have e2 : b = p := by injection e
        subst e2
        rw [cell_of_row _ _ (off + 0) _ _ _ hh] at hcx
        rcases off with _ | off
        · simp at hcx
        · simp at hcx
    rw [show (DataW.map [] : DataW Value) = .map [] from rfl] at hm0
    have HNEW : Hid (∀ i, w1.heap.size ≤ i → Pd i) := fun i hi => hnew i (by omega)
    have HPb : Hid (Pd w.heap.size) := hnew _ (Nat.le_refl _)
    have HHS := Box.mk hS
    have HHN := Box.mk hn
    have HCL := Lib.hid (clput p w.heap.size (.map []) L Pd S A n c base xs w1 hh1 hc1 hm0 he1 hx1 HHS HHN ⟨by show 0 < maxLen; unfold maxLen; omega⟩ HN rfl HPp HPb HNEW (Lib.hid hbase))
    have HR : Hid (PutR L ((S, xs) :: L) S xs 0) := .inr (.inr ⟨rfl, HN.out, rfl⟩)
    have HV := Lib.hid (And.intro hfr1 hbe1)
    have hln := Maps.look_nil (P := Tryd.prog) (w := w) true key9 Tryd.underlying24 (zero28 w) (kl_key hS)
    have hme := mapeq_none
    have hmm := @run_makeMap Tryd.prog
    clear hv hL0 hnum hnew hbase hm0 he1 hx hx1 hb01 hfr1 hbe1 hS hn hon hh0 hs0 hs1 hh1 HNEW HPb
    subst hw0
    go_enter Tryd.func10, Tryd.ntmps10
    go_wp2_with fail
    rw [← hw1]
    clear hw1 hc hh hln hfz
    go_region_held3 (fun w' => w'.cell? ⟨p, 0, none⟩ = some (.map (some w.heap.size))) (first | assumption | (simp [*]; done)) (first | (refine (HCL.out _).mono ?_; rintro e w2 ⟨A', c', w3, rfl, hst, hc2, hc3, hv3, hf3, hb3⟩))
    all_goals (go_wp2; go_ret; exact ⟨0, _, rfl, HR.out, hv3, HV.out.1.trans hf3, HV.out.2.trans hb3⟩)
  · rcases he.look hm hS with ⟨ys, B, m, d, bs, hmem, hr, ho, hg, hrun⟩ | ⟨hno, hhas, hrun⟩
    · have hbs := ho.bs hr
      by_cases hxy : ys = xs
      · have HR : Hid (PutR L L S xs 0) := .inl ⟨rfl, by rw [← hxy]; exact hmem, rfl⟩
        have HV := Lib.hid hv
        have hbe := bequal_any B A m n d c ys xs w hbs hx
        rw [show decide (ys = xs) = true by simp [hxy]] at hbe
        clear hv hmem hxy he hm hnum hnew hbase
        go_enter Tryd.func10, Tryd.ntmps10
        go_wp2_with fail
        refine hbe.mono ?_
        rintro e w' ⟨rfl, rfl⟩
        go_wp2
        go_ret
        exact ⟨0, L, rfl, HR.out, HV.out, Vfr.refl _ _, Below.refl _ _⟩
      · have HR : Hid (PutR L L S xs 7) := .inr (.inl ⟨rfl, ⟨ys, hmem, hxy⟩, rfl⟩)
        have HV := Lib.hid hv
        have hbe := bequal_any B A m n d c ys xs w hbs hx
        rw [show decide (ys = xs) = false by simp [hxy]] at hbe
        clear hv hmem hxy he hm hnum hnew hbase
        go_enter Tryd.func10, Tryd.ntmps10
        go_wp2_with fail
        refine hbe.mono ?_
        rintro e w' ⟨rfl, rfl⟩
        go_wp2
        go_ret
        exact ⟨7, L, rfl, HR.out, HV.out, Vfr.refl _ _, Below.refl _ _⟩
    · have HN := Lib.hid hno
      have HPb := Lib.hid hPb
      have HNEW := Lib.hid hnew
      have HBASE := Lib.hid hbase
      have HPp := Lib.hid hv.1
      have HNUM : Box (Maps.size D < maxLen) := ⟨by rw [he.num]; unfold maxLen; omega⟩
      have HHS := Box.mk hS
      have HHN := Box.mk hn
      clear hno hv hnew hbase hPb hS hnum hn
      have hme := mapeq_some b
      go_enter Tryd.func10, Tryd.ntmps10
      go_wp2_with fail
      have HCL := Lib.hid (clput p b D L Pd S A n c base xs w hh hc hm he hx HHS HHN HNUM HN hhas HPp HPb HNEW HBASE)
      have HR : Hid (PutR L ((S, xs) :: L) S xs 0) := .inr (.inr ⟨rfl, HN.out, rfl⟩)
      clear he hm hh hx
      go_region_held3 (fun w' => w'.cell? ⟨p, 0, none⟩ = some (.map (some b))) (first | assumption | (simp [*]; done)) (first | (refine (HCL.out _).mono ?_; rintro e w2 ⟨A', c', w3, rfl, hst, hc2, hc3, hv3, hf3, hb3⟩))
      all_goals (go_wp2; go_ret; exact ⟨0, _, rfl, HR.out, hv3, hf3, hb3⟩)
end Go.Proofs.YtlphlogliphhdaaDoor
