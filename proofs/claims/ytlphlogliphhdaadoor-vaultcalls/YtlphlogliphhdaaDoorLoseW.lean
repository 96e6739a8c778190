/- vault.Lose. -/
import Derived.Test.YtlphlogliphhdaaDoorVaultW
namespace Go.Proofs.YtlphlogliphhdaaDoor
set_option linter.unusedVariables false
set_option linter.unusedSimpArgs false
open Go.RowKit Go.Maps

def out (S : ByteArray) (q : ByteArray × List Int) : Bool := !decide (S = q.1)
def los (L : Things) (ss : List ByteArray) : Things := L.filter fun q => !(ss.any fun s => decide (s = q.1))
def St (ss : List ByteArray) : List Value := ss.map Value.string
theorem los_nil (L : Things) : los L [] = L := by simp [los]
theorem los_none (ss : List ByteArray) : los [] ss = [] := by simp [los]
theorem los_take {L : Things} {ss : List ByteArray} {k : Nat} {S : ByteArray} (h : ss[k]? = some S) : los L (ss.take (k + 1)) = (los L (ss.take k)).filter (out S) := by
  unfold los
  rw [List.filter_filter]
  congr 1
  funext q
  rw [List.take_add_one, h, List.any_append, Bool.not_or, Bool.and_comm]
  simp [out]
theorem out_len {L : Things} {S : ByteArray} (hp : L.Pairwise (fun a b => a.1 ≠ b.1)) : ((∃ xs, (S, xs) ∈ L) → (L.filter (out S)).length + 1 = L.length) ∧ ((∀ xs, (S, xs) ∉ L) → L.filter (out S) = L) := by
  have no : ∀ {M : Things}, (∀ xs, (S, xs) ∉ M) → M.filter (out S) = M := fun {M} h => List.filter_eq_self.2 fun q hq => by
    unfold out
    simp only [Bool.not_eq_true', decide_eq_false_iff_not]
    intro e
    exact h q.2 (by rw [e]; exact hq)
  refine ⟨?_, no⟩
  induction L with
  | nil => rintro ⟨xs, h⟩; simp at h
  | cons q L ih =>
    rintro ⟨xs, h⟩
    obtain ⟨hq, hp2⟩ := List.pairwise_cons.1 hp
    by_cases e : S = q.1
    · have e1 : out S q = false := by simp [out, e]
      have hno : ∀ xs, (S, xs) ∉ L := fun ys hy => hq _ hy e.symm
      rw [List.filter_cons, e1]
      simp [no hno]
    · have e1 : out S q = true := by simp [out, e]
      have h2 : (S, xs) ∈ L := by
        rcases List.mem_cons.1 h with h | h
        · exact (e (by rw [← h])).elim
        · exact h
      rw [List.filter_cons, e1]
      simp only [if_true, List.length_cons]
      rw [ih hp2 ⟨xs, h2⟩]
theorem Ent.del {w' : World} {Pd : Nat → Prop} {D : DataW Value} {L : Things} (he : Ent w' Pd D L) (ht : Tidy D) (S : ByteArray) : Ent w' Pd (D.del (kl S)) (L.filter (out S)) := by
  refine ⟨?_, fun T xs hm => ?_, fun x hx => ?_, he.uniq.filter _⟩
  · have hs := size_del (k := kl S) ht
    have hn := he.num
    cases hh : Maps.has D (kl S) with
    | true =>
      rw [hh] at hs
      obtain ⟨S', xs, hmem, hk⟩ := he.back _ hh
      obtain rfl := kl_inj hk
      have := (out_len (S := S) he.uniq).1 ⟨xs, hmem⟩
      simp only [if_true] at hs
      omega
    | false =>
      rw [hh] at hs
      have hno : ∀ xs, (S, xs) ∉ L := fun xs h => by
        have := (he.all S xs h).1
        rw [hh] at this; cases this
      rw [(out_len (S := S) he.uniq).2 hno]
      simp at hs
      omega
  · obtain ⟨hm1, hm2⟩ := List.mem_filter.1 hm
    have hne : kl T ≠ kl S := fun e => by
      have := kl_inj e
      simp [out, this] at hm2
    obtain ⟨h1, h2, h3, A, n, c, base, h4, h5, h6⟩ := he.all T xs hm1
    exact ⟨by rw [has_del_other hne]; exact h1, h2, h3, A, n, c, base, fun z => by rw [atKey_del_other hne]; exact h4 z, h5, h6⟩
  · by_cases e : x = kl S
    · subst e; rw [has_del_same] at hx; cases hx
    · rw [has_del_other e] at hx
      obtain ⟨T, ys, hm, hk⟩ := he.back x hx
      refine ⟨T, ys, List.mem_filter.2 ⟨hm, ?_⟩, hk⟩
      have : ¬ S = T := fun h => e (by rw [hk, h])
      simp [out, this]

theorem St_at {w : World} {A : Option Addr} {n k : Nat} {ss : List ByteArray} (h : Rd w A n (St ss)) (hk : k < n) : ∃ b off S, A = some ⟨b, off, none⟩ ∧ w.cell? ⟨b, off + k, none⟩ = some (.string S) ∧ Hid (ss[k]? = some S) := by
  obtain ⟨b, off, u, hA, _, hc, HU⟩ := h.at_ hk
  have hu := HU.out
  have hl : ss.length = n := by have := h.1; simpa [St] using this
  simp only [St, List.getElem?_map, List.getElem?_eq_getElem (show k < ss.length by omega), Option.map_some, Option.some.injEq] at hu
  refine ⟨b, off, ss[k], hA, by rw [hc, ← hu], ?_⟩
  show _ = _
  rw [List.getElem?_eq_getElem (show k < ss.length by omega)]

/-- What the loop keeps. -/
structure LoseI (p b base : Nat) (Pd : Nat → Prop) (L : Things) (w wr : World) (D : DataW Value) : Prop where
  cell : wr.heap[p]? = some (.cells #[.map (some b)] 26 (0, 0))
  own : wr.ownsMap Tryd.prog 9 raw b (Maps.size D) D
  ent : Ent wr Pd D L
  fr : Vfr p w wr
  bel : Below base w wr
theorem LoseI.step {p b base : Nat} {Pd : Nat → Prop} {L : Things} {w wr w1 : World} {D : DataW Value} {S : ByteArray} {m : Nat} (h : LoseI p b base Pd L w wr D) (hb : base ≤ b) (ho : w1.ownsMap Tryd.prog 9 raw b m (D.del (kl S))) (ht : wr.mapTurned w1 b) : LoseI p b base Pd (L.filter (out S)) w w1 (D.del (kl S)) := by
  have hg := ht.grown
  have hmapb : ∃ es cl, wr.heap[b]? = some (.map es cl) := by
    obtain ⟨es, clock, hb3, _⟩ := h.own
    exact ⟨es, clock, hb3⟩
  have hpb : p ≠ b := fun e => by
    subst e
    obtain ⟨es, cl, hb3⟩ := hmapb
    rw [h.cell] at hb3; cases hb3
  refine ⟨?_, tight ho, (h.ent.keep fun i hi _ hnm => hg.block i hi (fun e => ?_)).del (h.own.tidy key9) S, h.fr.trans ⟨hg.size, fun i hi _ hnm => hg.block i hi (fun e => ?_)⟩, h.bel.grown hg (Nat.le_trans hb (Nat.le_of_lt h.own.lt)) (fun j hj => ?_)⟩
  · rw [hg.block p (lt_of_heap h.cell) (fun e => hpb (by injection e))]; exact h.cell
  · injection e with e
    subst e
    obtain ⟨es, cl, hb3⟩ := hmapb
    exact hnm es cl hb3
  · injection e with e
    subst e
    obtain ⟨es, cl, hb3⟩ := hmapb
    exact hnm es cl hb3
  · injection hj with hj
    subst hj; exact hb

set_option maxRecDepth 100000 in
set_option maxHeartbeats 2000000 in
theorem vlose_any (p : Nat) (L : Things) (Pd : Nat → Prop) (A : Option Addr) (n c base : Nat) (ss : List ByteArray) (w : World) (hv : Vt w Pd p L) (hs : Rd w A n (St ss)) (hAp : blk A ≠ some p) (hsz : ∀ s ∈ ss, s.size ≤ maxLen) (hn : n ≤ 1000000) (hnum : L.length ≤ 1000000) (hbase : ∀ i, Pd i → base ≤ i) :
    Calls Tryd.prog 13 #[.pointer (some ⟨p, 0, none⟩), .slice A n c] w fun e w' => e = .returned (.int .i64 ((L.length : Int) - ((los L ss).length : Int))) ∧ Vt w' Pd p (los L ss) ∧ Vfr p w w' ∧ Below base w w' := by
  have HLN : Hid (ss.length = n) := by show _ = _; have := hs.1; simpa [St] using this
  obtain ⟨hlt, hfz, ⟨hc, hh, hL0⟩ | ⟨b, D, hc, hh, hPb, hm, he⟩⟩ := hv.cell
  · subst hL0
    have HV := Lib.hid hv
    have HRD := Lib.hid hs
    have HSZ := Lib.hid hsz
    have hl := fun W ty => Maps.len_nil (P := Tryd.prog) (w := W) Tryd.underlying24 ty
    have hdr := fun (W : World) (S : ByteArray) (h : S.size ≤ maxLen) (ty : TypeId) => Maps.drop_nil (P := Tryd.prog) (w := W) key9 Tryd.underlying24 (kl_key h) ty
    clear hv hs hsz hAp hh hbase hnum
    go_enter Tryd.func13, Tryd.ntmps13
    go_wp2
    go_loopw [15] (fun v wr => ∃ k : Nat, v = .int .i64 (k : Int) ∧ k ≤ n ∧ w = wr) (fun v _ => n - (intOf v).toNat)
    case atStart => exact ⟨0, rfl, Nat.zero_le _, rfl⟩
    case round =>
      obtain ⟨k, rfl, hk, rfl⟩ := hrel
      by_cases hlt2 : k < n
      · obtain ⟨b, off, S, hA, hc1, HS⟩ := St_at HRD.out hlt2
        subst hA
        have hd := fun ty => hdr w S (HSZ.out S (List.mem_of_getElem? HS.out)) ty
        clear hdr
        go_wp2
        go_roundw
        case rel => exact ⟨k + 1, by go_num, by omega, trivial⟩
        case measure => simp [intOf]; omega
      · obtain rfl : k = n := by omega
        clear hdr
        go_wp2
        go_ret
        exact ⟨by rw [los_none]; rfl, by rw [los_none]; exact HV.out, Vfr.refl _ _, Below.refl _ _⟩
  · have hl := fun ty => hm.len Tryd.underlying24 ty
    rw [he.num] at hl
    have HI : Hid (LoseI p b base Pd (los L []) w w D) := by rw [los_nil]; exact ⟨hh, hm, he, Vfr.refl _ _, Below.refl _ _⟩
    have HRD := Lib.hid hs
    have HSZ := Lib.hid hsz
    have HP := Lib.hid hv.1
    have HPB := Lib.hid hPb
    have HAP := Lib.hid hAp
    have HBB := Lib.hid (hbase b hPb)
    clear hv hs hsz hAp hPb hm he hbase hh
    go_enter Tryd.func13, Tryd.ntmps13
    go_wp2
    go_loopw [15] (fun v wr => ∃ (k : Nat) (D' : DataW Value), v = .int .i64 (k : Int) ∧ k ≤ n ∧ Hid (LoseI p b base Pd (los L (ss.take k)) w wr D')) (fun v _ => n - (intOf v).toNat)
    case atStart => exact ⟨0, D, rfl, Nat.zero_le _, HI.out⟩
    case round =>
      obtain ⟨k, D', rfl, hk, HK⟩ := hrel
      have hcp : wr.cell? ⟨p, 0, none⟩ = some (.map (some b)) := by rw [cell_of_row _ _ 0 _ _ _ HK.out.cell]; rfl
      clear hc hfz hl
      by_cases hlt2 : k < n
      · obtain ⟨q, off, S, hA, hc0, HS⟩ := St_at HRD.out hlt2
        subst hA
        have hc1 : wr.cell? ⟨q, off + k, none⟩ = some (.string S) := by
          rw [World.cell?_of_block (a := ⟨q, off + k, none⟩) (HK.out.fr.block q ?_ ?_ ?_)]
          · exact hc0
          · obtain ⟨_, _, _, hA, h, _⟩ := HRD.out.at_ hlt2
            injection hA with hA
            injection hA with e1 _
            subst e1; exact h
          · intro e; exact HAP.out (by rw [← e]; rfl)
          · intro es cl hmm
            unfold World.cell? at hc0
            simp only [hmm] at hc0
            cases hc0
        have hown := HK.out.own
        have hkey := kl_key (HSZ.out S (List.mem_of_getElem? HS.out))
        clear hc0
        go_wp2_with (first | (at_delete; refine wpList_delete_own _ rfl _ _ 24 9 rfl 28 key9 Tryd.underlying24 raw b _ D' rfl hown _ _ rfl hkey ?_; intro w1 hown1 hturn1))
        have HN : Hid (LoseI p b base Pd (los L (ss.take (k + 1))) w w1 (D'.del (kl S))) := by
          show LoseI _ _ _ _ _ _ _ _
          rw [los_take HS.out]; exact HK.out.step HBB.out hown1 hturn1
        clear hown1 hturn1 hown hkey
        go_roundw
        case rel => exact ⟨k + 1, _, by go_num, by omega, HN.out⟩
        case measure => simp [intOf]; omega
      · obtain rfl : k = n := by omega
        have hl2 := fun ty => HK.out.own.len Tryd.underlying24 ty
        have e : los L (ss.take k) = los L ss := by rw [List.take_of_length_le (by rw [HLN.out]; exact Nat.le_refl _)]
        have hle : (los L ss).length ≤ L.length := List.length_filter_le _ _
        rw [HK.out.ent.num, e] at hl2
        have HE := Lib.hid e
        clear e
        go_wp2
        go_ret
        have hI := HK.out
        rw [HE.out] at hI
        exact ⟨by go_num, ⟨HP.out, .inr ⟨b, D', hI.cell, HPB.out, hI.own, hI.ent⟩⟩, hI.fr, hI.bel⟩
end Go.Proofs.YtlphlogliphhdaaDoor
