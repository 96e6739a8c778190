/- RecTwice: the walk. -/
import Derived.Test.YtmjjbfcblmmipaaAwakeR
import Derived.Test.YtmjjbfcblmmipaaOwnW
namespace Go.Proofs.Ytmjjbfcblmmipaa
set_option linter.unusedVariables false
set_option linter.unusedSimpArgs false
open Go.RowKit

/-- A record's slices read. -/
structure RcT (w : World) (x : Rc) (s : Sl) : Prop where
  ws : Trs w s.AW s.nW x.ws
  rs : Trs w s.AR s.nR x.rs
  sh : Ins w s.AS s.nS x.shards
  rp : Bs w s.AP s.nP x.reply
  rc : s.nP ≤ s.cP
theorem RcT.keep {w w' : World} {x : Rc} {s : Sl} (h : RcT w x s) (hb : Below w.heap.size w w') : RcT w' x s := ⟨h.ws.keep hb, h.rs.keep hb, h.sh.keep hb, h.rp.keep hb, h.rc⟩
theorem RcO.rcT {w : World} {base : Nat} {x : Rc} {s : Sl} (h : RcO w base x s) (hs : ∀ z ∈ x.shards, -9223372036854775808 ≤ z ∧ z ≤ 9223372036854775807) : RcT w x s := ⟨h.ws.trs, h.rs.trs, ⟨h.sh.rd, hs⟩, h.rp.bs h.rr, h.rp.cap⟩
theorem trim_sh (x : Rc) (h : ∀ z ∈ x.shards, -9223372036854775808 ≤ z ∧ z ≤ 9223372036854775807) : ∀ z ∈ (trimR x).shards, -9223372036854775808 ≤ z ∧ z ≤ 9223372036854775807 := by
  intro z hz
  unfold trimR at hz
  simp only at hz
  split at hz
  · exact h z hz
  · cases hz
/-- What is known of a trimmed record. -/
structure TB (x tr : Rc) : Prop where
  boot : 0 ≤ tr.boot ∧ tr.boot ≤ 18446744073709551615
  sess : 0 ≤ tr.sess ∧ tr.sess ≤ 18446744073709551615
  seq : 0 ≤ tr.seq ∧ tr.seq ≤ 18446744073709551615
  id : 0 ≤ tr.id ∧ tr.id ≤ 18446744073709551615
  name : Ran tr.name
  tW : (trs tr.ws).length ≤ 12000001
  tR : (trs tr.rs).length ≤ 12000001
  bS : tr.shards.length ≤ 10000000
  bP : tr.reply.length ≤ 10000000
  by_ : recL tr = recL x
theorem trs_len (l : List Tr) : 3 * l.length ≤ (trs l).length := by
  have h := (joinL_bd (trP l)).1
  rw [trP_length] at h
  exact h
theorem rcT_R {x tr : Rc} {w : World} {s : Sl} (h : RcT w tr s) (k : TB x tr) : RcR w tr s := by
  have h1 := h.ws.1; have h2 := h.rs.1; have h3 := h.sh.len
  have l1 := trs_len tr.ws; have l2 := trs_len tr.rs
  have t1 := k.tW; have t2 := k.tR; have t3 := k.bS
  exact ⟨h.ws, h.rs, h.sh, h.rp, h.rc, k.boot, k.sess, k.seq, k.id, k.name, by omega, by omega, by omega, by omega, by omega⟩
theorem partL_trim (x : Rc) (c : Int) (hc : c ∈ fl x.kind) : partL (trimR x) c = partL x c := by
  have hcon : (fl x.kind).contains c = true := by simpa using hc
  rcases (fl_mem hc).1 with rfl | rfl | rfl | rfl | rfl | rfl | rfl | rfl
  · show txB (trimR x) = txB x
    unfold txB trimR; simp only [hcon, if_true]
  · show trs (trimR x).ws = trs x.ws
    unfold trimR; simp only [hcon, if_true]
  · show trs (trimR x).rs = trs x.rs
    unfold trimR; simp only [hcon, if_true]
  · show [flagB (trimR x).commit] = [flagB x.commit]
    unfold trimR; simp only [hcon, Bool.true_and]
  · show shB (trimR x) = shB x
    unfold shB trimR; simp only [hcon, if_true]
  · show (trimR x).reply = x.reply
    unfold trimR; simp only [hcon, if_true]
  · show num (trimR x).id = num x.id
    unfold trimR; simp only [hcon, if_true]
  · show (trimR x).name = x.name
    unfold trimR; simp only [hcon, if_true]
theorem recL_trim (x : Rc) : recL (trimR x) = recL x := by
  have h : (fl x.kind).map (partL (trimR x)) = (fl x.kind).map (partL x) := List.map_congr_left fun c hc => partL_trim x c hc
  show joinL ([x.kind % 256] :: (fl x.kind).map (partL (trimR x))) = joinL ([x.kind % 256] :: (fl x.kind).map (partL x))
  rw [h]
theorem trim_R (x tr : Rc) (ht : trimR x = tr) (hk : 1 ≤ x.kind ∧ x.kind ≤ 9) (hL : (recL x).length ≤ 12000000) {w : World} {s : Sl} (hx : RcR w x s) (hB : RcB x) (tW : (trs x.ws).length ≤ 12000000) (tR : (trs x.rs).length ≤ 12000000) (bS : s.nS ≤ 10000000) (bP : s.nP ≤ 10000000) : TB x tr := by
  subst ht
  have h3 := hx.sh.len; have h4 := hx.rp.len
  have e0 : (trs []).length = 1 := by decide
  refine ⟨?_, ?_, ?_, ?_, ?_, ?_, ?_, ?_, ?_, recL_trim x⟩
  all_goals unfold trimR; simp only
  all_goals split
  all_goals first | exact hB.boot | exact hB.sess | exact hB.seq | exact hB.id | exact hx.name | exact Ran.nil | omega | (simp; done)
theorem same_any {x : Rc} (tr : Rc) (s1 s2 : Sl) (w : World) (h1 : RcT w tr s1) (h2 : RcT w tr s2) (k : TB x tr) :
    Calls Try.prog 18 #[.agg (rcV tr.kind tr.boot tr.sess tr.seq s1.AW s1.nW s1.cW s1.AR s1.nR s1.cR tr.commit s1.AS s1.nS s1.cS s1.AP s1.nP s1.cP tr.id (strOfNums tr.name)), .agg (rcV tr.kind tr.boot tr.sess tr.seq s2.AW s2.nW s2.cW s2.AR s2.nR s2.cR tr.commit s2.AS s2.nS s2.cS s2.AP s2.nP s2.cP tr.id (strOfNums tr.name))] w fun e w' => e = .returned (.bool true) ∧ Below w.heap.size w w' := by
  obtain ⟨AW, nW, cW, AR, nR, cR, AS, nS, cS, AP, nP, cP⟩ := s1
  obtain ⟨BW, mW, dW, BR, mR, dR, BS, mS, dS, BP, mP, dP⟩ := s2
  have e1 : mW = nW := h2.ws.1.symm.trans h1.ws.1
  have e2 : mR = nR := h2.rs.1.symm.trans h1.rs.1
  have e3 : mS = nS := h2.sh.len.symm.trans h1.sh.len
  have e4 : mP = nP := h2.rp.len.symm.trans h1.rp.len
  subst e1 e2 e3 e4
  have l1 := trs_len tr.ws; have l2 := trs_len tr.rs
  have t1 := k.tW; have t2 := k.tR; have t3 := k.bS; have t4 := k.bP
  have a1 : tr.ws.length = mW := h1.ws.1
  have a2 : tr.rs.length = mR := h1.rs.1
  have a3 : tr.shards.length = mS := h1.sh.len
  have a4 : tr.reply.length = mP := h1.rp.len
  refine same_core _ _ _ _ _ _ _ AW BW mW cW dW AR BR mR cR dR AS BS mS cS dS AP BP mP cP dP tr.ws tr.rs tr.shards tr.reply w h1.ws h2.ws h1.rs h2.rs h1.sh h2.sh h1.rp h2.rp (by omega) (by omega) (by omega) (by unfold maxLen; omega) (fun t ht => ?_) (fun t ht => ?_)
  · have := trs_bd tr.ws _ t1 t ht; unfold maxLen; omega
  · have := trs_bd tr.rs _ t2 t ht; unfold maxLen; omega
theorem trim_any (x tr : Rc) (ht : trimR x = tr) (hk : 1 ≤ x.kind ∧ x.kind ≤ 9) (AW : Option Addr) (nW cW : Nat) (AR : Option Addr) (nR cR : Nat) (AS : Option Addr) (nS cS : Nat) (AP : Option Addr) (nP cP : Nat) (w : World) (h : RcR w x ⟨AW, nW, cW, AR, nR, cR, AS, nS, cS, AP, nP, cP⟩) :
    Calls Try.prog 21 #[.agg (rcV x.kind x.boot x.sess x.seq AW nW cW AR nR cR x.commit AS nS cS AP nP cP x.id (strOfNums x.name))] w fun e w' => ∃ EW eW fW ER eR fR ES eS fS EP eP fP, e = .returned (.agg (rcV tr.kind tr.boot tr.sess tr.seq EW eW fW ER eR fR tr.commit ES eS fS EP eP fP tr.id (strOfNums tr.name))) ∧ RcT w' tr ⟨EW, eW, fW, ER, eR, fR, ES, eS, fS, EP, eP, fP⟩ ∧ Below w.heap.size w w' := by
  subst ht
  obtain ⟨xk, xb, xs, xq, xws, xrs, xc, xsh, xrp, xi, xn⟩ := x
  simp only at hk
  have hc : xk = 1 ∨ xk = 2 ∨ xk = 3 ∨ xk = 4 ∨ xk = 5 ∨ xk = 6 ∨ xk = 7 ∨ xk = 8 ∨ xk = 9 := by omega
  have N : Ins w none 0 [] := ⟨Rd.nil_, fun _ h => by cases h⟩
  rcases hc with rfl | rfl | rfl | rfl | rfl | rfl | rfl | rfl | rfl
  · refine (trim_1 xb xs xq AW nW cW AR nR cR xc AS nS cS AP nP cP xi (strOfNums xn) w).mono ?_
    rintro e w' ⟨rfl, hb⟩
    exact ⟨AW, nW, cW, AR, nR, cR, none, 0, 0, none, 0, 0, rfl, ⟨h.ws.keep hb, h.rs.keep hb, N.keep hb, Bs.nil_, Nat.le_refl _⟩, hb⟩
  · refine (trim_2 xb xs xq AW nW cW AR nR cR xc AS nS cS AP nP cP xi (strOfNums xn) w).mono ?_
    rintro e w' ⟨rfl, hb⟩
    exact ⟨none, 0, 0, none, 0, 0, none, 0, 0, none, 0, 0, rfl, ⟨Trs.nil_, Trs.nil_, N.keep hb, Bs.nil_, Nat.le_refl _⟩, hb⟩
  · refine (trim_3 xb xs xq AW nW cW AR nR cR xc AS nS cS AP nP cP xi (strOfNums xn) w).mono ?_
    rintro e w' ⟨rfl, hb⟩
    exact ⟨none, 0, 0, none, 0, 0, none, 0, 0, none, 0, 0, rfl, ⟨Trs.nil_, Trs.nil_, N.keep hb, Bs.nil_, Nat.le_refl _⟩, hb⟩
  · refine (trim_4 xb xs xq AW nW cW AR nR cR xc AS nS cS AP nP cP xi (strOfNums xn) w).mono ?_
    rintro e w' ⟨rfl, hb⟩
    exact ⟨AW, nW, cW, none, 0, 0, none, 0, 0, AP, nP, cP, rfl, ⟨h.ws.keep hb, Trs.nil_, N.keep hb, h.rp.keep hb, h.rc⟩, hb⟩
  · refine (trim_5 xb xs xq AW nW cW AR nR cR xc AS nS cS AP nP cP xi (strOfNums xn) w).mono ?_
    rintro e w' ⟨rfl, hb⟩
    exact ⟨none, 0, 0, none, 0, 0, none, 0, 0, none, 0, 0, rfl, ⟨Trs.nil_, Trs.nil_, N.keep hb, Bs.nil_, Nat.le_refl _⟩, hb⟩
  · refine (trim_6 xb xs xq AW nW cW AR nR cR xc AS nS cS AP nP cP xi (strOfNums xn) w).mono ?_
    rintro e w' ⟨rfl, hb⟩
    exact ⟨none, 0, 0, none, 0, 0, AS, nS, cS, AP, nP, cP, rfl, ⟨Trs.nil_, Trs.nil_, h.sh.keep hb, h.rp.keep hb, h.rc⟩, hb⟩
  · refine (trim_7 xb xs xq AW nW cW AR nR cR xc AS nS cS AP nP cP xi (strOfNums xn) w).mono ?_
    rintro e w' ⟨rfl, hb⟩
    exact ⟨none, 0, 0, none, 0, 0, none, 0, 0, none, 0, 0, rfl, ⟨Trs.nil_, Trs.nil_, N.keep hb, Bs.nil_, Nat.le_refl _⟩, hb⟩
  · refine (trim_8 xb xs xq AW nW cW AR nR cR xc AS nS cS AP nP cP xi (strOfNums xn) w).mono ?_
    rintro e w' ⟨rfl, hb⟩
    exact ⟨none, 0, 0, none, 0, 0, none, 0, 0, none, 0, 0, rfl, ⟨Trs.nil_, Trs.nil_, N.keep hb, Bs.nil_, Nat.le_refl _⟩, hb⟩
  · refine (trim_9 xb xs xq AW nW cW AR nR cR xc AS nS cS AP nP cP xi (strOfNums xn) w).mono ?_
    rintro e w' ⟨rfl, hb⟩
    exact ⟨none, 0, 0, none, 0, 0, none, 0, 0, none, 0, 0, rfl, ⟨Trs.nil_, Trs.nil_, N.keep hb, Bs.nil_, Nat.le_refl _⟩, hb⟩
end Go.Proofs.Ytmjjbfcblmmipaa
