/- RecTwice, where the arguments hold together at most 1048576 values: the law returns true and its arguments read afterwards as they read before. -/
import Derived.Test.YtmjjbfcblmmipaaTwiceB
import Derived.Test.YtmjjbfcblmmipaaTwiceK
import Derived.Test.YtmjjbfcblmmipaaOpenR
import Derived.ChangeOld
import Derived.SizedLaws
import Derived.JoinedCond
namespace Go.Proofs.Ytmjjbfcblmmipaa.recTwice
open Go.ChangeShapes Go.WideShapes Go.ChangeAt Go.RowKit
open Go.ChangeMaps (open_string shut_string)
set_option linter.unusedVariables false
set_option linter.unusedSimpArgs false

theorem own : ownKnob Try.prog.godebug = none := by kernel_rfl
theorem laidOut : laidOutB Try.prog = true := by kernel_rfl
theorem walk (x : Rc) (s : Sl) (AB : Option Addr) (nB cB : Nat) (bs : List Int) (w : World) (hT : RcT w x s) (hR : Ran x.name) (hb : Bs w AB nB bs) (hB : RcB x) (bB : nB ≤ 1048576)
    (hn : tot (trP x.ws) + tot (trP x.rs) + x.shards.length + x.reply.length + x.name.length ≤ 1048576) :
    Calls Try.prog 7 #[.agg (rcV x.kind x.boot x.sess x.seq s.AW s.nW s.cW s.AR s.nR s.cR x.commit s.AS s.nS s.cS s.AP s.nP s.cP x.id (strOfNums x.name)), .slice AB nB cB] w fun e w' => e = .returned (.bool true) ∧ Below w.heap.size w w' := by
  obtain ⟨AW, nW, cW, AR, nR, cR, AS, nS, cS, AP, nP, cP⟩ := s
  have h1 := trs_tot x.ws; have h2 := trs_tot x.rs
  have l1 := trs_len x.ws; have l2 := trs_len x.rs
  have a1 : x.ws.length = nW := hT.ws.1
  have a2 : x.rs.length = nR := hT.rs.1
  have a3 : x.shards.length = nS := hT.sh.len
  have a4 : x.reply.length = nP := hT.rp.len
  have hL := recL_bd x hn
  have hX : RcR w x ⟨AW, nW, cW, AR, nR, cR, AS, nS, cS, AP, nP, cP⟩ := ⟨hT.ws, hT.rs, hT.sh, hT.rp, hT.rc, hB.boot, hB.sess, hB.seq, hB.id, hR, (show nW ≤ 20000000 by omega), (show nR ≤ 20000000 by omega), (show nS ≤ 20000000 by omega), by omega, by omega⟩
  by_cases hk : 1 ≤ x.kind ∧ x.kind ≤ 9
  · exact twice_ok x AW nW cW AR nR cR AS nS cS AP nP cP AB nB cB bs w hX hb hB hL (by omega) (by omega) (by omega) (by omega) (by omega) (by omega) (by omega) hk
  · exact twice_bad x AW nW cW AR nR cR AS nS cS AP nP cP AB nB cB bs w hX hb hB hL (by omega) (by omega) (by omega) (by omega) (by omega) (by omega) (by omega) hk

set_option maxRecDepth 100000 in
theorem contract (H : Type) (enc : TypeId × Value → H) (W : World) (base : Nat) (args : Array Value) (ds gs : List (DataW H)) (before : List MemPlace)
    (hval : ∀ (j : Nat) t v, Try.f7.params[j]? = some t → args[j]? = some v → Value.okWide Try.prog W .any base t v)
    (hW : DataW.Whole enc Try.prog Try.f7.params.toList Rows.recTwiceSpec.vars false W args.toList ds gs before)
    (hk : Rows.uptoSmall H (ds ++ gs) = true) :
    Calls Try.prog 7 args W fun e W' => ∃ v, e = .returned v ∧ Rows.recTwiceSpec.post enc Try.prog Try.f7 false true false false W args v W' := by
  have hW' := hW
  obtain ⟨p, q, hA0, hV, rfl, hfz, hnd⟩ := hW
  have hA : DataW.TrodAll enc Try.prog W 0 (fun _ => true) true Try.f7.params.toList args.toList ds p := hA0
  rw [Try.params7] at hA hval
  obtain ⟨v0, vs0, d0, ds0, p0, q0, hargs, rfl, rfl, h0, r0⟩ := trodAll_cons hA
  obtain ⟨v1, vs1, d1, ds1, p1, q1, hargs1, rfl, rfl, h1, r1⟩ := trodAll_cons r0
  obtain ⟨rfl, rfl, rfl⟩ := trodAll_nil r1
  obtain rfl : args = #[v0, v1] := Array.toList_inj.1 (by rw [hargs, hargs1])
  obtain ⟨rfl, rfl⟩ := trodVars_none hV
  have hv0 := hval 0 30 v0 rfl rfl
  obtain ⟨cs0, hcs0, _⟩ := okWide_struct u30 hv0
  subst hcs0
  obtain ⟨a1, len1, cap1, rfl⟩ := okWide_slice Try.underlying28 (hval 1 28 v1 rfl rfl)
  have lt0 := trod_lt' h0
  have lt1 := trod_lt' h1
  simp only [List.append_nil] at hW' hk
  have hbk : Rows.uptoBulkAll [d0, d1] ≤ 1048576 := of_decide_eq_true hk
  simp only [Rows.uptoBulkAll] at hbk
  obtain ⟨fu0, hf0⟩ := h0
  obtain ⟨fu1, hf1⟩ := h1
  obtain ⟨x, s, hcs, hT, hB, hR, hn⟩ := el_rec hf0
  obtain ⟨bs, AB, cB, hcb, hbs, hbc, hbl⟩ := el_bs Try.underlying28 Try.underlying5 cz5 hf1
  have hcs' : cs0 = rcV x.kind x.boot x.sess x.seq s.AW s.nW s.cW s.AR s.nR s.cR x.commit s.AS s.nS s.cS s.AP s.nP s.cP x.id (strOfNums x.name) := by
    have : cs0.toList = _ := hcs
    rw [← Array.toArray_toList (xs := cs0), this]
  subst hcs'
  have hcb' : Value.slice a1 len1 cap1 = .slice AB bs.length cB := by simpa [Value.cells] using hcb
  injection hcb' with e1 e2 e3
  subst e1 e2 e3
  have hn' : tot (trP x.ws) + tot (trP x.rs) + x.shards.length + x.reply.length + x.name.length ≤ Rows.uptoBulk d0 := hn
  have hbl' : bs.length + 1 ≤ Rows.uptoBulk d1 := hbl
  clear hA0
  refine (walk x s a1 bs.length cap1 bs W hT hR hbs hB (by omega) (by omega)).mono fun e W' ⟨he, bel⟩ => ?_
  subst he
  exact ⟨_, rfl, _, _, _, [], _, [], hW', trodAll_mk1 (shut_bool Try.underlying4 _), (trodAll_cons_mk (Below.trod laidOut (by kernel_rfl) (of_decide_eq_true (by kernel_rfl)) ⟨fu0, hf0⟩ bel lt0) (trodAll_cons_mk (Below.trod laidOut (by kernel_rfl) (of_decide_eq_true (by kernel_rfl)) ⟨fu1, hf1⟩ bel lt1) trodAll_mk0)), rfl, bel.frame _, fun h => by cases h⟩

set_option maxRecDepth 100000 in
theorem lifted (os : Os) (started : os.Started) (H : Type) (enc : TypeId × Value → H) (F : Stop.Interp) :
    ReturnsInHanded {} Try.checked os 7 .any ((Rows.OpenSpec.upto Rows.recTwiceSpec).pre6 enc Try.prog Try.f7 Rows.recTwiceUptoRow.domain false) (((Rows.OpenSpec.upto Rows.recTwiceSpec).at F).post enc Try.prog Try.f7 false true false false) := by
  refine returnsInHanded_of_cond (C := Try.checked) (s := Rows.OpenSpec.upto Rows.recTwiceSpec) (k := Rows.uptoSmall) rfl own started (by kernel_rfl) Try.func7
    (OpenSpec.witness (enc := enc) (C := Try.checked) (s := Rows.OpenSpec.upto Rows.recTwiceSpec) (k := Rows.uptoSmall) rfl false ⟨#[], #[.agg #[.int .i64 0, .int .u64 0, .int .u64 0, .int .u64 0, .slice none 0 0, .slice none 0 0, .bool false, .slice none 0 0, .slice none 0 0, .int .u64 0, .string ⟨#[]⟩], .slice none 0 0], []⟩ 12 (by kernel_rfl) (by kernel_rfl) (by kernel_rfl)
      (x := ([.agg [.lit (.int .i64 0), .agg [.lit (.int .u64 0), .lit (.int .u64 0), .lit (.int .u64 0)], .nil, .nil, .lit (.bool false), .nil, .nil, .lit (.int .u64 0), .lit (.string [])], .nil], [], [])) (by kernel_rfl) rfl (by kernel_rfl)) ?_
  intro W base args ds gs before hval hW _ hk _
  exact contract H enc W base args ds gs before hval hW hk
end Go.Proofs.Ytmjjbfcblmmipaa.recTwice
namespace Go.Proofs.Ytmjjbfcblmmipaa
theorem recTwiceUpto_holds : Rows.RecTwiceUptoSaid :=
  OpenClaim.holds_of_cond 7 Try.f7 rfl rfl rfl rfl rfl rfl rfl ⟨rfl, rfl, rfl, rfl, rfl⟩ rfl rfl rfl rfl rfl (by kernel_rfl) Try.func7 (by kernel_rfl)
    (of_decide_eq_true (by kernel_rfl)) (by unfold Func.isWrapper; first | (rw [if_pos (by decide +kernel)]; kernel_rfl) | (rw [if_neg (by decide +kernel)]; exact ⟨rfl, rfl⟩))
    (fun os started H enc _ F => recTwice.lifted os started H enc F)
#print axioms recTwiceUpto_holds
end Go.Proofs.Ytmjjbfcblmmipaa
