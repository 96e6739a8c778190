/- RecBytes, where the argument holds at most 1048576 values: the law returns true and its argument reads afterwards as it read before. -/
import Derived.Test.YtmjjbfcblmmipaaBytesLB
import Derived.Test.YtmjjbfcblmmipaaBytesLK
import Derived.Test.YtmjjbfcblmmipaaOpenR
import Derived.ChangeOld
import Derived.SizedLaws
import Derived.JoinedCond
namespace Go.Proofs.Ytmjjbfcblmmipaa.recBytes
open Go.ChangeShapes Go.WideShapes Go.ChangeAt Go.RowKit
open Go.ChangeMaps (open_string shut_string)
set_option linter.unusedVariables false
set_option linter.unusedSimpArgs false

theorem own : ownKnob Try.prog.godebug = none := by kernel_rfl
theorem laidOut : laidOutB Try.prog = true := by kernel_rfl
theorem walk (x : Rc) (s : Sl) (w : World) (hT : RcT w x s) (hR : Ran x.name) (hB : RcB x)
    (hn : tot (trP x.ws) + tot (trP x.rs) + x.shards.length + x.reply.length + x.name.length ≤ 1048576) :
    Calls Try.prog 3 #[.agg (rcV x.kind x.boot x.sess x.seq s.AW s.nW s.cW s.AR s.nR s.cR x.commit s.AS s.nS s.cS s.AP s.nP s.cP x.id (strOfNums x.name))] w fun e w' => e = .returned (.bool true) ∧ Below w.heap.size w w' := by
  obtain ⟨AW, nW, cW, AR, nR, cR, AS, nS, cS, AP, nP, cP⟩ := s
  have h1 := trs_tot x.ws; have h2 := trs_tot x.rs
  have l1 := trs_len x.ws; have l2 := trs_len x.rs
  have a1 : x.ws.length = nW := hT.ws.1
  have a2 : x.rs.length = nR := hT.rs.1
  have a3 : x.shards.length = nS := hT.sh.len
  have a4 : x.reply.length = nP := hT.rp.len
  have hL := recL_bd x hn
  have hX : RcR w x ⟨AW, nW, cW, AR, nR, cR, AS, nS, cS, AP, nP, cP⟩ := ⟨hT.ws, hT.rs, hT.sh, hT.rp, hT.rc, hB.boot, hB.sess, hB.seq, hB.id, hR, (show nW ≤ 20000000 by omega), (show nR ≤ 20000000 by omega), (show nS ≤ 20000000 by omega), by omega, by omega⟩
  by_cases hk : 1 ≤ x.kind ∧ x.kind ≤ 9
  · exact bytes_ok x AW nW cW AR nR cR AS nS cS AP nP cP w hX hB hL (by omega) (by omega) (by omega) (by omega) (by omega) (by omega) hk
  · exact bytes_bad x AW nW cW AR nR cR AS nS cS AP nP cP w hX hB hL (by omega) (by omega) (by omega) (by omega) (by omega) (by omega) hk

set_option maxRecDepth 100000 in
theorem contract (H : Type) (enc : TypeId × Value → H) (W : World) (base : Nat) (args : Array Value) (ds gs : List (DataW H)) (before : List MemPlace)
    (hval : ∀ (j : Nat) t v, Try.f3.params[j]? = some t → args[j]? = some v → Value.okWide Try.prog W .any base t v)
    (hW : DataW.Whole enc Try.prog Try.f3.params.toList Rows.recBytesSpec.vars false W args.toList ds gs before)
    (hk : Rows.uptoSmall H (ds ++ gs) = true) :
    Calls Try.prog 3 args W fun e W' => ∃ v, e = .returned v ∧ Rows.recBytesSpec.post enc Try.prog Try.f3 false true false false W args v W' := by
  have hW' := hW
  obtain ⟨p, q, hA0, hV, rfl, hfz, hnd⟩ := hW
  have hA : DataW.TrodAll enc Try.prog W 0 (fun _ => true) true Try.f3.params.toList args.toList ds p := hA0
  rw [Try.params3] at hA hval
  obtain ⟨v0, vs0, d0, ds0, p0, q0, hargs, rfl, rfl, h0, r0⟩ := trodAll_cons hA
  obtain ⟨rfl, rfl, rfl⟩ := trodAll_nil r0
  obtain rfl : args = #[v0] := Array.toList_inj.1 (by rw [hargs])
  obtain ⟨rfl, rfl⟩ := trodVars_none hV
  have hv0 := hval 0 30 v0 rfl rfl
  obtain ⟨cs0, hcs0, _⟩ := okWide_struct u30 hv0
  subst hcs0
  have lt0 := trod_lt' h0
  simp only [List.append_nil] at hW' hk
  have hbk : Rows.uptoBulkAll [d0] ≤ 1048576 := of_decide_eq_true hk
  simp only [Rows.uptoBulkAll] at hbk
  obtain ⟨fu0, hf0⟩ := h0
  obtain ⟨x, s, hcs, hT, hB, hR, hn⟩ := el_rec hf0
  have hcs' : cs0 = rcV x.kind x.boot x.sess x.seq s.AW s.nW s.cW s.AR s.nR s.cR x.commit s.AS s.nS s.cS s.AP s.nP s.cP x.id (strOfNums x.name) := by
    have : cs0.toList = _ := hcs
    rw [← Array.toArray_toList (xs := cs0), this]
  subst hcs'
  have hn' : tot (trP x.ws) + tot (trP x.rs) + x.shards.length + x.reply.length + x.name.length ≤ Rows.uptoBulk d0 := hn
  clear hA0
  refine (walk x s W hT hR hB (by omega)).mono fun e W' ⟨he, bel⟩ => ?_
  subst he
  exact ⟨_, rfl, _, _, _, [], _, [], hW', trodAll_mk1 (shut_bool Try.underlying4 _), (trodAll_cons_mk (Below.trod laidOut (by kernel_rfl) (of_decide_eq_true (by kernel_rfl)) ⟨fu0, hf0⟩ bel lt0) trodAll_mk0), rfl, bel.frame _, fun h => by cases h⟩

set_option maxRecDepth 100000 in
theorem lifted (os : Os) (started : os.Started) (H : Type) (enc : TypeId × Value → H) (F : Stop.Interp) :
    ReturnsInHanded {} Try.checked os 3 .any ((Rows.OpenSpec.upto Rows.recBytesSpec).pre6 enc Try.prog Try.f3 Rows.recBytesUptoRow.domain false) (((Rows.OpenSpec.upto Rows.recBytesSpec).at F).post enc Try.prog Try.f3 false true false false) := by
  refine returnsInHanded_of_cond (C := Try.checked) (s := Rows.OpenSpec.upto Rows.recBytesSpec) (k := Rows.uptoSmall) rfl own started (by kernel_rfl) Try.func3
    (OpenSpec.witness (enc := enc) (C := Try.checked) (s := Rows.OpenSpec.upto Rows.recBytesSpec) (k := Rows.uptoSmall) rfl false ⟨#[], #[.agg #[.int .i64 0, .int .u64 0, .int .u64 0, .int .u64 0, .slice none 0 0, .slice none 0 0, .bool false, .slice none 0 0, .slice none 0 0, .int .u64 0, .string ⟨#[]⟩]], []⟩ 12 (by kernel_rfl) (by kernel_rfl) (by kernel_rfl)
      (x := ([.agg [.lit (.int .i64 0), .agg [.lit (.int .u64 0), .lit (.int .u64 0), .lit (.int .u64 0)], .nil, .nil, .lit (.bool false), .nil, .nil, .lit (.int .u64 0), .lit (.string [])]], [], [])) (by kernel_rfl) rfl (by kernel_rfl)) ?_
  intro W base args ds gs before hval hW _ hk _
  exact contract H enc W base args ds gs before hval hW hk
end Go.Proofs.Ytmjjbfcblmmipaa.recBytes
namespace Go.Proofs.Ytmjjbfcblmmipaa
theorem recBytesUpto_holds : Rows.RecBytesUptoSaid :=
  OpenClaim.holds_of_cond 3 Try.f3 rfl rfl rfl rfl rfl rfl rfl ⟨rfl, rfl, rfl, rfl, rfl⟩ rfl rfl rfl rfl rfl (by kernel_rfl) Try.func3 (by kernel_rfl)
    (of_decide_eq_true (by kernel_rfl)) (by unfold Func.isWrapper; first | (rw [if_pos (by decide +kernel)]; kernel_rfl) | (rw [if_neg (by decide +kernel)]; exact ⟨rfl, rfl⟩))
    (fun os started H enc _ F => recBytes.lifted os started H enc F)
#print axioms recBytesUpto_holds
end Go.Proofs.Ytmjjbfcblmmipaa
