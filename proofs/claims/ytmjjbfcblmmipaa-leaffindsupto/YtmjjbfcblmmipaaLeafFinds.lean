/- LeafFinds, where the arguments hold together at most 1048576 values: the law returns true and its arguments read afterwards as they read before. -/
import Derived.Test.YtmjjbfcblmmipaaFndW
import Derived.Test.YtmjjbfcblmmipaaOpenM
import Derived.ChangeOld
import Derived.SizedLaws
import Derived.JoinedCond
namespace Go.Proofs.Ytmjjbfcblmmipaa.leafFinds
open Go.ChangeShapes Go.WideShapes Go.ChangeAt Go.RowKit
open Go.ChangeMaps (open_string shut_string)
set_option linter.unusedVariables false
set_option linter.unusedSimpArgs false

theorem own : ownKnob Try.prog.godebug = none := by kernel_rfl
theorem laidOut : laidOutB Try.prog = true := by kernel_rfl

theorem fnd_any (lf : Bool) (AK : Option Addr) (nK cK : Nat) (AV : Option Addr) (nV cV : Nat) (AD : Option Addr) (nD cD : Nat) (ks vs : List (List Int)) (ds : List Int) (AP : Option Addr) (np cp : Nat) (P : List Int) (z : Int) (w : World) (hx : Bss w AK nK ks) (hy : Bss w AV nV vs) (hz : Ins w AD nD ds)
    (hKc : nK ≤ cK) (hVc : nV ≤ cV) (hDc : nD ≤ cD) (bK : nK ≤ 1048576) (bV : nV ≤ 1048576) (bD : nD ≤ 1048576) (lK : ∀ xs ∈ ks, xs.length ≤ 1048576) (lV : ∀ xs ∈ vs, xs.length ≤ 1048576) (hp : Bs w AP np P) (hpc : np ≤ cp) (bp : np ≤ 1048576) :
    Calls Try.prog 9 #[.agg (ndV lf AK nK cK AV nV cV AD nD cD), .slice AP np cp, .int .i64 z] w fun e w' => e = .returned (.bool true) ∧ Below w.heap.size w w' :=
  fndX_any lf AK nK cK AV nV cV AD nD cD (ks.take (min nK 100)) (vs.take (min nV 100)) (ds.take (min nD 101)) _ _ _ AP np cp P z w rfl rfl rfl (hx.pre (Nat.min_le_left _ _)) (hy.pre (Nat.min_le_left _ _)) (Ins.short hz (Nat.min_le_left _ _)) hKc hVc hDc bK bV bD (fun x hx => lK x (List.mem_of_mem_take hx)) (fun x hx => lV x (List.mem_of_mem_take hx)) hp hpc bp

set_option maxRecDepth 100000 in
theorem contract (H : Type) (enc : TypeId × Value → H) (W : World) (base : Nat) (args : Array Value) (ds gs : List (DataW H)) (before : List MemPlace)
    (hval : ∀ (j : Nat) t v, Try.f9.params[j]? = some t → args[j]? = some v → Value.okWide Try.prog W .any base t v)
    (hW : DataW.Whole enc Try.prog Try.f9.params.toList Rows.leafFindsSpec.vars false W args.toList ds gs before)
    (hk : Rows.uptoSmall H (ds ++ gs) = true) :
    Calls Try.prog 9 args W fun e W' => ∃ v, e = .returned v ∧ Rows.leafFindsSpec.post enc Try.prog Try.f9 false true false false W args v W' := by
  have hW' := hW
  obtain ⟨p, q, hA0, hV, rfl, hfz, hnd⟩ := hW
  have hA : DataW.TrodAll enc Try.prog W 0 (fun _ => true) true Try.f9.params.toList args.toList ds p := hA0
  rw [Try.params9] at hA hval
  obtain ⟨v0, vs0, d0, ds0, p0, q0, hargs, rfl, rfl, h0, r0⟩ := trodAll_cons hA
  obtain ⟨v1, vs1, d1, ds1, p1, q1, hargs1, rfl, rfl, h1, r1⟩ := trodAll_cons r0
  obtain ⟨v2, vs2, d2, ds2, p2, q2, hargs2, rfl, rfl, h2, r2⟩ := trodAll_cons r1
  obtain ⟨rfl, rfl, rfl⟩ := trodAll_nil r2
  obtain rfl : args = #[v0, v1, v2] := Array.toList_inj.1 (by rw [hargs, hargs1, hargs2])
  obtain ⟨rfl, rfl⟩ := trodVars_none hV
  have hv0 := hval 0 66 v0 rfl rfl
  obtain ⟨cs0, hcs0, _⟩ := okWide_struct u66 hv0
  subst hcs0
  obtain ⟨a1, len1, cap1, rfl⟩ := okWide_slice Try.underlying28 (hval 1 28 v1 rfl rfl)
  have lt0 := trod_lt' h0
  have lt1 := trod_lt' h1
  simp only [List.append_nil] at hW' hk
  have hbk : Rows.uptoBulkAll [d0, d1, d2] ≤ 1048576 := of_decide_eq_true hk
  simp only [Rows.uptoBulkAll] at hbk
  obtain ⟨x2, rfl, rfl, rfl, wf2⟩ := open_int Try.underlying3 (hval 2 3 v2 rfl rfl) h2
  obtain ⟨fu0, hf0⟩ := h0
  obtain ⟨fu1, hf1⟩ := h1
  obtain ⟨lf, AK, nK, cK, AV, nV, cV, AD, nD, cD, ks, vs, kd, hcs, hx, k1, hy, k2, hz, k3, hn⟩ := el_node hf0
  obtain ⟨bs, AB, cB, hcb, hbs, hbc, hbl⟩ := el_bs Try.underlying28 Try.underlying5 cz5 hf1
  have hcs' : cs0 = ndV lf AK nK cK AV nV cV AD nD cD := by
    have : cs0.toList = _ := hcs
    rw [← Array.toArray_toList (xs := cs0), this]
  subst hcs'
  have hcb' : Value.slice a1 len1 cap1 = .slice AB bs.length cB := by simpa [Value.cells] using hcb
  injection hcb' with e1 e2 e3
  subst e1 e2 e3
  have hn' : tot ks + tot vs + kd.length ≤ Rows.uptoBulk d0 := hn
  have hbl' : bs.length + 1 ≤ Rows.uptoBulk d1 := hbl
  have t1 := tot_len ks; have t2 := tot_len vs
  have g1 := hx.len; have g2 := hy.len; have g3 := hz.len
  clear hA0
  refine (fnd_any lf AK nK cK AV nV cV AD nD cD ks vs kd a1 bs.length cap1 bs x2 W hx hy hz k1 k2 k3 (by omega) (by omega) (by omega) (fun x hx => by have := tot_mem hx; omega) (fun x hx => by have := tot_mem hx; omega) hbs hbc (by omega)).mono fun e W' ⟨he, bel⟩ => ?_
  subst he
  exact ⟨_, rfl, _, _, _, [], _, [], hW', trodAll_mk1 (shut_bool Try.underlying4 _), (trodAll_cons_mk (Below.trod laidOut (by kernel_rfl) (of_decide_eq_true (by kernel_rfl)) ⟨fu0, hf0⟩ bel lt0) (trodAll_cons_mk (Below.trod laidOut (by kernel_rfl) (of_decide_eq_true (by kernel_rfl)) ⟨fu1, hf1⟩ bel lt1) (trodAll_cons_mk (shut_int Try.underlying3 wf2) trodAll_mk0))), rfl, bel.frame _, fun h => by cases h⟩

set_option maxRecDepth 100000 in
theorem lifted (os : Os) (started : os.Started) (H : Type) (enc : TypeId × Value → H) (F : Stop.Interp) :
    ReturnsInHanded {} Try.checked os 9 .any ((Rows.OpenSpec.upto Rows.leafFindsSpec).pre6 enc Try.prog Try.f9 Rows.leafFindsUptoRow.domain false) (((Rows.OpenSpec.upto Rows.leafFindsSpec).at F).post enc Try.prog Try.f9 false true false false) := by
  refine returnsInHanded_of_cond (C := Try.checked) (s := Rows.OpenSpec.upto Rows.leafFindsSpec) (k := Rows.uptoSmall) rfl own started (by kernel_rfl) Try.func9
    (OpenSpec.witness (enc := enc) (C := Try.checked) (s := Rows.OpenSpec.upto Rows.leafFindsSpec) (k := Rows.uptoSmall) rfl false ⟨#[], #[.agg #[.bool false, .slice none 0 0, .slice none 0 0, .slice none 0 0], .slice none 0 0, .int .i64 0], []⟩ 12 (by kernel_rfl) (by kernel_rfl) (by kernel_rfl)
      (x := ([.agg [.lit (.bool false), .nil, .nil, .nil], .nil, .lit (.int .i64 0)], [], [])) (by kernel_rfl) rfl (by kernel_rfl)) ?_
  intro W base args ds gs before hval hW _ hk _
  exact contract H enc W base args ds gs before hval hW hk
end Go.Proofs.Ytmjjbfcblmmipaa.leafFinds
namespace Go.Proofs.Ytmjjbfcblmmipaa
theorem leafFindsUpto_holds : Rows.LeafFindsUptoSaid :=
  OpenClaim.holds_of_cond 9 Try.f9 rfl rfl rfl rfl rfl rfl rfl ⟨rfl, rfl, rfl, rfl, rfl⟩ rfl rfl rfl rfl rfl (by kernel_rfl) Try.func9 (by kernel_rfl)
    (of_decide_eq_true (by kernel_rfl)) (by unfold Func.isWrapper; first | (rw [if_pos (by decide +kernel)]; kernel_rfl) | (rw [if_neg (by decide +kernel)]; exact ⟨rfl, rfl⟩))
    (fun os started H enc _ F => leafFinds.lifted os started H enc F)
#print axioms leafFindsUpto_holds
end Go.Proofs.Ytmjjbfcblmmipaa
