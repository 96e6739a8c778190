/- ParityRecords: the walk. -/
import Derived.Test.YtmckgdjipkkklaaDoorROpenW
import Derived.Test.YtmckgdjipkkklaaDoorChecksW
namespace Go.Proofs.YtmckgdjipkkklaaDoor
set_option linter.unusedVariables false
set_option linter.unusedSimpArgs false
open Go.RowKit
theorem slice27six (B : Option Addr) (n c : Nat) (h1 : 6 ≤ c) (N : Nat) (hN : N = 6) (W : World) :
    (Instr.slice 27 (.slice B n c) none (some (.int .i64 6)) none).run Tryd.prog W = .ok (.slice B N c) W := by
  subst hN
  rw [run_slice_h (P := Tryd.prog) W 27 B n c elem27 .i64 6 (by omega) (by omega), elem27', Tryd.sizeOf28]
  simp only [sliced, Result.andThen, Nat.zero_mul, add_zero', ite_self]; rfl
theorem open_rec (A : Option Addr) (n c a : Nat) (p x : List Nat) (w : World) (hx : Bs w A n (il (p ++ recL x))) (hn : n ≤ 1000000000000) (hc : n ≤ c) (hp : p.length = a) (hxr : Rn x) (hxl : x.length ≤ 1048576) (ht : Tabs w) :
    Calls Tryd.prog 27 #[.slice A n c, .int .i64 (a : Int)] w fun e w' => ∃ A' c', e = .returned (.tuple #[.slice A' x.length c', .int .i64 (n : Int), .int .i64 0]) ∧ Own w' w.heap.size 5 A' x.length c' (By (il x)) ∧ Below w.heap.size w w' := by
  have hl : n = p.length + (recL x).length := by have := hx.len; rw [il_length, List.length_append] at this; omega
  have e := openL_whole p [] hxr hxl
  refine (open_any A n c a _ w hx hn hc (by omega) ht).mono ?_
  intro e' w' h
  rw [nl_il, ← hp, show p ++ recL x = p ++ (recL x ++ []) by simp, e] at h
  rcases h with ⟨_, A', c', rfl, ho, hb⟩ | ⟨h, _⟩
  · exact ⟨A', c', by rw [hl], ho, hb⟩
  · exact absurd rfl h
theorem cat_take_le (X : List (List Nat)) (i : Nat) : (cat (X.take i)).length ≤ (cat X).length := by
  have : cat X = cat (X.take i) ++ cat (X.drop i) := by
    unfold cat
    rw [← List.flatten_append, ← List.map_append, List.take_append_drop]
  rw [this, List.length_append]; omega
theorem wh_all (X : List (List Nat)) : wh X (cat X).length = X.length := by
  have h := wh_le X (cat X).length
  rcases Nat.lt_or_ge (wh X (cat X).length) X.length with h2 | h2
  · have := (wh_iff X (cat X).length _ h2).1 (cat_take_le X _)
    omega
  · omega

set_option maxRecDepth 100000 in
set_option maxHeartbeats 4000000 in
theorem records_walk (P B : Option Addr) (n c m d : Nat) (xss : List (List Int)) (ys : List Int) (q : Int) (w : World) (hx : Bss w P n xss) (hn : n ≤ maxLen) (hc : n ≤ c) (hxm : ∀ xs ∈ xss, xs.length ≤ maxLen) (hy : Bs w B m ys) (hm : m ≤ maxLen) (hmd : m ≤ d) (ht : Tabs w) :
    Calls Tryd.prog 7 #[.slice P n c, .slice B m d, .int .i64 q] w fun e w' => e = .returned (.bool true) ∧ Below w.heap.size w w' := by
  obtain ⟨i0, hi, hz0, hz1, hz2⟩ := info_parts info5
  go_enter Tryd.func7, Tryd.ntmps7
  go_wp2_with fail
  refine (awake_any _ ht).mono ?_
  rintro e w1 ⟨rfl, hb1⟩
  have hx1 := hx.keep hb1
  have hy1 := hy.keep hb1
  have ht1 := ht.below hb1
  have hs1 := hb1.size
  clear hx ht hy
  have HXX' := Lib.hid hxm; clear hxm
  obtain ⟨vs, hvs⟩ : ∃ vs, ys.take 3000 = vs := ⟨_, rfl⟩
  have HVS := Lib.hid hvs; clear hvs
  by_cases h6 : 6 < n
  · obtain ⟨L, hL⟩ : ∃ L : Nat, L = 6 := ⟨_, rfl⟩
    have hsl6 := slice27six P n c (by omega) L hL
    have hL6 : L ≤ 6 := by omega
    have hl := hx1.short (m := L) (by omega)
    have HXM : Hid (∀ xs ∈ xss.take L, xs.length ≤ maxLen) := fun xs h => HXX'.out xs (List.mem_of_mem_take h)
    clear hL hx1
    generalize xss.take L = XX at *
    have hd6 : decide ((6 : Int) < (n : Int)) = true := by simp; omega
    have HSM : Hid (∀ xs ∈ XX, xs.length ≤ maxLen) := fun xs h => HXM.out xs h
    obtain ⟨X, hX⟩ : ∃ X, X = XX.map (fun t => nl (t.take 1200)) := ⟨_, rfl⟩
    have HXL := Lib.hid (show X.length = L by rw [hX, List.length_map]; exact hl.len)
    have HXX : Hid (∀ x ∈ X, Rn x ∧ x.length ≤ 1048576) := by
      intro x h
      rw [hX] at h
      obtain ⟨t, ht, rfl⟩ := List.mem_map.1 h
      refine ⟨nl_rn (Ran.sub (hl.ran t ht) fun y hy => List.mem_of_mem_take hy), ?_⟩
      rw [nl_length, List.length_take]; omega
    have HX := Lib.hid hX; clear hX
    go_wp2_with fail
    refine (cut_is B m d 3000 ys vs HVS.out _ hy1 hm hmd (by omega)).mono ?_
    rintro e w' ⟨rfl, rfl⟩
    have hvl : vs.length ≤ 3000 := by rw [← HVS.out, List.length_take]; omega
    have hvd : vs.length ≤ d := by rw [← HVS.out, List.length_take, hy1.len]; omega
    have hbv : Bs w1 B vs.length vs := by
      rw [← HVS.out, List.length_take, hy1.len]
      have := hy1.first (m := min 3000 m) (by omega)
      rwa [show ys.take (min 3000 m) = ys.take 3000 by rw [← hy1.len, List.take_eq_take_iff]; omega] at this
    clear hy1
    go_wp2
    go_loopw [7, 35] (fun va i wr => ∃ (k nA cA : Nat) (A1 : Option Addr), i = .int .i64 k ∧ k ≤ L ∧ va = .slice A1 nA cA ∧ nA ≤ 1230 * k ∧ Hid (nA = (cat (X.take k)).length) ∧ Own wr w1.heap.size 5 A1 nA cA (By (il (cat (X.take k)))) ∧ Below w1.heap.size w1 wr) (fun _ i _ => L - (intOf i).toNat)
    case atStart => exact ⟨0, 0, 0, none, rfl, Nat.zero_le _, rfl, Nat.zero_le _, by show (0 : Nat) = _; simp [cat], by simpa [cat, il, By] using Own.nil_, Below.refl _ _⟩
    case round =>
      obtain ⟨k, nA, cA, A1, rfl, hk, rfl, hnA, HNA, hoA, hbr⟩ := hrel
      have hsr := hbr.size
      by_cases hlt : k < L
      · obtain ⟨b, off, A2, n2, c2, ts, rfl, hbk, hcell, hts, hnc2, HT⟩ := hl.at_ hlt
        have hcell' : wr.cell? ⟨b, off + k, none⟩ = some (.slice A2 n2 c2) := (hbr.cell (p := ⟨b, off + k, none⟩) hbk).trans hcell
        have hts' := hts.keep hbr
        have hn2m : n2 ≤ maxLen := by rw [← hts.len]; exact HSM.out _ (List.mem_of_getElem? HT.out)
        obtain ⟨us, hus⟩ : ∃ us, ts.take 1200 = us := ⟨_, rfl⟩
        have hul : us.length ≤ 1200 := by rw [← hus, List.length_take]; omega
        have HTK : Hid (X.take (k + 1) = X.take k ++ [nl us]) := by
          have hxk : X[k]? = some (nl us) := by rw [HX.out, List.getElem?_map, HT.out, ← hus]; rfl
          obtain ⟨hk', e⟩ := List.getElem?_eq_some_iff.1 hxk
          show _ = _
          rw [List.take_succ_eq_append_getElem hk', e]
        have hbu : Bs wr A2 us.length us := by
          rw [← hus, List.length_take, hts.len]
          have := hts'.first (m := min 1200 n2) (by omega)
          rwa [show ts.take (min 1200 n2) = ts.take 1200 by rw [← hts.len, List.take_eq_take_iff]; omega] at this
        have huc : us.length ≤ c2 := by rw [← hus, List.length_take, hts.len]; omega
        have htr := ht1.below hbr
        have HUS := Lib.hid hus; clear hus hts hcell
        have HRU := Lib.hid (nl_rn hbu.2)
        have HRAN := Lib.hid hbu.2
        have HRA : Hid (Rn (cat (X.take k))) := by
          intro z hz
          obtain ⟨l, hl', hzl⟩ := List.mem_flatten.1 hz
          obtain ⟨x, hx', rfl⟩ := List.mem_map.1 hl'
          exact recL_rn (HXX.out x (List.mem_of_mem_take hx')).1 z hzl
        obtain ⟨R, hR⟩ : ∃ R, R = recL (nl us) := ⟨_, rfl⟩
        have HR := Lib.hid hR; clear hR
        have hRr : Rn R := by rw [HR.out]; exact recL_rn HRU.out
        go_wp2_with fail
        refine (cut_is A2 n2 c2 1200 ts us HUS.out _ hts' hn2m hnc2 (by omega)).mono ?_
        rintro e w' ⟨rfl, rfl⟩
        clear hcell' hts'
        go_wp2_with fail
        refine (copy_any A2 us.length c2 us _ hbu (by omega)).mono ?_
        rintro e wa ⟨Ac, cc, rfl, hoc, hba⟩
        go_wp2_with fail
        refine (seal_any Ac us.length cc us _ (hoc.bs hbu.2) hoc.cap (by omega) (htr.below hba)).mono ?_
        rintro e wb ⟨A3, c3, n3, rfl, hn3, ho3, hbb⟩
        rw [← HR.out] at ho3
        have hbwb : Below wr.heap.size wr wb := hba.trans (hbb.mono hba.size)
        have hbu2 : Bs wb A2 us.length us := hbu.keep hbwb
        have ho3' : Own wb wr.heap.size 5 A3 n3 c3 (By (il R)) := ho3.mono hba.size
        have HN3 := Lib.hid hn3.symm
        have hn3' : n3 ≤ 1230 := by rw [hn3]; unfold sealedN; omega
        clear hoc hba hbb ho3 hn3 hbu
        go_wp2_with fail
        refine (rseal_any A2 us.length c2 us _ hbu2 (by omega) huc).mono ?_
        rintro e wc ⟨A4, c4, n4, rfl, hn4, ho4, hbc4⟩
        rw [← HR.out] at ho4
        have hbwc : Below wr.heap.size wr wc := hbwb.trans (hbc4.mono hbwb.size)
        have ho3c : Own wc wr.heap.size 5 A3 n3 c3 (By (il R)) := ho3'.below hbc4 (fun k hk => (ho3'.lies k hk).2)
        have hn4' : n4 ≤ 1230 := by rw [hn4]; unfold sealedN; omega
        have hbu3 := hbu2.keep hbc4
        have hb4 := ho4.bs (il_ran hRr)
        have hb3 := ho3c.bs (il_ran hRr)
        clear hn4 ho4 hbc4 hbwb ho3' hbu2
        go_wp2_with fail
        refine (equal_any A3 A4 n3 n4 c3 c4 _ _ _ hb3 hb4 (by unfold maxLen; omega) (by unfold maxLen; omega)).mono ?_
        rintro e wd ⟨rfl, hdd⟩
        rw [cmpL_self]
        have hbd : Below wc.heap.size wc wd := hdd.below _
        have hbwd : Below wr.heap.size wr wd := hbwc.trans (hbd.mono hbwc.size)
        have ho3d : Own wd wr.heap.size 5 A3 n3 c3 (By (il R)) := ho3c.below hbd (fun k hk => (ho3c.lies k hk).2)
        have hbu4 := hbu3.keep hbd
        have hoAd : Own wd w1.heap.size 5 A1 nA cA (By (il (cat (X.take k)))) := hoA.below hbwd (fun k hk => (hoA.lies k hk).2)
        have htd := htr.below hbwd
        clear hb3 hb4 ho3c hdd hbd hbwc hbu3 hoA htr
        go_wp2_with fail
        refine (sealed_any us.length (by omega) _).mono ?_
        rintro e w' ⟨rfl, rfl⟩
        rw [HN3.out]
        go_wp2_with fail
        refine (copy_any A1 nA cA _ _ (hoAd.bs (il_ran HRA.out)) (by omega)).mono ?_
        rintro e we ⟨Ae, ce, rfl, hoe, hbe⟩
        have hbwe : Below wr.heap.size wr we := hbwd.trans (hbe.mono hbwd.size)
        have ho3e : Own we wr.heap.size 5 A3 n3 c3 (By (il R)) := ho3d.below hbe (fun k hk => (ho3d.lies k hk).2)
        have hr3e := ho3e.rd
        have hsze := hbe.size
        go_wp2_with (at_builtin; refine wpList_append_rd rfl _ _ 28 rfl i0 (.int .u8 0) 1 Tryd.underlying28 hi hz0 hz1 hz2 rfl rfl hoe A3 n3 c3 (By (il R)) rfl hr3e (By_one _) ?c1 ?c2 ?c3 ?_)
        case c1 => unfold maxLen; omega
        case c2 => omega
        case c3 => exact hsze
        intro Af cf wf hof hgf
        have hbf : Below wd.heap.size wd wf := hbe.trans (hgf.below hsze (fun k hk => (hoe.lies k hk).1))
        have hbsf : Bs wf Af (nA + n3) (il (cat (X.take k) ++ recL (nl us))) := by
          rw [← HR.out, il_append]
          rw [← By_append] at hof
          refine hof.bs ?_
          rw [← il_append]
          exact il_ran (HRA.out.append hRr)
        have hcapf := hof.cap
        have hbwf : Below wr.heap.size wr wf := hbwd.trans (hbf.mono hbwd.size)
        have ho3f : Own wf wr.heap.size 5 A3 n3 c3 (By (il R)) := ho3d.below hbf (fun k hk => (ho3d.lies k hk).2)
        have hoAf : Own wf w1.heap.size 5 A1 nA cA (By (il (cat (X.take k)))) := hoAd.below hbf (fun k hk => (hoAd.lies k hk).2)
        have hbu6 : Bs wf A2 us.length us := hbu4.keep hbf
        have htf := htd.below hbf
        clear hoe hof hgf hbe hbwe ho3e hr3e hbf hbu4 hoAd ho3d htd
        go_wp2_with fail
        refine (open_rec Af (nA + n3) cf nA (cat (X.take k)) (nl us) _ hbsf (by omega) hcapf HNA.out.symm HRU.out (by rw [nl_length]; omega) htf).mono ?_
        rintro e wg ⟨A6, c6, rfl, ho6, hb6⟩
        rw [il_nl HRAN.out, nl_length] at ho6
        rw [nl_length]
        have hbwg : Below wr.heap.size wr wg := hbwf.trans (hb6.mono hbwf.size)
        have ho3g : Own wg wr.heap.size 5 A3 n3 c3 (By (il R)) := ho3f.below hb6 (fun k hk => (ho3f.lies k hk).2)
        have hoAg : Own wg w1.heap.size 5 A1 nA cA (By (il (cat (X.take k)))) := hoAf.below hb6 (fun k hk => (hoAf.lies k hk).2)
        have hbu7 := hbu6.keep hb6
        have hb6s := ho6.bs HRAN.out
        have hnn : (((nA + n3 : Nat) : Int) != (nA : Int) + (n3 : Int)) = false := by simp
        clear hbsf ho3f hoAf hbu6 ho6 hb6 hbwf
        go_wp2_with fail
        refine (equal_any A6 A2 us.length us.length c6 c2 us us _ hb6s hbu7 (by unfold maxLen; omega) (by unfold maxLen; omega)).mono ?_
        rintro e wh' ⟨rfl, hdh⟩
        rw [cmpL_self]
        have hbh : Below wg.heap.size wg wh' := hdh.below _
        have hbwh : Below wr.heap.size wr wh' := hbwg.trans (hbh.mono hbwg.size)
        have ho3h : Own wh' wr.heap.size 5 A3 n3 c3 (By (il R)) := ho3g.below hbh (fun k hk => (ho3g.lies k hk).2)
        have hoAh : Own wh' w1.heap.size 5 A1 nA cA (By (il (cat (X.take k)))) := hoAg.below hbh (fun k hk => (hoAg.lies k hk).2)
        have hr3h := ho3h.rd
        have hbr8 := hbr.trans (hbwh.mono hsr)
        have hs8 := hbr8.size
        clear hb6s hbu7 hdh hbh ho3g hoAg hbwg ho3h
        go_wp2_with (at_builtin; refine wpList_append_rd rfl _ _ 28 rfl i0 (.int .u8 0) 1 Tryd.underlying28 hi hz0 hz1 hz2 rfl rfl hoAh A3 n3 c3 (By (il R)) rfl hr3h (By_one _) ?d1 ?d2 ?d3 ?_)
        case d1 => unfold maxLen; omega
        case d2 => omega
        case d3 => exact hs8
        intro A9 c9 w9 ho9 hg9
        have hbr9 := hbr8.trans (hg9.below hs8 (fun k hk => (hoAh.lies k hk).1))
        have HNA9 := Lib.hid (show nA + n3 = (cat (X.take (k + 1))).length by rw [HTK.out, cat_snoc, List.length_append, ← HNA.out, recL_length, nl_length, HN3.out])
        have hoA9 : Own w9 w1.heap.size 5 A9 (nA + n3) c9 (By (il (cat (X.take (k + 1))))) := by rw [HTK.out, cat_snoc, il_append, By_append, ← HR.out]; exact ho9
        clear ho9 hg9 hoAh hr3h hbr8 hbwh hnn
        go_wp2
        go_roundw
        case rel => exact ⟨k + 1, nA + n3, c9, A9, by go_num, by omega, rfl, by omega, HNA9, hoA9, hbr9⟩
        case measure => simp [intOf]; omega
      · obtain rfl : k = L := by omega
        have hke : X.take k = X := List.take_of_length_le (by rw [HXL.out]; exact Nat.le_refl _)
        rw [hke] at HNA hoA
        clear hke
        have HIR := Lib.hid (il_ran (show Rn (cat X) by
          intro z hz
          obtain ⟨l, hl', hzl⟩ := List.mem_flatten.1 hz
          obtain ⟨x, hx', rfl⟩ := List.mem_map.1 hl'
          exact recL_rn (HXX.out x hx').1 z hzl))
        have HB : Hid (Chain (cat X) 0 X (cat X).length ∧ (openL (cat X) (cat X).length).1 = 5) := by
          have := chain_begin X [] (cat X).length HXX.out
          show _ ∧ _
          simpa [wh_all] using this
        have htB := ht1.below hbr
        have hbvB := hbv.keep hbr
        have hbwB := hb1.trans (hbr.mono hs1)
        go_wp2_with fail
        refine (copy_any A1 nA cA _ _ (hoA.bs HIR.out) (by omega)).mono ?_
        rintro e wa ⟨Ac, cc, rfl, hoc, hba⟩
        go_wp2_with fail
        refine (openAll_any Ac nA cc _ _ (hoc.bs HIR.out) (by omega) hoc.cap (htB.below hba)).mono ?_
        rintro e wb ⟨R5, c5, kk, at5, recs, rfl, hkk, hat, hp5, HC5, HE5, hb5⟩
        rw [nl_il] at HC5 HE5 hat
        have huni := HC5.out.only HB.out.1 HE5.out (by rw [HB.out.2]; omega)
        obtain rfl : kk = k := by rw [hkk, huni.1, HXL.out]
        obtain rfl : at5 = nA := by rw [huni.2, HNA.out]
        have hbb : Below wr.heap.size wr wb := hba.trans (hb5.mono hba.size)
        have hbvb := hbvB.keep hbb
        have htb := htB.below hbb
        have hbwb := hbwB.trans (hbb.mono hbwB.size)
        clear hkk huni HC5 HE5 HB hp5 hoA hoc hba hb5 hbwB htB hat hbvB hbb HNA hbr
        go_wp2_with fail
        refine (copy_any B vs.length d vs _ hbvb (by omega)).mono ?_
        rintro e wc ⟨Ab, cb, rfl, hob, hbc⟩
        have hbvc := hbvb.keep hbc
        have htc := htb.below hbc
        have hbwc := hbwb.trans (hbc.mono hbwb.size)
        have hbsb := hob.bs hbvb.2
        have hcb := hob.cap
        clear hbvb htb hbwb hob hbc
        have hq : (q < 0 ∨ (vs.length : Int) < q) ∨ (0 ≤ q ∧ q ≤ (vs.length : Int)) := by omega
        rcases hq with hq | hq
        · go_wp2_with fail
          refine (open_arg Ab vs.length cb q vs _ hbsb (by omega) hq).mono ?_
          rintro e w' ⟨rfl, rfl⟩
          go_wp2_with fail
          refine (ropen_arg B vs.length d q vs _ hbvc (by omega) hq).mono ?_
          rintro e w' ⟨rfl, rfl⟩
          go_wp2_with fail
          refine (equal_any none none 0 0 0 0 [] [] _ Bs.nil_ Bs.nil_ (by unfold maxLen; omega) (by unfold maxLen; omega)).mono ?_
          rintro e wz ⟨rfl, hdz⟩
          rw [cmpL_self]
          have hbz := hbwc.trans ((hdz.below _).mono hbwc.size)
          go_wp2_with fail
          refine (sealed_out (-1) (by omega) _).mono ?_
          rintro e w' ⟨rfl, rfl⟩
          go_wp2_with fail
          refine (sealed_out 1048577 (by omega) _).mono ?_
          rintro e w' ⟨rfl, rfl⟩
          go_wp2
          go_ret
          exact ⟨by simp, hbz⟩
        · obtain ⟨Q, rfl⟩ : ∃ Q : Nat, q = (Q : Int) := ⟨q.toNat, by omega⟩
          have hQ : Q ≤ vs.length := by omega
          clear hq
          obtain ⟨r, hr⟩ : ∃ r, r = openL (nl vs) Q := ⟨_, rfl⟩
          have HRR := Lib.hid hr; clear hr
          have HRNR : Hid (Rn r.2.1) := by show Rn _; rw [HRR.out]; exact openL_rn (nl_rn hbvc.2) Q
          have HRLN : Hid (r.1 = 0 → r.2.1.length ≤ 1048576) := fun h => by rw [HRR.out] at h ⊢; exact (openL_next h).2.2
          go_wp2_with fail
          refine (open_any Ab vs.length cb Q vs _ hbsb (by omega) hcb hQ htc).mono ?_
          rintro e wd hpost
          rw [← HRR.out] at hpost
          rcases hpost with ⟨hr0, A7, c7, rfl, ho7, hb7⟩ | ⟨hr0, rfl, hb7⟩
          · have hbvd := hbvc.keep hb7
            have hbwd := hbwc.trans (hb7.mono hbwc.size)
            have hln := HRLN.out hr0
            clear hb7 hbvc hbwc hbsb htc
            go_wp2_with fail
            refine (ropen_any B vs.length d Q vs _ hbvd (by omega) hvd hQ).mono ?_
            rintro e we hpost
            rw [← HRR.out] at hpost
            rcases hpost with ⟨_, A8, c8, rfl, ho8, hb8⟩ | ⟨hr1, _⟩
            · have ho7' := ho7.below hb8 (fun k hk => (ho7.lies k hk).2)
              have hb7s := ho7'.bs (il_ran HRNR.out)
              have hb8s := ho8.bs (il_ran HRNR.out)
              have hbwe := hbwd.trans (hb8.mono hbwd.size)
              generalize r.2.1.length = ln at *
              generalize r.2.2 = rn at *
              clear hr0 ho7 ho7' ho8 hb8 hbwd hbvd
              go_wp2_with fail
              refine (equal_any A7 A8 ln ln c7 c8 _ _ _ hb7s hb8s (by unfold maxLen; omega) (by unfold maxLen; omega)).mono ?_
              rintro e wz ⟨rfl, hdz⟩
              rw [cmpL_self]
              have hbz := hbwe.trans ((hdz.below _).mono hbwe.size)
              go_wp2_with fail
              refine (sealed_out (-1) (by omega) _).mono ?_
              rintro e w' ⟨rfl, rfl⟩
              go_wp2_with fail
              refine (sealed_out 1048577 (by omega) _).mono ?_
              rintro e w' ⟨rfl, rfl⟩
              go_wp2
              go_ret
              exact ⟨by simp, hbz⟩
            · exact absurd hr0 hr1
          · have hbvd := hbvc.keep hb7
            have hbwd := hbwc.trans (hb7.mono hbwc.size)
            clear hb7 hbvc hbwc hbsb htc
            go_wp2_with fail
            refine (ropen_any B vs.length d Q vs _ hbvd (by omega) hvd hQ).mono ?_
            rintro e we hpost
            rw [← HRR.out] at hpost
            rcases hpost with ⟨hr1, _⟩ | ⟨_, rfl, hb8⟩
            · exact absurd hr1 hr0
            · have hbwe := hbwd.trans (hb8.mono hbwd.size)
              generalize r.1 = r1 at *
              clear hb8 hbwd hbvd hr0
              go_wp2_with fail
              refine (equal_any none none 0 0 0 0 [] [] _ Bs.nil_ Bs.nil_ (by unfold maxLen; omega) (by unfold maxLen; omega)).mono ?_
              rintro e wz ⟨rfl, hdz⟩
              rw [cmpL_self]
              have hbz := hbwe.trans ((hdz.below _).mono hbwe.size)
              go_wp2_with fail
              refine (sealed_out (-1) (by omega) _).mono ?_
              rintro e w' ⟨rfl, rfl⟩
              go_wp2_with fail
              refine (sealed_out 1048577 (by omega) _).mono ?_
              rintro e w' ⟨rfl, rfl⟩
              go_wp2
              go_ret
              exact ⟨by simp, hbz⟩
  · obtain ⟨L, hL⟩ : ∃ L : Nat, L = n := ⟨_, rfl⟩
    subst hL
    have hL6 : L ≤ 6 := by omega
    have hl := hx1
    have HXM := HXX'
    generalize xss = XX at *
    have hd6 : decide ((6 : Int) < (L : Int)) = false := by simp; omega
    have HSM : Hid (∀ xs ∈ XX, xs.length ≤ maxLen) := fun xs h => HXM.out xs h
    obtain ⟨X, hX⟩ : ∃ X, X = XX.map (fun t => nl (t.take 1200)) := ⟨_, rfl⟩
    have HXL := Lib.hid (show X.length = L by rw [hX, List.length_map]; exact hl.len)
    have HXX : Hid (∀ x ∈ X, Rn x ∧ x.length ≤ 1048576) := by
      intro x h
      rw [hX] at h
      obtain ⟨t, ht, rfl⟩ := List.mem_map.1 h
      refine ⟨nl_rn (Ran.sub (hl.ran t ht) fun y hy => List.mem_of_mem_take hy), ?_⟩
      rw [nl_length, List.length_take]; omega
    have HX := Lib.hid hX; clear hX
    go_wp2_with fail
    refine (cut_is B m d 3000 ys vs HVS.out _ hy1 hm hmd (by omega)).mono ?_
    rintro e w' ⟨rfl, rfl⟩
    have hvl : vs.length ≤ 3000 := by rw [← HVS.out, List.length_take]; omega
    have hvd : vs.length ≤ d := by rw [← HVS.out, List.length_take, hy1.len]; omega
    have hbv : Bs w1 B vs.length vs := by
      rw [← HVS.out, List.length_take, hy1.len]
      have := hy1.first (m := min 3000 m) (by omega)
      rwa [show ys.take (min 3000 m) = ys.take 3000 by rw [← hy1.len, List.take_eq_take_iff]; omega] at this
    clear hy1
    go_wp2
    go_loopw [7, 35] (fun va i wr => ∃ (k nA cA : Nat) (A1 : Option Addr), i = .int .i64 k ∧ k ≤ L ∧ va = .slice A1 nA cA ∧ nA ≤ 1230 * k ∧ Hid (nA = (cat (X.take k)).length) ∧ Own wr w1.heap.size 5 A1 nA cA (By (il (cat (X.take k)))) ∧ Below w1.heap.size w1 wr) (fun _ i _ => L - (intOf i).toNat)
    case atStart => exact ⟨0, 0, 0, none, rfl, Nat.zero_le _, rfl, Nat.zero_le _, by show (0 : Nat) = _; simp [cat], by simpa [cat, il, By] using Own.nil_, Below.refl _ _⟩
    case round =>
      obtain ⟨k, nA, cA, A1, rfl, hk, rfl, hnA, HNA, hoA, hbr⟩ := hrel
      have hsr := hbr.size
      by_cases hlt : k < L
      · obtain ⟨b, off, A2, n2, c2, ts, rfl, hbk, hcell, hts, hnc2, HT⟩ := hl.at_ hlt
        have hcell' : wr.cell? ⟨b, off + k, none⟩ = some (.slice A2 n2 c2) := (hbr.cell (p := ⟨b, off + k, none⟩) hbk).trans hcell
        have hts' := hts.keep hbr
        have hn2m : n2 ≤ maxLen := by rw [← hts.len]; exact HSM.out _ (List.mem_of_getElem? HT.out)
        obtain ⟨us, hus⟩ : ∃ us, ts.take 1200 = us := ⟨_, rfl⟩
        have hul : us.length ≤ 1200 := by rw [← hus, List.length_take]; omega
        have HTK : Hid (X.take (k + 1) = X.take k ++ [nl us]) := by
          have hxk : X[k]? = some (nl us) := by rw [HX.out, List.getElem?_map, HT.out, ← hus]; rfl
          obtain ⟨hk', e⟩ := List.getElem?_eq_some_iff.1 hxk
          show _ = _
          rw [List.take_succ_eq_append_getElem hk', e]
        have hbu : Bs wr A2 us.length us := by
          rw [← hus, List.length_take, hts.len]
          have := hts'.first (m := min 1200 n2) (by omega)
          rwa [show ts.take (min 1200 n2) = ts.take 1200 by rw [← hts.len, List.take_eq_take_iff]; omega] at this
        have huc : us.length ≤ c2 := by rw [← hus, List.length_take, hts.len]; omega
        have htr := ht1.below hbr
        have HUS := Lib.hid hus; clear hus hts hcell
        have HRU := Lib.hid (nl_rn hbu.2)
        have HRAN := Lib.hid hbu.2
        have HRA : Hid (Rn (cat (X.take k))) := by
          intro z hz
          obtain ⟨l, hl', hzl⟩ := List.mem_flatten.1 hz
          obtain ⟨x, hx', rfl⟩ := List.mem_map.1 hl'
          exact recL_rn (HXX.out x (List.mem_of_mem_take hx')).1 z hzl
        obtain ⟨R, hR⟩ : ∃ R, R = recL (nl us) := ⟨_, rfl⟩
        have HR := Lib.hid hR; clear hR
        have hRr : Rn R := by rw [HR.out]; exact recL_rn HRU.out
        go_wp2_with fail
        refine (cut_is A2 n2 c2 1200 ts us HUS.out _ hts' hn2m hnc2 (by omega)).mono ?_
        rintro e w' ⟨rfl, rfl⟩
        clear hcell' hts'
        go_wp2_with fail
        refine (copy_any A2 us.length c2 us _ hbu (by omega)).mono ?_
        rintro e wa ⟨Ac, cc, rfl, hoc, hba⟩
        go_wp2_with fail
        refine (seal_any Ac us.length cc us _ (hoc.bs hbu.2) hoc.cap (by omega) (htr.below hba)).mono ?_
        rintro e wb ⟨A3, c3, n3, rfl, hn3, ho3, hbb⟩
        rw [← HR.out] at ho3
        have hbwb : Below wr.heap.size wr wb := hba.trans (hbb.mono hba.size)
        have hbu2 : Bs wb A2 us.length us := hbu.keep hbwb
        have ho3' : Own wb wr.heap.size 5 A3 n3 c3 (By (il R)) := ho3.mono hba.size
        have HN3 := Lib.hid hn3.symm
        have hn3' : n3 ≤ 1230 := by rw [hn3]; unfold sealedN; omega
        clear hoc hba hbb ho3 hn3 hbu
        go_wp2_with fail
        refine (rseal_any A2 us.length c2 us _ hbu2 (by omega) huc).mono ?_
        rintro e wc ⟨A4, c4, n4, rfl, hn4, ho4, hbc4⟩
        rw [← HR.out] at ho4
        have hbwc : Below wr.heap.size wr wc := hbwb.trans (hbc4.mono hbwb.size)
        have ho3c : Own wc wr.heap.size 5 A3 n3 c3 (By (il R)) := ho3'.below hbc4 (fun k hk => (ho3'.lies k hk).2)
        have hn4' : n4 ≤ 1230 := by rw [hn4]; unfold sealedN; omega
        have hbu3 := hbu2.keep hbc4
        have hb4 := ho4.bs (il_ran hRr)
        have hb3 := ho3c.bs (il_ran hRr)
        clear hn4 ho4 hbc4 hbwb ho3' hbu2
        go_wp2_with fail
        refine (equal_any A3 A4 n3 n4 c3 c4 _ _ _ hb3 hb4 (by unfold maxLen; omega) (by unfold maxLen; omega)).mono ?_
        rintro e wd ⟨rfl, hdd⟩
        rw [cmpL_self]
        have hbd : Below wc.heap.size wc wd := hdd.below _
        have hbwd : Below wr.heap.size wr wd := hbwc.trans (hbd.mono hbwc.size)
        have ho3d : Own wd wr.heap.size 5 A3 n3 c3 (By (il R)) := ho3c.below hbd (fun k hk => (ho3c.lies k hk).2)
        have hbu4 := hbu3.keep hbd
        have hoAd : Own wd w1.heap.size 5 A1 nA cA (By (il (cat (X.take k)))) := hoA.below hbwd (fun k hk => (hoA.lies k hk).2)
        have htd := htr.below hbwd
        clear hb3 hb4 ho3c hdd hbd hbwc hbu3 hoA htr
        go_wp2_with fail
        refine (sealed_any us.length (by omega) _).mono ?_
        rintro e w' ⟨rfl, rfl⟩
        rw [HN3.out]
        go_wp2_with fail
        refine (copy_any A1 nA cA _ _ (hoAd.bs (il_ran HRA.out)) (by omega)).mono ?_
        rintro e we ⟨Ae, ce, rfl, hoe, hbe⟩
        have hbwe : Below wr.heap.size wr we := hbwd.trans (hbe.mono hbwd.size)
        have ho3e : Own we wr.heap.size 5 A3 n3 c3 (By (il R)) := ho3d.below hbe (fun k hk => (ho3d.lies k hk).2)
        have hr3e := ho3e.rd
        have hsze := hbe.size
        go_wp2_with (at_builtin; refine wpList_append_rd rfl _ _ 28 rfl i0 (.int .u8 0) 1 Tryd.underlying28 hi hz0 hz1 hz2 rfl rfl hoe A3 n3 c3 (By (il R)) rfl hr3e (By_one _) ?c1 ?c2 ?c3 ?_)
        case c1 => unfold maxLen; omega
        case c2 => omega
        case c3 => exact hsze
        intro Af cf wf hof hgf
        have hbf : Below wd.heap.size wd wf := hbe.trans (hgf.below hsze (fun k hk => (hoe.lies k hk).1))
        have hbsf : Bs wf Af (nA + n3) (il (cat (X.take k) ++ recL (nl us))) := by
          rw [← HR.out, il_append]
          rw [← By_append] at hof
          refine hof.bs ?_
          rw [← il_append]
          exact il_ran (HRA.out.append hRr)
        have hcapf := hof.cap
        have hbwf : Below wr.heap.size wr wf := hbwd.trans (hbf.mono hbwd.size)
        have ho3f : Own wf wr.heap.size 5 A3 n3 c3 (By (il R)) := ho3d.below hbf (fun k hk => (ho3d.lies k hk).2)
        have hoAf : Own wf w1.heap.size 5 A1 nA cA (By (il (cat (X.take k)))) := hoAd.below hbf (fun k hk => (hoAd.lies k hk).2)
        have hbu6 : Bs wf A2 us.length us := hbu4.keep hbf
        have htf := htd.below hbf
        clear hoe hof hgf hbe hbwe ho3e hr3e hbf hbu4 hoAd ho3d htd
        go_wp2_with fail
        refine (open_rec Af (nA + n3) cf nA (cat (X.take k)) (nl us) _ hbsf (by omega) hcapf HNA.out.symm HRU.out (by rw [nl_length]; omega) htf).mono ?_
        rintro e wg ⟨A6, c6, rfl, ho6, hb6⟩
        rw [il_nl HRAN.out, nl_length] at ho6
        rw [nl_length]
        have hbwg : Below wr.heap.size wr wg := hbwf.trans (hb6.mono hbwf.size)
        have ho3g : Own wg wr.heap.size 5 A3 n3 c3 (By (il R)) := ho3f.below hb6 (fun k hk => (ho3f.lies k hk).2)
        have hoAg : Own wg w1.heap.size 5 A1 nA cA (By (il (cat (X.take k)))) := hoAf.below hb6 (fun k hk => (hoAf.lies k hk).2)
        have hbu7 := hbu6.keep hb6
        have hb6s := ho6.bs HRAN.out
        have hnn : (((nA + n3 : Nat) : Int) != (nA : Int) + (n3 : Int)) = false := by simp
        clear hbsf ho3f hoAf hbu6 ho6 hb6 hbwf
        go_wp2_with fail
        refine (equal_any A6 A2 us.length us.length c6 c2 us us _ hb6s hbu7 (by unfold maxLen; omega) (by unfold maxLen; omega)).mono ?_
        rintro e wh' ⟨rfl, hdh⟩
        rw [cmpL_self]
        have hbh : Below wg.heap.size wg wh' := hdh.below _
        have hbwh : Below wr.heap.size wr wh' := hbwg.trans (hbh.mono hbwg.size)
        have ho3h : Own wh' wr.heap.size 5 A3 n3 c3 (By (il R)) := ho3g.below hbh (fun k hk => (ho3g.lies k hk).2)
        have hoAh : Own wh' w1.heap.size 5 A1 nA cA (By (il (cat (X.take k)))) := hoAg.below hbh (fun k hk => (hoAg.lies k hk).2)
        have hr3h := ho3h.rd
        have hbr8 := hbr.trans (hbwh.mono hsr)
        have hs8 := hbr8.size
        clear hb6s hbu7 hdh hbh ho3g hoAg hbwg ho3h
        go_wp2_with (at_builtin; refine wpList_append_rd rfl _ _ 28 rfl i0 (.int .u8 0) 1 Tryd.underlying28 hi hz0 hz1 hz2 rfl rfl hoAh A3 n3 c3 (By (il R)) rfl hr3h (By_one _) ?d1 ?d2 ?d3 ?_)
        case d1 => unfold maxLen; omega
        case d2 => omega
        case d3 => exact hs8
        intro A9 c9 w9 ho9 hg9
        have hbr9 := hbr8.trans (hg9.below hs8 (fun k hk => (hoAh.lies k hk).1))
        have HNA9 := Lib.hid (show nA + n3 = (cat (X.take (k + 1))).length by rw [HTK.out, cat_snoc, List.length_append, ← HNA.out, recL_length, nl_length, HN3.out])
        have hoA9 : Own w9 w1.heap.size 5 A9 (nA + n3) c9 (By (il (cat (X.take (k + 1))))) := by rw [HTK.out, cat_snoc, il_append, By_append, ← HR.out]; exact ho9
        clear ho9 hg9 hoAh hr3h hbr8 hbwh hnn
        go_wp2
        go_roundw
        case rel => exact ⟨k + 1, nA + n3, c9, A9, by go_num, by omega, rfl, by omega, HNA9, hoA9, hbr9⟩
        case measure => simp [intOf]; omega
      · obtain rfl : k = L := by omega
        have hke : X.take k = X := List.take_of_length_le (by rw [HXL.out]; exact Nat.le_refl _)
        rw [hke] at HNA hoA
        clear hke
        have HIR := Lib.hid (il_ran (show Rn (cat X) by
          intro z hz
          obtain ⟨l, hl', hzl⟩ := List.mem_flatten.1 hz
          obtain ⟨x, hx', rfl⟩ := List.mem_map.1 hl'
          exact recL_rn (HXX.out x hx').1 z hzl))
        have HB : Hid (Chain (cat X) 0 X (cat X).length ∧ (openL (cat X) (cat X).length).1 = 5) := by
          have := chain_begin X [] (cat X).length HXX.out
          show _ ∧ _
          simpa [wh_all] using this
        have htB := ht1.below hbr
        have hbvB := hbv.keep hbr
        have hbwB := hb1.trans (hbr.mono hs1)
        go_wp2_with fail
        refine (copy_any A1 nA cA _ _ (hoA.bs HIR.out) (by omega)).mono ?_
        rintro e wa ⟨Ac, cc, rfl, hoc, hba⟩
        go_wp2_with fail
        refine (openAll_any Ac nA cc _ _ (hoc.bs HIR.out) (by omega) hoc.cap (htB.below hba)).mono ?_
        rintro e wb ⟨R5, c5, kk, at5, recs, rfl, hkk, hat, hp5, HC5, HE5, hb5⟩
        rw [nl_il] at HC5 HE5 hat
        have huni := HC5.out.only HB.out.1 HE5.out (by rw [HB.out.2]; omega)
        obtain rfl : kk = k := by rw [hkk, huni.1, HXL.out]
        obtain rfl : at5 = nA := by rw [huni.2, HNA.out]
        have hbb : Below wr.heap.size wr wb := hba.trans (hb5.mono hba.size)
        have hbvb := hbvB.keep hbb
        have htb := htB.below hbb
        have hbwb := hbwB.trans (hbb.mono hbwB.size)
        clear hkk huni HC5 HE5 HB hp5 hoA hoc hba hb5 hbwB htB hat hbvB hbb HNA hbr
        go_wp2_with fail
        refine (copy_any B vs.length d vs _ hbvb (by omega)).mono ?_
        rintro e wc ⟨Ab, cb, rfl, hob, hbc⟩
        have hbvc := hbvb.keep hbc
        have htc := htb.below hbc
        have hbwc := hbwb.trans (hbc.mono hbwb.size)
        have hbsb := hob.bs hbvb.2
        have hcb := hob.cap
        clear hbvb htb hbwb hob hbc
        have hq : (q < 0 ∨ (vs.length : Int) < q) ∨ (0 ≤ q ∧ q ≤ (vs.length : Int)) := by omega
        rcases hq with hq | hq
        · go_wp2_with fail
          refine (open_arg Ab vs.length cb q vs _ hbsb (by omega) hq).mono ?_
          rintro e w' ⟨rfl, rfl⟩
          go_wp2_with fail
          refine (ropen_arg B vs.length d q vs _ hbvc (by omega) hq).mono ?_
          rintro e w' ⟨rfl, rfl⟩
          go_wp2_with fail
          refine (equal_any none none 0 0 0 0 [] [] _ Bs.nil_ Bs.nil_ (by unfold maxLen; omega) (by unfold maxLen; omega)).mono ?_
          rintro e wz ⟨rfl, hdz⟩
          rw [cmpL_self]
          have hbz := hbwc.trans ((hdz.below _).mono hbwc.size)
          go_wp2_with fail
          refine (sealed_out (-1) (by omega) _).mono ?_
          rintro e w' ⟨rfl, rfl⟩
          go_wp2_with fail
          refine (sealed_out 1048577 (by omega) _).mono ?_
          rintro e w' ⟨rfl, rfl⟩
          go_wp2
          go_ret
          exact ⟨by simp, hbz⟩
        · obtain ⟨Q, rfl⟩ : ∃ Q : Nat, q = (Q : Int) := ⟨q.toNat, by omega⟩
          have hQ : Q ≤ vs.length := by omega
          clear hq
          obtain ⟨r, hr⟩ : ∃ r, r = openL (nl vs) Q := ⟨_, rfl⟩
          have HRR := Lib.hid hr; clear hr
          have HRNR : Hid (Rn r.2.1) := by show Rn _; rw [HRR.out]; exact openL_rn (nl_rn hbvc.2) Q
          have HRLN : Hid (r.1 = 0 → r.2.1.length ≤ 1048576) := fun h => by rw [HRR.out] at h ⊢; exact (openL_next h).2.2
          go_wp2_with fail
          refine (open_any Ab vs.length cb Q vs _ hbsb (by omega) hcb hQ htc).mono ?_
          rintro e wd hpost
          rw [← HRR.out] at hpost
          rcases hpost with ⟨hr0, A7, c7, rfl, ho7, hb7⟩ | ⟨hr0, rfl, hb7⟩
          · have hbvd := hbvc.keep hb7
            have hbwd := hbwc.trans (hb7.mono hbwc.size)
            have hln := HRLN.out hr0
            clear hb7 hbvc hbwc hbsb htc
            go_wp2_with fail
            refine (ropen_any B vs.length d Q vs _ hbvd (by omega) hvd hQ).mono ?_
            rintro e we hpost
            rw [← HRR.out] at hpost
            rcases hpost with ⟨_, A8, c8, rfl, ho8, hb8⟩ | ⟨hr1, _⟩
            · have ho7' := ho7.below hb8 (fun k hk => (ho7.lies k hk).2)
              have hb7s := ho7'.bs (il_ran HRNR.out)
              have hb8s := ho8.bs (il_ran HRNR.out)
              have hbwe := hbwd.trans (hb8.mono hbwd.size)
              generalize r.2.1.length = ln at *
              generalize r.2.2 = rn at *
              clear hr0 ho7 ho7' ho8 hb8 hbwd hbvd
              go_wp2_with fail
              refine (equal_any A7 A8 ln ln c7 c8 _ _ _ hb7s hb8s (by unfold maxLen; omega) (by unfold maxLen; omega)).mono ?_
              rintro e wz ⟨rfl, hdz⟩
              rw [cmpL_self]
              have hbz := hbwe.trans ((hdz.below _).mono hbwe.size)
              go_wp2_with fail
              refine (sealed_out (-1) (by omega) _).mono ?_
              rintro e w' ⟨rfl, rfl⟩
              go_wp2_with fail
              refine (sealed_out 1048577 (by omega) _).mono ?_
              rintro e w' ⟨rfl, rfl⟩
              go_wp2
              go_ret
              exact ⟨by simp, hbz⟩
            · exact absurd hr0 hr1
          · have hbvd := hbvc.keep hb7
            have hbwd := hbwc.trans (hb7.mono hbwc.size)
            clear hb7 hbvc hbwc hbsb htc
            go_wp2_with fail
            refine (ropen_any B vs.length d Q vs _ hbvd (by omega) hvd hQ).mono ?_
            rintro e we hpost
            rw [← HRR.out] at hpost
            rcases hpost with ⟨hr1, _⟩ | ⟨_, rfl, hb8⟩
            · exact absurd hr1 hr0
            · have hbwe := hbwd.trans (hb8.mono hbwd.size)
              generalize r.1 = r1 at *
              clear hb8 hbwd hbvd hr0
              go_wp2_with fail
              refine (equal_any none none 0 0 0 0 [] [] _ Bs.nil_ Bs.nil_ (by unfold maxLen; omega) (by unfold maxLen; omega)).mono ?_
              rintro e wz ⟨rfl, hdz⟩
              rw [cmpL_self]
              have hbz := hbwe.trans ((hdz.below _).mono hbwe.size)
              go_wp2_with fail
              refine (sealed_out (-1) (by omega) _).mono ?_
              rintro e w' ⟨rfl, rfl⟩
              go_wp2_with fail
              refine (sealed_out 1048577 (by omega) _).mono ?_
              rintro e w' ⟨rfl, rfl⟩
              go_wp2
              go_ret
              exact ⟨by simp, hbz⟩
end Go.Proofs.YtmckgdjipkkklaaDoor
