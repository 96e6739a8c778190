/- (*Rec).take at the letter of the shards. -/
import Derived.Test.YtmjjbfcblmmipaaClW
import Derived.Test.YtmjjbfcblmmipaaRdr
import Derived.Deep.LoopGhost
namespace Go.Proofs.Ytmjjbfcblmmipaa
set_option linter.unusedVariables false
set_option linter.unusedSimpArgs false
open Go.RowKit

theorem texts_bd : ∀ xss : List (List Int), xss.length ≤ (texts xss).length ∧ ∀ xs ∈ xss, xs.length ≤ (texts xss).length
  | [] => ⟨by simp, fun xs h => by cases h⟩
  | x :: xss => by
    obtain ⟨h1, h2⟩ := texts_bd xss
    have hp := num_pos (x.length : Int)
    have e : (texts (x :: xss)).length = (num (x.length : Int)).length + x.length + (texts xss).length := by
      unfold texts
      simp only [List.map_cons, List.flatten_cons, List.length_append]
    rw [e]
    refine ⟨by simp only [List.length_cons]; omega, fun xs h => ?_⟩
    rcases List.mem_cons.1 h with rfl | h
    · omega
    · have := h2 xs h; omega
theorem joinL_bd (xss : List (List Int)) : xss.length ≤ (joinL xss).length ∧ ∀ xs ∈ xss, xs.length ≤ (joinL xss).length := by
  obtain ⟨h1, h2⟩ := texts_bd xss
  unfold joinL
  rw [List.length_append]
  exact ⟨by omega, fun xs h => by have := h2 xs h; omega⟩
theorem splitL_joinB (xss : List (List Int)) (h : (joinL xss).length ≤ 1073741824) : splitL (joinL xss) = (xss, 0) := by
  obtain ⟨h1, h2⟩ := joinL_bd xss
  exact splitL_join xss (by omega) (fun xs hx => by have := h2 xs hx; omega)
theorem trP_drop : ∀ {l : List Tr} {k : Nat} {t : Tr}, l[k]? = some t → (trP l).drop (3 * k) = [flagB t.f] :: t.a :: t.b :: (trP l).drop (3 * (k + 1))
  | [], k, t, h => by simp at h
  | u :: l, 0, t, h => by
    have : u = t := by simpa using h
    subst this
    rfl
  | u :: l, k + 1, t, h => by
    have h' : l[k]? = some t := by simpa using h
    have ih := trP_drop h'
    have e : trP (u :: l) = [flagB u.f] :: u.a :: u.b :: trP l := rfl
    rw [e, show 3 * (k + 1) = 3 * k + 1 + 1 + 1 by omega, show 3 * (k + 1 + 1) = 3 * (k + 1) + 1 + 1 + 1 by omega]
    simp only [List.drop_succ_cons]
    exact ih
theorem PrR.three {w : World} {b : Nat} {A : Option Addr} {n c : Nat} {xss : List (List Int)} {f : Bool} {x1 x2 : List Int} {r : List (List Int)} (h : PrR w b A n c xss) (hx : xss = [flagB f] :: x1 :: x2 :: r) :
    ∃ b2 off A0 c0 A1 c1 A2 c2, A = some ⟨b2, off, none⟩ ∧ b2 < w.heap.size ∧ (∃ cs fr, w.heap[b2]? = some (.cells cs 28 fr)) ∧ w.cell? ⟨b2, off, none⟩ = some (.slice A0 1 c0) ∧ w.cell? ⟨b2, off + 1, none⟩ = some (.slice A1 x1.length c1) ∧ w.cell? ⟨b2, off + 2, none⟩ = some (.slice A2 x2.length c2) ∧
      Own w b 5 A0 1 c0 (By [flagB f]) ∧ Own w b 5 A1 x1.length c1 (By x1) ∧ Ran x1 ∧ Own w b 5 A2 x2.length c2 (By x2) ∧ Ran x2 ∧ (blk A1 = none ∨ blk A1 ≠ blk A2) := by
  subst hx
  have hl := h.1
  simp only [List.length_cons] at hl
  obtain ⟨b0, o0, A0, n0, c0, y0, hA0, hlt, HX0, HL0, hc0, ho0, hr0⟩ := h.at_ (k := 0) (by omega)
  obtain ⟨b1, o1, A1, n1, c1, y1, hA1, _, HX1, HL1, hc1, ho1, hr1⟩ := h.at_ (k := 1) (by omega)
  obtain ⟨b2, o2, A2, n2, c2, y2, hA2, _, HX2, HL2, hc2, ho2, hr2⟩ := h.at_ (k := 2) (by omega)
  have e0 : y0 = [flagB f] := by have := HX0.out; simpa using this.symm
  have e1 : y1 = x1 := by have := HX1.out; simpa using this.symm
  have e2 : y2 = x2 := by have := HX2.out; simpa using this.symm
  have l0 := HL0.out; have l1 := HL1.out; have l2 := HL2.out
  subst e0 e1 e2 l0 l1 l2
  rw [hA0] at hA1 hA2
  injection hA1 with hA1; injection hA1 with hA1 ho1'
  injection hA2 with hA2; injection hA2 with hA2 ho2'
  subst hA1 hA2 ho1' ho2'
  exact ⟨b0, o0, A0, c0, A1, c1, A2, c2, hA0, hlt, h.2.2.1 b0 (by rw [hA0]; rfl), hc0, hc1, hc2, ho0, ho1, hr1, ho2, hr2, h.dist (k := 1) (l := 2) (by omega) (by omega) (by omega) hA0 hc1 hc2⟩
def slLen : Value → Nat | .slice _ n _ => n | _ => 0
theorem flagS_flag (f : Bool) : flagS [flagB f] 0 = (f, [], 0) := by cases f <;> rfl
theorem sv_cell {ex : List TypeId} {g base b2 off : Nat} {w w' : World} {v : Value} (hE : Ef ex g base w w') (hb : ∃ cs fr, w.heap[b2]? = some (.cells cs 28 fr)) (h28 : 28 ∉ ex) (h : w.cell? ⟨b2, off, none⟩ = some v) : w'.cell? ⟨b2, off, none⟩ = some v := by
  obtain ⟨cs, fr, hh⟩ := hb
  rw [World.cell?_of_block (a := ⟨b2, off, none⟩) ((hE.ty _ _ _ _ hh h28).trans hh.symm)]
  exact h
set_option maxRecDepth 100000 in
set_option maxHeartbeats 4000000 in
theorem threes_w (g bx : Nat) (k b s q : Int) (AR : Option Addr) (nR cR : Nat) (f : Bool) (AS : Option Addr) (nS cS : Nat) (AP : Option Addr) (nP cP : Nat) (i : Int) (S : ByteArray) (l : List Tr) (A : Option Addr) (n c : Nat) (w : World)
    (hx : Bs w A n (trs l)) (hnc : n ≤ c) (hk : ∀ k, blk A = some k → k < w.heap.size) (hn : n ≤ 20000000)
    (hbx : w.heap[bx]? = some (.cells #[.pointer (some ⟨g, 0, none⟩)] 154 (0, 0))) (hg : w.heap[g]? = some (.cells (rcV k b s q none 0 0 AR nR cR f AS nS cS AP nP cP i S) 32 (0, 0))) :
    Calls Try.prog 111 #[.slice A n c, .func (.func 112) #[] #[.pointer (some ⟨bx, 0, none⟩)]] w fun e w' => ∃ A' n' c', e = .returned (.int .i64 0) ∧ n' = l.length ∧
      w'.heap[g]? = some (.cells (rcV k b s q A' n' c' AR nR cR f AS nS cS AP nP cP i S) 32 (0, 0)) ∧ TrO w' w.heap.size 61 A' n' c' l ∧ Onl g w w' := by
  have hlen : (joinL (trP l)).length = n := hx.len
  have HSP := Lib.hid (splitL_joinB (trP l) (by omega))
  have HN := Lib.hid (trP_length l)
  have hNb : (trP l).length ≤ 20000000 := by have := (joinL_bd (trP l)).1; omega
  have HG := Lib.hid hg; have HB := Lib.hid hbx
  clear hg hbx hlen
  go_enter Try.func111, Try.ntmps111
  go_wp2_with fail
  refine (split_any A n c (trs l) w hx hnc hk (by omega)).mono ?_
  rintro e w1 ⟨A1, n1, c1, rfl, hn1, hp1, hb1⟩
  have HSP' : Hid (splitL (trs l) = (trP l, 0)) := HSP
  rw [HSP'.out] at hn1 hp1
  change n1 = (trP l).length at hn1
  change Prts w1 w.heap.size A1 n1 c1 (trP l) at hp1
  rw [HSP'.out]
  have hp : PrR w1 w.heap.size A1 n1 c1 (trP l) := hp1.prR
  have HG1 := Lib.hid ((hb1.block g (lt_of_heap HG.out)).trans HG.out)
  have HB1 := Lib.hid ((hb1.block bx (lt_of_heap HB.out)).trans HB.out)
  have HE1 : Hid (Ef [32, 61] g w.heap.size w w1) := Ef.of_below hb1 (Nat.le_refl _)
  have hrem : (n1 : Int) % 3 = 0 := by rw [hn1]; have := HN.out; omega
  have hrem2 : Int.tmod (n1 : Int) 3 = 0 := by rw [Int.tmod_eq_emod_of_nonneg (by omega)]; exact hrem
  have hrem3 : ((n1 : Int).tmod 3 != 0) = false := by rw [hrem2]; rfl
  have HN1 : Hid (n1 = 3 * l.length) := by show n1 = 3 * l.length; have := HN.out; rw [hn1]; exact this
  have hbd : n1 ≤ 20000000 := by rw [hn1]; exact hNb
  clear hx hk hn1 hp1 hb1 HSP HSP' hNb HG HB hrem
  go_wp2
  go_loopw [5] (fun pv wr => ∃ (kk m r c2 d : Nat) (A2 A' : Option Addr), pv = .slice A2 r c2 ∧ Hid (r + 3 * kk = n1) ∧ Hid (m = kk) ∧ kk ≤ l.length ∧ r ≤ n1 ∧ PrR wr w.heap.size A2 r c2 ((trP l).drop (3 * kk)) ∧ Hid (wr.heap[g]? = some (.cells (rcV k b s q A' m d AR nR cR f AS nS cS AP nP cP i S) 32 (0, 0))) ∧ Hid (wr.heap[bx]? = some (.cells #[.pointer (some ⟨g, 0, none⟩)] 154 (0, 0))) ∧ TrO wr w.heap.size 61 A' m d (l.take kk) ∧ Hid (Ef [32, 61] g w.heap.size w wr)) (fun pv _ => slLen pv)
  case atStart => exact ⟨0, 0, n1, c1, 0, A1, none, rfl, Lib.hid (by omega), Lib.hid rfl, Nat.zero_le _, Nat.le_refl _, hp, HG1, HB1, TrO.nil_, HE1⟩
  case round =>
    clear hp HG1 HB1 HE1
    obtain ⟨kk, m, r, c2, d, A2, A', rfl, HR, HM, hkk, hrn, hp, HG, HB, hO, HE⟩ := hrel
    by_cases hlt : kk < l.length
    · obtain ⟨t, HX⟩ : ∃ t, Hid (l[kk]? = some t) := ⟨_, List.getElem?_eq_getElem hlt⟩
      have HD := Lib.hid (trP_drop HX.out)
      have hr3 : 3 ≤ r := by have h1 := HR.out; have h2 := HN1.out; omega
      have hr0 : (0 : Int) < (r : Int) := by omega
      have hr0' : decide ((0 : Int) < (r : Int)) = true := by simpa using hr0
      have hi1 : (1 : Int) < (r : Int) := by omega
      have hi2 : (2 : Int) < (r : Int) := by omega
      have HS := Lib.hid HE.out.size
      obtain ⟨b2, off, A0, c0, B1, d1, B2, d2, rfl, hb2, HRow, hc0, hc1, hc2, ho0, ho1, hrn1, ho2, hrn2, hds⟩ := hp.three HD.out
      have HDS := Lib.hid hds; clear hds
      have HRW := Lib.hid HRow; clear HRow
      have hsl := slice62_3 (some ⟨b2, off, none⟩) r c2 hr3
      have HPC := Lib.hid (hp.cut (lo := 3) hr3)
      clear hp hlt
      go_wp2_with fail
      refine (read_any A0 1 c0 [flagB t.f] _ (ho0.bs (flagB_ran _)) (by omega)).mono ?_
      rintro e w2 ⟨gr, rfl, hrd2, hgr, hb2'⟩
      have HRD := Lib.hid hrd2
      clear hrd2
      go_wp2_with fail
      refine (rflag_any _ gr _ 0 HRD.out).mono ?_
      rw [flagS_flag]
      rintro e w3 ⟨rfl, hrd3, ho3⟩
      have hb3 : Below wr.heap.size wr w3 := hb2'.trans ((ho3.below (Nat.le_of_lt HRD.out.lt)).mono hgr)
      have HRD3 := Lib.hid hrd3
      clear hrd3 ho3 hb2' HRD ho0 hc0
      go_wp2_with fail
      refine (rclose_any _ gr _ _ HRD3.out).mono ?_
      rintro e w4 ⟨rfl, rfl⟩
      have hb3d : Below wr.heap.size wr w3.drew := below_n hb3 1
      have HCV := Lib.hid (show closeV [] 0 = 0 from rfl)
      rw [HCV.out]
      have e1 : w3.drew.cell? ⟨b2, off + 1, none⟩ = some (.slice B1 t.a.length d1) := (hb3.cell (p := ⟨b2, off + 1, none⟩) hb2).trans hc1
      have e2 : w3.drew.cell? ⟨b2, off + 2, none⟩ = some (.slice B2 t.b.length d2) := (hb3.cell (p := ⟨b2, off + 2, none⟩) hb2).trans hc2
      have HRW3 : Hid (∃ cs fr, w3.drew.heap[b2]? = some (.cells cs 28 fr)) := by
        obtain ⟨cs, fr, hh⟩ := HRW.out
        exact ⟨cs, fr, (hb3.block b2 hb2).trans hh⟩
      have HG3 : Hid (w3.drew.heap[g]? = some (.cells (rcV k b s q A' m d AR nR cR f AS nS cS AP nP cP i S) 32 (0, 0))) := (hb3.block g (lt_of_heap HG.out)).trans HG.out
      have HB3 : Hid (w3.drew.heap[bx]? = some (.cells #[.pointer (some ⟨g, 0, none⟩)] 154 (0, 0))) := (hb3.block bx (lt_of_heap HB.out)).trans HB.out
      have HO3 : Hid (TrO w3.drew w.heap.size 61 A' m d (l.take kk)) := hO.keep hb3d
      have hp1 : Own w3.drew w.heap.size 5 B1 t.a.length d1 (By t.a) := ho1.below hb3d (fun k hk => (ho1.lies k hk).2)
      have hp2 : Own w3.drew w.heap.size 5 B2 t.b.length d2 (By t.b) := ho2.below hb3d (fun k hk => (ho2.lies k hk).2)
      have HPC3 : Hid (PrR w3.drew w.heap.size (cutA (some ⟨b2, off, none⟩) c2 3) (r - 3) (c2 - 3) (((trP l).drop (3 * kk)).drop 3)) := HPC.out.keep hb3d
      have HE3 : Hid (Ef [32, 61] g w.heap.size w w3.drew) := HE.out.trans (Ef.of_below hb3d HS.out)
      have hs3 : w.heap.size ≤ w3.drew.heap.size := Nat.le_trans HS.out hb3.size
      have hmb : m ≤ 20000000 := by rw [HM.out]; have h1 := HR.out; omega
      clear hc1 hc2 ho1 ho2 hO hb3 hb3d HRD3 HG HB HPC HE HRW hb2
      go_wp2_with fail
      go_region_held3 (fun w' => w'.cell? ⟨b2, off + 1, none⟩ = some (.slice B1 t.a.length d1) ∧ w'.cell? ⟨b2, off + 2, none⟩ = some (.slice B2 t.b.length d2)) (first | exact ⟨e1, e2⟩ | exact ⟨f1, f2⟩) (first | (go_at_call 112; refine (cl_w g bx w.heap.size k b s q A' m d AR nR cR f AS nS cS AP nP cP i S (l.take kk) t B1 d1 B2 d2 _ HB3.out HG3.out HO3.out hp1 hrn1 hp2 hrn2 HDS.out hmb hs3).mono ?_; rintro e w5 ⟨A5, c5, rfl, hg5, ho5, hE5⟩; have f1 := sv_cell hE5 HRW3.out (by decide) e1; have f2 := sv_cell hE5 HRW3.out (by decide) e2; have HG5 := Lib.hid hg5; have HO5 := Lib.hid ho5; have HB5 := Lib.hid (hE5.ty _ _ _ _ HB3.out (by decide)); have HE5 := Lib.hid (HE3.out.trans hE5); have HP5 := Lib.hid (HPC3.out.ef hE5 (by decide) (by decide)); clear hg5 ho5 hE5))
      have HTK : Hid (l.take kk ++ [t] = l.take (kk + 1)) := by show l.take kk ++ [t] = l.take (kk + 1); rw [List.take_add_one, HX.out]; rfl
      rw [HTK.out] at HO5
      have HDD : Hid (((trP l).drop (3 * kk)).drop 3 = (trP l).drop (3 * (kk + 1))) := by show ((trP l).drop (3 * kk)).drop 3 = _; rw [List.drop_drop]; rfl
      rw [HDD.out] at HP5
      clear e1 e2 f1 f2 hp1 hp2
      go_wp2
      go_roundw
      case rel => exact ⟨kk + 1, m + 1, r - 3, c2 - 3, c5, _, A5, rfl, Lib.hid (by have h1 := HR.out; omega), Lib.hid (by rw [HM.out]), by have h1 := HR.out; have h2 := HN1.out; omega, by omega, HP5.out, HG5, HB5, HO5.out, HE5⟩
      case measure => simp only [slLen]; omega
    · have hke : kk = l.length := by omega
      subst hke
      have hr0 : r = 0 := by have h1 := HR.out; have h2 := HN1.out; omega
      subst hr0
      have HML := Lib.hid HM.out
      rw [List.take_of_length_le (Nat.le_refl _)] at hO
      go_wp2
      go_ret
      exact ⟨A', m, d, rfl, HML.out, HG.out, hO, HE.out.onl⟩
set_option maxRecDepth 100000 in
set_option maxHeartbeats 4000000 in
theorem threes_r (g bx : Nat) (k b s q : Int) (AW : Option Addr) (nW cW : Nat) (f : Bool) (AS : Option Addr) (nS cS : Nat) (AP : Option Addr) (nP cP : Nat) (i : Int) (S : ByteArray) (l : List Tr) (A : Option Addr) (n c : Nat) (w : World)
    (hx : Bs w A n (trs l)) (hnc : n ≤ c) (hk : ∀ k, blk A = some k → k < w.heap.size) (hn : n ≤ 20000000)
    (hbx : w.heap[bx]? = some (.cells #[.pointer (some ⟨g, 0, none⟩)] 154 (0, 0))) (hg : w.heap[g]? = some (.cells (rcV k b s q AW nW cW none 0 0 f AS nS cS AP nP cP i S) 32 (0, 0))) :
    Calls Try.prog 111 #[.slice A n c, .func (.func 113) #[] #[.pointer (some ⟨bx, 0, none⟩)]] w fun e w' => ∃ A' n' c', e = .returned (.int .i64 0) ∧ n' = l.length ∧
      w'.heap[g]? = some (.cells (rcV k b s q AW nW cW A' n' c' f AS nS cS AP nP cP i S) 32 (0, 0)) ∧ TrO w' w.heap.size 99 A' n' c' l ∧ Onl g w w' := by
  have hlen : (joinL (trP l)).length = n := hx.len
  have HSP := Lib.hid (splitL_joinB (trP l) (by omega))
  have HN := Lib.hid (trP_length l)
  have hNb : (trP l).length ≤ 20000000 := by have := (joinL_bd (trP l)).1; omega
  have HG := Lib.hid hg; have HB := Lib.hid hbx
  clear hg hbx hlen
  go_enter Try.func111, Try.ntmps111
  go_wp2_with fail
  refine (split_any A n c (trs l) w hx hnc hk (by omega)).mono ?_
  rintro e w1 ⟨A1, n1, c1, rfl, hn1, hp1, hb1⟩
  have HSP' : Hid (splitL (trs l) = (trP l, 0)) := HSP
  rw [HSP'.out] at hn1 hp1
  change n1 = (trP l).length at hn1
  change Prts w1 w.heap.size A1 n1 c1 (trP l) at hp1
  rw [HSP'.out]
  have hp : PrR w1 w.heap.size A1 n1 c1 (trP l) := hp1.prR
  have HG1 := Lib.hid ((hb1.block g (lt_of_heap HG.out)).trans HG.out)
  have HB1 := Lib.hid ((hb1.block bx (lt_of_heap HB.out)).trans HB.out)
  have HE1 : Hid (Ef [32, 99] g w.heap.size w w1) := Ef.of_below hb1 (Nat.le_refl _)
  have hrem : (n1 : Int) % 3 = 0 := by rw [hn1]; have := HN.out; omega
  have hrem2 : Int.tmod (n1 : Int) 3 = 0 := by rw [Int.tmod_eq_emod_of_nonneg (by omega)]; exact hrem
  have hrem3 : ((n1 : Int).tmod 3 != 0) = false := by rw [hrem2]; rfl
  have HN1 : Hid (n1 = 3 * l.length) := by show n1 = 3 * l.length; have := HN.out; rw [hn1]; exact this
  have hbd : n1 ≤ 20000000 := by rw [hn1]; exact hNb
  clear hx hk hn1 hp1 hb1 HSP HSP' hNb HG HB hrem
  go_wp2
  go_loopw [5] (fun pv wr => ∃ (kk m r c2 d : Nat) (A2 A' : Option Addr), pv = .slice A2 r c2 ∧ Hid (r + 3 * kk = n1) ∧ Hid (m = kk) ∧ kk ≤ l.length ∧ r ≤ n1 ∧ PrR wr w.heap.size A2 r c2 ((trP l).drop (3 * kk)) ∧ Hid (wr.heap[g]? = some (.cells (rcV k b s q AW nW cW A' m d f AS nS cS AP nP cP i S) 32 (0, 0))) ∧ Hid (wr.heap[bx]? = some (.cells #[.pointer (some ⟨g, 0, none⟩)] 154 (0, 0))) ∧ TrO wr w.heap.size 99 A' m d (l.take kk) ∧ Hid (Ef [32, 99] g w.heap.size w wr)) (fun pv _ => slLen pv)
  case atStart => exact ⟨0, 0, n1, c1, 0, A1, none, rfl, Lib.hid (by omega), Lib.hid rfl, Nat.zero_le _, Nat.le_refl _, hp, HG1, HB1, TrO.nil_, HE1⟩
  case round =>
    clear hp HG1 HB1 HE1
    obtain ⟨kk, m, r, c2, d, A2, A', rfl, HR, HM, hkk, hrn, hp, HG, HB, hO, HE⟩ := hrel
    by_cases hlt : kk < l.length
    · obtain ⟨t, HX⟩ : ∃ t, Hid (l[kk]? = some t) := ⟨_, List.getElem?_eq_getElem hlt⟩
      have HD := Lib.hid (trP_drop HX.out)
      have hr3 : 3 ≤ r := by have h1 := HR.out; have h2 := HN1.out; omega
      have hr0 : (0 : Int) < (r : Int) := by omega
      have hr0' : decide ((0 : Int) < (r : Int)) = true := by simpa using hr0
      have hi1 : (1 : Int) < (r : Int) := by omega
      have hi2 : (2 : Int) < (r : Int) := by omega
      have HS := Lib.hid HE.out.size
      obtain ⟨b2, off, A0, c0, B1, d1, B2, d2, rfl, hb2, HRow, hc0, hc1, hc2, ho0, ho1, hrn1, ho2, hrn2, hds⟩ := hp.three HD.out
      have HDS := Lib.hid hds; clear hds
      have HRW := Lib.hid HRow; clear HRow
      have hsl := slice62_3 (some ⟨b2, off, none⟩) r c2 hr3
      have HPC := Lib.hid (hp.cut (lo := 3) hr3)
      clear hp hlt
      go_wp2_with fail
      refine (read_any A0 1 c0 [flagB t.f] _ (ho0.bs (flagB_ran _)) (by omega)).mono ?_
      rintro e w2 ⟨gr, rfl, hrd2, hgr, hb2'⟩
      have HRD := Lib.hid hrd2
      clear hrd2
      go_wp2_with fail
      refine (rflag_any _ gr _ 0 HRD.out).mono ?_
      rw [flagS_flag]
      rintro e w3 ⟨rfl, hrd3, ho3⟩
      have hb3 : Below wr.heap.size wr w3 := hb2'.trans ((ho3.below (Nat.le_of_lt HRD.out.lt)).mono hgr)
      have HRD3 := Lib.hid hrd3
      clear hrd3 ho3 hb2' HRD ho0 hc0
      go_wp2_with fail
      refine (rclose_any _ gr _ _ HRD3.out).mono ?_
      rintro e w4 ⟨rfl, rfl⟩
      have hb3d : Below wr.heap.size wr w3.drew := below_n hb3 1
      have HCV := Lib.hid (show closeV [] 0 = 0 from rfl)
      rw [HCV.out]
      have e1 : w3.drew.cell? ⟨b2, off + 1, none⟩ = some (.slice B1 t.a.length d1) := (hb3.cell (p := ⟨b2, off + 1, none⟩) hb2).trans hc1
      have e2 : w3.drew.cell? ⟨b2, off + 2, none⟩ = some (.slice B2 t.b.length d2) := (hb3.cell (p := ⟨b2, off + 2, none⟩) hb2).trans hc2
      have HRW3 : Hid (∃ cs fr, w3.drew.heap[b2]? = some (.cells cs 28 fr)) := by
        obtain ⟨cs, fr, hh⟩ := HRW.out
        exact ⟨cs, fr, (hb3.block b2 hb2).trans hh⟩
      have HG3 : Hid (w3.drew.heap[g]? = some (.cells (rcV k b s q AW nW cW A' m d f AS nS cS AP nP cP i S) 32 (0, 0))) := (hb3.block g (lt_of_heap HG.out)).trans HG.out
      have HB3 : Hid (w3.drew.heap[bx]? = some (.cells #[.pointer (some ⟨g, 0, none⟩)] 154 (0, 0))) := (hb3.block bx (lt_of_heap HB.out)).trans HB.out
      have HO3 : Hid (TrO w3.drew w.heap.size 99 A' m d (l.take kk)) := hO.keep hb3d
      have hp1 : Own w3.drew w.heap.size 5 B1 t.a.length d1 (By t.a) := ho1.below hb3d (fun k hk => (ho1.lies k hk).2)
      have hp2 : Own w3.drew w.heap.size 5 B2 t.b.length d2 (By t.b) := ho2.below hb3d (fun k hk => (ho2.lies k hk).2)
      have HPC3 : Hid (PrR w3.drew w.heap.size (cutA (some ⟨b2, off, none⟩) c2 3) (r - 3) (c2 - 3) (((trP l).drop (3 * kk)).drop 3)) := HPC.out.keep hb3d
      have HE3 : Hid (Ef [32, 99] g w.heap.size w w3.drew) := HE.out.trans (Ef.of_below hb3d HS.out)
      have hs3 : w.heap.size ≤ w3.drew.heap.size := Nat.le_trans HS.out hb3.size
      have hmb : m ≤ 20000000 := by rw [HM.out]; have h1 := HR.out; omega
      clear hc1 hc2 ho1 ho2 hO hb3 hb3d HRD3 HG HB HPC HE HRW hb2
      go_wp2_with fail
      go_region_held3 (fun w' => w'.cell? ⟨b2, off + 1, none⟩ = some (.slice B1 t.a.length d1) ∧ w'.cell? ⟨b2, off + 2, none⟩ = some (.slice B2 t.b.length d2)) (first | exact ⟨e1, e2⟩ | exact ⟨f1, f2⟩) (first | (go_at_call 113; refine (cl_r g bx w.heap.size k b s q AW nW cW A' m d f AS nS cS AP nP cP i S (l.take kk) t B1 d1 B2 d2 _ HB3.out HG3.out HO3.out hp1 hrn1 hp2 hrn2 HDS.out hmb hs3).mono ?_; rintro e w5 ⟨A5, c5, rfl, hg5, ho5, hE5⟩; have f1 := sv_cell hE5 HRW3.out (by decide) e1; have f2 := sv_cell hE5 HRW3.out (by decide) e2; have HG5 := Lib.hid hg5; have HO5 := Lib.hid ho5; have HB5 := Lib.hid (hE5.ty _ _ _ _ HB3.out (by decide)); have HE5 := Lib.hid (HE3.out.trans hE5); have HP5 := Lib.hid (HPC3.out.ef hE5 (by decide) (by decide)); clear hg5 ho5 hE5))
      have HTK : Hid (l.take kk ++ [t] = l.take (kk + 1)) := by show l.take kk ++ [t] = l.take (kk + 1); rw [List.take_add_one, HX.out]; rfl
      rw [HTK.out] at HO5
      have HDD : Hid (((trP l).drop (3 * kk)).drop 3 = (trP l).drop (3 * (kk + 1))) := by show ((trP l).drop (3 * kk)).drop 3 = _; rw [List.drop_drop]; rfl
      rw [HDD.out] at HP5
      clear e1 e2 f1 f2 hp1 hp2
      go_wp2
      go_roundw
      case rel => exact ⟨kk + 1, m + 1, r - 3, c2 - 3, c5, _, A5, rfl, Lib.hid (by have h1 := HR.out; omega), Lib.hid (by rw [HM.out]), by have h1 := HR.out; have h2 := HN1.out; omega, by omega, HP5.out, HG5, HB5, HO5.out, HE5⟩
      case measure => simp only [slLen]; omega
    · have hke : kk = l.length := by omega
      subst hke
      have hr0 : r = 0 := by have h1 := HR.out; have h2 := HN1.out; omega
      subst hr0
      have HML := Lib.hid HM.out
      rw [List.take_of_length_le (Nat.le_refl _)] at hO
      go_wp2
      go_ret
      exact ⟨A', m, d, rfl, HML.out, HG.out, hO, HE.out.onl⟩
end Go.Proofs.Ytmjjbfcblmmipaa
namespace Go.Proofs.Ytmjjbfcblmmipaa
set_option linter.unusedVariables false
set_option linter.unusedSimpArgs false
open Go.RowKit
variable {Q : Nat → Prop}

/-- A reader: its block, what it has left, its error. -/
def RdrQ (Q : Nat → Prop) (w : World) (g : Nat) (xs : List Int) (err : Int) : Prop :=
  ∃ (A : Option Addr) (n c : Nat), w.heap[g]? = some (.cells #[.slice A n c, .int .i64 err] 151 (0, 0)) ∧ Bs w A n xs ∧ n ≤ c ∧ ∀ k, blk A = some k → k < g ∧ Q k
theorem RdrQ.keep {w w' : World} {g B : Nat} {xs : List Int} {err : Int} (h : RdrQ Q w g xs err) (hb : Below B w w') (hg : g < B) : RdrQ Q w' g xs err := by
  obtain ⟨A, n, c, hh, hx, hnc, hk⟩ := h
  exact ⟨A, n, c, (hb.block g hg).trans hh, hx.keepB hb (fun k h => Nat.lt_trans (hk k h).1 hg), hnc, hk⟩
theorem RdrQ.lt {w : World} {g : Nat} {xs : List Int} {err : Int} (h : RdrQ Q w g xs err) : g < w.heap.size := by
  obtain ⟨A, n, c, hh, _⟩ := h
  exact lt_of_heap hh

theorem RdrQ.onl {w w' : World} {g r : Nat} {xs : List Int} {err : Int} (h : RdrQ Q w r xs err) (ho : Onl g w w') (hr : r ≠ g) (hQ : ¬ Q g) : RdrQ Q w' r xs err := by
  obtain ⟨A, n, c, hh, hx, hnc, hk⟩ := h
  exact ⟨A, n, c, (ho.block r (lt_of_heap hh) (fun e => hr (by injection e))).trans hh, hx.onl ho (fun e => hQ (hk g e).2), hnc, hk⟩
set_option maxHeartbeats 1000000 in
theorem rnumQ (w : World) (g : Nat) (xs : List Int) (err : Int) (h : RdrQ Q w g xs err) (hn : xs.length ≤ 140737488355328) :
    Calls Try.prog 108 #[.pointer (some ⟨g, 0, none⟩)] w fun e w' => e = .returned (.int .u64 (numS xs err).1) ∧ RdrQ Q w' g (numS xs err).2.1 (numS xs err).2.2 ∧ Onl g w w' := by
  obtain ⟨A, n, c, hh, hx, hnc, hk⟩ := h
  have hc0 := two_cell0 hh; have hc1 := two_cell1 hh
  have hf0 := two_frozen (i := 0) hh; have hf1 := two_frozen (i := 1) hh
  have HH := Lib.hid hh; clear hh
  have hl := hx.len
  have hnn : n ≤ 140737488355328 := by omega
  clear hl hn
  by_cases he : err = 0
  · subst he
    have he1 : ((0 : Int) != 0) = false := by decide
    rcases tkN_cases xs hx.2 0 with ⟨e, ht, he5⟩ | ⟨v, k, ht, hv0, hv1, hk0, hk1⟩
    · have HS := Lib.hid (show numS xs 0 = (0, xs, e) by unfold numS; rw [ht]; rcases he5 with rfl | rfl <;> simp)
      have HT := Lib.hid (show tk xs 0 = (0, 0, e) by rw [tk_zero]; exact ht)
      have hne : (e != 0) = true := by rcases he5 with rfl | rfl <;> decide
      clear ht he5
      go_enter Try.func108, Try.ntmps108
      go_wp2_with (go_at_call 136; refine (take_any A n c 0 xs _ hx (by omega)).mono ?_; rintro e' w' ⟨he', rfl⟩; rw [HT.out] at he'; unfold Tk3 at he'; subst he')
      go_ret
      rw [HS.out]
      refine ⟨rfl, ⟨A, n, c, two_set1 HH.out, hx.keepB (below_set _ _ _ _) (fun k h => (hk k h).1), hnc, hk⟩, onl_set _ _ _ _⟩
    · have HS := Lib.hid (show numS xs 0 = (v, xs.drop k, 0) by unfold numS; rw [ht]; simp)
      have HT := Lib.hid (show tk xs 0 = (v, (k : Int), 0) by rw [tk_zero]; exact ht)
      have hkn : k ≤ n := by rw [← hx.len]; exact hk1
      clear ht hk1
      have hsl := slice_lo A n c k hkn
      go_enter Try.func108, Try.ntmps108
      go_wp2_with (go_at_call 136; refine (take_any A n c 0 xs _ hx (by omega)).mono ?_; rintro e' w' ⟨he', rfl⟩; rw [HT.out] at he'; unfold Tk3 at he'; subst he')
      go_ret
      rw [HS.out]
      refine ⟨rfl, ⟨_, _, _, two_set0 HH.out, (hx.cutTail hkn hnc).keepB (below_set _ _ _ _) ?_, by omega, ?_⟩, onl_set _ _ _ _⟩
      · rw [blk_cutA]; exact fun k h => (hk k h).1
      · rw [blk_cutA]; exact hk
  · have HS := Lib.hid (show numS xs err = (0, xs, err) by unfold numS; rw [if_pos he])
    have he1 : (err != 0) = true := by simpa using he
    clear he
    go_enter Try.func108, Try.ntmps108
    go_wp2
    go_ret
    rw [HS.out]
    exact ⟨rfl, ⟨A, n, c, HH.out, hx, hnc, hk⟩, Onl.refl _ _⟩
set_option maxHeartbeats 1000000 in
theorem rerrQ (w : World) (g : Nat) (xs : List Int) (err : Int) (h : RdrQ Q w g xs err) :
    Calls Try.prog 117 #[.pointer (some ⟨g, 0, none⟩)] w fun e w' => e = .returned (.int .i64 err) ∧ w = w' := by
  obtain ⟨A, n, c, hh, hx, hnc, hk⟩ := h
  have hc1 := two_cell1 hh
  clear hh
  go_enter Try.func117, Try.ntmps117
  go_wp2
  go_ret
  exact ⟨rfl, rfl⟩
set_option maxHeartbeats 1000000 in
theorem rleftQ (w : World) (g : Nat) (xs : List Int) (err : Int) (h : RdrQ Q w g xs err) :
    Calls Try.prog 116 #[.pointer (some ⟨g, 0, none⟩)] w fun e w' => e = .returned (.int .i64 xs.length) ∧ w = w' := by
  obtain ⟨A, n, c, hh, hx, hnc, hk⟩ := h
  have hc0 := two_cell0 hh
  have HL := Lib.hid hx.len
  clear hh
  go_enter Try.func116, Try.ntmps116
  go_wp2
  go_ret
  exact ⟨by rw [HL.out]; rfl, rfl⟩
set_option maxHeartbeats 1000000 in
theorem rcloseQ (w : World) (g : Nat) (xs : List Int) (err : Int) (h : RdrQ Q w g xs err) :
    Calls Try.prog 110 #[.pointer (some ⟨g, 0, none⟩)] w fun e w' => e = .returned (.int .i64 (closeV xs err)) ∧ w = w' := by
  obtain ⟨A, n, c, hh, hx, hnc, hk⟩ := h
  have hc0 := two_cell0 hh; have hc1 := two_cell1 hh
  have hl := hx.len
  clear hh
  by_cases he : err = 0
  · by_cases hn : 0 < n
    · have HV := Lib.hid (show closeV xs err = 3 by
        unfold closeV; rw [if_pos]
        refine ⟨he, ?_⟩
        intro e; rw [e] at hl; simp at hl; omega)
      have he1 : (err == 0) = true := by simp [he]
      clear he hl
      go_enter Try.func110, Try.ntmps110
      go_wp2
      go_ret
      exact ⟨by rw [HV.out]; rfl, rfl⟩
    · have HV := Lib.hid (show closeV xs err = err by
        unfold closeV; rw [if_neg]
        intro h
        exact h.2 (List.eq_nil_of_length_eq_zero (by omega)))
      have he1 : (err == 0) = true := by simp [he]
      clear he hl
      go_enter Try.func110, Try.ntmps110
      go_wp2
      go_ret
      exact ⟨by rw [HV.out]; rfl, rfl⟩
  · have HV := Lib.hid (show closeV xs err = err by
      unfold closeV; rw [if_neg]
      intro h
      exact he h.1)
    have he1 : (err == 0) = false := by simpa using he
    clear he hl
    go_enter Try.func110, Try.ntmps110
    go_wp2
    go_ret
    exact ⟨by rw [HV.out]; rfl, rfl⟩
set_option maxHeartbeats 1000000 in
theorem rflagQ (w : World) (g : Nat) (xs : List Int) (err : Int) (h : RdrQ Q w g xs err) :
    Calls Try.prog 115 #[.pointer (some ⟨g, 0, none⟩)] w fun e w' => e = .returned (.bool (flagS xs err).1) ∧ RdrQ Q w' g (flagS xs err).2.1 (flagS xs err).2.2 ∧ Onl g w w' := by
  obtain ⟨A, n, c, hh, hx, hnc, hk⟩ := h
  have hc0 := two_cell0 hh; have hc1 := two_cell1 hh
  have hf0 := two_frozen (i := 0) hh; have hf1 := two_frozen (i := 1) hh
  have HH := Lib.hid hh; clear hh
  have hl := hx.len
  by_cases he : err = 0
  · subst he
    have he1 : ((0 : Int) != 0) = false := by decide
    cases xs with
    | nil =>
      have hn : n = 0 := by simpa using hl.symm
      subst hn
      have HS := Lib.hid (show flagS [] 0 = (false, [], 5) by decide)
      clear hl
      go_enter Try.func115, Try.ntmps115
      go_wp2
      go_ret
      rw [HS.out]
      exact ⟨rfl, ⟨A, 0, c, two_set1 HH.out, hx.keepB (below_set _ _ _ _) (fun k h => (hk k h).1), hnc, hk⟩, onl_set _ _ _ _⟩
    | cons b r =>
      have hn : 0 < n := by rw [← hl]; simp
      have hn0 : ((n : Int) == 0) = false := by simp; omega
      obtain ⟨bb, off, x, rfl, hbb, hx0, hx1, hcx, HX⟩ := hx.at_ hn
      have hxb : x = b := by have := HX.out; simpa using this.symm
      subst hxb
      have hcx0 : w.cell? ⟨bb, off, none⟩ = some (.int .u8 x) := by simpa using hcx
      clear hl hcx
      by_cases h1 : 1 < x
      · have HS := Lib.hid (show flagS (x :: r) 0 = (false, x :: r, 3) by simp [flagS, h1])
        go_enter Try.func115, Try.ntmps115
        go_wp2
        go_ret
        rw [HS.out]
        exact ⟨rfl, ⟨_, n, c, two_set1 HH.out, hx.keepB (below_set _ _ _ _) (fun k h => (hk k h).1), hnc, hk⟩, onl_set _ _ _ _⟩
      · have HS := Lib.hid (show flagS (x :: r) 0 = (x == 1, r, 0) by simp [flagS, h1])
        have hsl := slice_lo (some ⟨bb, off, none⟩) n c 1 (by omega)
        have hsl' : ∀ W, (Instr.slice 28 (.slice (some ⟨bb, off, none⟩) n c) (some (.int .i64 1)) none none).run Try.prog W = .ok (.slice (cutA (some ⟨bb, off, none⟩) c 1) (n - 1) (c - 1)) W := hsl
        clear hsl
        go_enter Try.func115, Try.ntmps115
        go_wp2
        go_ret
        rw [HS.out]
        refine ⟨rfl, ⟨_, _, _, two_set0 HH.out, ?_, by omega, ?_⟩, onl_set _ _ _ _⟩
        · have := (hx.cutTail (lo := 1) (by omega) hnc).keepB (below_set w g 0 (.slice (cutA (some ⟨bb, off, none⟩) c 1) (n - 1) (c - 1))) (by rw [blk_cutA]; exact fun k h => (hk k h).1)
          exact this
        · rw [blk_cutA]; exact hk
  · have HS := Lib.hid (show flagS xs err = (false, xs, err) by unfold flagS; rw [if_pos he])
    have he1 : (err != 0) = true := by simpa using he
    clear he hl
    go_enter Try.func115, Try.ntmps115
    go_wp2
    go_ret
    rw [HS.out]
    exact ⟨rfl, ⟨A, n, c, HH.out, hx, hnc, hk⟩, Onl.refl _ _⟩
theorem readQ (A : Option Addr) (n c : Nat) (xs : List Int) (w : World) (hx : Bs w A n xs) (hn : n ≤ 140737488355328) :
    Calls Try.prog 114 #[.slice A n c] w fun e w' => ∃ g, e = .returned (.pointer (some ⟨g, 0, none⟩)) ∧ RdrQ (w.heap.size ≤ ·) w' g xs 0 ∧ w.heap.size ≤ g ∧ Below w.heap.size w w' := by
  go_enter Try.func114, Try.ntmps114
  go_wp2_with fail
  refine (clone_any A n c xs _ hx hn).mono ?_
  rintro e w1 ⟨A1, c1, rfl, ho1, hb1⟩
  have hsz := hb1.size
  have HO := Lib.hid ho1; clear ho1
  go_wp2
  go_ret
  have ho1 := HO.out
  have hl := ho1.lies
  have hnc : n ≤ c1 := by
    rcases ho1.2 with ⟨hv, h0⟩ | ⟨g, cap, cur, hv, _, _, h, _⟩
    · omega
    · have : c1 = cap := by injection hv
      omega
  refine ⟨w1.heap.size, rfl, ⟨A1, n, c1, heap_alloc_new w1 _, (ho1.bs hx.2).keep (below_alloc w1 _), hnc, fun k hk => ⟨(hl k hk).2, (hl k hk).1⟩⟩, hsz, hb1.alloc hsz _⟩
end Go.Proofs.Ytmjjbfcblmmipaa
namespace Go.Proofs.Ytmjjbfcblmmipaa
set_option linter.unusedVariables false
set_option linter.unusedSimpArgs false
open Go.RowKit

/-- The box of the record's address, the record, and a reader of the part. -/
structure St (w0 : World) (g : Nat) (cs : Array Value) (gr : Nat) (xs : List Int) (W : World) : Prop where
  hg : W.heap[g]? = some (.cells cs 32 (0, 0))
  hb : W.heap[w0.heap.size]? = some (.cells #[.pointer (some ⟨g, 0, none⟩)] 154 (0, 0))
  hr : RdrQ (w0.heap.size ≤ ·) W gr xs 0
  ho : Onl g w0 W
  lt : w0.heap.size < gr
  gl : g < w0.heap.size
section
variable {w0 W W' : World} {g gr : Nat} {cs cs' : Array Value} {xs xs' : List Int}
theorem St.num (h : St w0 g cs gr xs W) (hr : RdrQ (w0.heap.size ≤ ·) W' gr xs' 0) (ho : Onl gr W W') : St w0 g cs gr xs' W' := by
  have hlt := h.lt; have hgl := h.gl
  have hs := h.ho.size
  exact ⟨(ho.block g (lt_of_heap h.hg) (fun e => by injection e with e; omega)).trans h.hg, (ho.block _ (lt_of_heap h.hb) (fun e => by injection e with e; omega)).trans h.hb, hr,
    ⟨ho.os.trans h.ho.os, ho.tape.trans h.ho.tape, ho.output.trans h.ho.output, Nat.le_trans h.ho.size ho.size, fun i hi hne => (ho.block i (by omega) (fun e => by injection e with e; omega)).trans (h.ho.block i hi hne)⟩, h.lt, h.gl⟩
theorem Onl.undrew {w w' : World} {g : Nat} (h : Onl g w.drew w') : Onl g w w' := ⟨h.os, h.tape, h.output, h.size, h.block⟩
theorem set_alloc {w : World} {g j : Nat} {cs cs' : Array Value} {t : TypeId} (v : Value) (o : Obj) (h : w.heap[g]? = some (.cells cs t (0, 0))) (hv : cs.setIfInBounds j v = cs') : ((w.setCell ⟨g, j, none⟩ v).alloc o).heap[g]? = some (.cells cs' t (0, 0)) :=
  ((below_alloc (w.setCell ⟨g, j, none⟩ v) o).block g (lt_of_heap (rc_set j v h rfl))).trans (rc_set j v h hv)
theorem RdrQ.imp {Q Q' : Nat → Prop} {w : World} {e : Int} (h : RdrQ Q w gr xs e) (hq : ∀ k, Q k → Q' k) : RdrQ Q' w gr xs e := by
  obtain ⟨A, n, c, hh, hx, hnc, hk⟩ := h
  exact ⟨A, n, c, hh, hx, hnc, fun k h => ⟨(hk k h).1, hq k (hk k h).2⟩⟩
theorem St.begin (hg : w0.heap[g]? = some (.cells cs 32 (0, 0))) (hr : RdrQ ((w0.alloc (.cells #[.pointer (some ⟨g, 0, none⟩)] 154)).heap.size ≤ ·) W gr xs 0) (hgr : (w0.alloc (.cells #[.pointer (some ⟨g, 0, none⟩)] 154)).heap.size ≤ gr) (hb : Below (w0.alloc (.cells #[.pointer (some ⟨g, 0, none⟩)] 154)).heap.size (w0.alloc (.cells #[.pointer (some ⟨g, 0, none⟩)] 154)) W) : St w0 g cs gr xs W := by
  have hgl := lt_of_heap hg
  have hba := below_alloc w0 (.cells #[.pointer (some ⟨g, 0, none⟩)] 154)
  have hsz : (w0.alloc (.cells #[.pointer (some ⟨g, 0, none⟩)] 154)).heap.size = w0.heap.size + 1 := by simp
  refine ⟨(hb.block g (by omega)).trans ((hba.block g hgl).trans hg), (hb.block _ (by omega)).trans (heap_alloc_new w0 _), hr.imp (fun k h => by omega), Onl.of_below (hba.trans (hb.mono (by omega))), by omega, hgl⟩
theorem St.set (j : Nat) (v : Value) (h : St w0 g cs gr xs W) (hv : cs.setIfInBounds j v = cs') : St w0 g cs' gr xs (W.setCell ⟨g, j, none⟩ v) := by
  have hlt := h.lt; have hgl := h.gl
  exact ⟨rc_set j v h.hg hv, (set_other W g j v (by omega)).trans h.hb, h.hr.onl (onl_set _ _ _ _) (by omega) (by omega), h.ho.trans (onl_set _ _ _ _), h.lt, h.gl⟩
theorem St.box (h : St w0 g cs gr xs W) : W.cell? ⟨w0.heap.size, 0, none⟩ = some (.pointer (some ⟨g, 0, none⟩)) := rc_cell 0 _ h.hb rfl
theorem St.boxS (h : St w0 g cs gr xs W) (j : Nat) (v : Value) : (W.setCell ⟨g, j, none⟩ v).cell? ⟨w0.heap.size, 0, none⟩ = some (.pointer (some ⟨g, 0, none⟩)) := rc_cell 0 _ ((set_other W g j v (by have := h.gl; omega)).trans h.hb) rfl
theorem St.fz (h : St w0 g cs gr xs W) (j : Nat) : W.frozen? ⟨g, j, none⟩ = false := two_frozen h.hg
theorem St.fc (h : St w0 g cs gr xs W) (j : Nat) (v : Value) (hv : cs[j]? = some v) : W.cell? ⟨g, j, none⟩ = some v := rc_cell j v h.hg hv
end
/-- string(b), b a slice of bytes. -/
theorem conv_own {w : World} {base : Nat} {A : Option Addr} {n c : Nat} {xs : List Int} (h : Own w base 5 A n c (By xs)) :
    (convert 28 9 (.slice A n c)).run Try.prog w = .ok (.string (strOfNums xs)) w := by
  rcases Nat.eq_zero_or_pos n with h0 | hn
  · subst h0
    have hx : xs = [] := List.eq_nil_of_length_eq_zero (by have := h.len; rwa [By_length] at this)
    subst hx
    rcases h.2 with ⟨hv, _⟩ | ⟨g, cap, cur, hv, _⟩
    · rw [hv]; exact run_convert_bytes_nil w 28 5 Try.underlying28 Try.underlying5 0 0 9 Try.underlying9
    · have hA : A = some ⟨g, 0, none⟩ := by injection hv
      subst hA
      exact run_convert_bytes_arg w 28 5 Try.underlying28 Try.underlying5 g 0 0 c [] rfl (fun i hi => absurd hi (by omega)) 9 Try.underlying9
  obtain ⟨hl, hc⟩ := h.rd
  rw [By_length] at hl
  obtain ⟨b, off, rfl, hb, hcell⟩ := hc hn
  refine run_convert_bytes_arg w 28 5 Try.underlying28 Try.underlying5 b off n c xs hl (fun i hi => ?_) 9 Try.underlying9
  refine hcell i _ ?_
  rw [By, List.getElem?_map, List.getElem?_eq_getElem (by omega)]
  simp [List.getD, List.getElem?_eq_getElem (show i < xs.length by omega)]
theorem numS_head (n : Int) (post : List Int) (h0 : 0 ≤ n) (h1 : n ≤ 18446744073709551615) : numS (num n ++ post) 0 = (n, post, 0) := by
  unfold numS
  rw [tkN_head n post h0 h1]
  simp
set_option maxRecDepth 100000 in
set_option maxHeartbeats 4000000 in
theorem take_t (g : Nat) (k b s q : Int) (AW : Option Addr) (nW cW : Nat) (AR : Option Addr) (nR cR : Nat) (f : Bool) (AS : Option Addr) (nS cS : Nat) (AP : Option Addr) (nP cP : Nat) (i : Int) (S : ByteArray) (A : Option Addr) (n c : Nat) (w : World) (hg : w.heap[g]? = some (.cells (rcV k b s q AW nW cW AR nR cR f AS nS cS AP nP cP i S) 32 (0, 0))) (y0 y1 y2 : Int) (hx : Bs w A n (nums [y0, y1, y2])) (hn : n ≤ 20000000) (h0 : 0 ≤ y0 ∧ y0 ≤ 18446744073709551615) (h1 : 0 ≤ y1 ∧ y1 ≤ 18446744073709551615) (h2 : 0 ≤ y2 ∧ y2 ≤ 18446744073709551615) :
    Calls Try.prog 65 #[.pointer (some ⟨g, 0, none⟩), .int .i32 116, .slice A n c] w fun e w' => e = .returned (.int .i64 0) ∧ w'.heap[g]? = some (.cells (rcV k y0 y1 y2 AW nW cW AR nR cR f AS nS cS AP nP cP i S) 32 (0, 0)) ∧ Onl g w w' := by
  have e : nums [y0, y1, y2] = num y0 ++ (num y1 ++ (num y2 ++ [])) := by simp [nums]
  rw [e] at hx
  clear e
  have HN0 := Lib.hid (numS_head y0 (num y1 ++ (num y2 ++ [])) h0.1 h0.2)
  have HN1 := Lib.hid (numS_head y1 (num y2 ++ []) h1.1 h1.2)
  have HN2 := Lib.hid (numS_head y2 [] h2.1 h2.2)
  clear h0 h1 h2
  have hl2 : (num y2 ++ []).length ≤ (num y1 ++ (num y2 ++ [])).length := by simp
  have hl1 : (num y1 ++ (num y2 ++ [])).length ≤ (num y0 ++ (num y1 ++ (num y2 ++ []))).length := by simp
  generalize num y0 ++ (num y1 ++ (num y2 ++ [])) = L0 at *
  generalize num y1 ++ (num y2 ++ []) = L1 at *
  generalize num y2 ++ [] = L2 at *
  have hxa := hx.keep (below_alloc w (.cells #[.pointer (some ⟨g, 0, none⟩)] 154))
  have HCV := Lib.hid (show closeV [] 0 = 0 from rfl)
  have HG := Lib.hid hg
  have hlen := hx.len
  clear hx hg
  go_enter Try.func65, Try.ntmps65
  go_wp2_with fail
  refine (readQ A n c _ _ hxa (by omega)).mono ?_
  rintro e w1 ⟨gr, rfl, hr1, hgr, hb1⟩
  have HS1 : Hid (St w g (rcV k b s q AW nW cW AR nR cR f AS nS cS AP nP cP i S) gr L0 w1) := St.begin HG.out hr1 hgr hb1
  clear hr1 hgr hb1 hxa HG
  have e0_2 : w1.drew.cell? ⟨w.heap.size, 0, none⟩ = some (.pointer (some ⟨g, 0, none⟩)) := HS1.out.box
  go_wp2_with fail
  go_region_held3 (fun w' => w'.cell? ⟨w.heap.size, 0, none⟩ = some (.pointer (some ⟨g, 0, none⟩))) (first | exact e0_2 | exact f0_2 | exact f0s_2) (first | (go_at_call 108; refine (rnumQ w1.drew gr _ 0 (show RdrQ _ w1.drew gr _ 0 from HS1.out.hr) (by omega)).mono ?_; rw [HN0.out]; rintro e x2 ⟨rfl, hr2, ho2⟩; have HT2 := Lib.hid (HS1.out.num hr2 ho2.undrew); have f0_2 := HT2.out.box; have fz_2 := HT2.out.fz 1; have fc_2 := HT2.out.fc 1 (.int .u64 b) rfl; have f0s_2 := HT2.out.boxS 1 (.int .u64 y0); clear hr2 ho2))
  have HS2 : Hid (St w g (rcV k y0 s q AW nW cW AR nR cR f AS nS cS AP nP cP i S) gr L1 (x2.setCell ⟨g, 1, none⟩ (.int .u64 y0))) := HT2.out.set 1 (.int .u64 y0) rfl
  clear e0_2 f0_2 fz_2 fc_2 f0s_2 HT2 HS1
  generalize x2.setCell ⟨g, 1, none⟩ (.int .u64 y0) = w2 at *
  have e0_3 : w2.drew.cell? ⟨w.heap.size, 0, none⟩ = some (.pointer (some ⟨g, 0, none⟩)) := HS2.out.box
  go_wp2_with fail
  go_region_held3 (fun w' => w'.cell? ⟨w.heap.size, 0, none⟩ = some (.pointer (some ⟨g, 0, none⟩))) (first | exact e0_3 | exact f0_3 | exact f0s_3) (first | (go_at_call 108; refine (rnumQ w2.drew gr _ 0 (show RdrQ _ w2.drew gr _ 0 from HS2.out.hr) (by omega)).mono ?_; rw [HN1.out]; rintro e x3 ⟨rfl, hr3, ho3⟩; have HT3 := Lib.hid (HS2.out.num hr3 ho3.undrew); have f0_3 := HT3.out.box; have fz_3 := HT3.out.fz 2; have fc_3 := HT3.out.fc 2 (.int .u64 s) rfl; have f0s_3 := HT3.out.boxS 2 (.int .u64 y1); clear hr3 ho3))
  have HS3 : Hid (St w g (rcV k y0 y1 q AW nW cW AR nR cR f AS nS cS AP nP cP i S) gr L2 (x3.setCell ⟨g, 2, none⟩ (.int .u64 y1))) := HT3.out.set 2 (.int .u64 y1) rfl
  clear e0_3 f0_3 fz_3 fc_3 f0s_3 HT3 HS2
  generalize x3.setCell ⟨g, 2, none⟩ (.int .u64 y1) = w3 at *
  have e0_4 : w3.drew.cell? ⟨w.heap.size, 0, none⟩ = some (.pointer (some ⟨g, 0, none⟩)) := HS3.out.box
  go_wp2_with fail
  go_region_held3 (fun w' => w'.cell? ⟨w.heap.size, 0, none⟩ = some (.pointer (some ⟨g, 0, none⟩))) (first | exact e0_4 | exact f0_4 | exact f0s_4) (first | (go_at_call 108; refine (rnumQ w3.drew gr _ 0 (show RdrQ _ w3.drew gr _ 0 from HS3.out.hr) (by omega)).mono ?_; rw [HN2.out]; rintro e x4 ⟨rfl, hr4, ho4⟩; have HT4 := Lib.hid (HS3.out.num hr4 ho4.undrew); have f0_4 := HT4.out.box; have fz_4 := HT4.out.fz 3; have fc_4 := HT4.out.fc 3 (.int .u64 q) rfl; have f0s_4 := HT4.out.boxS 3 (.int .u64 y2); clear hr4 ho4))
  have HS4 : Hid (St w g (rcV k y0 y1 y2 AW nW cW AR nR cR f AS nS cS AP nP cP i S) gr [] (x4.setCell ⟨g, 3, none⟩ (.int .u64 y2))) := HT4.out.set 3 (.int .u64 y2) rfl
  clear e0_4 f0_4 fz_4 fc_4 f0s_4 HT4 HS3
  generalize x4.setCell ⟨g, 3, none⟩ (.int .u64 y2) = w4 at *
  go_wp2_with fail
  refine (rcloseQ _ gr _ _ HS4.out.hr).mono ?_
  rintro e wz ⟨rfl, rfl⟩
  rw [HCV.out]
  go_wp2
  go_ret
  exact ⟨rfl, HS4.out.hg, HS4.out.ho⟩
set_option maxRecDepth 100000 in
set_option maxHeartbeats 4000000 in
theorem take_i (g : Nat) (k b s q : Int) (AW : Option Addr) (nW cW : Nat) (AR : Option Addr) (nR cR : Nat) (f : Bool) (AS : Option Addr) (nS cS : Nat) (AP : Option Addr) (nP cP : Nat) (i : Int) (S : ByteArray) (A : Option Addr) (n c : Nat) (w : World) (hg : w.heap[g]? = some (.cells (rcV k b s q AW nW cW AR nR cR f AS nS cS AP nP cP i S) 32 (0, 0))) (y : Int) (hx : Bs w A n (num y)) (hn : n ≤ 20000000) (h0 : 0 ≤ y ∧ y ≤ 18446744073709551615) :
    Calls Try.prog 65 #[.pointer (some ⟨g, 0, none⟩), .int .i32 105, .slice A n c] w fun e w' => e = .returned (.int .i64 0) ∧ w'.heap[g]? = some (.cells (rcV k b s q AW nW cW AR nR cR f AS nS cS AP nP cP y S) 32 (0, 0)) ∧ Onl g w w' := by
  have HN0 := Lib.hid (numS_head y [] h0.1 h0.2)
  rw [List.append_nil] at HN0
  clear h0
  generalize num y = L0 at *
  have hxa := hx.keep (below_alloc w (.cells #[.pointer (some ⟨g, 0, none⟩)] 154))
  have HCV := Lib.hid (show closeV [] 0 = 0 from rfl)
  have HG := Lib.hid hg
  have hlen := hx.len
  clear hx hg
  go_enter Try.func65, Try.ntmps65
  go_wp2_with fail
  refine (readQ A n c _ _ hxa (by omega)).mono ?_
  rintro e w1 ⟨gr, rfl, hr1, hgr, hb1⟩
  have HS1 : Hid (St w g (rcV k b s q AW nW cW AR nR cR f AS nS cS AP nP cP i S) gr L0 w1) := St.begin HG.out hr1 hgr hb1
  clear hr1 hgr hb1 hxa HG
  have e0_2 : w1.drew.cell? ⟨w.heap.size, 0, none⟩ = some (.pointer (some ⟨g, 0, none⟩)) := HS1.out.box
  go_wp2_with fail
  go_region_held3 (fun w' => w'.cell? ⟨w.heap.size, 0, none⟩ = some (.pointer (some ⟨g, 0, none⟩))) (first | exact e0_2 | exact f0_2 | exact f0s_2) (first | (go_at_call 108; refine (rnumQ w1.drew gr _ 0 (show RdrQ _ w1.drew gr _ 0 from HS1.out.hr) (by omega)).mono ?_; rw [HN0.out]; rintro e x2 ⟨rfl, hr2, ho2⟩; have HT2 := Lib.hid (HS1.out.num hr2 ho2.undrew); have f0_2 := HT2.out.box; have fz_2 := HT2.out.fz 9; have fc_2 := HT2.out.fc 9 (.int .u64 i) rfl; have f0s_2 := HT2.out.boxS 9 (.int .u64 y); clear hr2 ho2))
  have HS2 : Hid (St w g (rcV k b s q AW nW cW AR nR cR f AS nS cS AP nP cP y S) gr [] (x2.setCell ⟨g, 9, none⟩ (.int .u64 y))) := HT2.out.set 9 (.int .u64 y) rfl
  clear e0_2 f0_2 fz_2 fc_2 f0s_2 HT2 HS1
  generalize x2.setCell ⟨g, 9, none⟩ (.int .u64 y) = w2 at *
  go_wp2_with fail
  refine (rcloseQ _ gr _ _ HS2.out.hr).mono ?_
  rintro e wz ⟨rfl, rfl⟩
  rw [HCV.out]
  go_wp2
  go_ret
  exact ⟨rfl, HS2.out.hg, HS2.out.ho⟩
set_option maxRecDepth 100000 in
set_option maxHeartbeats 4000000 in
theorem take_c (g : Nat) (k b s q : Int) (AW : Option Addr) (nW cW : Nat) (AR : Option Addr) (nR cR : Nat) (f : Bool) (AS : Option Addr) (nS cS : Nat) (AP : Option Addr) (nP cP : Nat) (i : Int) (S : ByteArray) (A : Option Addr) (n c : Nat) (w : World) (hg : w.heap[g]? = some (.cells (rcV k b s q AW nW cW AR nR cR f AS nS cS AP nP cP i S) 32 (0, 0))) (y : Bool) (hx : Bs w A n [flagB y]) (hn : n ≤ 20000000) :
    Calls Try.prog 65 #[.pointer (some ⟨g, 0, none⟩), .int .i32 99, .slice A n c] w fun e w' => e = .returned (.int .i64 0) ∧ w'.heap[g]? = some (.cells (rcV k b s q AW nW cW AR nR cR y AS nS cS AP nP cP i S) 32 (0, 0)) ∧ Onl g w w' := by
  have HN0 := Lib.hid (flagS_flag y)
  generalize [flagB y] = L0 at *
  have hxa := hx.keep (below_alloc w (.cells #[.pointer (some ⟨g, 0, none⟩)] 154))
  have HCV := Lib.hid (show closeV [] 0 = 0 from rfl)
  have HG := Lib.hid hg
  have hlen := hx.len
  clear hx hg
  go_enter Try.func65, Try.ntmps65
  go_wp2_with fail
  refine (readQ A n c _ _ hxa (by omega)).mono ?_
  rintro e w1 ⟨gr, rfl, hr1, hgr, hb1⟩
  have HS1 : Hid (St w g (rcV k b s q AW nW cW AR nR cR f AS nS cS AP nP cP i S) gr L0 w1) := St.begin HG.out hr1 hgr hb1
  clear hr1 hgr hb1 hxa HG
  have e0_2 : w1.drew.cell? ⟨w.heap.size, 0, none⟩ = some (.pointer (some ⟨g, 0, none⟩)) := HS1.out.box
  go_wp2_with fail
  go_region_held3 (fun w' => w'.cell? ⟨w.heap.size, 0, none⟩ = some (.pointer (some ⟨g, 0, none⟩))) (first | exact e0_2 | exact f0_2 | exact f0s_2) (first | (go_at_call 115; refine (rflagQ w1.drew gr _ 0 (show RdrQ _ w1.drew gr _ 0 from HS1.out.hr)).mono ?_; rw [HN0.out]; rintro e x2 ⟨rfl, hr2, ho2⟩; have HT2 := Lib.hid (HS1.out.num hr2 ho2.undrew); have f0_2 := HT2.out.box; have fz_2 := HT2.out.fz 6; have fc_2 := HT2.out.fc 6 (.bool f) rfl; have f0s_2 := HT2.out.boxS 6 (.bool y); clear hr2 ho2))
  have HS2 : Hid (St w g (rcV k b s q AW nW cW AR nR cR y AS nS cS AP nP cP i S) gr [] (x2.setCell ⟨g, 6, none⟩ (.bool y))) := HT2.out.set 6 (.bool y) rfl
  clear e0_2 f0_2 fz_2 fc_2 f0s_2 HT2 HS1
  generalize x2.setCell ⟨g, 6, none⟩ (.bool y) = w2 at *
  go_wp2_with fail
  refine (rcloseQ _ gr _ _ HS2.out.hr).mono ?_
  rintro e wz ⟨rfl, rfl⟩
  rw [HCV.out]
  go_wp2
  go_ret
  exact ⟨rfl, HS2.out.hg, HS2.out.ho⟩
set_option maxRecDepth 100000 in
set_option maxHeartbeats 4000000 in
theorem take_a (g : Nat) (k b s q : Int) (AW : Option Addr) (nW cW : Nat) (AR : Option Addr) (nR cR : Nat) (f : Bool) (AS : Option Addr) (nS cS : Nat) (AP : Option Addr) (nP cP : Nat) (i : Int) (S : ByteArray) (A : Option Addr) (n c : Nat) (w : World) (hg : w.heap[g]? = some (.cells (rcV k b s q AW nW cW AR nR cR f AS nS cS AP nP cP i S) 32 (0, 0)))  :
    Calls Try.prog 65 #[.pointer (some ⟨g, 0, none⟩), .int .i32 97, .slice A n c] w fun e w' => e = .returned (.int .i64 0) ∧ w'.heap[g]? = some (.cells (rcV k b s q AW nW cW AR nR cR f AS nS cS A n c i S) 32 (0, 0)) ∧ Onl g w w' := by
  have hga := (below_alloc w (.cells #[.pointer (some ⟨g, 0, none⟩)] 154)).block g (lt_of_heap hg) |>.trans hg
  have hxa := heap_alloc_new w (.cells #[.pointer (some ⟨g, 0, none⟩)] 154)
  have d0 := rc_cell 0 (.pointer (some ⟨g, 0, none⟩)) hxa rfl
  have d2 := two_frozen (i := 8) hga
  have d3 := rc_cell 8 (.slice AP nP cP) hga rfl
  have HG := Lib.hid hg
  have hgl := lt_of_heap hg
  clear hga hxa hg
  go_enter Try.func65, Try.ntmps65
  go_wp2
  go_ret
  exact ⟨rfl, set_alloc _ _ HG.out rfl, (onl_set _ _ _ _).trans (Onl.of_below (below_alloc _ _))⟩
set_option maxRecDepth 100000 in
set_option maxHeartbeats 4000000 in
theorem take_n {bb : Nat} (g : Nat) (k b s q : Int) (AW : Option Addr) (nW cW : Nat) (AR : Option Addr) (nR cR : Nat) (f : Bool) (AS : Option Addr) (nS cS : Nat) (AP : Option Addr) (nP cP : Nat) (i : Int) (S : ByteArray) (A : Option Addr) (n c : Nat) (w : World) (hg : w.heap[g]? = some (.cells (rcV k b s q AW nW cW AR nR cR f AS nS cS AP nP cP i S) 32 (0, 0))) (ys : List Int) (hx : Own w bb 5 A n c (By ys)) :
    Calls Try.prog 65 #[.pointer (some ⟨g, 0, none⟩), .int .i32 110, .slice A n c] w fun e w' => e = .returned (.int .i64 0) ∧ w'.heap[g]? = some (.cells (rcV k b s q AW nW cW AR nR cR f AS nS cS AP nP cP i (strOfNums ys)) 32 (0, 0)) ∧ Onl g w w' := by
  have hcv : ∀ W, W = w.alloc (.cells #[.pointer (some ⟨g, 0, none⟩)] 154) → (convert 28 9 (.slice A n c)).run Try.prog W = .ok (.string (strOfNums ys)) W := fun W hW => by subst hW; exact conv_own (hx.alloc _)
  have hcv' := hcv _ rfl
  clear hcv hx
  have hga := (below_alloc w (.cells #[.pointer (some ⟨g, 0, none⟩)] 154)).block g (lt_of_heap hg) |>.trans hg
  have hxa := heap_alloc_new w (.cells #[.pointer (some ⟨g, 0, none⟩)] 154)
  have d0 := rc_cell 0 (.pointer (some ⟨g, 0, none⟩)) hxa rfl
  have d2 := two_frozen (i := 10) hga
  have d3 := rc_cell 10 (.string S) hga rfl
  have HG := Lib.hid hg
  have hgl := lt_of_heap hg
  clear hga hxa hg
  go_enter Try.func65, Try.ntmps65
  go_wp2
  go_ret
  exact ⟨rfl, set_alloc _ _ HG.out rfl, (onl_set _ _ _ _).trans (Onl.of_below (below_alloc _ _))⟩
set_option maxRecDepth 100000 in
set_option maxHeartbeats 4000000 in
theorem take_w (g : Nat) (k b s q : Int) (AR : Option Addr) (nR cR : Nat) (f : Bool) (AS : Option Addr) (nS cS : Nat) (AP : Option Addr) (nP cP : Nat) (i : Int) (S : ByteArray) (A : Option Addr) (n c : Nat) (w : World) (hg : w.heap[g]? = some (.cells (rcV k b s q none 0 0 AR nR cR f AS nS cS AP nP cP i S) 32 (0, 0))) (l : List Tr) (hx : Bs w A n (trs l)) (hnc : n ≤ c) (hk : ∀ k, blk A = some k → k < w.heap.size) (hn : n ≤ 20000000) :
    Calls Try.prog 65 #[.pointer (some ⟨g, 0, none⟩), .int .i32 119, .slice A n c] w fun e w' => ∃ A' n' c', e = .returned (.int .i64 0) ∧ n' = l.length ∧ w'.heap[g]? = some (.cells (rcV k b s q A' n' c' AR nR cR f AS nS cS AP nP cP i S) 32 (0, 0)) ∧ TrO w' w.heap.size 61 A' n' c' l ∧ Onl g w w' := by
  have hba := below_alloc w (.cells #[.pointer (some ⟨g, 0, none⟩)] 154)
  have hsz : (w.alloc (.cells #[.pointer (some ⟨g, 0, none⟩)] 154)).heap.size = w.heap.size + 1 := by simp
  have hga := hba.block g (lt_of_heap hg) |>.trans hg
  have hxa := heap_alloc_new w (.cells #[.pointer (some ⟨g, 0, none⟩)] 154)
  have HC := Lib.hid (threes_w g w.heap.size k b s q AR nR cR f AS nS cS AP nP cP i S l A n c _ (hx.keep hba) hnc (fun k h => Nat.lt_of_lt_of_le (hk k h) hba.size) hn hxa hga)
  have HO := Lib.hid (Onl.of_below (g := g) hba)
  have HSZ := Lib.hid hsz
  clear hx hk hga hxa hg hba hsz
  go_enter Try.func65, Try.ntmps65
  go_wp2_with fail
  refine HC.out.mono ?_
  rintro e w1 ⟨A', n', c', rfl, hn1, hg1, ho1, hon⟩
  have HN := Lib.hid hn1
  have HG1 := Lib.hid hg1
  clear hn1 hg1 HC
  have HO1 := Lib.hid (ho1.mono (b := w.heap.size) (by have := HSZ.out; omega))
  clear ho1
  go_wp2
  go_ret
  exact ⟨A', n', c', rfl, HN.out, HG1.out, HO1.out, HO.out.trans hon⟩
set_option maxRecDepth 100000 in
set_option maxHeartbeats 4000000 in
theorem take_r (g : Nat) (k b s q : Int) (AW : Option Addr) (nW cW : Nat) (f : Bool) (AS : Option Addr) (nS cS : Nat) (AP : Option Addr) (nP cP : Nat) (i : Int) (S : ByteArray) (A : Option Addr) (n c : Nat) (w : World) (hg : w.heap[g]? = some (.cells (rcV k b s q AW nW cW none 0 0 f AS nS cS AP nP cP i S) 32 (0, 0))) (l : List Tr) (hx : Bs w A n (trs l)) (hnc : n ≤ c) (hk : ∀ k, blk A = some k → k < w.heap.size) (hn : n ≤ 20000000) :
    Calls Try.prog 65 #[.pointer (some ⟨g, 0, none⟩), .int .i32 114, .slice A n c] w fun e w' => ∃ A' n' c', e = .returned (.int .i64 0) ∧ n' = l.length ∧ w'.heap[g]? = some (.cells (rcV k b s q AW nW cW A' n' c' f AS nS cS AP nP cP i S) 32 (0, 0)) ∧ TrO w' w.heap.size 99 A' n' c' l ∧ Onl g w w' := by
  have hba := below_alloc w (.cells #[.pointer (some ⟨g, 0, none⟩)] 154)
  have hsz : (w.alloc (.cells #[.pointer (some ⟨g, 0, none⟩)] 154)).heap.size = w.heap.size + 1 := by simp
  have hga := hba.block g (lt_of_heap hg) |>.trans hg
  have hxa := heap_alloc_new w (.cells #[.pointer (some ⟨g, 0, none⟩)] 154)
  have HC := Lib.hid (threes_r g w.heap.size k b s q AW nW cW f AS nS cS AP nP cP i S l A n c _ (hx.keep hba) hnc (fun k h => Nat.lt_of_lt_of_le (hk k h) hba.size) hn hxa hga)
  have HO := Lib.hid (Onl.of_below (g := g) hba)
  have HSZ := Lib.hid hsz
  clear hx hk hga hxa hg hba hsz
  go_enter Try.func65, Try.ntmps65
  go_wp2_with fail
  refine HC.out.mono ?_
  rintro e w1 ⟨A', n', c', rfl, hn1, hg1, ho1, hon⟩
  have HN := Lib.hid hn1
  have HG1 := Lib.hid hg1
  clear hn1 hg1 HC
  have HO1 := Lib.hid (ho1.mono (b := w.heap.size) (by have := HSZ.out; omega))
  clear ho1
  go_wp2
  go_ret
  exact ⟨A', n', c', rfl, HN.out, HG1.out, HO1.out, HO.out.trans hon⟩
end Go.Proofs.Ytmjjbfcblmmipaa
namespace Go.Proofs.Ytmjjbfcblmmipaa
set_option linter.unusedVariables false
set_option linter.unusedSimpArgs false
open Go.RowKit

theorem info3 : (Try.prog.info? 3).map (fun i => (i.zero, i.size, i.bytes)) = some (some (.int .i64 0), 1, 8) := by kernel_rfl
theorem one_int (x : Int) : ∀ u ∈ [Value.int .i64 x], u.oneCell' = true := by
  intro u hu
  have : u = .int .i64 x := by simpa using hu
  subst this; rfl
theorem wrap_i64 (x : Int) (h0 : -9223372036854775808 ≤ x) (h1 : x ≤ 9223372036854775807) : IntKind.i64.wrap (uw x) = x := by
  unfold uw
  simp only [IntKind.wrap, IntKind.bits, IntKind.signed]
  split <;> simp <;> omega
theorem nums_cons (x : Int) (l : List Int) : nums (x :: l) = num x ++ nums l := by simp [nums]
theorem St.grow {w0 W W' : World} {g gr : Nat} {cs : Array Value} {xs : List Int} (h : St w0 g cs gr xs W) (hb : Below (gr + 1) W W') : St w0 g cs gr xs W' := by
  have hlt := h.lt; have hgl := h.gl
  exact ⟨(hb.block g (by omega)).trans h.hg, (hb.block _ (by omega)).trans h.hb, h.hr.keep hb (by omega), ⟨hb.os.trans h.ho.os, hb.tape.trans h.ho.tape, hb.output.trans h.ho.output, Nat.le_trans h.ho.size hb.size, fun i hi hne => (hb.block i (by omega)).trans (h.ho.block i hi hne)⟩, h.lt, h.gl⟩
set_option maxRecDepth 100000 in
set_option maxHeartbeats 8000000 in
theorem take_s (g : Nat) (k b s q : Int) (AW : Option Addr) (nW cW : Nat) (AR : Option Addr) (nR cR : Nat) (f : Bool) (AP : Option Addr) (nP cP : Nat) (i : Int) (S : ByteArray) (A : Option Addr) (n c : Nat) (w : World) (hg : w.heap[g]? = some (.cells (rcV k b s q AW nW cW AR nR cR f none 0 0 AP nP cP i S) 32 (0, 0))) (l : List Int) (hr : ∀ x ∈ l, -9223372036854775808 ≤ x ∧ x ≤ 9223372036854775807) (hx : Bs w A n (nums (l.map uw))) (hn : n ≤ 20000000) :
    Calls Try.prog 65 #[.pointer (some ⟨g, 0, none⟩), .int .i32 115, .slice A n c] w fun e w' => ∃ A' n' c', e = .returned (.int .i64 0) ∧ n' = l.length ∧ w'.heap[g]? = some (.cells (rcV k b s q AW nW cW AR nR cR f A' n' c' AP nP cP i S) 32 (0, 0)) ∧ Own w' w.heap.size 3 A' n' c' (l.map (Value.int .i64)) ∧ Onl g w w' := by
  obtain ⟨i0, hi, hz0, hz1, hz2⟩ := info_parts info3
  have hxa := hx.keep (below_alloc w (.cells #[.pointer (some ⟨g, 0, none⟩)] 154))
  have HCV := Lib.hid (show closeV [] 0 = 0 from rfl)
  have HG := Lib.hid hg
  have HLB : Hid (∀ k, (nums ((l.map uw).drop k)).length ≤ 20000000) := by
    intro k
    have h1 : nums (l.map uw) = nums ((l.map uw).take k) ++ nums ((l.map uw).drop k) := by
      unfold nums; rw [← List.flatten_append, ← List.map_append, List.take_append_drop]
    have h2 := hx.len
    rw [h1, List.length_append] at h2
    omega
  have HLL : l.length ≤ 20000000 := by
    have h1 : ∀ m : List Int, m.length ≤ (nums m).length := by
      intro m
      induction m with
      | nil => simp [nums]
      | cons x m ih => rw [nums_cons, List.length_append, List.length_cons]; have := num_pos x; omega
    have h2 := h1 (l.map uw)
    have h3 := hx.len
    rw [List.length_map] at h2
    omega
  have HRG := Lib.hid hr
  clear hx hg hr
  go_enter Try.func65, Try.ntmps65
  go_wp2_with fail
  refine (readQ A n c _ _ hxa (by omega)).mono ?_
  rintro e w1 ⟨gr, rfl, hr1, hgr, hb1⟩
  have HS1 : Hid (St w g (rcV k b s q AW nW cW AR nR cR f none 0 0 AP nP cP i S) gr (nums ((l.map uw).drop 0)) w1) := St.begin HG.out hr1 hgr hb1
  clear hr1 hgr hb1 hxa HG
  go_wp2_with fail
  go_loopg [] (l.length + 1) (fun gk wr => ∃ (kk n' c' : Nat) (A' : Option Addr), kk ≤ l.length ∧ l.length - kk < gk ∧ Hid (n' = kk) ∧ n' ≤ 20000000 ∧ Own wr (gr + 1) 3 A' n' c' ((l.take kk).map (Value.int .i64)) ∧ Hid (St w g (rcV k b s q AW nW cW AR nR cR f A' n' c' AP nP cP i S) gr (nums ((l.map uw).drop kk)) wr))
  case atStart => exact ⟨0, 0, 0, none, by omega, by omega, Lib.hid rfl, by omega, Own.nil_, HS1⟩
  case round =>
    clear HS1
    obtain ⟨kk, n', c', A', hkk, hgk, HNK, hnb, hrow, HS⟩ := hrel
    by_cases hlt : kk < l.length
    · obtain ⟨x, HX⟩ : ∃ x, Hid (l[kk]? = some x) := ⟨_, List.getElem?_eq_getElem hlt⟩
      have hxr := HRG.out x (List.mem_of_getElem? HX.out)
      have HUB := uw_bd x hxr.1 hxr.2
      have HU := Lib.hid (wrap_i64 x hxr.1 hxr.2)
      have hd : (l.map uw).drop kk = uw x :: (l.map uw).drop (kk + 1) := by
        have h1 : (l.map uw)[kk]? = some (uw x) := by rw [List.getElem?_map, HX.out]; rfl
        obtain ⟨h2, h3⟩ := List.getElem?_eq_some_iff.1 h1
        rw [List.drop_eq_getElem_cons h2, h3]
      have hLb := HLB.out kk
      have HNS := Lib.hid (numS_head (uw x) (nums ((l.map uw).drop (kk + 1))) HUB.1 HUB.2)
      have hlp : 0 < (nums ((l.map uw).drop kk)).length := by rw [hd, nums_cons, List.length_append]; have := num_pos (uw x); omega
      rw [← nums_cons, ← hd] at HNS
      clear hxr HUB hd
      obtain ⟨L', HLL'⟩ : ∃ L', Hid (nums ((l.map uw).drop (kk + 1)) = L') := ⟨_, rfl⟩
      rw [HLL'.out] at HNS
      generalize nums ((l.map uw).drop kk) = L at *
      generalize uw x = u at *
      have hd1 : decide ((0 : Int) < (L.length : Int)) = true := by simp; omega
      have hd2 : (0 : Int) < (L.length : Int) := by omega
      have e0 : wr.drew.cell? ⟨w.heap.size, 0, none⟩ = some (.pointer (some ⟨g, 0, none⟩)) := HS.out.box
      have e7 : wr.drew.cell? ⟨g, 7, none⟩ = some (.slice A' n' c') := HS.out.fc 7 _ rfl
      have hsl : L.length ≤ 140737488355328 := by omega
      go_wp2_with fail
      refine (rleftQ _ gr _ _ HS.out.hr).mono ?_
      rintro e wz ⟨rfl, rfl⟩
      go_wp2_with fail
      refine (rerrQ _ gr _ _ HS.out.hr).mono ?_
      rintro e wz ⟨rfl, rfl⟩
      go_wp2_with fail
      refine wp_region_held_drew (S := fun w' => w'.cell? ⟨w.heap.size, 0, none⟩ = some (.pointer (some ⟨g, 0, none⟩))) (by kernel_rfl) e0 (fun hH0 => ?_)
      refine wpAnyH_take (i := 0) (oi := { dst := some 72, op := Op.load 154 (Operand.tmp 3), type := 154, pos := _, after := #[], guard := none }) (v := ?va_0) rfl (by kernel_rfl) (by kernel_rfl) (by kernel_rfl) (fun _ _ _ h => h) (Or.inl ⟨by rfl, ?ya_0⟩) hH0 ?ra_0
      case ya_0 => (intro w hSw; (try dsimp only at hSw); go_simp; try (with_reducible rfl))
      try simp only [Act.put, List.setIfInBounds_toArray, List.set_cons_zero, List.set_cons_succ]
      refine wpAnyH_take (i := 1) (oi := { dst := some 73, op := Op.load 154 (Operand.tmp 3), type := 154, pos := _, after := #[], guard := none }) (v := ?va_1) rfl (by kernel_rfl) (by kernel_rfl) (by kernel_rfl) (fun _ _ _ h => h) (Or.inl ⟨by rfl, ?ya_1⟩) hH0 ?ra_1
      case ya_1 => (intro w hSw; (try dsimp only at hSw); go_simp; try (with_reducible rfl))
      try simp only [Act.put, List.setIfInBounds_toArray, List.set_cons_zero, List.set_cons_succ]
      refine wpAnyH_take (i := 2) (oi := { dst := some 74, op := Op.nilCheck (Operand.tmp 73), type := 0, pos := _, after := #[{ on := 1, ground := Ground.data }], guard := none }) (v := ?va_2) rfl (by kernel_rfl) (by kernel_rfl) (by kernel_rfl) (fun _ _ _ h => h) (Or.inl ⟨by rfl, ?ya_2⟩) hH0 ?ra_2
      case ya_2 => (intro w hSw; (try dsimp only at hSw); go_simp; try (with_reducible rfl))
      try simp only [Act.put, List.setIfInBounds_toArray, List.set_cons_zero, List.set_cons_succ]
      refine wpAnyH_take (i := 3) (oi := { dst := some 75, op := Op.fieldAddr 32 (Operand.tmp 74) 5, type := 0, pos := _, after := #[{ on := 2, ground := Ground.data }], guard := none }) (v := ?va_3) rfl (by kernel_rfl) (by kernel_rfl) (by kernel_rfl) (fun _ _ _ h => h) (Or.inl ⟨by rfl, ?ya_3⟩) hH0 ?ra_3
      case ya_3 => (intro w hSw; (try dsimp only at hSw); go_simp; try (with_reducible rfl))
      try simp only [Act.put, List.setIfInBounds_toArray, List.set_cons_zero, List.set_cons_succ]
      refine wpAnyH_take (i := 5) (oi := { dst := some 77, op := Op.move (Operand.tmp 7), type := 157, pos := _, after := #[], guard := none }) (v := ?va_5) rfl (by kernel_rfl) (by kernel_rfl) (by kernel_rfl) (fun _ _ _ h => h) (Or.inl ⟨by rfl, ?ya_5⟩) hH0 ?ra_5
      case ya_5 => (intro w hSw; (try dsimp only at hSw); go_simp; try (with_reducible rfl))
      try simp only [Act.put, List.setIfInBounds_toArray, List.set_cons_zero, List.set_cons_succ]
      refine wpAnyH_ready (rs := [4, 6]) (by kernel_rfl) (by simp) ?_
      refine (AllReadyH.cons (o := { dst := some 76, op := Op.load 27 (Operand.tmp 75), type := 27, pos := _, after := #[{ on := 3, ground := Ground.data }], guard := none }) rfl (fun K hK => ?_) (AllReadyH.cons (o := { dst := some 78, op := Op.call { callee := Callee.value (Operand.func 108), args := #[Operand.tmp 77], argTypes := #[157] }, type := 22, pos := _, after := #[{ on := 5, ground := Ground.data }], guard := none }) rfl (fun K hK => ?_) AllReadyH.nil))
      · go_simp
        refine hK.out _ _ e0 (fun hA1 => ?_)
        clear hK K
        try simp only [Act.put, List.setIfInBounds_toArray, List.set_cons_zero, List.set_cons_succ]
        refine wpAnyH_ready (rs := [6]) (by kernel_rfl) (by simp) ?_
        refine (AllReadyH.cons (o := { dst := some 78, op := Op.call { callee := Callee.value (Operand.func 108), args := #[Operand.tmp 77], argTypes := #[157] }, type := 22, pos := _, after := #[{ on := 5, ground := Ground.data }], guard := none }) rfl (fun K hK => ?_) AllReadyH.nil)
        go_simp
        refine (rnumQ wr.drew gr _ 0 (show RdrQ _ wr.drew gr _ 0 from HS.out.hr) (by omega)).mono ?_
        rw [HNS.out]
        rintro e x1 ⟨rfl, hr1, ho1⟩
        have HT := Lib.hid (HS.out.num hr1 ho1.undrew)
        have f0 := HT.out.box
        have f7 := HT.out.fc 7 (.slice A' n' c') rfl
        have hrow1 := Own.onl hrow ho1.undrew (fun e => by have := (hrow.lies gr e).1; omega)
        have hba := below_alloc x1 (.cells #[.int .i64 (IntKind.i64.wrap u)] 3)
        have HTA : Hid (St w g (rcV k b s q AW nW cW AR nR cR f A' n' c' AP nP cP i S) gr L' (x1.alloc (.cells #[.int .i64 (IntKind.i64.wrap u)] 3))) := HT.out.grow (hba.mono (Nat.succ_le_of_lt HT.out.hr.lt))
        have g0 := HTA.out.box
        have g7 := HTA.out.fc 7 (.slice A' n' c') rfl
        have hrow2 := hrow1.alloc (.cells #[.int .i64 (IntKind.i64.wrap u)] 3)
        have hgs : gr + 1 ≤ (x1.alloc (.cells #[.int .i64 (IntKind.i64.wrap u)] 3)).heap.size := Nat.le_trans (Nat.succ_le_of_lt HT.out.hr.lt) hba.size
        clear hr1 ho1 hba
        go_wp2_with fail
        refine hK.out _ _ f0 (fun hA2 => ?_)
        clear hK K
        try simp only [Act.put, List.setIfInBounds_toArray, List.set_cons_zero, List.set_cons_succ]
        refine wpAnyH_take (i := 7) (oi := { dst := some 79, op := Op.convert 22 3 (Operand.tmp 78), type := 3, pos := _, after := #[{ on := 6, ground := Ground.data }], guard := none }) (v := ?vb_7) rfl (by kernel_rfl) (by kernel_rfl) (by kernel_rfl) (fun _ _ _ h => h) (Or.inl ⟨by rfl, ?yb_7⟩) hA2 ?rb_7
        case yb_7 => (intro w hSw; (try dsimp only at hSw); go_simp; try (with_reducible rfl))
        try simp only [Act.put, List.setIfInBounds_toArray, List.set_cons_zero, List.set_cons_succ]
        refine wpAnyH_ready (rs := [8]) (by kernel_rfl) (by simp) ?_
        refine (AllReadyH.cons (o := { dst := some 80, op := Op.buildSlice 27 1 #[(0, Operand.tmp 79)], type := 27, pos := _, after := #[{ on := 7, ground := Ground.data }], guard := none }) rfl (fun K hK => ?_) AllReadyH.nil)
        go_simp
        refine hK.out _ _ g0 (fun hA3 => ?_)
        clear hK K
        try simp only [Act.put, List.setIfInBounds_toArray, List.set_cons_zero, List.set_cons_succ]
        refine wpAnyH_ready (rs := [9]) (by kernel_rfl) (by simp) ?_
        refine (AllReadyH.cons (o := { dst := some 81, op := Op.call { callee := Callee.builtin Builtin.append, args := #[Operand.tmp 76, Operand.tmp 80], argTypes := #[27, 27] }, type := 27, pos := _, after := #[{ on := 4, ground := Ground.data }, { on := 8, ground := Ground.data }, { on := 6, ground := Ground.chain }], guard := none }) rfl (fun K hK => ?_) AllReadyH.nil)
        refine step_append_rd rfl (.tmp 76) (.tmp 80) 27 rfl i0 (.int .i64 0) 8 Try.underlying27 hi hz0 hz1 hz2 rfl (by simp [Act.eval, Act.put]) hrow2 (some ⟨x1.heap.size, 0, none⟩) 1 1 [.int .i64 (IntKind.i64.wrap u)] (by simp [Act.eval, Act.put]) (rd_oneV x1 _ 3) (one_int _) (by unfold maxLen; omega) (by omega) hgs ?_
        intro A5 c5 x5 ho5 hg5
        have HT5 : Hid (St w g (rcV k b s q AW nW cW AR nR cR f A' n' c' AP nP cP i S) gr L' x5) := HTA.out.grow (hg5.below hgs (fun k hk => (hrow2.lies k hk).1))
        have h0 := HT5.out.box
        have h7 := HT5.out.fc 7 (.slice A' n' c') rfl
        have fz := HT5.out.fz 7
        have h0s := HT5.out.boxS 7 (.slice A5 (n' + 1) c5)
        have HO5 := Lib.hid ho5
        clear ho5 hg5
        refine hK.out _ _ h0 (fun hE1 => ?_)
        clear hK K
        try simp only [Act.put, List.setIfInBounds_toArray, List.set_cons_zero, List.set_cons_succ]
        refine wpAnyH_take (i := 10) (oi := { dst := some 82, op := Op.nilCheck (Operand.tmp 72), type := 0, pos := _, after := #[{ on := 0, ground := Ground.data }, { on := 0, ground := Ground.phase }, { on := 1, ground := Ground.phase }, { on := 2, ground := Ground.phase }, { on := 3, ground := Ground.phase }, { on := 4, ground := Ground.phase }, { on := 5, ground := Ground.phase }, { on := 6, ground := Ground.phase }, { on := 7, ground := Ground.phase }, { on := 8, ground := Ground.phase }, { on := 9, ground := Ground.phase }], guard := none }) (v := ?vc_10) rfl (by kernel_rfl) (by kernel_rfl) (by kernel_rfl) (fun _ _ _ h => h) (Or.inl ⟨by rfl, ?yc_10⟩) hE1 ?rc_10
        case yc_10 => (intro w hSw; (try dsimp only at hSw); go_simp; try (with_reducible rfl))
        try simp only [Act.put, List.setIfInBounds_toArray, List.set_cons_zero, List.set_cons_succ]
        refine wpAnyH_take (i := 11) (oi := { dst := some 83, op := Op.fieldAddr 32 (Operand.tmp 82) 5, type := 0, pos := _, after := #[{ on := 10, ground := Ground.data }, { on := 0, ground := Ground.phase }, { on := 1, ground := Ground.phase }, { on := 2, ground := Ground.phase }, { on := 3, ground := Ground.phase }, { on := 4, ground := Ground.phase }, { on := 5, ground := Ground.phase }, { on := 6, ground := Ground.phase }, { on := 7, ground := Ground.phase }, { on := 8, ground := Ground.phase }, { on := 9, ground := Ground.phase }], guard := none }) (v := ?vc_11) rfl (by kernel_rfl) (by kernel_rfl) (by kernel_rfl) (fun _ _ _ h => h) (Or.inl ⟨by rfl, ?yc_11⟩) hE1 ?rc_11
        case yc_11 => (intro w hSw; (try dsimp only at hSw); go_simp; try (with_reducible rfl))
        try simp only [Act.put, List.setIfInBounds_toArray, List.set_cons_zero, List.set_cons_succ]
        refine wpAnyH_ready (rs := [12]) (by kernel_rfl) (by simp) ?_
        refine (AllReadyH.cons (o := { dst := none, op := Op.store 27 (Operand.tmp 83) (Operand.tmp 81), type := 0, pos := _, after := #[{ on := 11, ground := Ground.data }, { on := 9, ground := Ground.data }, { on := 9, ground := Ground.chain }, { on := 0, ground := Ground.phase }, { on := 1, ground := Ground.phase }, { on := 2, ground := Ground.phase }, { on := 3, ground := Ground.phase }, { on := 4, ground := Ground.phase }, { on := 5, ground := Ground.phase }, { on := 6, ground := Ground.phase }, { on := 7, ground := Ground.phase }, { on := 8, ground := Ground.phase }, { on := 9, ground := Ground.phase }], guard := none }) rfl (fun K hK => ?_) AllReadyH.nil)
        go_simp
        refine hK.out _ _ h0s (fun hE2 => ?_)
        clear hK K
        try simp only [Act.put, List.setIfInBounds_toArray, List.set_cons_zero, List.set_cons_succ]
        refine wpAnyH_done (by kernel_rfl) ?_ _
        have HS5 : Hid (St w g (rcV k b s q AW nW cW AR nR cR f A5 (n' + 1) c5 AP nP cP i S) gr L' (x5.setCell ⟨g, 7, none⟩ (.slice A5 (n' + 1) c5))) := HT5.out.set 7 _ rfl
        have HR5 : Hid (Own (x5.setCell ⟨g, 7, none⟩ (.slice A5 (n' + 1) c5)) (gr + 1) 3 A5 (n' + 1) c5 ((l.take (kk + 1)).map (Value.int .i64))) := by
          show Own _ _ _ _ _ _ _
          rw [List.take_add_one, HX.out]
          have h1 := HO5.out
          rw [HU.out] at h1
          have h2 := Own.onl h1 (onl_set x5 g 7 (.slice A5 (n' + 1) c5)) (h1.ne_blk HT5.out.hg (by decide))
          rw [List.map_append]
          exact h2
        go_wp2
        go_roundg (gk - 1)
        case measure => omega
        case rel => exact ⟨kk + 1, n' + 1, c5, A5, by omega, by omega, Lib.hid (by rw [HNK.out]), by have h1 := HNK.out; omega, HR5.out, by rw [HLL'.out]; exact HS5⟩
      · go_simp
        refine (rnumQ wr.drew gr _ 0 (show RdrQ _ wr.drew gr _ 0 from HS.out.hr) (by omega)).mono ?_
        rw [HNS.out]
        rintro e x1 ⟨rfl, hr1, ho1⟩
        have HT := Lib.hid (HS.out.num hr1 ho1.undrew)
        have f0 := HT.out.box
        have f7 := HT.out.fc 7 (.slice A' n' c') rfl
        have hrow1 := Own.onl hrow ho1.undrew (fun e => by have := (hrow.lies gr e).1; omega)
        have hba := below_alloc x1 (.cells #[.int .i64 (IntKind.i64.wrap u)] 3)
        have HTA : Hid (St w g (rcV k b s q AW nW cW AR nR cR f A' n' c' AP nP cP i S) gr L' (x1.alloc (.cells #[.int .i64 (IntKind.i64.wrap u)] 3))) := HT.out.grow (hba.mono (Nat.succ_le_of_lt HT.out.hr.lt))
        have g0 := HTA.out.box
        have g7 := HTA.out.fc 7 (.slice A' n' c') rfl
        have hrow2 := hrow1.alloc (.cells #[.int .i64 (IntKind.i64.wrap u)] 3)
        have hgs : gr + 1 ≤ (x1.alloc (.cells #[.int .i64 (IntKind.i64.wrap u)] 3)).heap.size := Nat.le_trans (Nat.succ_le_of_lt HT.out.hr.lt) hba.size
        clear hr1 ho1 hba
        go_wp2_with fail
        refine hK.out _ _ f0 (fun hB1 => ?_)
        clear hK K
        try simp only [Act.put, List.setIfInBounds_toArray, List.set_cons_zero, List.set_cons_succ]
        refine wpAnyH_take (i := 7) (oi := { dst := some 79, op := Op.convert 22 3 (Operand.tmp 78), type := 3, pos := _, after := #[{ on := 6, ground := Ground.data }], guard := none }) (v := ?vd_7) rfl (by kernel_rfl) (by kernel_rfl) (by kernel_rfl) (fun _ _ _ h => h) (Or.inl ⟨by rfl, ?yd_7⟩) hB1 ?rd_7
        case yd_7 => (intro w hSw; (try dsimp only at hSw); go_simp; try (with_reducible rfl))
        try simp only [Act.put, List.setIfInBounds_toArray, List.set_cons_zero, List.set_cons_succ]
        refine wpAnyH_ready (rs := [4, 8]) (by kernel_rfl) (by simp) ?_
        refine (AllReadyH.cons (o := { dst := some 76, op := Op.load 27 (Operand.tmp 75), type := 27, pos := _, after := #[{ on := 3, ground := Ground.data }], guard := none }) rfl (fun K hK => ?_) (AllReadyH.cons (o := { dst := some 80, op := Op.buildSlice 27 1 #[(0, Operand.tmp 79)], type := 27, pos := _, after := #[{ on := 7, ground := Ground.data }], guard := none }) rfl (fun K hK => ?_) AllReadyH.nil))
        · go_simp
          refine hK.out _ _ f0 (fun hB2 => ?_)
          clear hK K
          try simp only [Act.put, List.setIfInBounds_toArray, List.set_cons_zero, List.set_cons_succ]
          refine wpAnyH_ready (rs := [8]) (by kernel_rfl) (by simp) ?_
          refine (AllReadyH.cons (o := { dst := some 80, op := Op.buildSlice 27 1 #[(0, Operand.tmp 79)], type := 27, pos := _, after := #[{ on := 7, ground := Ground.data }], guard := none }) rfl (fun K hK => ?_) AllReadyH.nil)
          go_simp
          refine hK.out _ _ g0 (fun hB3 => ?_)
          clear hK K
          try simp only [Act.put, List.setIfInBounds_toArray, List.set_cons_zero, List.set_cons_succ]
          refine wpAnyH_ready (rs := [9]) (by kernel_rfl) (by simp) ?_
          refine (AllReadyH.cons (o := { dst := some 81, op := Op.call { callee := Callee.builtin Builtin.append, args := #[Operand.tmp 76, Operand.tmp 80], argTypes := #[27, 27] }, type := 27, pos := _, after := #[{ on := 4, ground := Ground.data }, { on := 8, ground := Ground.data }, { on := 6, ground := Ground.chain }], guard := none }) rfl (fun K hK => ?_) AllReadyH.nil)
          refine step_append_rd rfl (.tmp 76) (.tmp 80) 27 rfl i0 (.int .i64 0) 8 Try.underlying27 hi hz0 hz1 hz2 rfl (by simp [Act.eval, Act.put]) hrow2 (some ⟨x1.heap.size, 0, none⟩) 1 1 [.int .i64 (IntKind.i64.wrap u)] (by simp [Act.eval, Act.put]) (rd_oneV x1 _ 3) (one_int _) (by unfold maxLen; omega) (by omega) hgs ?_
          intro A5 c5 x5 ho5 hg5
          have HT5 : Hid (St w g (rcV k b s q AW nW cW AR nR cR f A' n' c' AP nP cP i S) gr L' x5) := HTA.out.grow (hg5.below hgs (fun k hk => (hrow2.lies k hk).1))
          have h0 := HT5.out.box
          have h7 := HT5.out.fc 7 (.slice A' n' c') rfl
          have fz := HT5.out.fz 7
          have h0s := HT5.out.boxS 7 (.slice A5 (n' + 1) c5)
          have HO5 := Lib.hid ho5
          clear ho5 hg5
          refine hK.out _ _ h0 (fun hE1 => ?_)
          clear hK K
          try simp only [Act.put, List.setIfInBounds_toArray, List.set_cons_zero, List.set_cons_succ]
          refine wpAnyH_take (i := 10) (oi := { dst := some 82, op := Op.nilCheck (Operand.tmp 72), type := 0, pos := _, after := #[{ on := 0, ground := Ground.data }, { on := 0, ground := Ground.phase }, { on := 1, ground := Ground.phase }, { on := 2, ground := Ground.phase }, { on := 3, ground := Ground.phase }, { on := 4, ground := Ground.phase }, { on := 5, ground := Ground.phase }, { on := 6, ground := Ground.phase }, { on := 7, ground := Ground.phase }, { on := 8, ground := Ground.phase }, { on := 9, ground := Ground.phase }], guard := none }) (v := ?ve_10) rfl (by kernel_rfl) (by kernel_rfl) (by kernel_rfl) (fun _ _ _ h => h) (Or.inl ⟨by rfl, ?ye_10⟩) hE1 ?re_10
          case ye_10 => (intro w hSw; (try dsimp only at hSw); go_simp; try (with_reducible rfl))
          try simp only [Act.put, List.setIfInBounds_toArray, List.set_cons_zero, List.set_cons_succ]
          refine wpAnyH_take (i := 11) (oi := { dst := some 83, op := Op.fieldAddr 32 (Operand.tmp 82) 5, type := 0, pos := _, after := #[{ on := 10, ground := Ground.data }, { on := 0, ground := Ground.phase }, { on := 1, ground := Ground.phase }, { on := 2, ground := Ground.phase }, { on := 3, ground := Ground.phase }, { on := 4, ground := Ground.phase }, { on := 5, ground := Ground.phase }, { on := 6, ground := Ground.phase }, { on := 7, ground := Ground.phase }, { on := 8, ground := Ground.phase }, { on := 9, ground := Ground.phase }], guard := none }) (v := ?ve_11) rfl (by kernel_rfl) (by kernel_rfl) (by kernel_rfl) (fun _ _ _ h => h) (Or.inl ⟨by rfl, ?ye_11⟩) hE1 ?re_11
          case ye_11 => (intro w hSw; (try dsimp only at hSw); go_simp; try (with_reducible rfl))
          try simp only [Act.put, List.setIfInBounds_toArray, List.set_cons_zero, List.set_cons_succ]
          refine wpAnyH_ready (rs := [12]) (by kernel_rfl) (by simp) ?_
          refine (AllReadyH.cons (o := { dst := none, op := Op.store 27 (Operand.tmp 83) (Operand.tmp 81), type := 0, pos := _, after := #[{ on := 11, ground := Ground.data }, { on := 9, ground := Ground.data }, { on := 9, ground := Ground.chain }, { on := 0, ground := Ground.phase }, { on := 1, ground := Ground.phase }, { on := 2, ground := Ground.phase }, { on := 3, ground := Ground.phase }, { on := 4, ground := Ground.phase }, { on := 5, ground := Ground.phase }, { on := 6, ground := Ground.phase }, { on := 7, ground := Ground.phase }, { on := 8, ground := Ground.phase }, { on := 9, ground := Ground.phase }], guard := none }) rfl (fun K hK => ?_) AllReadyH.nil)
          go_simp
          refine hK.out _ _ h0s (fun hE2 => ?_)
          clear hK K
          try simp only [Act.put, List.setIfInBounds_toArray, List.set_cons_zero, List.set_cons_succ]
          refine wpAnyH_done (by kernel_rfl) ?_ _
          have HS5 : Hid (St w g (rcV k b s q AW nW cW AR nR cR f A5 (n' + 1) c5 AP nP cP i S) gr L' (x5.setCell ⟨g, 7, none⟩ (.slice A5 (n' + 1) c5))) := HT5.out.set 7 _ rfl
          have HR5 : Hid (Own (x5.setCell ⟨g, 7, none⟩ (.slice A5 (n' + 1) c5)) (gr + 1) 3 A5 (n' + 1) c5 ((l.take (kk + 1)).map (Value.int .i64))) := by
            show Own _ _ _ _ _ _ _
            rw [List.take_add_one, HX.out]
            have h1 := HO5.out
            rw [HU.out] at h1
            have h2 := Own.onl h1 (onl_set x5 g 7 (.slice A5 (n' + 1) c5)) (h1.ne_blk HT5.out.hg (by decide))
            rw [List.map_append]
            exact h2
          go_wp2
          go_roundg (gk - 1)
          case measure => omega
          case rel => exact ⟨kk + 1, n' + 1, c5, A5, by omega, by omega, Lib.hid (by rw [HNK.out]), by have h1 := HNK.out; omega, HR5.out, by rw [HLL'.out]; exact HS5⟩
        · go_simp
          refine hK.out _ _ g0 (fun hB2 => ?_)
          clear hK K
          try simp only [Act.put, List.setIfInBounds_toArray, List.set_cons_zero, List.set_cons_succ]
          refine wpAnyH_ready (rs := [4]) (by kernel_rfl) (by simp) ?_
          refine (AllReadyH.cons (o := { dst := some 76, op := Op.load 27 (Operand.tmp 75), type := 27, pos := _, after := #[{ on := 3, ground := Ground.data }], guard := none }) rfl (fun K hK => ?_) AllReadyH.nil)
          go_simp
          refine hK.out _ _ g0 (fun hB3 => ?_)
          clear hK K
          try simp only [Act.put, List.setIfInBounds_toArray, List.set_cons_zero, List.set_cons_succ]
          refine wpAnyH_ready (rs := [9]) (by kernel_rfl) (by simp) ?_
          refine (AllReadyH.cons (o := { dst := some 81, op := Op.call { callee := Callee.builtin Builtin.append, args := #[Operand.tmp 76, Operand.tmp 80], argTypes := #[27, 27] }, type := 27, pos := _, after := #[{ on := 4, ground := Ground.data }, { on := 8, ground := Ground.data }, { on := 6, ground := Ground.chain }], guard := none }) rfl (fun K hK => ?_) AllReadyH.nil)
          refine step_append_rd rfl (.tmp 76) (.tmp 80) 27 rfl i0 (.int .i64 0) 8 Try.underlying27 hi hz0 hz1 hz2 rfl (by simp [Act.eval, Act.put]) hrow2 (some ⟨x1.heap.size, 0, none⟩) 1 1 [.int .i64 (IntKind.i64.wrap u)] (by simp [Act.eval, Act.put]) (rd_oneV x1 _ 3) (one_int _) (by unfold maxLen; omega) (by omega) hgs ?_
          intro A5 c5 x5 ho5 hg5
          have HT5 : Hid (St w g (rcV k b s q AW nW cW AR nR cR f A' n' c' AP nP cP i S) gr L' x5) := HTA.out.grow (hg5.below hgs (fun k hk => (hrow2.lies k hk).1))
          have h0 := HT5.out.box
          have h7 := HT5.out.fc 7 (.slice A' n' c') rfl
          have fz := HT5.out.fz 7
          have h0s := HT5.out.boxS 7 (.slice A5 (n' + 1) c5)
          have HO5 := Lib.hid ho5
          clear ho5 hg5
          refine hK.out _ _ h0 (fun hE1 => ?_)
          clear hK K
          try simp only [Act.put, List.setIfInBounds_toArray, List.set_cons_zero, List.set_cons_succ]
          refine wpAnyH_take (i := 10) (oi := { dst := some 82, op := Op.nilCheck (Operand.tmp 72), type := 0, pos := _, after := #[{ on := 0, ground := Ground.data }, { on := 0, ground := Ground.phase }, { on := 1, ground := Ground.phase }, { on := 2, ground := Ground.phase }, { on := 3, ground := Ground.phase }, { on := 4, ground := Ground.phase }, { on := 5, ground := Ground.phase }, { on := 6, ground := Ground.phase }, { on := 7, ground := Ground.phase }, { on := 8, ground := Ground.phase }, { on := 9, ground := Ground.phase }], guard := none }) (v := ?vf_10) rfl (by kernel_rfl) (by kernel_rfl) (by kernel_rfl) (fun _ _ _ h => h) (Or.inl ⟨by rfl, ?yf_10⟩) hE1 ?rf_10
          case yf_10 => (intro w hSw; (try dsimp only at hSw); go_simp; try (with_reducible rfl))
          try simp only [Act.put, List.setIfInBounds_toArray, List.set_cons_zero, List.set_cons_succ]
          refine wpAnyH_take (i := 11) (oi := { dst := some 83, op := Op.fieldAddr 32 (Operand.tmp 82) 5, type := 0, pos := _, after := #[{ on := 10, ground := Ground.data }, { on := 0, ground := Ground.phase }, { on := 1, ground := Ground.phase }, { on := 2, ground := Ground.phase }, { on := 3, ground := Ground.phase }, { on := 4, ground := Ground.phase }, { on := 5, ground := Ground.phase }, { on := 6, ground := Ground.phase }, { on := 7, ground := Ground.phase }, { on := 8, ground := Ground.phase }, { on := 9, ground := Ground.phase }], guard := none }) (v := ?vf_11) rfl (by kernel_rfl) (by kernel_rfl) (by kernel_rfl) (fun _ _ _ h => h) (Or.inl ⟨by rfl, ?yf_11⟩) hE1 ?rf_11
          case yf_11 => (intro w hSw; (try dsimp only at hSw); go_simp; try (with_reducible rfl))
          try simp only [Act.put, List.setIfInBounds_toArray, List.set_cons_zero, List.set_cons_succ]
          refine wpAnyH_ready (rs := [12]) (by kernel_rfl) (by simp) ?_
          refine (AllReadyH.cons (o := { dst := none, op := Op.store 27 (Operand.tmp 83) (Operand.tmp 81), type := 0, pos := _, after := #[{ on := 11, ground := Ground.data }, { on := 9, ground := Ground.data }, { on := 9, ground := Ground.chain }, { on := 0, ground := Ground.phase }, { on := 1, ground := Ground.phase }, { on := 2, ground := Ground.phase }, { on := 3, ground := Ground.phase }, { on := 4, ground := Ground.phase }, { on := 5, ground := Ground.phase }, { on := 6, ground := Ground.phase }, { on := 7, ground := Ground.phase }, { on := 8, ground := Ground.phase }, { on := 9, ground := Ground.phase }], guard := none }) rfl (fun K hK => ?_) AllReadyH.nil)
          go_simp
          refine hK.out _ _ h0s (fun hE2 => ?_)
          clear hK K
          try simp only [Act.put, List.setIfInBounds_toArray, List.set_cons_zero, List.set_cons_succ]
          refine wpAnyH_done (by kernel_rfl) ?_ _
          have HS5 : Hid (St w g (rcV k b s q AW nW cW AR nR cR f A5 (n' + 1) c5 AP nP cP i S) gr L' (x5.setCell ⟨g, 7, none⟩ (.slice A5 (n' + 1) c5))) := HT5.out.set 7 _ rfl
          have HR5 : Hid (Own (x5.setCell ⟨g, 7, none⟩ (.slice A5 (n' + 1) c5)) (gr + 1) 3 A5 (n' + 1) c5 ((l.take (kk + 1)).map (Value.int .i64))) := by
            show Own _ _ _ _ _ _ _
            rw [List.take_add_one, HX.out]
            have h1 := HO5.out
            rw [HU.out] at h1
            have h2 := Own.onl h1 (onl_set x5 g 7 (.slice A5 (n' + 1) c5)) (h1.ne_blk HT5.out.hg (by decide))
            rw [List.map_append]
            exact h2
          go_wp2
          go_roundg (gk - 1)
          case measure => omega
          case rel => exact ⟨kk + 1, n' + 1, c5, A5, by omega, by omega, Lib.hid (by rw [HNK.out]), by have h1 := HNK.out; omega, HR5.out, by rw [HLL'.out]; exact HS5⟩
    · have hke : kk = l.length := by omega
      subst hke
      have he : (l.map uw).drop l.length = [] := List.drop_eq_nil_of_le (by rw [List.length_map]; exact Nat.le_refl _)
      rw [he] at HS
      have HS' : Hid (St w g (rcV k b s q AW nW cW AR nR cR f A' n' c' AP nP cP i S) gr [] wr) := HS
      rw [List.take_of_length_le (Nat.le_refl _)] at hrow
      clear he HS
      go_wp2_with fail
      refine (rleftQ _ gr _ _ HS'.out.hr).mono ?_
      rintro e wz ⟨rfl, rfl⟩
      go_wp2_with fail
      refine (rcloseQ _ gr _ _ HS'.out.hr).mono ?_
      rintro e wz ⟨rfl, rfl⟩
      rw [HCV.out]
      go_wp2
      go_ret
      exact ⟨A', n', c', rfl, HNK.out, HS'.out.hg, hrow.mono (by have := HS'.out.lt; omega), HS'.out.ho⟩
end Go.Proofs.Ytmjjbfcblmmipaa
