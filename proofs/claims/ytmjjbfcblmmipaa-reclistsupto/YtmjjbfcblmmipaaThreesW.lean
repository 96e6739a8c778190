/- Threes out of a frame: threes, with the closures of take. -/
import Derived.Test.YtmjjbfcblmmipaaClW
namespace Go.Proofs.Ytmjjbfcblmmipaa
set_option linter.unusedVariables false
set_option linter.unusedSimpArgs false
open Go.RowKit

theorem texts_bd : ∀ xss : List (List Int), xss.length ≤ (texts xss).length ∧ ∀ xs ∈ xss, xs.length ≤ (texts xss).length
  | [] => ⟨by simp, fun xs h => by cases h⟩
  | x :: xss => by
    obtain ⟨h1, h2⟩ := texts_bd xss
    have hp := num_pos (x.length : Int)
    have e : (texts (x :: xss)).length = (num (x.length : Int)).length + x.length + (texts xss).length := by
      unfold texts
      simp only [List.map_cons, List.flatten_cons, List.length_append]
    rw [e]
    refine ⟨by simp only [List.length_cons]; omega, fun xs h => ?_⟩
    rcases List.mem_cons.1 h with rfl | h
    · omega
    · have := h2 xs h; omega
theorem joinL_bd (xss : List (List Int)) : xss.length ≤ (joinL xss).length ∧ ∀ xs ∈ xss, xs.length ≤ (joinL xss).length := by
  obtain ⟨h1, h2⟩ := texts_bd xss
  unfold joinL
  rw [List.length_append]
  exact ⟨by omega, fun xs h => by have := h2 xs h; omega⟩
theorem splitL_joinB (xss : List (List Int)) (h : (joinL xss).length ≤ 1073741824) : splitL (joinL xss) = (xss, 0) := by
  obtain ⟨h1, h2⟩ := joinL_bd xss
  exact splitL_join xss (by omega) (fun xs hx => by have := h2 xs hx; omega)
theorem trP_drop : ∀ {l : List Tr} {k : Nat} {t : Tr}, l[k]? = some t → (trP l).drop (3 * k) = [flagB t.f] :: t.a :: t.b :: (trP l).drop (3 * (k + 1))
  | [], k, t, h => by simp at h
  | u :: l, 0, t, h => by
    have : u = t := by simpa using h
    subst this
    rfl
  | u :: l, k + 1, t, h => by
    have h' : l[k]? = some t := by simpa using h
    have ih := trP_drop h'
    have e : trP (u :: l) = [flagB u.f] :: u.a :: u.b :: trP l := rfl
    rw [e, show 3 * (k + 1) = 3 * k + 1 + 1 + 1 by omega, show 3 * (k + 1 + 1) = 3 * (k + 1) + 1 + 1 + 1 by omega]
    simp only [List.drop_succ_cons]
    exact ih
theorem PrR.three {w : World} {b : Nat} {A : Option Addr} {n c : Nat} {xss : List (List Int)} {f : Bool} {x1 x2 : List Int} {r : List (List Int)} (h : PrR w b A n c xss) (hx : xss = [flagB f] :: x1 :: x2 :: r) :
    ∃ b2 off A0 c0 A1 c1 A2 c2, A = some ⟨b2, off, none⟩ ∧ b2 < w.heap.size ∧ (∃ cs fr, w.heap[b2]? = some (.cells cs 28 fr)) ∧ w.cell? ⟨b2, off, none⟩ = some (.slice A0 1 c0) ∧ w.cell? ⟨b2, off + 1, none⟩ = some (.slice A1 x1.length c1) ∧ w.cell? ⟨b2, off + 2, none⟩ = some (.slice A2 x2.length c2) ∧
      Own w b 5 A0 1 c0 (By [flagB f]) ∧ Own w b 5 A1 x1.length c1 (By x1) ∧ Ran x1 ∧ Own w b 5 A2 x2.length c2 (By x2) ∧ Ran x2 ∧ (blk A1 = none ∨ blk A1 ≠ blk A2) := by
  subst hx
  have hl := h.1
  simp only [List.length_cons] at hl
  obtain ⟨b0, o0, A0, n0, c0, y0, hA0, hlt, HX0, HL0, hc0, ho0, hr0⟩ := h.at_ (k := 0) (by omega)
  obtain ⟨b1, o1, A1, n1, c1, y1, hA1, _, HX1, HL1, hc1, ho1, hr1⟩ := h.at_ (k := 1) (by omega)
  obtain ⟨b2, o2, A2, n2, c2, y2, hA2, _, HX2, HL2, hc2, ho2, hr2⟩ := h.at_ (k := 2) (by omega)
  have e0 : y0 = [flagB f] := by have := HX0.out; simpa using this.symm
  have e1 : y1 = x1 := by have := HX1.out; simpa using this.symm
  have e2 : y2 = x2 := by have := HX2.out; simpa using this.symm
  have l0 := HL0.out; have l1 := HL1.out; have l2 := HL2.out
  subst e0 e1 e2 l0 l1 l2
  rw [hA0] at hA1 hA2
  injection hA1 with hA1; injection hA1 with hA1 ho1'
  injection hA2 with hA2; injection hA2 with hA2 ho2'
  subst hA1 hA2 ho1' ho2'
  exact ⟨b0, o0, A0, c0, A1, c1, A2, c2, hA0, hlt, h.2.2.1 b0 (by rw [hA0]; rfl), hc0, hc1, hc2, ho0, ho1, hr1, ho2, hr2, h.dist (k := 1) (l := 2) (by omega) (by omega) (by omega) hA0 hc1 hc2⟩
def slLen : Value → Nat | .slice _ n _ => n | _ => 0
theorem flagS_flag (f : Bool) : flagS [flagB f] 0 = (f, [], 0) := by cases f <;> rfl
theorem sv_cell {ex : List TypeId} {g base b2 off : Nat} {w w' : World} {v : Value} (hE : Ef ex g base w w') (hb : ∃ cs fr, w.heap[b2]? = some (.cells cs 28 fr)) (h28 : 28 ∉ ex) (h : w.cell? ⟨b2, off, none⟩ = some v) : w'.cell? ⟨b2, off, none⟩ = some v := by
  obtain ⟨cs, fr, hh⟩ := hb
  rw [World.cell?_of_block (a := ⟨b2, off, none⟩) ((hE.ty _ _ _ _ hh h28).trans hh.symm)]
  exact h
set_option maxRecDepth 100000 in
set_option maxHeartbeats 4000000 in
theorem threes_w (g bx : Nat) (k b s q : Int) (AR : Option Addr) (nR cR : Nat) (f : Bool) (AS : Option Addr) (nS cS : Nat) (AP : Option Addr) (nP cP : Nat) (i : Int) (S : ByteArray) (l : List Tr) (A : Option Addr) (n c : Nat) (w : World)
    (hx : Bs w A n (trs l)) (hnc : n ≤ c) (hk : ∀ k, blk A = some k → k < w.heap.size) (hn : n ≤ 20000000)
    (hbx : w.heap[bx]? = some (.cells #[.pointer (some ⟨g, 0, none⟩)] 154 (0, 0))) (hg : w.heap[g]? = some (.cells (rcV k b s q none 0 0 AR nR cR f AS nS cS AP nP cP i S) 32 (0, 0))) :
    Calls Try.prog 111 #[.slice A n c, .func (.func 112) #[] #[.pointer (some ⟨bx, 0, none⟩)]] w fun e w' => ∃ A' n' c', e = .returned (.int .i64 0) ∧ n' = l.length ∧
      w'.heap[g]? = some (.cells (rcV k b s q A' n' c' AR nR cR f AS nS cS AP nP cP i S) 32 (0, 0)) ∧ TrO w' w.heap.size 61 A' n' c' l ∧ Onl g w w' := by
  have hlen : (joinL (trP l)).length = n := hx.len
  have HSP := Lib.hid (splitL_joinB (trP l) (by omega))
  have HN := Lib.hid (trP_length l)
  have hNb : (trP l).length ≤ 20000000 := by have := (joinL_bd (trP l)).1; omega
  have HG := Lib.hid hg; have HB := Lib.hid hbx
  clear hg hbx hlen
  go_enter Try.func111, Try.ntmps111
  go_wp2_with fail
  refine (split_any A n c (trs l) w hx hnc hk (by omega)).mono ?_
  rintro e w1 ⟨A1, n1, c1, rfl, hn1, hp1, hb1⟩
  have HSP' : Hid (splitL (trs l) = (trP l, 0)) := HSP
  rw [HSP'.out] at hn1 hp1
  change n1 = (trP l).length at hn1
  change Prts w1 w.heap.size A1 n1 c1 (trP l) at hp1
  rw [HSP'.out]
  have hp : PrR w1 w.heap.size A1 n1 c1 (trP l) := hp1.prR
  have HG1 := Lib.hid ((hb1.block g (lt_of_heap HG.out)).trans HG.out)
  have HB1 := Lib.hid ((hb1.block bx (lt_of_heap HB.out)).trans HB.out)
  have HE1 : Hid (Ef [32, 61] g w.heap.size w w1) := Ef.of_below hb1 (Nat.le_refl _)
  have hrem : (n1 : Int) % 3 = 0 := by rw [hn1]; have := HN.out; omega
  have hrem2 : Int.tmod (n1 : Int) 3 = 0 := by rw [Int.tmod_eq_emod_of_nonneg (by omega)]; exact hrem
  have hrem3 : ((n1 : Int).tmod 3 != 0) = false := by rw [hrem2]; rfl
  have HN1 : Hid (n1 = 3 * l.length) := by show n1 = 3 * l.length; have := HN.out; rw [hn1]; exact this
  have hbd : n1 ≤ 20000000 := by rw [hn1]; exact hNb
  clear hx hk hn1 hp1 hb1 HSP HSP' hNb HG HB hrem
  go_wp2
  go_loopw [5] (fun pv wr => ∃ (kk m r c2 d : Nat) (A2 A' : Option Addr), pv = .slice A2 r c2 ∧ Hid (r + 3 * kk = n1) ∧ Hid (m = kk) ∧ kk ≤ l.length ∧ r ≤ n1 ∧ PrR wr w.heap.size A2 r c2 ((trP l).drop (3 * kk)) ∧ Hid (wr.heap[g]? = some (.cells (rcV k b s q A' m d AR nR cR f AS nS cS AP nP cP i S) 32 (0, 0))) ∧ Hid (wr.heap[bx]? = some (.cells #[.pointer (some ⟨g, 0, none⟩)] 154 (0, 0))) ∧ TrO wr w.heap.size 61 A' m d (l.take kk) ∧ Hid (Ef [32, 61] g w.heap.size w wr)) (fun pv _ => slLen pv)
  case atStart => exact ⟨0, 0, n1, c1, 0, A1, none, rfl, Lib.hid (by omega), Lib.hid rfl, Nat.zero_le _, Nat.le_refl _, hp, HG1, HB1, TrO.nil_, HE1⟩
  case round =>
    clear hp HG1 HB1 HE1
    obtain ⟨kk, m, r, c2, d, A2, A', rfl, HR, HM, hkk, hrn, hp, HG, HB, hO, HE⟩ := hrel
    by_cases hlt : kk < l.length
    · obtain ⟨t, HX⟩ : ∃ t, Hid (l[kk]? = some t) := ⟨_, List.getElem?_eq_getElem hlt⟩
      have HD := Lib.hid (trP_drop HX.out)
      have hr3 : 3 ≤ r := by have h1 := HR.out; have h2 := HN1.out; omega
      have hr0 : (0 : Int) < (r : Int) := by omega
      have hr0' : decide ((0 : Int) < (r : Int)) = true := by simpa using hr0
      have hi1 : (1 : Int) < (r : Int) := by omega
      have hi2 : (2 : Int) < (r : Int) := by omega
      have HS := Lib.hid HE.out.size
      obtain ⟨b2, off, A0, c0, B1, d1, B2, d2, rfl, hb2, HRow, hc0, hc1, hc2, ho0, ho1, hrn1, ho2, hrn2, hds⟩ := hp.three HD.out
      have HDS := Lib.hid hds; clear hds
      have HRW := Lib.hid HRow; clear HRow
      have hsl := slice62_3 (some ⟨b2, off, none⟩) r c2 hr3
      have HPC := Lib.hid (hp.cut (lo := 3) hr3)
      clear hp hlt
      go_wp2_with fail
      refine (read_any A0 1 c0 [flagB t.f] _ (ho0.bs (flagB_ran _)) (by omega)).mono ?_
      rintro e w2 ⟨gr, rfl, hrd2, hgr, hb2'⟩
      have HRD := Lib.hid hrd2
      clear hrd2
      go_wp2_with fail
      refine (rflag_any _ gr _ 0 HRD.out).mono ?_
      rw [flagS_flag]
      rintro e w3 ⟨rfl, hrd3, ho3⟩
      have hb3 : Below wr.heap.size wr w3 := hb2'.trans ((ho3.below (Nat.le_of_lt HRD.out.lt)).mono hgr)
      have HRD3 := Lib.hid hrd3
      clear hrd3 ho3 hb2' HRD ho0 hc0
      go_wp2_with fail
      refine (rclose_any _ gr _ _ HRD3.out).mono ?_
      rintro e w4 ⟨rfl, rfl⟩
      have hb3d : Below wr.heap.size wr w3.drew := below_n hb3 1
      have HCV := Lib.hid (show closeV [] 0 = 0 from rfl)
      rw [HCV.out]
      have e1 : w3.drew.cell? ⟨b2, off + 1, none⟩ = some (.slice B1 t.a.length d1) := (hb3.cell (p := ⟨b2, off + 1, none⟩) hb2).trans hc1
      have e2 : w3.drew.cell? ⟨b2, off + 2, none⟩ = some (.slice B2 t.b.length d2) := (hb3.cell (p := ⟨b2, off + 2, none⟩) hb2).trans hc2
      have HRW3 : Hid (∃ cs fr, w3.drew.heap[b2]? = some (.cells cs 28 fr)) := by
        obtain ⟨cs, fr, hh⟩ := HRW.out
        exact ⟨cs, fr, (hb3.block b2 hb2).trans hh⟩
      have HG3 : Hid (w3.drew.heap[g]? = some (.cells (rcV k b s q A' m d AR nR cR f AS nS cS AP nP cP i S) 32 (0, 0))) := (hb3.block g (lt_of_heap HG.out)).trans HG.out
      have HB3 : Hid (w3.drew.heap[bx]? = some (.cells #[.pointer (some ⟨g, 0, none⟩)] 154 (0, 0))) := (hb3.block bx (lt_of_heap HB.out)).trans HB.out
      have HO3 : Hid (TrO w3.drew w.heap.size 61 A' m d (l.take kk)) := hO.keep hb3d
      have hp1 : Own w3.drew w.heap.size 5 B1 t.a.length d1 (By t.a) := ho1.below hb3d (fun k hk => (ho1.lies k hk).2)
      have hp2 : Own w3.drew w.heap.size 5 B2 t.b.length d2 (By t.b) := ho2.below hb3d (fun k hk => (ho2.lies k hk).2)
      have HPC3 : Hid (PrR w3.drew w.heap.size (cutA (some ⟨b2, off, none⟩) c2 3) (r - 3) (c2 - 3) (((trP l).drop (3 * kk)).drop 3)) := HPC.out.keep hb3d
      have HE3 : Hid (Ef [32, 61] g w.heap.size w w3.drew) := HE.out.trans (Ef.of_below hb3d HS.out)
      have hs3 : w.heap.size ≤ w3.drew.heap.size := Nat.le_trans HS.out hb3.size
      have hmb : m ≤ 20000000 := by rw [HM.out]; have h1 := HR.out; omega
      clear hc1 hc2 ho1 ho2 hO hb3 hb3d HRD3 HG HB HPC HE HRW hb2
      go_wp2_with fail
      go_region_held3 (fun w' => w'.cell? ⟨b2, off + 1, none⟩ = some (.slice B1 t.a.length d1) ∧ w'.cell? ⟨b2, off + 2, none⟩ = some (.slice B2 t.b.length d2)) (first | exact ⟨e1, e2⟩ | exact ⟨f1, f2⟩) (first | (go_at_call 112; refine (cl_w g bx w.heap.size k b s q A' m d AR nR cR f AS nS cS AP nP cP i S (l.take kk) t B1 d1 B2 d2 _ HB3.out HG3.out HO3.out hp1 hrn1 hp2 hrn2 HDS.out hmb hs3).mono ?_; rintro e w5 ⟨A5, c5, rfl, hg5, ho5, hE5⟩; have f1 := sv_cell hE5 HRW3.out (by decide) e1; have f2 := sv_cell hE5 HRW3.out (by decide) e2; have HG5 := Lib.hid hg5; have HO5 := Lib.hid ho5; have HB5 := Lib.hid (hE5.ty _ _ _ _ HB3.out (by decide)); have HE5 := Lib.hid (HE3.out.trans hE5); have HP5 := Lib.hid (HPC3.out.ef hE5 (by decide) (by decide)); clear hg5 ho5 hE5))
      have HTK : Hid (l.take kk ++ [t] = l.take (kk + 1)) := by show l.take kk ++ [t] = l.take (kk + 1); rw [List.take_add_one, HX.out]; rfl
      rw [HTK.out] at HO5
      have HDD : Hid (((trP l).drop (3 * kk)).drop 3 = (trP l).drop (3 * (kk + 1))) := by show ((trP l).drop (3 * kk)).drop 3 = _; rw [List.drop_drop]; rfl
      rw [HDD.out] at HP5
      clear e1 e2 f1 f2 hp1 hp2
      go_wp2
      go_roundw
      case rel => exact ⟨kk + 1, m + 1, r - 3, c2 - 3, c5, _, A5, rfl, Lib.hid (by have h1 := HR.out; omega), Lib.hid (by rw [HM.out]), by have h1 := HR.out; have h2 := HN1.out; omega, by omega, HP5.out, HG5, HB5, HO5.out, HE5⟩
      case measure => simp only [slLen]; omega
    · have hke : kk = l.length := by omega
      subst hke
      have hr0 : r = 0 := by have h1 := HR.out; have h2 := HN1.out; omega
      subst hr0
      have HML := Lib.hid HM.out
      rw [List.take_of_length_le (Nat.le_refl _)] at hO
      go_wp2
      go_ret
      exact ⟨A', m, d, rfl, HML.out, HG.out, hO, HE.out.onl⟩
set_option maxRecDepth 100000 in
set_option maxHeartbeats 4000000 in
theorem threes_r (g bx : Nat) (k b s q : Int) (AW : Option Addr) (nW cW : Nat) (f : Bool) (AS : Option Addr) (nS cS : Nat) (AP : Option Addr) (nP cP : Nat) (i : Int) (S : ByteArray) (l : List Tr) (A : Option Addr) (n c : Nat) (w : World)
    (hx : Bs w A n (trs l)) (hnc : n ≤ c) (hk : ∀ k, blk A = some k → k < w.heap.size) (hn : n ≤ 20000000)
    (hbx : w.heap[bx]? = some (.cells #[.pointer (some ⟨g, 0, none⟩)] 154 (0, 0))) (hg : w.heap[g]? = some (.cells (rcV k b s q AW nW cW none 0 0 f AS nS cS AP nP cP i S) 32 (0, 0))) :
    Calls Try.prog 111 #[.slice A n c, .func (.func 113) #[] #[.pointer (some ⟨bx, 0, none⟩)]] w fun e w' => ∃ A' n' c', e = .returned (.int .i64 0) ∧ n' = l.length ∧
      w'.heap[g]? = some (.cells (rcV k b s q AW nW cW A' n' c' f AS nS cS AP nP cP i S) 32 (0, 0)) ∧ TrO w' w.heap.size 99 A' n' c' l ∧ Onl g w w' := by
  have hlen : (joinL (trP l)).length = n := hx.len
  have HSP := Lib.hid (splitL_joinB (trP l) (by omega))
  have HN := Lib.hid (trP_length l)
  have hNb : (trP l).length ≤ 20000000 := by have := (joinL_bd (trP l)).1; omega
  have HG := Lib.hid hg; have HB := Lib.hid hbx
  clear hg hbx hlen
  go_enter Try.func111, Try.ntmps111
  go_wp2_with fail
  refine (split_any A n c (trs l) w hx hnc hk (by omega)).mono ?_
  rintro e w1 ⟨A1, n1, c1, rfl, hn1, hp1, hb1⟩
  have HSP' : Hid (splitL (trs l) = (trP l, 0)) := HSP
  rw [HSP'.out] at hn1 hp1
  change n1 = (trP l).length at hn1
  change Prts w1 w.heap.size A1 n1 c1 (trP l) at hp1
  rw [HSP'.out]
  have hp : PrR w1 w.heap.size A1 n1 c1 (trP l) := hp1.prR
  have HG1 := Lib.hid ((hb1.block g (lt_of_heap HG.out)).trans HG.out)
  have HB1 := Lib.hid ((hb1.block bx (lt_of_heap HB.out)).trans HB.out)
  have HE1 : Hid (Ef [32, 99] g w.heap.size w w1) := Ef.of_below hb1 (Nat.le_refl _)
  have hrem : (n1 : Int) % 3 = 0 := by rw [hn1]; have := HN.out; omega
  have hrem2 : Int.tmod (n1 : Int) 3 = 0 := by rw [Int.tmod_eq_emod_of_nonneg (by omega)]; exact hrem
  have hrem3 : ((n1 : Int).tmod 3 != 0) = false := by rw [hrem2]; rfl
  have HN1 : Hid (n1 = 3 * l.length) := by show n1 = 3 * l.length; have := HN.out; rw [hn1]; exact this
  have hbd : n1 ≤ 20000000 := by rw [hn1]; exact hNb
  clear hx hk hn1 hp1 hb1 HSP HSP' hNb HG HB hrem
  go_wp2
  go_loopw [5] (fun pv wr => ∃ (kk m r c2 d : Nat) (A2 A' : Option Addr), pv = .slice A2 r c2 ∧ Hid (r + 3 * kk = n1) ∧ Hid (m = kk) ∧ kk ≤ l.length ∧ r ≤ n1 ∧ PrR wr w.heap.size A2 r c2 ((trP l).drop (3 * kk)) ∧ Hid (wr.heap[g]? = some (.cells (rcV k b s q AW nW cW A' m d f AS nS cS AP nP cP i S) 32 (0, 0))) ∧ Hid (wr.heap[bx]? = some (.cells #[.pointer (some ⟨g, 0, none⟩)] 154 (0, 0))) ∧ TrO wr w.heap.size 99 A' m d (l.take kk) ∧ Hid (Ef [32, 99] g w.heap.size w wr)) (fun pv _ => slLen pv)
  case atStart => exact ⟨0, 0, n1, c1, 0, A1, none, rfl, Lib.hid (by omega), Lib.hid rfl, Nat.zero_le _, Nat.le_refl _, hp, HG1, HB1, TrO.nil_, HE1⟩
  case round =>
    clear hp HG1 HB1 HE1
    obtain ⟨kk, m, r, c2, d, A2, A', rfl, HR, HM, hkk, hrn, hp, HG, HB, hO, HE⟩ := hrel
    by_cases hlt : kk < l.length
    · obtain ⟨t, HX⟩ : ∃ t, Hid (l[kk]? = some t) := ⟨_, List.getElem?_eq_getElem hlt⟩
      have HD := Lib.hid (trP_drop HX.out)
      have hr3 : 3 ≤ r := by have h1 := HR.out; have h2 := HN1.out; omega
      have hr0 : (0 : Int) < (r : Int) := by omega
      have hr0' : decide ((0 : Int) < (r : Int)) = true := by simpa using hr0
      have hi1 : (1 : Int) < (r : Int) := by omega
      have hi2 : (2 : Int) < (r : Int) := by omega
      have HS := Lib.hid HE.out.size
      obtain ⟨b2, off, A0, c0, B1, d1, B2, d2, rfl, hb2, HRow, hc0, hc1, hc2, ho0, ho1, hrn1, ho2, hrn2, hds⟩ := hp.three HD.out
      have HDS := Lib.hid hds; clear hds
      have HRW := Lib.hid HRow; clear HRow
      have hsl := slice62_3 (some ⟨b2, off, none⟩) r c2 hr3
      have HPC := Lib.hid (hp.cut (lo := 3) hr3)
      clear hp hlt
      go_wp2_with fail
      refine (read_any A0 1 c0 [flagB t.f] _ (ho0.bs (flagB_ran _)) (by omega)).mono ?_
      rintro e w2 ⟨gr, rfl, hrd2, hgr, hb2'⟩
      have HRD := Lib.hid hrd2
      clear hrd2
      go_wp2_with fail
      refine (rflag_any _ gr _ 0 HRD.out).mono ?_
      rw [flagS_flag]
      rintro e w3 ⟨rfl, hrd3, ho3⟩
      have hb3 : Below wr.heap.size wr w3 := hb2'.trans ((ho3.below (Nat.le_of_lt HRD.out.lt)).mono hgr)
      have HRD3 := Lib.hid hrd3
      clear hrd3 ho3 hb2' HRD ho0 hc0
      go_wp2_with fail
      refine (rclose_any _ gr _ _ HRD3.out).mono ?_
      rintro e w4 ⟨rfl, rfl⟩
      have hb3d : Below wr.heap.size wr w3.drew := below_n hb3 1
      have HCV := Lib.hid (show closeV [] 0 = 0 from rfl)
      rw [HCV.out]
      have e1 : w3.drew.cell? ⟨b2, off + 1, none⟩ = some (.slice B1 t.a.length d1) := (hb3.cell (p := ⟨b2, off + 1, none⟩) hb2).trans hc1
      have e2 : w3.drew.cell? ⟨b2, off + 2, none⟩ = some (.slice B2 t.b.length d2) := (hb3.cell (p := ⟨b2, off + 2, none⟩) hb2).trans hc2
      have HRW3 : Hid (∃ cs fr, w3.drew.heap[b2]? = some (.cells cs 28 fr)) := by
        obtain ⟨cs, fr, hh⟩ := HRW.out
        exact ⟨cs, fr, (hb3.block b2 hb2).trans hh⟩
      have HG3 : Hid (w3.drew.heap[g]? = some (.cells (rcV k b s q AW nW cW A' m d f AS nS cS AP nP cP i S) 32 (0, 0))) := (hb3.block g (lt_of_heap HG.out)).trans HG.out
      have HB3 : Hid (w3.drew.heap[bx]? = some (.cells #[.pointer (some ⟨g, 0, none⟩)] 154 (0, 0))) := (hb3.block bx (lt_of_heap HB.out)).trans HB.out
      have HO3 : Hid (TrO w3.drew w.heap.size 99 A' m d (l.take kk)) := hO.keep hb3d
      have hp1 : Own w3.drew w.heap.size 5 B1 t.a.length d1 (By t.a) := ho1.below hb3d (fun k hk => (ho1.lies k hk).2)
      have hp2 : Own w3.drew w.heap.size 5 B2 t.b.length d2 (By t.b) := ho2.below hb3d (fun k hk => (ho2.lies k hk).2)
      have HPC3 : Hid (PrR w3.drew w.heap.size (cutA (some ⟨b2, off, none⟩) c2 3) (r - 3) (c2 - 3) (((trP l).drop (3 * kk)).drop 3)) := HPC.out.keep hb3d
      have HE3 : Hid (Ef [32, 99] g w.heap.size w w3.drew) := HE.out.trans (Ef.of_below hb3d HS.out)
      have hs3 : w.heap.size ≤ w3.drew.heap.size := Nat.le_trans HS.out hb3.size
      have hmb : m ≤ 20000000 := by rw [HM.out]; have h1 := HR.out; omega
      clear hc1 hc2 ho1 ho2 hO hb3 hb3d HRD3 HG HB HPC HE HRW hb2
      go_wp2_with fail
      go_region_held3 (fun w' => w'.cell? ⟨b2, off + 1, none⟩ = some (.slice B1 t.a.length d1) ∧ w'.cell? ⟨b2, off + 2, none⟩ = some (.slice B2 t.b.length d2)) (first | exact ⟨e1, e2⟩ | exact ⟨f1, f2⟩) (first | (go_at_call 113; refine (cl_r g bx w.heap.size k b s q AW nW cW A' m d f AS nS cS AP nP cP i S (l.take kk) t B1 d1 B2 d2 _ HB3.out HG3.out HO3.out hp1 hrn1 hp2 hrn2 HDS.out hmb hs3).mono ?_; rintro e w5 ⟨A5, c5, rfl, hg5, ho5, hE5⟩; have f1 := sv_cell hE5 HRW3.out (by decide) e1; have f2 := sv_cell hE5 HRW3.out (by decide) e2; have HG5 := Lib.hid hg5; have HO5 := Lib.hid ho5; have HB5 := Lib.hid (hE5.ty _ _ _ _ HB3.out (by decide)); have HE5 := Lib.hid (HE3.out.trans hE5); have HP5 := Lib.hid (HPC3.out.ef hE5 (by decide) (by decide)); clear hg5 ho5 hE5))
      have HTK : Hid (l.take kk ++ [t] = l.take (kk + 1)) := by show l.take kk ++ [t] = l.take (kk + 1); rw [List.take_add_one, HX.out]; rfl
      rw [HTK.out] at HO5
      have HDD : Hid (((trP l).drop (3 * kk)).drop 3 = (trP l).drop (3 * (kk + 1))) := by show ((trP l).drop (3 * kk)).drop 3 = _; rw [List.drop_drop]; rfl
      rw [HDD.out] at HP5
      clear e1 e2 f1 f2 hp1 hp2
      go_wp2
      go_roundw
      case rel => exact ⟨kk + 1, m + 1, r - 3, c2 - 3, c5, _, A5, rfl, Lib.hid (by have h1 := HR.out; omega), Lib.hid (by rw [HM.out]), by have h1 := HR.out; have h2 := HN1.out; omega, by omega, HP5.out, HG5, HB5, HO5.out, HE5⟩
      case measure => simp only [slLen]; omega
    · have hke : kk = l.length := by omega
      subst hke
      have hr0 : r = 0 := by have h1 := HR.out; have h2 := HN1.out; omega
      subst hr0
      have HML := Lib.hid HM.out
      rw [List.take_of_length_le (Nat.le_refl _)] at hO
      go_wp2
      go_ret
      exact ⟨A', m, d, rfl, HML.out, HG.out, hO, HE.out.onl⟩
end Go.Proofs.Ytmjjbfcblmmipaa
