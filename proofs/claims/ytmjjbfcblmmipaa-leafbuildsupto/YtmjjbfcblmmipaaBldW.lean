/- LeafBuilds' closure: a leaf, key by key. -/
import Derived.Test.YtmjjbfcblmmipaaWithW
import Derived.Test.YtmjjbfcblmmipaaRWithW
import Derived.Test.YtmjjbfcblmmipaaChk2W
namespace Go.Proofs.Ytmjjbfcblmmipaa
set_option linter.unusedVariables false
set_option linter.unusedSimpArgs false
open Go.RowKit
def wL (lf : Bool) (z : Int) (n : Nat) (l : List (List Int)) (x : List Int) : List (List Int) := if lf = true ∧ 0 ≤ z ∧ z ≤ (n : Int) then insL l z.toNat x else l
def dLs (lf : Bool) (z : Int) (n : Nat) (l : List (List Int)) : List (List Int) := if lf = true ∧ 0 ≤ z ∧ z < (n : Int) then delL l z.toNat else l
theorem ins_mem {l : List (List Int)} {i : Nat} {x y : List Int} (h : y ∈ insL l i x) : y ∈ l ∨ y = x := by
  unfold insL at h
  rcases List.mem_append.1 h with h | h
  · exact .inl (List.mem_of_mem_take h)
  · rcases List.mem_cons.1 h with h | h
    · exact .inr h
    · exact .inl (List.mem_of_mem_drop h)
theorem wL_mem {lf : Bool} {z : Int} {n : Nat} {l : List (List Int)} {x y : List Int} (h : y ∈ wL lf z n l x) : y ∈ l ∨ y = x := by
  unfold wL at h
  split at h
  · exact ins_mem h
  · exact .inl h
theorem dLs_mem {lf : Bool} {z : Int} {n : Nat} {l : List (List Int)} {y : List Int} (h : y ∈ dLs lf z n l) : y ∈ l := by
  unfold dLs at h
  split at h
  · unfold delL at h
    rcases List.mem_append.1 h with h | h
    · exact List.mem_of_mem_take h
    · exact List.mem_of_mem_drop h
  · exact h
theorem wL_le (lf : Bool) (z : Int) (n : Nat) (l : List (List Int)) (x : List Int) : (wL lf z n l x).length ≤ l.length + 1 := by
  unfold wL insL; split
  · simp; omega
  · omega
theorem dLs_le (lf : Bool) (z : Int) (n : Nat) (l : List (List Int)) : (dLs lf z n l).length ≤ l.length := by
  unfold dLs delL; split
  · simp; omega
  · omega
theorem with_uni (lf : Bool) (AK : Option Addr) (nK cK : Nat) (AV : Option Addr) (nV cV : Nat) (AD : Option Addr) (nD cD : Nat) (ks vs : List (List Int)) (ds : List Int) (z : Int) (AQ : Option Addr) (nq cq : Nat) (key : List Int) (AR : Option Addr) (nr cr : Nat) (val : List Int) (w : World) (hx : Bss w AK nK ks) (hy : Bss w AV nV vs) (hz : Ins w AD nD ds) (sD : Shp AD nD)
    (hq : Bs w AQ nq key) (hr : Bs w AR nr val) (hV : lf = true → nV = nK) (bK : nK ≤ 99999) (bV : nV ≤ 99999) (bD : nD ≤ 100000) (lK : ∀ xs ∈ ks, xs.length ≤ 140737488355328) (lV : ∀ xs ∈ vs, xs.length ≤ 140737488355328) (bq : key.length ≤ 140737488355328) (br : val.length ≤ 140737488355328) :
    Calls Try.prog 44 #[.agg (ndV lf AK nK cK AV nV cV AD nD cD), .int .i64 z, .slice AQ nq cq, .slice AR nr cr] w fun e w' => ∃ A1 c1 A2 c2 A3 c3, e = .returned (.agg (ndV lf A1 (wL lf z nK ks key).length c1 A2 (wL lf z nK vs val).length c2 A3 nD c3)) ∧ Bss w' A1 (wL lf z nK ks key).length (wL lf z nK ks key) ∧ Bss w' A2 (wL lf z nK vs val).length (wL lf z nK vs val) ∧ Ins w' A3 nD ds ∧ Below w.heap.size w w' := by
  have hlk := hx.len; have hlv := hy.len
  obtain rfl := hq.len; obtain rfl := hr.len
  by_cases h : lf = true ∧ 0 ≤ z ∧ z ≤ (nK : Int)
  · have e1 : wL lf z nK ks key = insL ks z.toNat key := if_pos h
    have e2 : wL lf z nK vs val = insL vs z.toNat val := if_pos h
    obtain ⟨rfl, h0, h1⟩ := h
    have hv := hV rfl
    have l1 : (insL ks z.toNat key).length = nK + 1 := by rw [insL_len _ _ _ (by omega), hlk]
    have l2 : (insL vs z.toNat val).length = nV + 1 := by rw [insL_len _ _ _ (by omega), hlv]
    rw [e1, e2, l1, l2]
    refine (withOk_any AK nK cK AV nV cV AD nD cD ks vs ds z.toNat z (by omega) AQ cq key AR cr val w hx hy hz sD hq hr (by omega) hv bK bV bD lK lV bq br).mono ?_
    rintro e w' ⟨A1, c1, A2, c2, A3, c3, rfl, p1, p2, p3, _, hb⟩
    exact ⟨A1, c1, A2, c2, A3, c3, rfl, p1.bss, p2.bss, Ins.own p3 hz.2, hb⟩
  · have e1 : wL lf z nK ks key = ks := if_neg h
    have e2 : wL lf z nK vs val = vs := if_neg h
    rw [e1, e2, hlk, hlv]
    refine (withNo_any lf AK nK cK AV nV cV AD nD cD ks vs ds z AQ _ cq AR _ cr (by cases lf with | false => exact .inl rfl | true => right; simp at h; omega) w hx hy hz sD bK bV bD lK lV).mono ?_
    rintro e w' ⟨A1, c1, A2, c2, A3, c3, rfl, p1, p2, p3, _, hb⟩
    exact ⟨A1, c1, A2, c2, A3, c3, rfl, p1.bss, p2.bss, Ins.own p3 hz.2, hb⟩
theorem without_uni (lf : Bool) (AK : Option Addr) (nK cK : Nat) (AV : Option Addr) (nV cV : Nat) (AD : Option Addr) (nD cD : Nat) (ks vs : List (List Int)) (ds : List Int) (z : Int) (w : World) (hx : Bss w AK nK ks) (hy : Bss w AV nV vs) (hz : Ins w AD nD ds) (sD : Shp AD nD)
    (hV : lf = true → nV = nK) (bK : nK ≤ 99999) (bV : nV ≤ 99999) (bD : nD ≤ 100000) (lK : ∀ xs ∈ ks, xs.length ≤ 140737488355328) (lV : ∀ xs ∈ vs, xs.length ≤ 140737488355328) :
    Calls Try.prog 46 #[.agg (ndV lf AK nK cK AV nV cV AD nD cD), .int .i64 z] w fun e w' => ∃ A1 c1 A2 c2 A3 c3, e = .returned (.agg (ndV lf A1 (dLs lf z nK ks).length c1 A2 (dLs lf z nK vs).length c2 A3 nD c3)) ∧ Bss w' A1 (dLs lf z nK ks).length (dLs lf z nK ks) ∧ Bss w' A2 (dLs lf z nK vs).length (dLs lf z nK vs) ∧ Ins w' A3 nD ds ∧ Below w.heap.size w w' := by
  have hlk := hx.len; have hlv := hy.len
  by_cases h : lf = true ∧ 0 ≤ z ∧ z < (nK : Int)
  · have e1 : dLs lf z nK ks = delL ks z.toNat := if_pos h
    have e2 : dLs lf z nK vs = delL vs z.toNat := if_pos h
    obtain ⟨rfl, h0, h1⟩ := h
    have hv := hV rfl
    have l1 : (delL ks z.toNat).length = nK - 1 := by rw [delL_len _ _ (by omega), hlk]
    have l2 : (delL vs z.toNat).length = nV - 1 := by rw [delL_len _ _ (by omega), hlv]
    rw [e1, e2, l1, l2]
    refine (withoutOk_any AK nK cK AV nV cV AD nD cD ks vs ds z.toNat z (by omega) w hx hy hz sD (by omega) hv bK bV bD lK lV).mono ?_
    rintro e w' ⟨A1, c1, A2, c2, A3, c3, rfl, p1, p2, p3, _, hb⟩
    exact ⟨A1, c1, A2, c2, A3, c3, rfl, p1.bss, p2.bss, Ins.own p3 hz.2, hb⟩
  · have e1 : dLs lf z nK ks = ks := if_neg h
    have e2 : dLs lf z nK vs = vs := if_neg h
    rw [e1, e2, hlk, hlv]
    refine (withoutNo_any lf AK nK cK AV nV cV AD nD cD ks vs ds z (by cases lf with | false => exact .inl rfl | true => right; simp at h; omega) w hx hy hz sD bK bV bD lK lV).mono ?_
    rintro e w' ⟨A1, c1, A2, c2, A3, c3, rfl, p1, p2, p3, _, hb⟩
    exact ⟨A1, c1, A2, c2, A3, c3, rfl, p1.bss, p2.bss, Ins.own p3 hz.2, hb⟩
theorem rwith_uni (lf : Bool) (AK : Option Addr) (nK cK : Nat) (AV : Option Addr) (nV cV : Nat) (AD : Option Addr) (nD cD : Nat) (ks vs : List (List Int)) (ds : List Int) (z : Int) (AQ : Option Addr) (nq cq : Nat) (key : List Int) (AR : Option Addr) (nr cr : Nat) (val : List Int) (w : World) (hx : Bss w AK nK ks) (hy : Bss w AV nV vs) (hz : Ins w AD nD ds)
    (hq : Bs w AQ nq key) (hr : Bs w AR nr val) (hqc : nq ≤ cq) (hrc : nr ≤ cr) (hV : lf = true → nV = nK) (hD : lf = true → nD = 0) (hKc : nK ≤ cK) (hVc : nV ≤ cV) (bK : nK ≤ 99999) :
    Calls Try.prog 45 #[.agg (ndV lf AK nK cK AV nV cV AD nD cD), .int .i64 z, .slice AQ nq cq, .slice AR nr cr] w fun e w' => ∃ A1 c1 A2 c2 A3 c3, e = .returned (.agg (ndV lf A1 (wL lf z nK ks key).length c1 A2 (wL lf z nK vs val).length c2 A3 nD c3)) ∧ Bss w' A1 (wL lf z nK ks key).length (wL lf z nK ks key) ∧ Bss w' A2 (wL lf z nK vs val).length (wL lf z nK vs val) ∧ Ins w' A3 nD ds ∧ Below w.heap.size w w' := by
  have hlk := hx.len; have hlv := hy.len; have hld := hz.len
  obtain rfl := hq.len; obtain rfl := hr.len
  by_cases h : lf = true ∧ 0 ≤ z ∧ z ≤ (nK : Int)
  · have e1 : wL lf z nK ks key = insL ks z.toNat key := if_pos h
    have e2 : wL lf z nK vs val = insL vs z.toNat val := if_pos h
    obtain ⟨rfl, h0, h1⟩ := h
    have hv := hV rfl
    have hd := hD rfl
    have l1 : (insL ks z.toNat key).length = nK + 1 := by rw [insL_len _ _ _ (by omega), hlk]
    have l2 : (insL vs z.toNat val).length = nV + 1 := by rw [insL_len _ _ _ (by omega), hlv]
    rw [e1, e2, l1, l2]
    refine (rwithOk_any AK nK cK AV nV cV AD nD cD ks vs z.toNat z (by omega) AQ cq key AR cr val w hx hy hq hr hqc hrc (by omega) hv hKc hVc bK).mono ?_
    rintro e w' ⟨A1, c1, A2, c2, rfl, p1, p2, hb⟩
    have hds : ds = [] := List.eq_nil_of_length_eq_zero (by omega)
    subst hds
    exact ⟨A1, c1, A2, c2, none, 0, by rw [hd], p1, p2, by rw [hd]; exact ⟨Rd.nil_, fun _ h => by cases h⟩, hb⟩
  · have e1 : wL lf z nK ks key = ks := if_neg h
    have e2 : wL lf z nK vs val = vs := if_neg h
    rw [e1, e2, hlk, hlv]
    refine (rwithNo_any lf AK nK cK AV nV cV AD nD cD z AQ _ cq AR _ cr (by cases lf with | false => exact .inl rfl | true => right; simp at h; omega) w bK).mono ?_
    rintro e w' ⟨rfl, hb⟩
    exact ⟨AK, cK, AV, cV, AD, cD, rfl, hx.keep hb, hy.keep hb, hz.keep hb, hb⟩
theorem rwithout_uni (lf : Bool) (AK : Option Addr) (nK cK : Nat) (AV : Option Addr) (nV cV : Nat) (AD : Option Addr) (nD cD : Nat) (ks vs : List (List Int)) (ds : List Int) (z : Int) (w : World) (hx : Bss w AK nK ks) (hy : Bss w AV nV vs) (hz : Ins w AD nD ds)
    (hV : lf = true → nV = nK) (hD : lf = true → nD = 0) (hKc : nK ≤ cK) (hVc : nV ≤ cV) (bK : nK ≤ 99999) :
    Calls Try.prog 47 #[.agg (ndV lf AK nK cK AV nV cV AD nD cD), .int .i64 z] w fun e w' => ∃ A1 c1 A2 c2 A3 c3, e = .returned (.agg (ndV lf A1 (dLs lf z nK ks).length c1 A2 (dLs lf z nK vs).length c2 A3 nD c3)) ∧ Bss w' A1 (dLs lf z nK ks).length (dLs lf z nK ks) ∧ Bss w' A2 (dLs lf z nK vs).length (dLs lf z nK vs) ∧ Ins w' A3 nD ds ∧ Below w.heap.size w w' := by
  have hlk := hx.len; have hlv := hy.len; have hld := hz.len
  by_cases h : lf = true ∧ 0 ≤ z ∧ z < (nK : Int)
  · have e1 : dLs lf z nK ks = delL ks z.toNat := if_pos h
    have e2 : dLs lf z nK vs = delL vs z.toNat := if_pos h
    obtain ⟨rfl, h0, h1⟩ := h
    have hv := hV rfl
    have hd := hD rfl
    have l1 : (delL ks z.toNat).length = nK - 1 := by rw [delL_len _ _ (by omega), hlk]
    have l2 : (delL vs z.toNat).length = nV - 1 := by rw [delL_len _ _ (by omega), hlv]
    rw [e1, e2, l1, l2]
    refine (rwithoutOk_any AK nK cK AV nV cV AD nD cD ks vs z.toNat z (by omega) w hx hy (by omega) hv hKc hVc bK).mono ?_
    rintro e w' ⟨A1, c1, A2, c2, rfl, p1, p2, hb⟩
    have hds : ds = [] := List.eq_nil_of_length_eq_zero (by omega)
    subst hds
    exact ⟨A1, c1, A2, c2, none, 0, by rw [hd], p1, p2, by rw [hd]; exact ⟨Rd.nil_, fun _ h => by cases h⟩, hb⟩
  · have e1 : dLs lf z nK ks = ks := if_neg h
    have e2 : dLs lf z nK vs = vs := if_neg h
    rw [e1, e2, hlk, hlv]
    refine (rwithoutNo_any lf AK nK cK AV nV cV AD nD cD z (by cases lf with | false => exact .inl rfl | true => right; simp at h; omega) w bK).mono ?_
    rintro e w' ⟨rfl, hb⟩
    exact ⟨AK, cK, AV, cV, AD, cD, rfl, hx.keep hb, hy.keep hb, hz.keep hb, hb⟩
end Go.Proofs.Ytmjjbfcblmmipaa
namespace Go.Proofs.Ytmjjbfcblmmipaa
set_option linter.unusedVariables false
set_option linter.unusedSimpArgs false
open Go.RowKit
/-- The first place whose key isn't below; is it the key? -/
def fdN (key : List Int) : List (List Int) → Nat
  | [] => 0
  | x :: r => if 0 ≤ cmpL x key then 0 else fdN key r + 1
def fdB (key : List Int) : List (List Int) → Bool
  | [] => false
  | x :: r => if 0 ≤ cmpL x key then decide (cmpL x key = 0) else fdB key r
theorem fd_hit {key x : List Int} {ks : List (List Int)} : ∀ {kk : Nat}, ks[kk]? = some x → fdN key (ks.take kk) = kk → 0 ≤ cmpL x key → fdN key ks = kk ∧ fdB key ks = decide (cmpL x key = 0) := by
  induction ks with
  | nil => intro kk h _ _; simp at h
  | cons y r ih =>
    intro kk h ht h0
    cases kk with
    | zero =>
      simp at h; subst h
      simp [fdN, fdB, h0]
    | succ kk =>
      rw [List.take_succ_cons] at ht
      simp only [List.getElem?_cons_succ] at h
      by_cases hy : 0 ≤ cmpL y key
      · simp [fdN, hy] at ht
      · simp only [fdN, if_neg hy] at ht
        obtain ⟨h1, h2⟩ := ih h (by omega) h0
        exact ⟨by simp only [fdN, if_neg hy]; omega, by simp only [fdB, if_neg hy]; exact h2⟩
theorem fd_step {key x : List Int} {ks : List (List Int)} : ∀ {kk : Nat}, ks[kk]? = some x → fdN key (ks.take kk) = kk → ¬ 0 ≤ cmpL x key → fdN key (ks.take (kk + 1)) = kk + 1 := by
  induction ks with
  | nil => intro kk h _ _; simp at h
  | cons y r ih =>
    intro kk h ht h0
    cases kk with
    | zero =>
      simp at h; subst h
      simp [fdN, h0]
    | succ kk =>
      rw [List.take_succ_cons] at ht ⊢
      simp only [List.getElem?_cons_succ] at h
      by_cases hy : 0 ≤ cmpL y key
      · simp [fdN, hy] at ht
      · simp only [fdN, if_neg hy] at ht ⊢
        rw [ih h (by omega) h0]
theorem fd_none {key : List Int} {ks : List (List Int)} (h : fdN key ks = ks.length) : fdB key ks = false := by
  induction ks with
  | nil => rfl
  | cons y r ih =>
    by_cases hy : 0 ≤ cmpL y key
    · simp [fdN, hy] at h
    · simp only [fdN, if_neg hy, List.length_cons] at h
      simp only [fdB, if_neg hy]; exact ih (by omega)
theorem fd_le (key : List Int) (ks : List (List Int)) : fdN key ks ≤ ks.length := by
  induction ks with
  | nil => simp [fdN]
  | cons y r ih => simp only [fdN]; split <;> simp <;> omega
abbrev fdF (g : Nat) : Value := .func (.func 90) #[] #[.pointer (some ⟨g, 0, none⟩)]
set_option maxHeartbeats 2000000 in
theorem geclo_any (A B : Option Addr) (n m c d g : Nat) (xs key : List Int) (v : Bool) (hv : decide (0 ≤ cmpL xs key) = v) (w : World) (hx : Bs w A n xs) (hy : Bs w B m key) (hn : n ≤ maxLen) (hm : m ≤ maxLen) (hg : w.heap[g]? = some (.cells #[.slice B m d] 28 (0, 0))) :
    Calls Try.prog 90 #[.slice A n c, .pointer (some ⟨g, 0, none⟩)] w fun e w' => e = .returned (.bool v) ∧ Dr w w' := by
  have q := rc_cell 0 (.slice B m d) hg rfl
  have HV := Lib.hid hv
  clear hv hg
  go_enter Try.func90, Try.ntmps90
  go_wp2_with fail
  refine (compare_is A B n m c d xs key _ rfl w hx hy hn hm).mono ?_
  rintro e w2 ⟨rfl, hd⟩
  have HD := Lib.hid hd
  clear hd hx hy q
  generalize cmpL xs key = r at *
  go_wp2
  go_ret
  exact ⟨ret_bool (by first | exact HV.out | (rw [← HV.out]; rfl) | (rw [← HV.out]; simp)), HD.out⟩
set_option maxHeartbeats 4000000 in
theorem idxge_any (A B : Option Addr) (n c m d g : Nat) (ks : List (List Int)) (key : List Int) (w : World) (hx : Bss w A n ks) (hy : Bs w B m key) (hn : n ≤ 100000000) (hm : m ≤ maxLen) (hs : ∀ xs ∈ ks, xs.length ≤ maxLen) (hg : w.heap[g]? = some (.cells #[.slice B m d] 28 (0, 0))) :
    Calls Try.prog 89 #[.slice A n c, fdF g] w fun e w' => (fdN key ks < n ∧ e = .returned (.int .i64 ((fdN key ks : Nat) : Int)) ∨ fdN key ks = n ∧ e = .returned (.int .i64 (-1))) ∧ Dr w w' := by
  have HX := Lib.hid hx; have HY := Lib.hid hy; have HL := Lib.hid hx.len; have HS := Lib.hid hs; have HG := Lib.hid hg
  clear hx hy hs hg
  go_enter Try.func89, Try.ntmps89
  go_wp2_with fail
  go_loopw [8] (fun iv wr => ∃ kk q : Nat, iv = .int .i64 (kk : Int) ∧ wr = w.drewN q ∧ kk ≤ n ∧ Hid (fdN key (ks.take kk) = kk)) (fun iv _ => n - (intOf iv).toNat)
  case atStart => exact ⟨0, 0, rfl, rfl, Nat.zero_le _, Lib.hid rfl⟩
  case round =>
    obtain ⟨kk, qd, rfl, rfl, hk, HA⟩ := hrel
    by_cases hlt : kk < n
    · obtain ⟨b, off, A1, n1, c1, xs, rfl, hbl, hcl, hxs, hnc, HXK⟩ := HX.out.at_ hlt
      have hn1 : n1 ≤ maxLen := by rw [← hxs.len]; exact HS.out _ (List.mem_of_getElem? HXK.out)
      have HXS := Lib.hid hxs
      have q1 : (w.drewN qd).cell? ⟨b, off + kk, none⟩ = some (.slice A1 n1 c1) := hcl
      have z0 : (0 : Int) ≤ (kk : Int) := by omega
      have z1 : (kk : Int) < (n : Int) := by omega
      clear hcl hxs hnc
      go_wp2_with fail
      refine (geclo_any A1 B n1 m c1 d g xs key _ rfl (w.drewN qd) (HXS.out.n qd) (HY.out.n qd) hn1 hm HG.out).mono ?_
      rintro e w2 ⟨rfl, q2, rfl⟩
      clear q1
      rw [World.drewN_drewN]
      by_cases hge : 0 ≤ cmpL xs key
      · have hd : decide (0 ≤ cmpL xs key) = true := by simpa using hge
        have HR := Lib.hid (fd_hit HXK.out HA.out hge).1
        rw [hd]
        clear hge hd
        go_wp2
        go_ret
        exact ⟨.inl ⟨by rw [HR.out]; exact hlt, by rw [HR.out]; rfl⟩, _, rfl⟩
      · have hd : decide (0 ≤ cmpL xs key) = false := by simpa using hge
        have HR := Lib.hid (fd_step HXK.out HA.out hge)
        rw [hd]
        clear hge hd
        go_wp2
        go_roundw
        case rel => exact ⟨kk + 1, qd + q2, by go_num, rfl, by omega, HR⟩
        case measure => simp [intOf]; omega
    · obtain rfl : n = kk := by omega
      have HR : Hid (fdN key ks = n) := Lib.hid (by have := HA.out; rw [List.take_of_length_le (by rw [HL.out]; exact Nat.le_refl _)] at this; exact this)
      go_wp2
      go_ret
      exact ⟨.inr ⟨HR.out, rfl⟩, _, rfl⟩
set_option maxRecDepth 100000 in
set_option maxHeartbeats 4000000 in
theorem find_any (lf : Bool) (AK : Option Addr) (nK cK : Nat) (AV : Option Addr) (nV cV : Nat) (AD : Option Addr) (nD cD : Nat) (ks : List (List Int)) (B : Option Addr) (m d : Nat) (key : List Int) (w : World) (hx : Bss w AK nK ks) (hy : Bs w B m key) (bK : nK ≤ 1048576) (hm : m ≤ 1048576) (hs : ∀ xs ∈ ks, xs.length ≤ 1048576) :
    Calls Try.prog 42 #[.agg (ndV lf AK nK cK AV nV cV AD nD cD), .slice B m d] w fun e w' => e = .returned (.tuple #[.int .i64 ((fdN key ks : Nat) : Int), .bool (fdB key ks)]) ∧ Below w.heap.size w w' := by
  have hb1 := below_alloc w (.cells (ndV lf AK nK cK AV nV cV AD nD cD) 70)
  have hb2 := below_alloc (w.alloc (.cells (ndV lf AK nK cK AV nV cV AD nD cD) 70)) (.cells #[.slice B m d] 28)
  have hsz : (w.alloc (.cells (ndV lf AK nK cK AV nV cV AD nD cD) 70)).heap.size = w.heap.size + 1 := by simp
  have n2 := heap_alloc_new (w.alloc (.cells (ndV lf AK nK cK AV nV cV AD nD cD) 70)) (.cells #[.slice B m d] 28)
  rw [hsz] at n2
  have BX := Lib.hid ((hb2.block w.heap.size (by omega)).trans (heap_alloc_new w (.cells (ndV lf AK nK cK AV nV cV AD nD cD) 70)))
  have BG := Lib.hid n2
  have HB := Lib.hid (hb1.trans (hb2.mono (by omega)))
  have HX := Lib.hid (hx.keep HB.out); have HY := Lib.hid (hy.keep HB.out); have HL := Lib.hid hx.len
  have HS : Hid (∀ xs ∈ ks, xs.length ≤ maxLen) := Lib.hid (fun x hx => Nat.le_trans (hs x hx) (by unfold maxLen; omega))
  have hmm : m ≤ maxLen := by unfold maxLen; omega
  clear hx hy hs hb1 hb2 n2 hsz
  go_enter Try.func42, Try.ntmps42
  go_upto_region 1 with fail
  generalize (w.alloc (.cells (ndV lf AK nK cK AV nV cV AD nD cD) 70)).alloc (.cells #[.slice B m d] 28) = y at *
  have q1 := rc_cell 1 (.slice AK nK cK) BX.out rfl
  go_wp2_with fail
  clear q1
  refine (idxge_any AK B nK cK m d (w.heap.size + 1) ks key y HX.out HY.out (by omega) hmm HS.out BG.out).mono ?_
  rintro e y1 ⟨he, hd1⟩
  have BX1 := Lib.hid (((hd1.below y.heap.size).block _ (lt_of_heap BX.out)).trans BX.out); have BG1 := Lib.hid (((hd1.below y.heap.size).block _ (lt_of_heap BG.out)).trans BG.out)
  have HX1 := Lib.hid (HX.out.keep (hd1.below _)); have HY1 := Lib.hid (HY.out.keep (hd1.below _)); have HB1 := Lib.hid (HB.out.trans ((hd1.below _).mono HB.out.size))
  clear hd1 BX BG HX HY HB
  rcases he with ⟨hlt, rfl⟩ | ⟨hall, rfl⟩
  · obtain ⟨kk, HKK⟩ : ∃ kk, Hid (fdN key ks = kk) := ⟨_, rfl⟩
    rw [HKK.out] at hlt ⊢
    obtain ⟨b, off, A1, n1, c1, xs, rfl, hbl, hcl, hxs, hnc, HXK⟩ := HX1.out.at_ hlt
    have hn1 : n1 ≤ maxLen := by rw [← hxs.len]; exact HS.out _ (List.mem_of_getElem? HXK.out)
    have HXS := Lib.hid hxs; have HCL := Lib.hid hcl
    obtain ⟨r, HR⟩ : ∃ r, Hid (cmpL xs key = r) := ⟨_, rfl⟩
    have HF : Hid (decide (r = 0) = fdB key ks) := Lib.hid (by
      have hk : fdN key ks = kk := HKK.out
      have gen : ∀ (l : List (List Int)) (j : Nat), fdN key l = j → l[j]? = some xs → fdB key l = decide (cmpL xs key = 0) := by
        intro l
        induction l with
        | nil => intro j _ h; simp at h
        | cons z l ih =>
          intro j hj h
          by_cases hz : 0 ≤ cmpL z key
          · simp only [fdN, if_pos hz] at hj; subst hj
            simp at h; subst h
            simp [fdB, hz]
          · simp only [fdN, if_neg hz] at hj; subst hj
            simp only [List.getElem?_cons_succ] at h
            simp only [fdB, if_neg hz]
            exact ih _ rfl h
      rw [gen ks kk hk HXK.out, HR.out])
    have z0 : (0 : Int) ≤ (kk : Int) := by omega
    have z1 : (kk : Int) < (nK : Int) := by omega
    have z2 : ¬ (kk : Int) < 0 := by omega
    clear hcl hxs hnc
    go_upto_region 4 with fail
    have BXd : Hid (y1.drew.heap[w.heap.size]? = some (.cells (ndV lf (some ⟨b, off, none⟩) nK cK AV nV cV AD nD cD) 70 (0, 0))) := BX1; have BGd : Hid (y1.drew.heap[w.heap.size + 1]? = some (.cells #[.slice B m d] 28 (0, 0))) := BG1; have CLd : Hid (y1.drew.cell? ⟨b, off + kk, none⟩ = some (.slice A1 n1 c1)) := HCL; have HXSd : Hid (Bs y1.drew A1 n1 xs) := HXS; have HYd : Hid (Bs y1.drew B m key) := HY1; have HBd := Lib.hid (HB1.out.trans ((Dr.refl y1).one.below _)); have hbd : b < y1.drew.heap.size := hbl
    refine wp_region_held_drew (S := fun w' => w'.cell? ⟨w.heap.size, 1, none⟩ = some (.slice (some ⟨b, off, none⟩) nK cK) ∧ w'.cell? ⟨w.heap.size + 1, 0, none⟩ = some (.slice B m d) ∧ w'.cell? ⟨b, off + kk, none⟩ = some (.slice A1 n1 c1)) (by kernel_rfl) ⟨rc_cell 1 _ BXd.out rfl, rc_cell 0 _ BGd.out rfl, CLd.out⟩ (fun hH0 => ?_)
    generalize y1.drew = yd at *
    refine wpAnyH_take (i := 0) (oi := { dst := some 16, op := Op.move (Operand.tmp 6), type := 3, pos := _, after := #[], guard := none }) (v := ?vf1_0) rfl (by kernel_rfl) (by kernel_rfl) (by kernel_rfl) (fun _ _ _ h => h) (Or.inl ⟨by rfl, ?yf1_0⟩) hH0 ?rf1_0
    case yf1_0 => (intro w hSw; (try dsimp only at hSw); go_simp; try (with_reducible rfl))
    try simp only [Act.put, List.setIfInBounds_toArray, List.set_cons_zero, List.set_cons_succ]
    refine wpAnyH_take (i := 1) (oi := { dst := some 17, op := Op.fieldAddr 70 (Operand.tmp 2) 1, type := 0, pos := _, after := #[], guard := none }) (v := ?vf1_1) rfl (by kernel_rfl) (by kernel_rfl) (by kernel_rfl) (fun _ _ _ h => h) (Or.inl ⟨by rfl, ?yf1_1⟩) hH0 ?rf1_1
    case yf1_1 => (intro w hSw; (try dsimp only at hSw); go_simp; try (with_reducible rfl))
    try simp only [Act.put, List.setIfInBounds_toArray, List.set_cons_zero, List.set_cons_succ]
    refine wpAnyH_take (i := 2) (oi := { dst := some 18, op := Op.load 62 (Operand.tmp 17), type := 62, pos := _, after := #[{ on := 1, ground := Ground.data }], guard := none }) (v := ?vf1_2) rfl (by kernel_rfl) (by kernel_rfl) (by kernel_rfl) (fun _ _ _ h => h) (Or.inl ⟨by rfl, ?yf1_2⟩) hH0 ?rf1_2
    case yf1_2 => (intro w hSw; (try dsimp only at hSw); go_simp; try (with_reducible rfl))
    try simp only [Act.put, List.setIfInBounds_toArray, List.set_cons_zero, List.set_cons_succ]
    refine wpAnyH_take (i := 3) (oi := { dst := some 19, op := Op.move (Operand.tmp 6), type := 3, pos := _, after := #[], guard := none }) (v := ?vf1_3) rfl (by kernel_rfl) (by kernel_rfl) (by kernel_rfl) (fun _ _ _ h => h) (Or.inl ⟨by rfl, ?yf1_3⟩) hH0 ?rf1_3
    case yf1_3 => (intro w hSw; (try dsimp only at hSw); go_simp; try (with_reducible rfl))
    try simp only [Act.put, List.setIfInBounds_toArray, List.set_cons_zero, List.set_cons_succ]
    refine wpAnyH_take (i := 4) (oi := { dst := some 20, op := Op.indexAddr 62 (Operand.tmp 18) (Operand.tmp 19), type := 0, pos := _, after := #[{ on := 2, ground := Ground.data }, { on := 3, ground := Ground.data }], guard := none }) (v := ?vf1_4) rfl (by kernel_rfl) (by kernel_rfl) (by kernel_rfl) (fun _ _ _ h => h) (Or.inl ⟨by rfl, ?yf1_4⟩) hH0 ?rf1_4
    case yf1_4 => (intro w hSw; (try dsimp only at hSw); go_simp; try (with_reducible rfl))
    try simp only [Act.put, List.setIfInBounds_toArray, List.set_cons_zero, List.set_cons_succ]
    refine wpAnyH_take (i := 5) (oi := { dst := some 21, op := Op.load 28 (Operand.tmp 20), type := 28, pos := _, after := #[{ on := 4, ground := Ground.data }], guard := none }) (v := ?vf1_5) rfl (by kernel_rfl) (by kernel_rfl) (by kernel_rfl) (fun _ _ _ h => h) (Or.inl ⟨by rfl, ?yf1_5⟩) hH0 ?rf1_5
    case yf1_5 => (intro w hSw; (try dsimp only at hSw); go_simp; try (with_reducible rfl))
    try simp only [Act.put, List.setIfInBounds_toArray, List.set_cons_zero, List.set_cons_succ]
    refine wpAnyH_take (i := 6) (oi := { dst := some 22, op := Op.load 28 (Operand.tmp 3), type := 28, pos := _, after := #[], guard := none }) (v := ?vf1_6) rfl (by kernel_rfl) (by kernel_rfl) (by kernel_rfl) (fun _ _ _ h => h) (Or.inl ⟨by rfl, ?yf1_6⟩) hH0 ?rf1_6
    case yf1_6 => (intro w hSw; (try dsimp only at hSw); go_simp; try (with_reducible rfl))
    try simp only [Act.put, List.setIfInBounds_toArray, List.set_cons_zero, List.set_cons_succ]
    refine wpAnyH_ready (rs := [7]) (by kernel_rfl) (by simp) ?_
    refine (AllReadyH.cons (o := { dst := some 23, op := Op.call { callee := Callee.value (Operand.func 91), args := #[Operand.tmp 21, Operand.tmp 22], argTypes := #[28, 28] }, type := 3, pos := _, after := #[{ on := 5, ground := Ground.data }, { on := 6, ground := Ground.data }], guard := none }) rfl (fun K hK => ?_) AllReadyH.nil)
    go_simp
    refine (compare_is A1 B n1 m c1 d xs key r HR.out yd HXSd.out HYd.out hn1 hmm).mono ?_
    rintro e y2 ⟨rfl, hd2⟩
    have BX2 := Lib.hid (((hd2.below yd.heap.size).block _ (lt_of_heap BXd.out)).trans BXd.out); have BG2 := Lib.hid (((hd2.below yd.heap.size).block _ (lt_of_heap BGd.out)).trans BGd.out); have CL2 := Lib.hid (cell_keep (hd2.below yd.heap.size) CLd.out); have HB2 := Lib.hid (HBd.out.trans ((hd2.below yd.heap.size).mono HBd.out.size))
    clear hd2
    go_wp2_with fail
    refine hK.out _ _ ⟨rc_cell 1 _ BX2.out rfl, rc_cell 0 _ BG2.out rfl, CL2.out⟩ (fun hH2 => ?_)
    clear hK K
    try simp only [Act.put, List.setIfInBounds_toArray, List.set_cons_zero, List.set_cons_succ]
    refine wpAnyH_take (i := 8) (oi := { dst := some 24, op := Op.binOp BinOp.eql 3 (Operand.tmp 23) (Operand.const (Value.int IntKind.i64 0)) 3, type := 4, pos := _, after := #[{ on := 7, ground := Ground.data }, { on := 9, ground := Ground.gcOnly Departure.lateStores }], guard := none }) (v := ?vf3_8) rfl (by kernel_rfl) (by kernel_rfl) (by kernel_rfl) (fun _ _ _ h => h) (Or.inl ⟨by rfl, ?yf3_8⟩) hH2 ?rf3_8
    case yf3_8 => (intro w hSw; (try dsimp only at hSw); go_simp; try (with_reducible rfl))
    try simp only [Act.put, List.setIfInBounds_toArray, List.set_cons_zero, List.set_cons_succ]
    refine wpAnyH_take (i := 9) (oi := { dst := some 4, op := Op.assign (Operand.tmp 16), type := 3, pos := _, after := #[{ on := 0, ground := Ground.data }, { on := 7, ground := Ground.chain }, { on := 0, ground := Ground.phase }, { on := 1, ground := Ground.textOnly Departure.lateStores }, { on := 2, ground := Ground.textOnly Departure.lateStores }, { on := 3, ground := Ground.textOnly Departure.lateStores }, { on := 4, ground := Ground.textOnly Departure.lateStores }, { on := 5, ground := Ground.textOnly Departure.lateStores }, { on := 6, ground := Ground.textOnly Departure.lateStores }, { on := 7, ground := Ground.textOnly Departure.lateStoresUnsure }, { on := 8, ground := Ground.textOnly Departure.lateStores }], guard := none }) (v := ?vf3_9) rfl (by kernel_rfl) (by kernel_rfl) (by kernel_rfl) (fun _ _ _ h => h) (Or.inl ⟨by rfl, ?yf3_9⟩) hH2 ?rf3_9
    case yf3_9 => (intro w hSw; (try dsimp only at hSw); go_simp; try (with_reducible rfl))
    try simp only [Act.put, List.setIfInBounds_toArray, List.set_cons_zero, List.set_cons_succ]
    refine wpAnyH_take (i := 10) (oi := { dst := some 5, op := Op.assign (Operand.tmp 24), type := 4, pos := _, after := #[{ on := 8, ground := Ground.data }, { on := 9, ground := Ground.chain }, { on := 0, ground := Ground.phase }, { on := 1, ground := Ground.phase }, { on := 2, ground := Ground.phase }, { on := 3, ground := Ground.phase }, { on := 4, ground := Ground.phase }, { on := 5, ground := Ground.phase }, { on := 6, ground := Ground.phase }, { on := 7, ground := Ground.phase }, { on := 8, ground := Ground.phase }, { on := 9, ground := Ground.phase }], guard := none }) (v := ?vf3_10) rfl (by kernel_rfl) (by kernel_rfl) (by kernel_rfl) (fun _ _ _ h => h) (Or.inl ⟨by rfl, ?yf3_10⟩) hH2 ?rf3_10
    case yf3_10 => (intro w hSw; (try dsimp only at hSw); go_simp; try (with_reducible rfl))
    try simp only [Act.put, List.setIfInBounds_toArray, List.set_cons_zero, List.set_cons_succ]
    refine wpAnyH_done (by kernel_rfl) ?_ _
    go_wp2
    go_ret2
    exact ⟨by rw [HKK.out, ← HF.out]; first | rfl | simp, HB2.out⟩
  · have HF : Hid (fdB key ks = false) := Lib.hid (fd_none (by rw [HL.out]; exact hall))
    have q1 := rc_cell 1 (.slice AK nK cK) BX1.out rfl
    go_wp2
    go_ret2
    exact ⟨by rw [HF.out, hall]; rfl, HB1.out⟩
set_option maxRecDepth 100000 in
set_option maxHeartbeats 4000000 in
theorem rfind_any (lf : Bool) (AK : Option Addr) (nK cK : Nat) (AV : Option Addr) (nV cV : Nat) (AD : Option Addr) (nD cD : Nat) (ks : List (List Int)) (B : Option Addr) (m d : Nat) (key : List Int) (w : World) (hx : Bss w AK nK ks) (hy : Bs w B m key) (bK : nK ≤ 1048576) (hm : m ≤ 1048576) (hs : ∀ xs ∈ ks, xs.length ≤ 1048576) :
    Calls Try.prog 43 #[.agg (ndV lf AK nK cK AV nV cV AD nD cD), .slice B m d] w fun e w' => e = .returned (.tuple #[.int .i64 ((fdN key ks : Nat) : Int), .bool (fdB key ks)]) ∧ Below w.heap.size w w' := by
  have HB := Lib.hid (below_alloc w (.cells (ndV lf AK nK cK AV nV cV AD nD cD) 66))
  have BX := Lib.hid (heap_alloc_new w (.cells (ndV lf AK nK cK AV nV cV AD nD cD) 66))
  have HX := Lib.hid (hx.keep HB.out); have HY := Lib.hid (hy.keep HB.out); have HL := Lib.hid hx.len
  have HS : Hid (∀ xs ∈ ks, xs.length ≤ maxLen) := Lib.hid (fun x hx => Nat.le_trans (hs x hx) (by unfold maxLen; omega))
  have hmm : m ≤ maxLen := by unfold maxLen; omega
  clear hx hy hs
  go_enter Try.func43, Try.ntmps43
  go_upto_region 1 with fail
  generalize w.alloc (.cells (ndV lf AK nK cK AV nV cV AD nD cD) 66) = y at *
  go_wp2_with fail
  go_loopw [6] (fun iv wr => ∃ kk q : Nat, iv = .int .i64 (kk : Int) ∧ wr = y.drewN q ∧ kk ≤ nK ∧ Hid (fdN key (ks.take kk) = kk)) (fun iv _ => nK - (intOf iv).toNat)
  case atStart => exact ⟨0, 0, rfl, rfl, Nat.zero_le _, Lib.hid rfl⟩
  case round =>
    obtain ⟨kk, qd, rfl, rfl, hk, HA⟩ := hrel
    have BXq : Hid ((y.drewN qd).heap[w.heap.size]? = some (.cells (ndV lf AK nK cK AV nV cV AD nD cD) 66 (0, 0))) := BX
    have q1 := rc_cell 1 (.slice AK nK cK) BXq.out rfl
    by_cases hlt : kk < nK
    · obtain ⟨b, off, A1, n1, c1, xs, rfl, hbl, hcl, hxs, hnc, HXK⟩ := HX.out.at_ hlt
      have hn1 : n1 ≤ maxLen := by rw [← hxs.len]; exact HS.out _ (List.mem_of_getElem? HXK.out)
      have HXS := Lib.hid hxs
      have q2 : (y.drewN qd).cell? ⟨b, off + kk, none⟩ = some (.slice A1 n1 c1) := hcl
      have z0 : (0 : Int) ≤ (kk : Int) := by omega
      have z1 : (kk : Int) < (nK : Int) := by omega
      obtain ⟨r, HR⟩ : ∃ r, Hid (cmpL xs key = r) := ⟨_, rfl⟩
      clear hcl hxs hnc
      go_wp2_with fail
      refine (cmp_is A1 B n1 m c1 d xs key r HR.out (y.drewN qd) (HXS.out.n qd) (HY.out.n qd) hn1 hmm).mono ?_
      rintro e w2 ⟨rfl, q3, rfl⟩
      clear q1 q2
      rw [World.drewN_drewN]
      by_cases hge : 0 ≤ r
      · have h2 := fd_hit HXK.out HA.out (by rw [HR.out]; exact hge)
        rw [HR.out] at h2
        have HR1 := Lib.hid h2.1; have HR2 := Lib.hid h2.2
        have HBE := Lib.hid (below_n HB.out (qd + q3))
        clear h2
        go_wp2
        go_ret2
        exact ⟨by rw [HR1.out, HR2.out]; first | rfl | simp, HBE.out⟩
      · have HR1 := Lib.hid (fd_step HXK.out HA.out (by rw [HR.out]; exact hge))
        go_wp2
        go_roundw
        case rel => exact ⟨kk + 1, qd + q3, by go_num, rfl, by omega, HR1⟩
        case measure => simp [intOf]; omega
    · obtain rfl : nK = kk := by omega
      have HR1 : Hid (fdN key ks = nK) := Lib.hid (by have := HA.out; rw [List.take_of_length_le (by rw [HL.out]; exact Nat.le_refl _)] at this; exact this)
      have HR2 : Hid (fdB key ks = false) := Lib.hid (fd_none (by rw [HL.out]; exact HR1.out))
      have HBE := Lib.hid (below_n HB.out qd)
      go_wp2
      go_ret2
      exact ⟨by rw [HR1.out, HR2.out]; first | rfl | simp, HBE.out⟩
end Go.Proofs.Ytmjjbfcblmmipaa
namespace Go.Proofs.Ytmjjbfcblmmipaa
set_option linter.unusedVariables false
set_option linter.unusedSimpArgs false
theorem cmpL_trans : ∀ {xs ys zs : List Int}, cmpL xs ys ≤ 0 → cmpL ys zs ≤ 0 → cmpL xs zs ≤ 0
  | [], _, [], _, _ => by simp [cmpL]
  | [], _, _ :: _, _, _ => by simp [cmpL]
  | x :: xs, [], zs, h, _ => by simp [cmpL] at h
  | x :: xs, y :: ys, [], _, h => by simp [cmpL] at h
  | x :: xs, y :: ys, z :: zs, h1, h2 => by
    simp only [cmpL] at h1 h2 ⊢
    by_cases a1 : x < y
    · by_cases b1 : y < z
      · rw [if_pos (by omega)]; omega
      · rw [if_neg b1] at h2
        by_cases b2 : z < y
        · rw [if_pos b2] at h2; omega
        · rw [if_pos (by omega)]; omega
    · rw [if_neg a1] at h1
      by_cases a2 : y < x
      · rw [if_pos a2] at h1; omega
      · rw [if_neg a2] at h1
        obtain rfl : x = y := by omega
        by_cases b1 : x < z
        · rw [if_pos b1]; omega
        · rw [if_neg b1] at h2 ⊢
          by_cases b2 : z < x
          · rw [if_pos b2] at h2; omega
          · rw [if_neg b2] at h2 ⊢
            exact cmpL_trans h1 h2
/-- Strictly below. -/
def ltL (a b : List Int) : Prop := cmpL a b < 0
theorem ltL_irr (a : List Int) : ¬ ltL a a := by unfold ltL; rw [cmpL_self]; omega
theorem ltL_trans {a b c : List Int} (h : ltL a b) (k : ltL b c) : ltL a c := by
  unfold ltL at *
  have h1 := cmpL_trans (xs := a) (ys := b) (zs := c) (by omega) (by omega)
  rcases Int.lt_or_eq_of_le h1 with h2 | h2
  · exact h2
  · have := cmpL_zero h2
    subst this
    have := cmpL_swap a b
    omega
theorem ltL_asym {a b : List Int} (h : ltL a b) : ¬ ltL b a := fun k => ltL_irr a (ltL_trans h k)
theorem gt_lt {x k : List Int} (h0 : 0 ≤ cmpL x k) (h1 : ¬ cmpL x k = 0) : ltL k x := by
  unfold ltL; rw [cmpL_swap x k]; omega
/-- One key more, by its place; and in plain words. -/
def stp (k : List Int) (L : List (List Int)) : List (List Int) := if fdB k L then L else insL L (fdN k L) k
def insR (k : List Int) : List (List Int) → List (List Int)
  | [] => [k]
  | x :: r => if 0 ≤ cmpL x k then (if cmpL x k = 0 then x :: r else k :: x :: r) else x :: insR k r
theorem stp_eq (k : List Int) : ∀ L, stp k L = insR k L
  | [] => rfl
  | x :: r => by
    have ih := stp_eq k r
    unfold stp at ih ⊢
    by_cases h : 0 ≤ cmpL x k
    · simp only [fdB, fdN, insR, if_pos h]
      by_cases h0 : cmpL x k = 0
      · rw [decide_eq_true h0, if_pos rfl, if_pos h0]
      · rw [decide_eq_false h0, if_neg (by simp), if_neg h0]; simp [insL]
    · simp only [fdB, fdN, insR, if_neg h]
      rw [← ih]
      by_cases hb : fdB k r = true
      · rw [if_pos hb, if_pos hb]
      · rw [if_neg hb, if_neg hb]; simp [insL]
theorem insR_mem {k z : List Int} : ∀ {L : List (List Int)}, z ∈ insR k L ↔ z = k ∨ z ∈ L
  | [] => by simp [insR]
  | x :: r => by
    have ih := insR_mem (k := k) (z := z) (L := r)
    unfold insR
    split
    · split
      · rename_i h0
        have := cmpL_zero h0
        subst this
        simp
      · simp
    · simp only [List.mem_cons, ih]
      constructor
      · rintro (h | h | h)
        · exact .inr (.inl h)
        · exact .inl h
        · exact .inr (.inr h)
      · rintro (h | h | h)
        · exact .inr (.inl h)
        · exact .inl h
        · exact .inr (.inr h)
theorem insR_rise {k : List Int} : ∀ {L : List (List Int)}, L.Pairwise ltL → (insR k L).Pairwise ltL
  | [], _ => by simp [insR]
  | x :: r, h => by
    have hr := (List.pairwise_cons.1 h).2
    have hx := (List.pairwise_cons.1 h).1
    unfold insR
    split
    · rename_i h0
      split
      · exact h
      · rename_i h1
        have hk := gt_lt h0 h1
        refine List.pairwise_cons.2 ⟨fun z hz => ?_, h⟩
        rcases List.mem_cons.1 hz with rfl | hz
        · exact hk
        · exact ltL_trans hk (hx z hz)
    · rename_i h0
      refine List.pairwise_cons.2 ⟨fun z hz => ?_, insR_rise hr⟩
      rcases insR_mem.1 hz with rfl | hz
      · unfold ltL; omega
      · exact hx z hz
theorem rise_uniq : ∀ {a b : List (List Int)}, a.Pairwise ltL → b.Pairwise ltL → (∀ x, x ∈ a ↔ x ∈ b) → a = b
  | [], [], _, _, _ => rfl
  | [], y :: s, _, _, h => by have := (h y).2 (by simp); cases this
  | x :: r, [], _, _, h => by have := (h x).1 (by simp); cases this
  | x :: r, y :: s, ha, hb, h => by
    have ha2 := (List.pairwise_cons.1 ha); have hb2 := (List.pairwise_cons.1 hb)
    have hxy : x = y := by
      rcases List.mem_cons.1 ((h x).1 (by simp)) with e | hx
      · exact e
      · rcases List.mem_cons.1 ((h y).2 (by simp)) with e | hy
        · exact e.symm
        · exact absurd (ha2.1 y hy) (ltL_asym (hb2.1 x hx))
    subst hxy
    rw [rise_uniq ha2.2 hb2.2 (fun z => ?_)]
    constructor
    · intro hz
      rcases List.mem_cons.1 ((h z).1 (List.mem_cons_of_mem _ hz)) with e | hz2
      · subst e; exact absurd (ha2.1 _ hz) (ltL_irr _)
      · exact hz2
    · intro hz
      rcases List.mem_cons.1 ((h z).2 (List.mem_cons_of_mem _ hz)) with e | hz2
      · subst e; exact absurd (hb2.1 _ hz) (ltL_irr _)
      · exact hz2
/-- The leaf's keys behind so many rounds. -/
def bq (keys : List (List Int)) (n f s : Nat) : Nat → List (List Int)
  | 0 => []
  | i + 1 => stp (keys.getD ((f + i * s) % n) []) (bq keys n f s i)
theorem bq_rise (keys : List (List Int)) (n f s : Nat) : ∀ i, (bq keys n f s i).Pairwise ltL
  | 0 => List.Pairwise.nil
  | i + 1 => by rw [bq, stp_eq]; exact insR_rise (bq_rise keys n f s i)
theorem bq_mem (keys : List (List Int)) (n f s : Nat) (z : List Int) : ∀ i, z ∈ bq keys n f s i ↔ ∃ j, j < i ∧ z = keys.getD ((f + j * s) % n) []
  | 0 => by simp [bq]
  | i + 1 => by
    rw [bq, stp_eq, insR_mem, bq_mem keys n f s z i]
    constructor
    · rintro (h | ⟨j, hj, h⟩)
      · exact ⟨i, by omega, h⟩
      · exact ⟨j, by omega, h⟩
    · rintro ⟨j, hj, h⟩
      by_cases e : j = i
      · subst e; exact .inl h
      · exact .inr ⟨j, by omega, h⟩
theorem bq_len (keys : List (List Int)) (n f s : Nat) : ∀ i, (bq keys n f s i).length ≤ i
  | 0 => by simp [bq]
  | i + 1 => by
    have := bq_len keys n f s i
    rw [bq]; unfold stp
    split
    · omega
    · have := insL_len (bq keys n f s i) (fdN (keys.getD ((f + i * s) % n) []) (bq keys n f s i)) (keys.getD ((f + i * s) % n) []) (fd_le _ _)
      omega
/-- All keys, and nothing else, whichever way round. -/
def Cov (n f s : Nat) : Prop := ∀ t, t < n → ∃ j, j < n ∧ (f + j * s) % n = t
theorem bq_all {keys : List (List Int)} {n f s : Nat} (hn : keys.length = n) (h0 : 0 < n) (hc : Cov n f s) (z : List Int) : z ∈ bq keys n f s n ↔ z ∈ keys := by
  rw [bq_mem]
  constructor
  · rintro ⟨j, hj, rfl⟩
    have ht := Nat.mod_lt (f + j * s) h0
    rw [show keys.getD ((f + j * s) % n) [] = keys[(f + j * s) % n]'(by omega) by simp [List.getD, List.getElem?_eq_getElem (show (f + j * s) % n < keys.length by omega)]]
    exact List.getElem_mem _
  · intro hz
    obtain ⟨t, ht, rfl⟩ := List.getElem_of_mem hz
    obtain ⟨j, hj, e⟩ := hc t (by omega)
    exact ⟨j, hj, by rw [e]; simp [List.getD, List.getElem?_eq_getElem ht]⟩
theorem cov_one (n f : Nat) (hf : f < n) : Cov n f 1 := by
  intro t ht
  by_cases h : f ≤ t
  · exact ⟨t - f, by omega, by rw [show f + (t - f) * 1 = t by omega]; exact Nat.mod_eq_of_lt ht⟩
  · exact ⟨t + n - f, by omega, by rw [show f + (t + n - f) * 1 = t + n by omega, Nat.add_mod_right]; exact Nat.mod_eq_of_lt ht⟩
theorem cov_back (n : Nat) (h0 : 0 < n) : Cov n (n - 1) (n - 1) := by
  intro t ht
  refine ⟨n - 1 - t, by omega, ?_⟩
  obtain ⟨u, hu⟩ : ∃ u, n - 1 - t = u := ⟨_, rfl⟩
  have hn : n = u + t + 1 := by omega
  have h1 : n - 1 = u + t := by omega
  rw [hu, h1]
  have e : u + t + u * (u + t) = t + n * u := by
    rw [hn, Nat.add_mul, Nat.add_mul, Nat.mul_add, Nat.one_mul, Nat.mul_comm t u]; omega
  rw [e, Nat.add_mul_mod_self_left]; exact Nat.mod_eq_of_lt ht
theorem bq_same {keys : List (List Int)} {n f s f2 s2 : Nat} (hn : keys.length = n) (h0 : 0 < n) (h1 : Cov n f s) (h2 : Cov n f2 s2) : bq keys n f s n = bq keys n f2 s2 n :=
  rise_uniq (bq_rise ..) (bq_rise ..) fun x => (bq_all hn h0 h1 x).trans (bq_all hn h0 h2 x).symm
/-- One key less. -/
def dst (k : List Int) (L : List (List Int)) : List (List Int) := if fdB k L then delL L (fdN k L) else L
def delR (k : List Int) : List (List Int) → List (List Int)
  | [] => []
  | x :: r => if 0 ≤ cmpL x k then (if cmpL x k = 0 then r else x :: r) else x :: delR k r
theorem dst_eq (k : List Int) : ∀ L, dst k L = delR k L
  | [] => rfl
  | x :: r => by
    have ih := dst_eq k r
    unfold dst at ih ⊢
    by_cases h : 0 ≤ cmpL x k
    · simp only [fdB, fdN, delR, if_pos h]
      by_cases h0 : cmpL x k = 0
      · rw [decide_eq_true h0, if_pos rfl, if_pos h0]; simp [delL]
      · rw [decide_eq_false h0, if_neg (by simp), if_neg h0]
    · simp only [fdB, fdN, delR, if_neg h]
      rw [← ih]
      by_cases hb : fdB k r = true
      · rw [if_pos hb, if_pos hb]; simp [delL]
      · rw [if_neg hb, if_neg hb]
theorem delR_mem {k z : List Int} : ∀ {L : List (List Int)}, L.Pairwise ltL → z ∈ delR k L → z ∈ L ∧ z ≠ k
  | [], _, h => by simp [delR] at h
  | x :: r, hp, h => by
    have hr := (List.pairwise_cons.1 hp).2
    have hx := (List.pairwise_cons.1 hp).1
    unfold delR at h
    split at h
    · rename_i h0
      split at h
      · rename_i h1
        have := cmpL_zero h1
        subst this
        exact ⟨List.mem_cons_of_mem _ h, fun e => by subst e; exact ltL_irr _ (hx _ h)⟩
      · rename_i h1
        refine ⟨h, fun e => ?_⟩
        subst e
        have hk := gt_lt h0 h1
        rcases List.mem_cons.1 h with e | h2
        · subst e; exact ltL_irr _ hk
        · exact ltL_asym hk (hx _ h2)
    · rename_i h0
      rcases List.mem_cons.1 h with e | h2
      · subst e
        exact ⟨by simp, fun e => by subst e; rw [cmpL_self] at h0; omega⟩
      · obtain ⟨h3, h4⟩ := delR_mem hr h2
        exact ⟨List.mem_cons_of_mem _ h3, h4⟩
theorem delR_rise {k : List Int} : ∀ {L : List (List Int)}, L.Pairwise ltL → (delR k L).Pairwise ltL
  | [], _ => by simp [delR]
  | x :: r, h => by
    have hr := (List.pairwise_cons.1 h).2
    have hx := (List.pairwise_cons.1 h).1
    unfold delR
    split
    · split
      · exact hr
      · exact h
    · exact List.pairwise_cons.2 ⟨fun z hz => hx z (delR_mem hr hz).1, delR_rise hr⟩
/-- What is left behind so many rounds of taking out. -/
def dq (keys L : List (List Int)) : Nat → List (List Int)
  | 0 => L
  | i + 1 => dst (keys.getD i []) (dq keys L i)
theorem dq_rise (keys : List (List Int)) {L : List (List Int)} (h : L.Pairwise ltL) : ∀ i, (dq keys L i).Pairwise ltL
  | 0 => h
  | i + 1 => by rw [dq, dst_eq]; exact delR_rise (dq_rise keys h i)
theorem dq_mem (keys : List (List Int)) {L : List (List Int)} (h : L.Pairwise ltL) {z : List Int} : ∀ i, z ∈ dq keys L i → z ∈ L ∧ ∀ j, j < i → z ≠ keys.getD j []
  | 0, hz => ⟨hz, fun j hj => by omega⟩
  | i + 1, hz => by
    rw [dq, dst_eq] at hz
    obtain ⟨h1, h2⟩ := delR_mem (dq_rise keys h i) hz
    obtain ⟨h3, h4⟩ := dq_mem keys h i h1
    refine ⟨h3, fun j hj => ?_⟩
    by_cases e : j = i
    · subst e; exact h2
    · exact h4 j (by omega)
theorem dq_len (keys L : List (List Int)) : ∀ i, (dq keys L i).length ≤ L.length
  | 0 => Nat.le_refl _
  | i + 1 => by
    have := dq_len keys L i
    rw [dq]; unfold dst
    split
    · refine Nat.le_trans ?_ this
      unfold delL; simp; omega
    · exact this
theorem dq_nil {keys L : List (List Int)} {n : Nat} (hn : keys.length = n) (h : L.Pairwise ltL) (hm : ∀ z, z ∈ L → z ∈ keys) : dq keys L n = [] := by
  cases hd : dq keys L n with
  | nil => rfl
  | cons z r =>
    obtain ⟨h1, h2⟩ := dq_mem keys h n (z := z) (by rw [hd]; simp)
    obtain ⟨t, ht, e⟩ := List.getElem_of_mem (hm z h1)
    exact absurd (by rw [← e]; simp [List.getD, List.getElem?_eq_getElem ht]) (h2 t (by omega))
end Go.Proofs.Ytmjjbfcblmmipaa
namespace Go.Proofs.Ytmjjbfcblmmipaa
set_option linter.unusedVariables false
set_option linter.unusedSimpArgs false
open Go.RowKit
/-- The closure's state: the result's box, the leaf's, its rows. -/
structure BS (w : World) (A1 : Option Addr) (m c1 : Nat) (A2 : Option Addr) (c2 : Nat) (A3 : Option Addr) (c3 : Nat) (L : List (List Int)) (W : World) : Prop where
  rs : W.heap[w.heap.size]? = some (.cells ndZ 70 (0, 0))
  nd : W.heap[w.heap.size + 1]? = some (.cells #[.bool true, .slice A1 m c1, .slice A2 m c2, .slice A3 0 c3] 70 (0, 0))
  pk : Prts W (w.heap.size + 2) A1 m c1 L
  pv : Prts W (w.heap.size + 2) A2 m c2 L
  od : Own W (w.heap.size + 2) 3 A3 0 c3 (([] : List Int).map (Value.int .i64))
  hb : Below w.heap.size w W
theorem BS.keep {w W W' : World} {A1 A2 A3 : Option Addr} {m c1 c2 c3 : Nat} {L : List (List Int)} (h : BS w A1 m c1 A2 c2 A3 c3 L W) (hb : Below W.heap.size W W') : BS w A1 m c1 A2 c2 A3 c3 L W' :=
  ⟨(hb.block _ (lt_of_heap h.rs)).trans h.rs, (hb.block _ (lt_of_heap h.nd)).trans h.nd, h.pk.keep hb, h.pv.keep hb, h.od.below hb (fun k hk => (h.od.lies k hk).2), h.hb.trans (hb.mono h.hb.size)⟩
theorem BS.sz {w W : World} {A1 A2 A3 : Option Addr} {m c1 c2 c3 : Nat} {L : List (List Int)} (h : BS w A1 m c1 A2 c2 A3 c3 L W) : w.heap.size + 2 ≤ W.heap.size := by have := lt_of_heap h.nd; omega
/-- Another leaf is stored. -/
theorem BS.put {w W W' : World} {A1 A2 A3 B1 B2 B3 : Option Addr} {m c1 c2 c3 m' d1 d2 d3 : Nat} {L L' : List (List Int)} (h : BS w A1 m c1 A2 c2 A3 c3 L W) (hb : Below W.heap.size W W') (p1 : Prts W' W.heap.size B1 m' d1 L') (p2 : Prts W' W.heap.size B2 m' d2 L') (p3 : Own W' W.heap.size 3 B3 0 d3 (([] : List Int).map (Value.int .i64))) :
    BS w B1 m' d1 B2 d2 B3 d3 L' ((((W'.setCell ⟨w.heap.size + 1, 0, none⟩ (.bool true)).setCell ⟨w.heap.size + 1, 1, none⟩ (.slice B1 m' d1)).setCell ⟨w.heap.size + 1, 2, none⟩ (.slice B2 m' d2)).setCell ⟨w.heap.size + 1, 3, none⟩ (.slice B3 0 d3)) := by
  have k := h.keep hb
  have hs := h.sz
  have HS := set4g W' (w.heap.size + 1) (.bool true) (.slice B1 m' d1) (.slice B2 m' d2) (.slice B3 0 d3) _ _ _ _ 70 k.nd
  exact ⟨(HS.2.block _ (lt_of_heap k.rs) (by intro e; injection e with e; omega)).trans k.rs, HS.1, (p1.set HS.2 k.nd (by decide) (by decide)).mono hs, (p2.set HS.2 k.nd (by decide) (by decide)).mono hs, (p3.onl HS.2 (p3.ne_blk k.nd (by decide))).mono hs, k.hb.trans ((HS.2.below (Nat.le_of_lt (lt_of_heap k.nd))).mono (by omega))⟩
set_option maxRecDepth 100000 in
set_option maxHeartbeats 16000000 in
theorem build_any (AK : Option Addr) (n cK gk f s : Nat) (zf zs : Int) (hzf : zf = (f : Int)) (hzs : zs = (s : Int)) (keys : List (List Int)) (w : World) (hx : Bss w AK n keys) (hk : w.heap[gk]? = some (.cells #[.slice AK n cK] 62 (0, 0))) (h0 : 0 < n) (hn : n ≤ 40) (hf : f < n) (hs : s ≤ 40) (lK : ∀ xs ∈ keys, xs.length ≤ 1048576) :
    Calls Try.prog 52 #[.int .i64 zf, .int .i64 zs, .pointer (some ⟨gk, 0, none⟩)] w fun e w' => ∃ A1 c1 A2 c2 A3 c3, e = .returned (.agg (ndV true A1 (bq keys n f s n).length c1 A2 (bq keys n f s n).length c2 A3 0 c3)) ∧ Prts w' w.heap.size A1 (bq keys n f s n).length c1 (bq keys n f s n) ∧ Prts w' w.heap.size A2 (bq keys n f s n).length c2 (bq keys n f s n) ∧ Own w' w.heap.size 3 A3 0 c3 (([] : List Int).map (Value.int .i64)) ∧ Below w.heap.size w w' := by
  subst hzf hzs
  have HX := Lib.hid hx; have HLN := Lib.hid hx.len; have HMK := Lib.hid lK
  have hgk := lt_of_heap hk
  have B0 : Hid (BS w none 0 0 none 0 none 0 [] ((w.alloc (.cells ndZ 70)).alloc (.cells #[.bool true, .slice none 0 0, .slice none 0 0, .slice none 0 0] 70))) := Lib.hid (by
    have hb1 := below_alloc w (.cells ndZ 70)
    have hb2 := below_alloc (w.alloc (.cells ndZ 70)) (.cells #[.bool true, .slice none 0 0, .slice none 0 0, .slice none 0 0] 70)
    have hsz : (w.alloc (.cells ndZ 70)).heap.size = w.heap.size + 1 := by simp
    have n2 := heap_alloc_new (w.alloc (.cells ndZ 70)) (.cells #[.bool true, .slice none 0 0, .slice none 0 0, .slice none 0 0] 70)
    rw [hsz] at n2
    exact ⟨(hb2.block _ (by omega)).trans (heap_alloc_new w _), n2, Prts.nil_, Prts.nil_, Own.nil_, hb1.trans (hb2.mono (by omega))⟩)
  have HKB := Lib.hid hk
  clear hx hk lK
  go_enter Try.func52, Try.ntmps52
  go_upto_region 2 with fail
  generalize (w.alloc (.cells ndZ 70)).alloc (.cells #[.bool true, .slice none 0 0, .slice none 0 0, .slice none 0 0] 70) = y at *
  have HK0 := Lib.hid ((B0.out.hb.block gk hgk).trans HKB.out)
  have r0 := rc_cell 0 (.slice AK n cK) HK0.out rfl
  go_wp2_with fail
  clear r0
  go_loopw [14] (fun iv wr => ∃ (kk c1 c2 c3 : Nat) (A1 A2 A3 : Option Addr), iv = .int .i64 (kk : Int) ∧ kk ≤ n ∧ Hid (BS w A1 (bq keys n f s kk).length c1 A2 c2 A3 c3 (bq keys n f s kk) wr)) (fun iv _ => n - (intOf iv).toNat)
  case atStart => exact ⟨0, 0, 0, 0, none, none, none, rfl, Nat.zero_le _, B0⟩
  case round =>
    clear B0 HK0
    obtain ⟨kk, c1, c2, c3, A1, A2, A3, rfl, hkk, HB⟩ := hrel
    by_cases hlt : kk < n
    · obtain ⟨t, HT⟩ : ∃ t, Hid ((f + kk * s) % n = t) := ⟨_, rfl⟩
      have ht : t < n := by rw [← HT.out]; exact Nat.mod_lt _ h0
      obtain ⟨b, off, AT, n1, d1, key, hA, hbl, hcl, hxs, hnc, HXK⟩ := HX.out.at_ ht
      obtain rfl := hxs.len
      have HXS := Lib.hid hxs; have HCL := Lib.hid hcl
      have hkl : key.length ≤ 1048576 := HMK.out _ (List.mem_of_getElem? HXK.out)
      obtain ⟨L, HLQ⟩ : ∃ L, Hid (bq keys n f s kk = L) := ⟨_, rfl⟩
      have HLL := Lib.hid (bq_len keys n f s kk)
      rw [HLQ.out] at HB HLL
      obtain ⟨m, HM⟩ : ∃ m, Hid (L.length = m) := ⟨_, rfl⟩
      have hm40 : m ≤ 40 := by rw [← HM.out]; exact Nat.le_trans HLL.out (by omega)
      rw [HM.out] at HB
      have HNX : Hid (bq keys n f s (kk + 1) = stp key L) := Lib.hid (by rw [bq, HLQ.out, HT.out]; congr 1; simp [List.getD, HXK.out])
      have HMEM : Hid (∀ x ∈ L, x.length ≤ 1048576) := Lib.hid (fun x hx => by
        rw [← HLQ.out, bq_mem] at hx
        obtain ⟨j, hj, rfl⟩ := hx
        have hj2 := Nat.mod_lt (f + j * s) h0
        have hj3 : (f + j * s) % n < keys.length := by rw [HLN.out]; exact hj2
        rw [show keys.getD ((f + j * s) % n) [] = keys[(f + j * s) % n] by simp [List.getD, List.getElem?_eq_getElem hj3]]
        exact HMK.out _ (List.getElem_mem hj3))
      obtain ⟨ms, hms⟩ : ∃ ms, kk * s = ms := ⟨_, rfl⟩
      have hms2 : ms ≤ 1600 := by rw [← hms]; exact Nat.mul_le_mul (show kk ≤ 40 by omega) hs
      have hmi : (kk : Int) * (s : Int) = (ms : Int) := by rw [← hms]; simp
      obtain ⟨tt, htt⟩ : ∃ tt, f + ms = tt := ⟨_, rfl⟩
      have hti : (f : Int) + (ms : Int) = (tt : Int) := by omega
      have hw1 : IntKind.i64.wrap ((kk : Int) * (s : Int)) = (ms : Int) := by rw [hmi]; exact IntWalk.i64_in _ (by omega)
      have hw2 : IntKind.i64.wrap ((f : Int) + (ms : Int)) = (tt : Int) := by rw [hti]; exact IntWalk.i64_in _ (by omega)
      have hrm : Int.tmod (tt : Int) (n : Int) = (t : Int) := by rw [Int.tmod_eq_emod_of_nonneg (by omega), ← HT.out, hms, htt]; simp
      have hn0 : ¬ (n : Int) = 0 := by omega
      have hn00 : ¬ n = 0 := by omega
      have z0 : (0 : Int) ≤ (t : Int) := by omega
      have z1 : (t : Int) < (n : Int) := by omega
      subst hA
      clear hxs hcl hnc hmi hti
      have HKr := Lib.hid ((HB.out.hb.block gk hgk).trans HKB.out)
      go_upto_region 5 with fail
      have HBd := Lib.hid (HB.out.keep ((Dr.refl wr).one.below _)); have HKd : Hid (wr.drew.heap[gk]? = some (.cells #[.slice (some ⟨b, off, none⟩) n cK] 62 (0, 0))) := HKr; have HCd : Hid (wr.drew.cell? ⟨b, off + t, none⟩ = some (.slice AT key.length d1)) := Lib.hid (cell_keep HBd.out.hb HCL.out)
      refine wp_region_held_drew (S := fun w' => w'.cell? ⟨gk, 0, none⟩ = some (.slice (some ⟨b, off, none⟩) n cK) ∧ w'.cell? ⟨b, off + t, none⟩ = some (.slice AT key.length d1)) (by kernel_rfl) ⟨rc_cell 0 _ HKd.out rfl, HCd.out⟩ (fun hH0 => ?_)
      generalize wr.drew = yd at *
      refine wpAnyH_take (i := 0) (oi := { dst := some 17, op := Op.load 62 (Operand.tmp 2), type := 62, pos := _, after := #[], guard := none }) (v := ?vb1_0) rfl (by kernel_rfl) (by kernel_rfl) (by kernel_rfl) (fun _ _ _ h => h) (Or.inl ⟨by rfl, ?yb1_0⟩) hH0 ?rb1_0
      case yb1_0 => (intro w hSw; (try dsimp only at hSw); go_simp; try (with_reducible rfl))
      try simp only [Act.put, List.setIfInBounds_toArray, List.set_cons_zero, List.set_cons_succ]
      refine wpAnyH_take (i := 1) (oi := { dst := some 18, op := Op.move (Operand.tmp 0), type := 3, pos := _, after := #[], guard := none }) (v := ?vb1_1) rfl (by kernel_rfl) (by kernel_rfl) (by kernel_rfl) (fun _ _ _ h => h) (Or.inl ⟨by rfl, ?yb1_1⟩) hH0 ?rb1_1
      case yb1_1 => (intro w hSw; (try dsimp only at hSw); go_simp; try (with_reducible rfl))
      try simp only [Act.put, List.setIfInBounds_toArray, List.set_cons_zero, List.set_cons_succ]
      refine wpAnyH_take (i := 2) (oi := { dst := some 19, op := Op.move (Operand.tmp 7), type := 3, pos := _, after := #[], guard := none }) (v := ?vb1_2) rfl (by kernel_rfl) (by kernel_rfl) (by kernel_rfl) (fun _ _ _ h => h) (Or.inl ⟨by rfl, ?yb1_2⟩) hH0 ?rb1_2
      case yb1_2 => (intro w hSw; (try dsimp only at hSw); go_simp; try (with_reducible rfl))
      try simp only [Act.put, List.setIfInBounds_toArray, List.set_cons_zero, List.set_cons_succ]
      refine wpAnyH_take (i := 3) (oi := { dst := some 20, op := Op.move (Operand.tmp 1), type := 3, pos := _, after := #[], guard := none }) (v := ?vb1_3) rfl (by kernel_rfl) (by kernel_rfl) (by kernel_rfl) (fun _ _ _ h => h) (Or.inl ⟨by rfl, ?yb1_3⟩) hH0 ?rb1_3
      case yb1_3 => (intro w hSw; (try dsimp only at hSw); go_simp; try (with_reducible rfl))
      try simp only [Act.put, List.setIfInBounds_toArray, List.set_cons_zero, List.set_cons_succ]
      refine wpAnyH_take (i := 4) (oi := { dst := some 21, op := Op.binOp BinOp.mul 3 (Operand.tmp 19) (Operand.tmp 20) 3, type := 3, pos := _, after := #[{ on := 2, ground := Ground.data }, { on := 3, ground := Ground.data }], guard := none }) (v := ?vb1_4) rfl (by kernel_rfl) (by kernel_rfl) (by kernel_rfl) (fun _ _ _ h => h) (Or.inl ⟨by rfl, ?yb1_4⟩) hH0 ?rb1_4
      case yb1_4 => (intro w hSw; (try dsimp only at hSw); go_simp; try (with_reducible rfl))
      try simp only [Act.put, List.setIfInBounds_toArray, List.set_cons_zero, List.set_cons_succ]
      refine wpAnyH_take (i := 5) (oi := { dst := some 22, op := Op.binOp BinOp.add 3 (Operand.tmp 18) (Operand.tmp 21) 3, type := 3, pos := _, after := #[{ on := 1, ground := Ground.data }, { on := 4, ground := Ground.data }], guard := none }) (v := ?vb1_5) rfl (by kernel_rfl) (by kernel_rfl) (by kernel_rfl) (fun _ _ _ h => h) (Or.inl ⟨by rfl, ?yb1_5⟩) hH0 ?rb1_5
      case yb1_5 => (intro w hSw; (try dsimp only at hSw); go_simp; try (with_reducible rfl))
      try simp only [Act.put, List.setIfInBounds_toArray, List.set_cons_zero, List.set_cons_succ]
      refine wpAnyH_take (i := 6) (oi := { dst := some 23, op := Op.load 62 (Operand.tmp 2), type := 62, pos := _, after := #[], guard := none }) (v := ?vb1_6) rfl (by kernel_rfl) (by kernel_rfl) (by kernel_rfl) (fun _ _ _ h => h) (Or.inl ⟨by rfl, ?yb1_6⟩) hH0 ?rb1_6
      case yb1_6 => (intro w hSw; (try dsimp only at hSw); go_simp; try (with_reducible rfl))
      try simp only [Act.put, List.setIfInBounds_toArray, List.set_cons_zero, List.set_cons_succ]
      refine wpAnyH_take (i := 7) (oi := { dst := some 24, op := Op.call { callee := Callee.builtin Builtin.len, args := #[Operand.tmp 23], argTypes := #[62] }, type := 3, pos := _, after := #[{ on := 6, ground := Ground.data }], guard := none }) (v := ?vb1_7) rfl (by kernel_rfl) (by kernel_rfl) (by kernel_rfl) (fun _ _ _ h => h) (Or.inl ⟨by rfl, ?yb1_7⟩) hH0 ?rb1_7
      case yb1_7 => (intro w hSw; (try dsimp only at hSw); go_simp; try (with_reducible rfl))
      try simp only [Act.put, List.setIfInBounds_toArray, List.set_cons_zero, List.set_cons_succ]
      refine wpAnyH_take (i := 8) (oi := { dst := some 25, op := Op.binOp BinOp.rem 3 (Operand.tmp 22) (Operand.tmp 24) 3, type := 3, pos := _, after := #[{ on := 5, ground := Ground.data }, { on := 7, ground := Ground.data }], guard := none }) (v := ?vb1_8) rfl (by kernel_rfl) (by kernel_rfl) (by kernel_rfl) (fun _ _ _ h => h) (Or.inl ⟨by rfl, ?yb1_8⟩) hH0 ?rb1_8
      case yb1_8 => (intro w hSw; (try dsimp only at hSw); go_simp; try (with_reducible rfl))
      try simp only [Act.put, List.setIfInBounds_toArray, List.set_cons_zero, List.set_cons_succ]
      refine wpAnyH_take (i := 9) (oi := { dst := some 26, op := Op.indexAddr 62 (Operand.tmp 17) (Operand.tmp 25), type := 0, pos := _, after := #[{ on := 0, ground := Ground.data }, { on := 8, ground := Ground.data }], guard := none }) (v := ?vb1_9) rfl (by kernel_rfl) (by kernel_rfl) (by kernel_rfl) (fun _ _ _ h => h) (Or.inl ⟨by rfl, ?yb1_9⟩) hH0 ?rb1_9
      case yb1_9 => (intro w hSw; (try dsimp only at hSw); go_simp; try (with_reducible rfl))
      try simp only [Act.put, List.setIfInBounds_toArray, List.set_cons_zero, List.set_cons_succ]
      refine wpAnyH_take (i := 10) (oi := { dst := some 27, op := Op.load 28 (Operand.tmp 26), type := 28, pos := _, after := #[{ on := 9, ground := Ground.data }], guard := none }) (v := ?vb1_10) rfl (by kernel_rfl) (by kernel_rfl) (by kernel_rfl) (fun _ _ _ h => h) (Or.inl ⟨by rfl, ?yb1_10⟩) hH0 ?rb1_10
      case yb1_10 => (intro w hSw; (try dsimp only at hSw); go_simp; try (with_reducible rfl))
      try simp only [Act.put, List.setIfInBounds_toArray, List.set_cons_zero, List.set_cons_succ]
      refine wpAnyH_take (i := 11) (oi := { dst := some 8, op := Op.assign (Operand.tmp 27), type := 28, pos := _, after := #[{ on := 10, ground := Ground.data }, { on := 0, ground := Ground.phase }, { on := 1, ground := Ground.phase }, { on := 2, ground := Ground.phase }, { on := 3, ground := Ground.phase }, { on := 4, ground := Ground.phase }, { on := 5, ground := Ground.phase }, { on := 6, ground := Ground.phase }, { on := 7, ground := Ground.phase }, { on := 8, ground := Ground.phase }, { on := 9, ground := Ground.phase }, { on := 10, ground := Ground.phase }], guard := none }) (v := ?vb1_11) rfl (by kernel_rfl) (by kernel_rfl) (by kernel_rfl) (fun _ _ _ h => h) (Or.inl ⟨by rfl, ?yb1_11⟩) hH0 ?rb1_11
      case yb1_11 => (intro w hSw; (try dsimp only at hSw); go_simp; try (with_reducible rfl))
      try simp only [Act.put, List.setIfInBounds_toArray, List.set_cons_zero, List.set_cons_succ]
      refine wpAnyH_done (by kernel_rfl) ?_ _
      have q0 := rc_cell 0 (.bool true) HBd.out.nd rfl; have q1 := rc_cell 1 (.slice A1 m c1) HBd.out.nd rfl; have q2 := rc_cell 2 (.slice A2 m c2) HBd.out.nd rfl; have q3 := rc_cell 3 (.slice A3 0 c3) HBd.out.nd rfl
      go_wp2_with fail
      clear q0 q1 q2 q3
      refine (find_any true A1 m c1 A2 m c2 A3 0 c3 L AT key.length d1 key yd HBd.out.pk.bss (HXS.out.keep HBd.out.hb) (by omega) hkl HMEM.out).mono ?_
      rintro e y1 ⟨rfl, hb1⟩
      have HB1 := Lib.hid (HBd.out.keep hb1)
      obtain ⟨fb, HFB⟩ : ∃ fb, Hid (fdB key L = fb) := ⟨_, rfl⟩
      obtain ⟨fn, HFN⟩ : ∃ fn, Hid (fdN key L = fn) := ⟨_, rfl⟩
      have hfn : fn ≤ m := by rw [← HFN.out, ← HM.out]; exact fd_le _ _
      rw [HFB.out, HFN.out]
      clear hb1
      cases fb with
      | true =>
        have HE : Hid (bq keys n f s (kk + 1) = L) := Lib.hid (by rw [HNX.out]; unfold stp; rw [if_pos HFB.out])
        go_wp2
        go_roundw
        case rel => exact ⟨kk + 1, c1, c2, c3, A1, A2, A3, by go_num, by omega, by rw [HE.out, HM.out]; exact HB1⟩
        case measure => simp [intOf]; omega
      | false =>
        have HE : Hid (bq keys n f s (kk + 1) = insL L fn key) := Lib.hid (by rw [HNX.out]; unfold stp; rw [if_neg (by rw [HFB.out]; decide), HFN.out])
        have HLE : Hid ((insL L fn key).length = m + 1) := Lib.hid (by rw [insL_len _ _ _ (by rw [HM.out]; exact hfn), HM.out])
        have q0 := rc_cell 0 (.bool true) HB1.out.nd rfl; have q1 := rc_cell 1 (.slice A1 m c1) HB1.out.nd rfl; have q2 := rc_cell 2 (.slice A2 m c2) HB1.out.nd rfl; have q3 := rc_cell 3 (.slice A3 0 c3) HB1.out.nd rfl
        go_wp2_with fail
        clear q0 q1 q2 q3
        refine (withOk_any A1 m c1 A2 m c2 A3 0 c3 L L [] fn _ rfl AT d1 key AT d1 key y1 HB1.out.pk.bss HB1.out.pv.bss ⟨Rd.nil_, fun _ h => by cases h⟩ HB1.out.od.shp (HXS.out.keep HB1.out.hb) (HXS.out.keep HB1.out.hb) hfn rfl (by omega) (by omega) (by omega) (fun x hx => Nat.le_trans (HMEM.out x hx) (by omega)) (fun x hx => Nat.le_trans (HMEM.out x hx) (by omega)) (by omega) (by omega)).mono ?_
        rintro e y2 ⟨B1, e1, B2, e2, B3, e3, rfl, p1, p2, p3, _, hb2⟩
        have HB2 := Lib.hid (HB1.out.put hb2 p1 p2 p3)
        have NB := (hb2.block _ (lt_of_heap HB1.out.nd)).trans HB1.out.nd
        have q0 := rc_cell 0 (.bool true) NB rfl; have q1 := rc_cell 1 (.slice A1 m c1) NB rfl; have q2 := rc_cell 2 (.slice A2 m c2) NB rfl; have q3 := rc_cell 3 (.slice A3 0 c3) NB rfl
        have t0 := two_frozen (i := 0) NB; have t1 := two_frozen (i := 1) NB; have t2 := two_frozen (i := 2) NB; have t3 := two_frozen (i := 3) NB
        clear p1 p2 p3 hb2
        go_wp2
        go_roundw
        case rel => exact ⟨kk + 1, e1, e2, e3, B1, B2, B3, by go_num, by omega, by rw [HE.out, HLE.out]; exact HB2⟩
        case measure => simp [intOf]; omega
    · obtain rfl : n = kk := by omega
      obtain ⟨L, HLQ⟩ : ∃ L, Hid (bq keys n f s n = L) := ⟨_, rfl⟩
      rw [HLQ.out] at HB
      obtain ⟨m, HM⟩ : ∃ m, Hid (L.length = m) := ⟨_, rfl⟩
      rw [HM.out] at HB
      have q0 := rc_cell 0 (.bool true) HB.out.nd rfl; have q1 := rc_cell 1 (.slice A1 m c1) HB.out.nd rfl; have q2 := rc_cell 2 (.slice A2 m c2) HB.out.nd rfl; have q3 := rc_cell 3 (.slice A3 0 c3) HB.out.nd rfl
      have z0 := rc_cell 0 (.bool false) HB.out.rs rfl; have fz0 := two_frozen (i := 0) HB.out.rs
      have z1 := rc_cell 1 (.slice none 0 0) HB.out.rs rfl; have fz1 := two_frozen (i := 1) HB.out.rs
      have z2 := rc_cell 2 (.slice none 0 0) HB.out.rs rfl; have fz2 := two_frozen (i := 2) HB.out.rs
      have z3 := rc_cell 3 (.slice none 0 0) HB.out.rs rfl; have fz3 := two_frozen (i := 3) HB.out.rs
      have HZ2 := Lib.hid (set4 wr w.heap.size (.bool true) (.slice A1 m c1) (.slice A2 m c2) (.slice A3 0 c3) HB.out.rs)
      have R1 := Lib.hid ((HB.out.pk.set HZ2.out.2 HB.out.rs (by decide) (by decide)).mono (b := w.heap.size) (by omega)); have R2 := Lib.hid ((HB.out.pv.set HZ2.out.2 HB.out.rs (by decide) (by decide)).mono (b := w.heap.size) (by omega)); have R3 := Lib.hid ((HB.out.od.onl HZ2.out.2 (HB.out.od.ne_blk HB.out.rs (by decide))).mono (b := w.heap.size) (by omega))
      have HBE := Lib.hid (HB.out.hb.trans (HZ2.out.2.below (Nat.le_of_lt (lt_of_heap HB.out.rs))))
      go_wp2_with fail
      clear q0 q1 q2 q3; clear z0 z1 z2 z3; clear fz0 fz1 fz2 fz3
      generalize ((((wr.setCell ⟨w.heap.size, 0, none⟩ (.bool true)).setCell ⟨w.heap.size, 1, none⟩ (.slice A1 m c1)).setCell ⟨w.heap.size, 2, none⟩ (.slice A2 m c2)).setCell ⟨w.heap.size, 3, none⟩ (.slice A3 0 c3)) = wz at *
      have e0 := rc_cell 0 (.bool true) HZ2.out.1 rfl; have e1 := rc_cell 1 (.slice A1 m c1) HZ2.out.1 rfl; have e2 := rc_cell 2 (.slice A2 m c2) HZ2.out.1 rfl; have e3 := rc_cell 3 (.slice A3 0 c3) HZ2.out.1 rfl
      refine bodyPost_ret (v := .agg #[.bool true, .slice A1 m c1, .slice A2 m c2, .slice A3 0 c3]) (by simp [results, Try.f52, go_sem, Try.isAgg70, Try.sizeOf70, e0, e1, e2, e3]) rfl ⟨A1, c1, A2, c2, A3, c3, by rw [HLQ.out, HM.out], by rw [HLQ.out, HM.out]; exact R1.out, by rw [HLQ.out, HM.out]; exact R2.out, R3.out, HBE.out⟩
end Go.Proofs.Ytmjjbfcblmmipaa
