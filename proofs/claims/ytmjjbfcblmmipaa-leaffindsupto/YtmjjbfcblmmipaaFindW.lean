/- leaf.Find, and the reference's. -/
import Derived.Test.YtmjjbfcblmmipaaWithW
import Derived.Test.YtmjjbfcblmmipaaRWithW
import Derived.Test.YtmjjbfcblmmipaaChk2W
namespace Go.Proofs.Ytmjjbfcblmmipaa
set_option linter.unusedVariables false
set_option linter.unusedSimpArgs false
open Go.RowKit
def wL (lf : Bool) (z : Int) (n : Nat) (l : List (List Int)) (x : List Int) : List (List Int) := if lf = true ∧ 0 ≤ z ∧ z ≤ (n : Int) then insL l z.toNat x else l
def dLs (lf : Bool) (z : Int) (n : Nat) (l : List (List Int)) : List (List Int) := if lf = true ∧ 0 ≤ z ∧ z < (n : Int) then delL l z.toNat else l
theorem ins_mem {l : List (List Int)} {i : Nat} {x y : List Int} (h : y ∈ insL l i x) : y ∈ l ∨ y = x := by
  unfold insL at h
  rcases List.mem_append.1 h with h | h
  · exact .inl (List.mem_of_mem_take h)
  · rcases List.mem_cons.1 h with h | h
    · exact .inr h
    · exact .inl (List.mem_of_mem_drop h)
theorem wL_mem {lf : Bool} {z : Int} {n : Nat} {l : List (List Int)} {x y : List Int} (h : y ∈ wL lf z n l x) : y ∈ l ∨ y = x := by
  unfold wL at h
  split at h
  · exact ins_mem h
  · exact .inl h
theorem dLs_mem {lf : Bool} {z : Int} {n : Nat} {l : List (List Int)} {y : List Int} (h : y ∈ dLs lf z n l) : y ∈ l := by
  unfold dLs at h
  split at h
  · unfold delL at h
    rcases List.mem_append.1 h with h | h
    · exact List.mem_of_mem_take h
    · exact List.mem_of_mem_drop h
  · exact h
theorem wL_le (lf : Bool) (z : Int) (n : Nat) (l : List (List Int)) (x : List Int) : (wL lf z n l x).length ≤ l.length + 1 := by
  unfold wL insL; split
  · simp; omega
  · omega
theorem dLs_le (lf : Bool) (z : Int) (n : Nat) (l : List (List Int)) : (dLs lf z n l).length ≤ l.length := by
  unfold dLs delL; split
  · simp; omega
  · omega
theorem with_uni (lf : Bool) (AK : Option Addr) (nK cK : Nat) (AV : Option Addr) (nV cV : Nat) (AD : Option Addr) (nD cD : Nat) (ks vs : List (List Int)) (ds : List Int) (z : Int) (AQ : Option Addr) (nq cq : Nat) (key : List Int) (AR : Option Addr) (nr cr : Nat) (val : List Int) (w : World) (hx : Bss w AK nK ks) (hy : Bss w AV nV vs) (hz : Ins w AD nD ds) (sD : Shp AD nD)
    (hq : Bs w AQ nq key) (hr : Bs w AR nr val) (hV : lf = true → nV = nK) (bK : nK ≤ 99999) (bV : nV ≤ 99999) (bD : nD ≤ 100000) (lK : ∀ xs ∈ ks, xs.length ≤ 140737488355328) (lV : ∀ xs ∈ vs, xs.length ≤ 140737488355328) (bq : key.length ≤ 140737488355328) (br : val.length ≤ 140737488355328) :
    Calls Try.prog 44 #[.agg (ndV lf AK nK cK AV nV cV AD nD cD), .int .i64 z, .slice AQ nq cq, .slice AR nr cr] w fun e w' => ∃ A1 c1 A2 c2 A3 c3, e = .returned (.agg (ndV lf A1 (wL lf z nK ks key).length c1 A2 (wL lf z nK vs val).length c2 A3 nD c3)) ∧ Bss w' A1 (wL lf z nK ks key).length (wL lf z nK ks key) ∧ Bss w' A2 (wL lf z nK vs val).length (wL lf z nK vs val) ∧ Ins w' A3 nD ds ∧ Below w.heap.size w w' := by
  have hlk := hx.len; have hlv := hy.len
  obtain rfl := hq.len; obtain rfl := hr.len
  by_cases h : lf = true ∧ 0 ≤ z ∧ z ≤ (nK : Int)
  · have e1 : wL lf z nK ks key = insL ks z.toNat key := if_pos h
    have e2 : wL lf z nK vs val = insL vs z.toNat val := if_pos h
    obtain ⟨rfl, h0, h1⟩ := h
    have hv := hV rfl
    have l1 : (insL ks z.toNat key).length = nK + 1 := by rw [insL_len _ _ _ (by omega), hlk]
    have l2 : (insL vs z.toNat val).length = nV + 1 := by rw [insL_len _ _ _ (by omega), hlv]
    rw [e1, e2, l1, l2]
    refine (withOk_any AK nK cK AV nV cV AD nD cD ks vs ds z.toNat z (by omega) AQ cq key AR cr val w hx hy hz sD hq hr (by omega) hv bK bV bD lK lV bq br).mono ?_
    rintro e w' ⟨A1, c1, A2, c2, A3, c3, rfl, p1, p2, p3, _, hb⟩
    exact ⟨A1, c1, A2, c2, A3, c3, rfl, p1.bss, p2.bss, Ins.own p3 hz.2, hb⟩
  · have e1 : wL lf z nK ks key = ks := if_neg h
    have e2 : wL lf z nK vs val = vs := if_neg h
    rw [e1, e2, hlk, hlv]
    refine (withNo_any lf AK nK cK AV nV cV AD nD cD ks vs ds z AQ _ cq AR _ cr (by cases lf with | false => exact .inl rfl | true => right; simp at h; omega) w hx hy hz sD bK bV bD lK lV).mono ?_
    rintro e w' ⟨A1, c1, A2, c2, A3, c3, rfl, p1, p2, p3, _, hb⟩
    exact ⟨A1, c1, A2, c2, A3, c3, rfl, p1.bss, p2.bss, Ins.own p3 hz.2, hb⟩
theorem without_uni (lf : Bool) (AK : Option Addr) (nK cK : Nat) (AV : Option Addr) (nV cV : Nat) (AD : Option Addr) (nD cD : Nat) (ks vs : List (List Int)) (ds : List Int) (z : Int) (w : World) (hx : Bss w AK nK ks) (hy : Bss w AV nV vs) (hz : Ins w AD nD ds) (sD : Shp AD nD)
    (hV : lf = true → nV = nK) (bK : nK ≤ 99999) (bV : nV ≤ 99999) (bD : nD ≤ 100000) (lK : ∀ xs ∈ ks, xs.length ≤ 140737488355328) (lV : ∀ xs ∈ vs, xs.length ≤ 140737488355328) :
    Calls Try.prog 46 #[.agg (ndV lf AK nK cK AV nV cV AD nD cD), .int .i64 z] w fun e w' => ∃ A1 c1 A2 c2 A3 c3, e = .returned (.agg (ndV lf A1 (dLs lf z nK ks).length c1 A2 (dLs lf z nK vs).length c2 A3 nD c3)) ∧ Bss w' A1 (dLs lf z nK ks).length (dLs lf z nK ks) ∧ Bss w' A2 (dLs lf z nK vs).length (dLs lf z nK vs) ∧ Ins w' A3 nD ds ∧ Below w.heap.size w w' := by
  have hlk := hx.len; have hlv := hy.len
  by_cases h : lf = true ∧ 0 ≤ z ∧ z < (nK : Int)
  · have e1 : dLs lf z nK ks = delL ks z.toNat := if_pos h
    have e2 : dLs lf z nK vs = delL vs z.toNat := if_pos h
    obtain ⟨rfl, h0, h1⟩ := h
    have hv := hV rfl
    have l1 : (delL ks z.toNat).length = nK - 1 := by rw [delL_len _ _ (by omega), hlk]
    have l2 : (delL vs z.toNat).length = nV - 1 := by rw [delL_len _ _ (by omega), hlv]
    rw [e1, e2, l1, l2]
    refine (withoutOk_any AK nK cK AV nV cV AD nD cD ks vs ds z.toNat z (by omega) w hx hy hz sD (by omega) hv bK bV bD lK lV).mono ?_
    rintro e w' ⟨A1, c1, A2, c2, A3, c3, rfl, p1, p2, p3, _, hb⟩
    exact ⟨A1, c1, A2, c2, A3, c3, rfl, p1.bss, p2.bss, Ins.own p3 hz.2, hb⟩
  · have e1 : dLs lf z nK ks = ks := if_neg h
    have e2 : dLs lf z nK vs = vs := if_neg h
    rw [e1, e2, hlk, hlv]
    refine (withoutNo_any lf AK nK cK AV nV cV AD nD cD ks vs ds z (by cases lf with | false => exact .inl rfl | true => right; simp at h; omega) w hx hy hz sD bK bV bD lK lV).mono ?_
    rintro e w' ⟨A1, c1, A2, c2, A3, c3, rfl, p1, p2, p3, _, hb⟩
    exact ⟨A1, c1, A2, c2, A3, c3, rfl, p1.bss, p2.bss, Ins.own p3 hz.2, hb⟩
theorem rwith_uni (lf : Bool) (AK : Option Addr) (nK cK : Nat) (AV : Option Addr) (nV cV : Nat) (AD : Option Addr) (nD cD : Nat) (ks vs : List (List Int)) (ds : List Int) (z : Int) (AQ : Option Addr) (nq cq : Nat) (key : List Int) (AR : Option Addr) (nr cr : Nat) (val : List Int) (w : World) (hx : Bss w AK nK ks) (hy : Bss w AV nV vs) (hz : Ins w AD nD ds)
    (hq : Bs w AQ nq key) (hr : Bs w AR nr val) (hqc : nq ≤ cq) (hrc : nr ≤ cr) (hV : lf = true → nV = nK) (hD : lf = true → nD = 0) (hKc : nK ≤ cK) (hVc : nV ≤ cV) (bK : nK ≤ 99999) :
    Calls Try.prog 45 #[.agg (ndV lf AK nK cK AV nV cV AD nD cD), .int .i64 z, .slice AQ nq cq, .slice AR nr cr] w fun e w' => ∃ A1 c1 A2 c2 A3 c3, e = .returned (.agg (ndV lf A1 (wL lf z nK ks key).length c1 A2 (wL lf z nK vs val).length c2 A3 nD c3)) ∧ Bss w' A1 (wL lf z nK ks key).length (wL lf z nK ks key) ∧ Bss w' A2 (wL lf z nK vs val).length (wL lf z nK vs val) ∧ Ins w' A3 nD ds ∧ Below w.heap.size w w' := by
  have hlk := hx.len; have hlv := hy.len; have hld := hz.len
  obtain rfl := hq.len; obtain rfl := hr.len
  by_cases h : lf = true ∧ 0 ≤ z ∧ z ≤ (nK : Int)
  · have e1 : wL lf z nK ks key = insL ks z.toNat key := if_pos h
    have e2 : wL lf z nK vs val = insL vs z.toNat val := if_pos h
    obtain ⟨rfl, h0, h1⟩ := h
    have hv := hV rfl
    have hd := hD rfl
    have l1 : (insL ks z.toNat key).length = nK + 1 := by rw [insL_len _ _ _ (by omega), hlk]
    have l2 : (insL vs z.toNat val).length = nV + 1 := by rw [insL_len _ _ _ (by omega), hlv]
    rw [e1, e2, l1, l2]
    refine (rwithOk_any AK nK cK AV nV cV AD nD cD ks vs z.toNat z (by omega) AQ cq key AR cr val w hx hy hq hr hqc hrc (by omega) hv hKc hVc bK).mono ?_
    rintro e w' ⟨A1, c1, A2, c2, rfl, p1, p2, hb⟩
    have hds : ds = [] := List.eq_nil_of_length_eq_zero (by omega)
    subst hds
    exact ⟨A1, c1, A2, c2, none, 0, by rw [hd], p1, p2, by rw [hd]; exact ⟨Rd.nil_, fun _ h => by cases h⟩, hb⟩
  · have e1 : wL lf z nK ks key = ks := if_neg h
    have e2 : wL lf z nK vs val = vs := if_neg h
    rw [e1, e2, hlk, hlv]
    refine (rwithNo_any lf AK nK cK AV nV cV AD nD cD z AQ _ cq AR _ cr (by cases lf with | false => exact .inl rfl | true => right; simp at h; omega) w bK).mono ?_
    rintro e w' ⟨rfl, hb⟩
    exact ⟨AK, cK, AV, cV, AD, cD, rfl, hx.keep hb, hy.keep hb, hz.keep hb, hb⟩
theorem rwithout_uni (lf : Bool) (AK : Option Addr) (nK cK : Nat) (AV : Option Addr) (nV cV : Nat) (AD : Option Addr) (nD cD : Nat) (ks vs : List (List Int)) (ds : List Int) (z : Int) (w : World) (hx : Bss w AK nK ks) (hy : Bss w AV nV vs) (hz : Ins w AD nD ds)
    (hV : lf = true → nV = nK) (hD : lf = true → nD = 0) (hKc : nK ≤ cK) (hVc : nV ≤ cV) (bK : nK ≤ 99999) :
    Calls Try.prog 47 #[.agg (ndV lf AK nK cK AV nV cV AD nD cD), .int .i64 z] w fun e w' => ∃ A1 c1 A2 c2 A3 c3, e = .returned (.agg (ndV lf A1 (dLs lf z nK ks).length c1 A2 (dLs lf z nK vs).length c2 A3 nD c3)) ∧ Bss w' A1 (dLs lf z nK ks).length (dLs lf z nK ks) ∧ Bss w' A2 (dLs lf z nK vs).length (dLs lf z nK vs) ∧ Ins w' A3 nD ds ∧ Below w.heap.size w w' := by
  have hlk := hx.len; have hlv := hy.len; have hld := hz.len
  by_cases h : lf = true ∧ 0 ≤ z ∧ z < (nK : Int)
  · have e1 : dLs lf z nK ks = delL ks z.toNat := if_pos h
    have e2 : dLs lf z nK vs = delL vs z.toNat := if_pos h
    obtain ⟨rfl, h0, h1⟩ := h
    have hv := hV rfl
    have hd := hD rfl
    have l1 : (delL ks z.toNat).length = nK - 1 := by rw [delL_len _ _ (by omega), hlk]
    have l2 : (delL vs z.toNat).length = nV - 1 := by rw [delL_len _ _ (by omega), hlv]
    rw [e1, e2, l1, l2]
    refine (rwithoutOk_any AK nK cK AV nV cV AD nD cD ks vs z.toNat z (by omega) w hx hy (by omega) hv hKc hVc bK).mono ?_
    rintro e w' ⟨A1, c1, A2, c2, rfl, p1, p2, hb⟩
    have hds : ds = [] := List.eq_nil_of_length_eq_zero (by omega)
    subst hds
    exact ⟨A1, c1, A2, c2, none, 0, by rw [hd], p1, p2, by rw [hd]; exact ⟨Rd.nil_, fun _ h => by cases h⟩, hb⟩
  · have e1 : dLs lf z nK ks = ks := if_neg h
    have e2 : dLs lf z nK vs = vs := if_neg h
    rw [e1, e2, hlk, hlv]
    refine (rwithoutNo_any lf AK nK cK AV nV cV AD nD cD z (by cases lf with | false => exact .inl rfl | true => right; simp at h; omega) w bK).mono ?_
    rintro e w' ⟨rfl, hb⟩
    exact ⟨AK, cK, AV, cV, AD, cD, rfl, hx.keep hb, hy.keep hb, hz.keep hb, hb⟩
end Go.Proofs.Ytmjjbfcblmmipaa
namespace Go.Proofs.Ytmjjbfcblmmipaa
set_option linter.unusedVariables false
set_option linter.unusedSimpArgs false
open Go.RowKit
/-- The first place whose key isn't below; is it the key? -/
def fdN (key : List Int) : List (List Int) → Nat
  | [] => 0
  | x :: r => if 0 ≤ cmpL x key then 0 else fdN key r + 1
def fdB (key : List Int) : List (List Int) → Bool
  | [] => false
  | x :: r => if 0 ≤ cmpL x key then decide (cmpL x key = 0) else fdB key r
theorem fd_hit {key x : List Int} {ks : List (List Int)} : ∀ {kk : Nat}, ks[kk]? = some x → fdN key (ks.take kk) = kk → 0 ≤ cmpL x key → fdN key ks = kk ∧ fdB key ks = decide (cmpL x key = 0) := by
  induction ks with
  | nil => intro kk h _ _; simp at h
  | cons y r ih =>
    intro kk h ht h0
    cases kk with
    | zero =>
      simp at h; subst h
      simp [fdN, fdB, h0]
    | succ kk =>
      rw [List.take_succ_cons] at ht
      simp only [List.getElem?_cons_succ] at h
      by_cases hy : 0 ≤ cmpL y key
      · simp [fdN, hy] at ht
      · simp only [fdN, if_neg hy] at ht
        obtain ⟨h1, h2⟩ := ih h (by omega) h0
        exact ⟨by simp only [fdN, if_neg hy]; omega, by simp only [fdB, if_neg hy]; exact h2⟩
theorem fd_step {key x : List Int} {ks : List (List Int)} : ∀ {kk : Nat}, ks[kk]? = some x → fdN key (ks.take kk) = kk → ¬ 0 ≤ cmpL x key → fdN key (ks.take (kk + 1)) = kk + 1 := by
  induction ks with
  | nil => intro kk h _ _; simp at h
  | cons y r ih =>
    intro kk h ht h0
    cases kk with
    | zero =>
      simp at h; subst h
      simp [fdN, h0]
    | succ kk =>
      rw [List.take_succ_cons] at ht ⊢
      simp only [List.getElem?_cons_succ] at h
      by_cases hy : 0 ≤ cmpL y key
      · simp [fdN, hy] at ht
      · simp only [fdN, if_neg hy] at ht ⊢
        rw [ih h (by omega) h0]
theorem fd_none {key : List Int} {ks : List (List Int)} (h : fdN key ks = ks.length) : fdB key ks = false := by
  induction ks with
  | nil => rfl
  | cons y r ih =>
    by_cases hy : 0 ≤ cmpL y key
    · simp [fdN, hy] at h
    · simp only [fdN, if_neg hy, List.length_cons] at h
      simp only [fdB, if_neg hy]; exact ih (by omega)
theorem fd_le (key : List Int) (ks : List (List Int)) : fdN key ks ≤ ks.length := by
  induction ks with
  | nil => simp [fdN]
  | cons y r ih => simp only [fdN]; split <;> simp <;> omega
abbrev fdF (g : Nat) : Value := .func (.func 90) #[] #[.pointer (some ⟨g, 0, none⟩)]
set_option maxHeartbeats 2000000 in
theorem geclo_any (A B : Option Addr) (n m c d g : Nat) (xs key : List Int) (v : Bool) (hv : decide (0 ≤ cmpL xs key) = v) (w : World) (hx : Bs w A n xs) (hy : Bs w B m key) (hn : n ≤ maxLen) (hm : m ≤ maxLen) (hg : w.heap[g]? = some (.cells #[.slice B m d] 28 (0, 0))) :
    Calls Try.prog 90 #[.slice A n c, .pointer (some ⟨g, 0, none⟩)] w fun e w' => e = .returned (.bool v) ∧ Dr w w' := by
  have q := rc_cell 0 (.slice B m d) hg rfl
  have HV := Lib.hid hv
  clear hv hg
  go_enter Try.func90, Try.ntmps90
  go_wp2_with fail
  refine (compare_is A B n m c d xs key _ rfl w hx hy hn hm).mono ?_
  rintro e w2 ⟨rfl, hd⟩
  have HD := Lib.hid hd
  clear hd hx hy q
  generalize cmpL xs key = r at *
  go_wp2
  go_ret
  exact ⟨ret_bool (by first | exact HV.out | (rw [← HV.out]; rfl) | (rw [← HV.out]; simp)), HD.out⟩
set_option maxHeartbeats 4000000 in
theorem idxge_any (A B : Option Addr) (n c m d g : Nat) (ks : List (List Int)) (key : List Int) (w : World) (hx : Bss w A n ks) (hy : Bs w B m key) (hn : n ≤ 100000000) (hm : m ≤ maxLen) (hs : ∀ xs ∈ ks, xs.length ≤ maxLen) (hg : w.heap[g]? = some (.cells #[.slice B m d] 28 (0, 0))) :
    Calls Try.prog 89 #[.slice A n c, fdF g] w fun e w' => (fdN key ks < n ∧ e = .returned (.int .i64 ((fdN key ks : Nat) : Int)) ∨ fdN key ks = n ∧ e = .returned (.int .i64 (-1))) ∧ Dr w w' := by
  have HX := Lib.hid hx; have HY := Lib.hid hy; have HL := Lib.hid hx.len; have HS := Lib.hid hs; have HG := Lib.hid hg
  clear hx hy hs hg
  go_enter Try.func89, Try.ntmps89
  go_wp2_with fail
  go_loopw [8] (fun iv wr => ∃ kk q : Nat, iv = .int .i64 (kk : Int) ∧ wr = w.drewN q ∧ kk ≤ n ∧ Hid (fdN key (ks.take kk) = kk)) (fun iv _ => n - (intOf iv).toNat)
  case atStart => exact ⟨0, 0, rfl, rfl, Nat.zero_le _, Lib.hid rfl⟩
  case round =>
    obtain ⟨kk, qd, rfl, rfl, hk, HA⟩ := hrel
    by_cases hlt : kk < n
    · obtain ⟨b, off, A1, n1, c1, xs, rfl, hbl, hcl, hxs, hnc, HXK⟩ := HX.out.at_ hlt
      have hn1 : n1 ≤ maxLen := by rw [← hxs.len]; exact HS.out _ (List.mem_of_getElem? HXK.out)
      have HXS := Lib.hid hxs
      have q1 : (w.drewN qd).cell? ⟨b, off + kk, none⟩ = some (.slice A1 n1 c1) := hcl
      have z0 : (0 : Int) ≤ (kk : Int) := by omega
      have z1 : (kk : Int) < (n : Int) := by omega
      clear hcl hxs hnc
      go_wp2_with fail
      refine (geclo_any A1 B n1 m c1 d g xs key _ rfl (w.drewN qd) (HXS.out.n qd) (HY.out.n qd) hn1 hm HG.out).mono ?_
      rintro e w2 ⟨rfl, q2, rfl⟩
      clear q1
      rw [World.drewN_drewN]
      by_cases hge : 0 ≤ cmpL xs key
      · have hd : decide (0 ≤ cmpL xs key) = true := by simpa using hge
        have HR := Lib.hid (fd_hit HXK.out HA.out hge).1
        rw [hd]
        clear hge hd
        go_wp2
        go_ret
        exact ⟨.inl ⟨by rw [HR.out]; exact hlt, by rw [HR.out]; rfl⟩, _, rfl⟩
      · have hd : decide (0 ≤ cmpL xs key) = false := by simpa using hge
        have HR := Lib.hid (fd_step HXK.out HA.out hge)
        rw [hd]
        clear hge hd
        go_wp2
        go_roundw
        case rel => exact ⟨kk + 1, qd + q2, by go_num, rfl, by omega, HR⟩
        case measure => simp [intOf]; omega
    · obtain rfl : n = kk := by omega
      have HR : Hid (fdN key ks = n) := Lib.hid (by have := HA.out; rw [List.take_of_length_le (by rw [HL.out]; exact Nat.le_refl _)] at this; exact this)
      go_wp2
      go_ret
      exact ⟨.inr ⟨HR.out, rfl⟩, _, rfl⟩
set_option maxRecDepth 100000 in
set_option maxHeartbeats 4000000 in
theorem find_any (lf : Bool) (AK : Option Addr) (nK cK : Nat) (AV : Option Addr) (nV cV : Nat) (AD : Option Addr) (nD cD : Nat) (ks : List (List Int)) (B : Option Addr) (m d : Nat) (key : List Int) (w : World) (hx : Bss w AK nK ks) (hy : Bs w B m key) (bK : nK ≤ 1048576) (hm : m ≤ 1048576) (hs : ∀ xs ∈ ks, xs.length ≤ 1048576) :
    Calls Try.prog 42 #[.agg (ndV lf AK nK cK AV nV cV AD nD cD), .slice B m d] w fun e w' => e = .returned (.tuple #[.int .i64 ((fdN key ks : Nat) : Int), .bool (fdB key ks)]) ∧ Below w.heap.size w w' := by
  have hb1 := below_alloc w (.cells (ndV lf AK nK cK AV nV cV AD nD cD) 70)
  have hb2 := below_alloc (w.alloc (.cells (ndV lf AK nK cK AV nV cV AD nD cD) 70)) (.cells #[.slice B m d] 28)
  have hsz : (w.alloc (.cells (ndV lf AK nK cK AV nV cV AD nD cD) 70)).heap.size = w.heap.size + 1 := by simp
  have n2 := heap_alloc_new (w.alloc (.cells (ndV lf AK nK cK AV nV cV AD nD cD) 70)) (.cells #[.slice B m d] 28)
  rw [hsz] at n2
  have BX := Lib.hid ((hb2.block w.heap.size (by omega)).trans (heap_alloc_new w (.cells (ndV lf AK nK cK AV nV cV AD nD cD) 70)))
  have BG := Lib.hid n2
  have HB := Lib.hid (hb1.trans (hb2.mono (by omega)))
  have HX := Lib.hid (hx.keep HB.out); have HY := Lib.hid (hy.keep HB.out); have HL := Lib.hid hx.len
  have HS : Hid (∀ xs ∈ ks, xs.length ≤ maxLen) := Lib.hid (fun x hx => Nat.le_trans (hs x hx) (by unfold maxLen; omega))
  have hmm : m ≤ maxLen := by unfold maxLen; omega
  clear hx hy hs hb1 hb2 n2 hsz
  go_enter Try.func42, Try.ntmps42
  go_upto_region 1 with fail
  generalize (w.alloc (.cells (ndV lf AK nK cK AV nV cV AD nD cD) 70)).alloc (.cells #[.slice B m d] 28) = y at *
  have q1 := rc_cell 1 (.slice AK nK cK) BX.out rfl
  go_wp2_with fail
  clear q1
  refine (idxge_any AK B nK cK m d (w.heap.size + 1) ks key y HX.out HY.out (by omega) hmm HS.out BG.out).mono ?_
  rintro e y1 ⟨he, hd1⟩
  have BX1 := Lib.hid (((hd1.below y.heap.size).block _ (lt_of_heap BX.out)).trans BX.out); have BG1 := Lib.hid (((hd1.below y.heap.size).block _ (lt_of_heap BG.out)).trans BG.out)
  have HX1 := Lib.hid (HX.out.keep (hd1.below _)); have HY1 := Lib.hid (HY.out.keep (hd1.below _)); have HB1 := Lib.hid (HB.out.trans ((hd1.below _).mono HB.out.size))
  clear hd1 BX BG HX HY HB
  rcases he with ⟨hlt, rfl⟩ | ⟨hall, rfl⟩
  · obtain ⟨kk, HKK⟩ : ∃ kk, Hid (fdN key ks = kk) := ⟨_, rfl⟩
    rw [HKK.out] at hlt ⊢
    obtain ⟨b, off, A1, n1, c1, xs, rfl, hbl, hcl, hxs, hnc, HXK⟩ := HX1.out.at_ hlt
    have hn1 : n1 ≤ maxLen := by rw [← hxs.len]; exact HS.out _ (List.mem_of_getElem? HXK.out)
    have HXS := Lib.hid hxs; have HCL := Lib.hid hcl
    obtain ⟨r, HR⟩ : ∃ r, Hid (cmpL xs key = r) := ⟨_, rfl⟩
    have HF : Hid (decide (r = 0) = fdB key ks) := Lib.hid (by
      have hk : fdN key ks = kk := HKK.out
      have gen : ∀ (l : List (List Int)) (j : Nat), fdN key l = j → l[j]? = some xs → fdB key l = decide (cmpL xs key = 0) := by
        intro l
        induction l with
        | nil => intro j _ h; simp at h
        | cons z l ih =>
          intro j hj h
          by_cases hz : 0 ≤ cmpL z key
          · simp only [fdN, if_pos hz] at hj; subst hj
            simp at h; subst h
            simp [fdB, hz]
          · simp only [fdN, if_neg hz] at hj; subst hj
            simp only [List.getElem?_cons_succ] at h
            simp only [fdB, if_neg hz]
            exact ih _ rfl h
      rw [gen ks kk hk HXK.out, HR.out])
    have z0 : (0 : Int) ≤ (kk : Int) := by omega
    have z1 : (kk : Int) < (nK : Int) := by omega
    have z2 : ¬ (kk : Int) < 0 := by omega
    clear hcl hxs hnc
    go_upto_region 4 with fail
    have BXd : Hid (y1.drew.heap[w.heap.size]? = some (.cells (ndV lf (some ⟨b, off, none⟩) nK cK AV nV cV AD nD cD) 70 (0, 0))) := BX1; have BGd : Hid (y1.drew.heap[w.heap.size + 1]? = some (.cells #[.slice B m d] 28 (0, 0))) := BG1; have CLd : Hid (y1.drew.cell? ⟨b, off + kk, none⟩ = some (.slice A1 n1 c1)) := HCL; have HXSd : Hid (Bs y1.drew A1 n1 xs) := HXS; have HYd : Hid (Bs y1.drew B m key) := HY1; have HBd := Lib.hid (HB1.out.trans ((Dr.refl y1).one.below _)); have hbd : b < y1.drew.heap.size := hbl
    refine wp_region_held_drew (S := fun w' => w'.cell? ⟨w.heap.size, 1, none⟩ = some (.slice (some ⟨b, off, none⟩) nK cK) ∧ w'.cell? ⟨w.heap.size + 1, 0, none⟩ = some (.slice B m d) ∧ w'.cell? ⟨b, off + kk, none⟩ = some (.slice A1 n1 c1)) (by kernel_rfl) ⟨rc_cell 1 _ BXd.out rfl, rc_cell 0 _ BGd.out rfl, CLd.out⟩ (fun hH0 => ?_)
    generalize y1.drew = yd at *
    refine wpAnyH_take (i := 0) (oi := { dst := some 16, op := Op.move (Operand.tmp 6), type := 3, pos := _, after := #[], guard := none }) (v := ?vf1_0) rfl (by kernel_rfl) (by kernel_rfl) (by kernel_rfl) (fun _ _ _ h => h) (Or.inl ⟨by rfl, ?yf1_0⟩) hH0 ?rf1_0
    case yf1_0 => (intro w hSw; (try dsimp only at hSw); go_simp; try (with_reducible rfl))
    try simp only [Act.put, List.setIfInBounds_toArray, List.set_cons_zero, List.set_cons_succ]
    refine wpAnyH_take (i := 1) (oi := { dst := some 17, op := Op.fieldAddr 70 (Operand.tmp 2) 1, type := 0, pos := _, after := #[], guard := none }) (v := ?vf1_1) rfl (by kernel_rfl) (by kernel_rfl) (by kernel_rfl) (fun _ _ _ h => h) (Or.inl ⟨by rfl, ?yf1_1⟩) hH0 ?rf1_1
    case yf1_1 => (intro w hSw; (try dsimp only at hSw); go_simp; try (with_reducible rfl))
    try simp only [Act.put, List.setIfInBounds_toArray, List.set_cons_zero, List.set_cons_succ]
    refine wpAnyH_take (i := 2) (oi := { dst := some 18, op := Op.load 62 (Operand.tmp 17), type := 62, pos := _, after := #[{ on := 1, ground := Ground.data }], guard := none }) (v := ?vf1_2) rfl (by kernel_rfl) (by kernel_rfl) (by kernel_rfl) (fun _ _ _ h => h) (Or.inl ⟨by rfl, ?yf1_2⟩) hH0 ?rf1_2
    case yf1_2 => (intro w hSw; (try dsimp only at hSw); go_simp; try (with_reducible rfl))
    try simp only [Act.put, List.setIfInBounds_toArray, List.set_cons_zero, List.set_cons_succ]
    refine wpAnyH_take (i := 3) (oi := { dst := some 19, op := Op.move (Operand.tmp 6), type := 3, pos := _, after := #[], guard := none }) (v := ?vf1_3) rfl (by kernel_rfl) (by kernel_rfl) (by kernel_rfl) (fun _ _ _ h => h) (Or.inl ⟨by rfl, ?yf1_3⟩) hH0 ?rf1_3
    case yf1_3 => (intro w hSw; (try dsimp only at hSw); go_simp; try (with_reducible rfl))
    try simp only [Act.put, List.setIfInBounds_toArray, List.set_cons_zero, List.set_cons_succ]
    refine wpAnyH_take (i := 4) (oi := { dst := some 20, op := Op.indexAddr 62 (Operand.tmp 18) (Operand.tmp 19), type := 0, pos := _, after := #[{ on := 2, ground := Ground.data }, { on := 3, ground := Ground.data }], guard := none }) (v := ?vf1_4) rfl (by kernel_rfl) (by kernel_rfl) (by kernel_rfl) (fun _ _ _ h => h) (Or.inl ⟨by rfl, ?yf1_4⟩) hH0 ?rf1_4
    case yf1_4 => (intro w hSw; (try dsimp only at hSw); go_simp; try (with_reducible rfl))
    try simp only [Act.put, List.setIfInBounds_toArray, List.set_cons_zero, List.set_cons_succ]
    refine wpAnyH_take (i := 5) (oi := { dst := some 21, op := Op.load 28 (Operand.tmp 20), type := 28, pos := _, after := #[{ on := 4, ground := Ground.data }], guard := none }) (v := ?vf1_5) rfl (by kernel_rfl) (by kernel_rfl) (by kernel_rfl) (fun _ _ _ h => h) (Or.inl ⟨by rfl, ?yf1_5⟩) hH0 ?rf1_5
    case yf1_5 => (intro w hSw; (try dsimp only at hSw); go_simp; try (with_reducible rfl))
    try simp only [Act.put, List.setIfInBounds_toArray, List.set_cons_zero, List.set_cons_succ]
    refine wpAnyH_take (i := 6) (oi := { dst := some 22, op := Op.load 28 (Operand.tmp 3), type := 28, pos := _, after := #[], guard := none }) (v := ?vf1_6) rfl (by kernel_rfl) (by kernel_rfl) (by kernel_rfl) (fun _ _ _ h => h) (Or.inl ⟨by rfl, ?yf1_6⟩) hH0 ?rf1_6
    case yf1_6 => (intro w hSw; (try dsimp only at hSw); go_simp; try (with_reducible rfl))
    try simp only [Act.put, List.setIfInBounds_toArray, List.set_cons_zero, List.set_cons_succ]
    refine wpAnyH_ready (rs := [7]) (by kernel_rfl) (by simp) ?_
    refine (AllReadyH.cons (o := { dst := some 23, op := Op.call { callee := Callee.value (Operand.func 91), args := #[Operand.tmp 21, Operand.tmp 22], argTypes := #[28, 28] }, type := 3, pos := _, after := #[{ on := 5, ground := Ground.data }, { on := 6, ground := Ground.data }], guard := none }) rfl (fun K hK => ?_) AllReadyH.nil)
    go_simp
    refine (compare_is A1 B n1 m c1 d xs key r HR.out yd HXSd.out HYd.out hn1 hmm).mono ?_
    rintro e y2 ⟨rfl, hd2⟩
    have BX2 := Lib.hid (((hd2.below yd.heap.size).block _ (lt_of_heap BXd.out)).trans BXd.out); have BG2 := Lib.hid (((hd2.below yd.heap.size).block _ (lt_of_heap BGd.out)).trans BGd.out); have CL2 := Lib.hid (cell_keep (hd2.below yd.heap.size) CLd.out); have HB2 := Lib.hid (HBd.out.trans ((hd2.below yd.heap.size).mono HBd.out.size))
    clear hd2
    go_wp2_with fail
    refine hK.out _ _ ⟨rc_cell 1 _ BX2.out rfl, rc_cell 0 _ BG2.out rfl, CL2.out⟩ (fun hH2 => ?_)
    clear hK K
    try simp only [Act.put, List.setIfInBounds_toArray, List.set_cons_zero, List.set_cons_succ]
    refine wpAnyH_take (i := 8) (oi := { dst := some 24, op := Op.binOp BinOp.eql 3 (Operand.tmp 23) (Operand.const (Value.int IntKind.i64 0)) 3, type := 4, pos := _, after := #[{ on := 7, ground := Ground.data }, { on := 9, ground := Ground.gcOnly Departure.lateStores }], guard := none }) (v := ?vf3_8) rfl (by kernel_rfl) (by kernel_rfl) (by kernel_rfl) (fun _ _ _ h => h) (Or.inl ⟨by rfl, ?yf3_8⟩) hH2 ?rf3_8
    case yf3_8 => (intro w hSw; (try dsimp only at hSw); go_simp; try (with_reducible rfl))
    try simp only [Act.put, List.setIfInBounds_toArray, List.set_cons_zero, List.set_cons_succ]
    refine wpAnyH_take (i := 9) (oi := { dst := some 4, op := Op.assign (Operand.tmp 16), type := 3, pos := _, after := #[{ on := 0, ground := Ground.data }, { on := 7, ground := Ground.chain }, { on := 0, ground := Ground.phase }, { on := 1, ground := Ground.textOnly Departure.lateStores }, { on := 2, ground := Ground.textOnly Departure.lateStores }, { on := 3, ground := Ground.textOnly Departure.lateStores }, { on := 4, ground := Ground.textOnly Departure.lateStores }, { on := 5, ground := Ground.textOnly Departure.lateStores }, { on := 6, ground := Ground.textOnly Departure.lateStores }, { on := 7, ground := Ground.textOnly Departure.lateStoresUnsure }, { on := 8, ground := Ground.textOnly Departure.lateStores }], guard := none }) (v := ?vf3_9) rfl (by kernel_rfl) (by kernel_rfl) (by kernel_rfl) (fun _ _ _ h => h) (Or.inl ⟨by rfl, ?yf3_9⟩) hH2 ?rf3_9
    case yf3_9 => (intro w hSw; (try dsimp only at hSw); go_simp; try (with_reducible rfl))
    try simp only [Act.put, List.setIfInBounds_toArray, List.set_cons_zero, List.set_cons_succ]
    refine wpAnyH_take (i := 10) (oi := { dst := some 5, op := Op.assign (Operand.tmp 24), type := 4, pos := _, after := #[{ on := 8, ground := Ground.data }, { on := 9, ground := Ground.chain }, { on := 0, ground := Ground.phase }, { on := 1, ground := Ground.phase }, { on := 2, ground := Ground.phase }, { on := 3, ground := Ground.phase }, { on := 4, ground := Ground.phase }, { on := 5, ground := Ground.phase }, { on := 6, ground := Ground.phase }, { on := 7, ground := Ground.phase }, { on := 8, ground := Ground.phase }, { on := 9, ground := Ground.phase }], guard := none }) (v := ?vf3_10) rfl (by kernel_rfl) (by kernel_rfl) (by kernel_rfl) (fun _ _ _ h => h) (Or.inl ⟨by rfl, ?yf3_10⟩) hH2 ?rf3_10
    case yf3_10 => (intro w hSw; (try dsimp only at hSw); go_simp; try (with_reducible rfl))
    try simp only [Act.put, List.setIfInBounds_toArray, List.set_cons_zero, List.set_cons_succ]
    refine wpAnyH_done (by kernel_rfl) ?_ _
    go_wp2
    go_ret2
    exact ⟨by rw [HKK.out, ← HF.out]; first | rfl | simp, HB2.out⟩
  · have HF : Hid (fdB key ks = false) := Lib.hid (fd_none (by rw [HL.out]; exact hall))
    have q1 := rc_cell 1 (.slice AK nK cK) BX1.out rfl
    go_wp2
    go_ret2
    exact ⟨by rw [HF.out, hall]; rfl, HB1.out⟩
set_option maxRecDepth 100000 in
set_option maxHeartbeats 4000000 in
theorem rfind_any (lf : Bool) (AK : Option Addr) (nK cK : Nat) (AV : Option Addr) (nV cV : Nat) (AD : Option Addr) (nD cD : Nat) (ks : List (List Int)) (B : Option Addr) (m d : Nat) (key : List Int) (w : World) (hx : Bss w AK nK ks) (hy : Bs w B m key) (bK : nK ≤ 1048576) (hm : m ≤ 1048576) (hs : ∀ xs ∈ ks, xs.length ≤ 1048576) :
    Calls Try.prog 43 #[.agg (ndV lf AK nK cK AV nV cV AD nD cD), .slice B m d] w fun e w' => e = .returned (.tuple #[.int .i64 ((fdN key ks : Nat) : Int), .bool (fdB key ks)]) ∧ Below w.heap.size w w' := by
  have HB := Lib.hid (below_alloc w (.cells (ndV lf AK nK cK AV nV cV AD nD cD) 66))
  have BX := Lib.hid (heap_alloc_new w (.cells (ndV lf AK nK cK AV nV cV AD nD cD) 66))
  have HX := Lib.hid (hx.keep HB.out); have HY := Lib.hid (hy.keep HB.out); have HL := Lib.hid hx.len
  have HS : Hid (∀ xs ∈ ks, xs.length ≤ maxLen) := Lib.hid (fun x hx => Nat.le_trans (hs x hx) (by unfold maxLen; omega))
  have hmm : m ≤ maxLen := by unfold maxLen; omega
  clear hx hy hs
  go_enter Try.func43, Try.ntmps43
  go_upto_region 1 with fail
  generalize w.alloc (.cells (ndV lf AK nK cK AV nV cV AD nD cD) 66) = y at *
  go_wp2_with fail
  go_loopw [6] (fun iv wr => ∃ kk q : Nat, iv = .int .i64 (kk : Int) ∧ wr = y.drewN q ∧ kk ≤ nK ∧ Hid (fdN key (ks.take kk) = kk)) (fun iv _ => nK - (intOf iv).toNat)
  case atStart => exact ⟨0, 0, rfl, rfl, Nat.zero_le _, Lib.hid rfl⟩
  case round =>
    obtain ⟨kk, qd, rfl, rfl, hk, HA⟩ := hrel
    have BXq : Hid ((y.drewN qd).heap[w.heap.size]? = some (.cells (ndV lf AK nK cK AV nV cV AD nD cD) 66 (0, 0))) := BX
    have q1 := rc_cell 1 (.slice AK nK cK) BXq.out rfl
    by_cases hlt : kk < nK
    · obtain ⟨b, off, A1, n1, c1, xs, rfl, hbl, hcl, hxs, hnc, HXK⟩ := HX.out.at_ hlt
      have hn1 : n1 ≤ maxLen := by rw [← hxs.len]; exact HS.out _ (List.mem_of_getElem? HXK.out)
      have HXS := Lib.hid hxs
      have q2 : (y.drewN qd).cell? ⟨b, off + kk, none⟩ = some (.slice A1 n1 c1) := hcl
      have z0 : (0 : Int) ≤ (kk : Int) := by omega
      have z1 : (kk : Int) < (nK : Int) := by omega
      obtain ⟨r, HR⟩ : ∃ r, Hid (cmpL xs key = r) := ⟨_, rfl⟩
      clear hcl hxs hnc
      go_wp2_with fail
      refine (cmp_is A1 B n1 m c1 d xs key r HR.out (y.drewN qd) (HXS.out.n qd) (HY.out.n qd) hn1 hmm).mono ?_
      rintro e w2 ⟨rfl, q3, rfl⟩
      clear q1 q2
      rw [World.drewN_drewN]
      by_cases hge : 0 ≤ r
      · have h2 := fd_hit HXK.out HA.out (by rw [HR.out]; exact hge)
        rw [HR.out] at h2
        have HR1 := Lib.hid h2.1; have HR2 := Lib.hid h2.2
        have HBE := Lib.hid (below_n HB.out (qd + q3))
        clear h2
        go_wp2
        go_ret2
        exact ⟨by rw [HR1.out, HR2.out]; first | rfl | simp, HBE.out⟩
      · have HR1 := Lib.hid (fd_step HXK.out HA.out (by rw [HR.out]; exact hge))
        go_wp2
        go_roundw
        case rel => exact ⟨kk + 1, qd + q3, by go_num, rfl, by omega, HR1⟩
        case measure => simp [intOf]; omega
    · obtain rfl : nK = kk := by omega
      have HR1 : Hid (fdN key ks = nK) := Lib.hid (by have := HA.out; rw [List.take_of_length_le (by rw [HL.out]; exact Nat.le_refl _)] at this; exact this)
      have HR2 : Hid (fdB key ks = false) := Lib.hid (fd_none (by rw [HL.out]; exact HR1.out))
      have HBE := Lib.hid (below_n HB.out qd)
      go_wp2
      go_ret2
      exact ⟨by rw [HR1.out, HR2.out]; first | rfl | simp, HBE.out⟩
end Go.Proofs.Ytmjjbfcblmmipaa
