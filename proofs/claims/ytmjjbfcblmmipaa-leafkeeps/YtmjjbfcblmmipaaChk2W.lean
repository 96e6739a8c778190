/- leaf.Check, whole. -/
import Derived.Test.YtmjjbfcblmmipaaJoinN
namespace Go.Proofs.Ytmjjbfcblmmipaa
set_option linter.unusedVariables false
set_option linter.unusedSimpArgs false
open Go.RowKit
abbrev longF (g : Nat) : Value := .func (.func 80) #[] #[.pointer (some ⟨g, 0, none⟩)]
theorem longer_any (A : Option Addr) (n c m g : Nat) (w : World) (hg : w.heap[g]? = some (.cells #[.int .i64 (m : Int)] 3 (0, 0))) :
    Calls Try.prog 80 #[.slice A n c, .pointer (some ⟨g, 0, none⟩)] w fun e w' => e = .returned (.bool (decide (m < n))) ∧ w = w' := by
  have q := rc_cell 0 (.int .i64 (m : Int)) hg rfl
  go_enter Try.func80, Try.ntmps80
  go_wp2
  go_ret
  exact ⟨ret_bool (by simp), rfl⟩
theorem mklong_any (m : Nat) (w : World) :
    Calls Try.prog 79 #[.int .i64 (m : Int)] w fun e w' => e = .returned (longF w.heap.size) ∧ w' = w.alloc (.cells #[.int .i64 (m : Int)] 3) := by
  go_enter Try.func79, Try.ntmps79
  go_wp2
  go_ret
  exact ⟨rfl, rfl⟩
set_option maxHeartbeats 2000000 in
theorem idxlong_any (A : Option Addr) (n c m g : Nat) (xss : List (List Int)) (w : World) (hx : Bss w A n xss) (hn : n ≤ 100000000) (hg : w.heap[g]? = some (.cells #[.int .i64 (m : Int)] 3 (0, 0))) :
    Calls Try.prog 89 #[.slice A n c, longF g] w fun e w' => (∃ r : Int, e = .returned (.int .i64 r) ∧ Hid (decide ((0 : Int) ≤ r) = anyL m xss)) ∧ w = w' := by
  have HX := Lib.hid hx; have HL := Lib.hid hx.len; have HG := Lib.hid hg
  clear hx hg
  go_enter Try.func89, Try.ntmps89
  go_wp2_with fail
  go_loop [8] (fun iv => ∃ kk : Nat, iv = .int .i64 (kk : Int) ∧ kk ≤ n ∧ Hid (anyL m (xss.take kk) = false)) (fun iv => n - (intOf iv).toNat)
  case atStart => exact ⟨0, rfl, Nat.zero_le _, Lib.hid (by simp [anyL])⟩
  case round =>
    obtain ⟨kk, rfl, hk, HA⟩ := hrel
    by_cases hlt : kk < n
    · obtain ⟨b, off, A', n', c', xs, rfl, hbl, hcl, hxs, hnc, HXK⟩ := HX.out.at_ hlt
      have HNL := Lib.hid hxs.len
      have z0 : (0 : Int) ≤ (kk : Int) := by omega
      have z1 : (kk : Int) < (n : Int) := by omega
      clear hxs
      go_wp2_with fail
      refine (longer_any A' n' c' m g _ HG.out).mono ?_
      rintro e w2 ⟨rfl, rfl⟩
      by_cases hg : m < n'
      · have hd : decide (m < n') = true := by simp [hg]
        have HR := Lib.hid (anyL_hit HXK.out (by rw [HNL.out]; exact hg))
        clear hg
        go_wp2
        go_ret
        exact ⟨⟨_, rfl, Lib.hid (by rw [HR.out]; simp)⟩, rfl⟩
      · have hd : decide (m < n') = false := by simp [hg]
        have HR := Lib.hid (anyL_step HXK.out (by rw [HNL.out]; exact hg) HA.out)
        clear hg
        go_wp2
        go_round
        case rel => exact ⟨kk + 1, by go_num, by omega, HR⟩
        case measure => simp [intOf]; omega
    · obtain rfl : n = kk := by omega
      have HR : Hid (anyL m xss = false) := Lib.hid (by have := HA.out; rw [List.take_of_length_le (by rw [HL.out]; exact Nat.le_refl _)] at this; exact this)
      go_wp2
      go_ret
      exact ⟨⟨_, rfl, Lib.hid (by rw [HR.out]; rfl)⟩, rfl⟩
theorem haslong_any (A : Option Addr) (n c m g : Nat) (xss : List (List Int)) (v : Bool) (hv : anyL m xss = v) (w : World) (hx : Bss w A n xss) (hn : n ≤ 100000000) (hg : w.heap[g]? = some (.cells #[.int .i64 (m : Int)] 3 (0, 0))) :
    Calls Try.prog 81 #[.slice A n c, longF g] w fun e w' => e = .returned (.bool v) ∧ w = w' := by
  have HV := Lib.hid hv; clear hv
  go_enter Try.func81, Try.ntmps81
  go_wp2_with fail
  refine (idxlong_any A n c m g xss w hx hn hg).mono ?_
  rintro e w2 ⟨⟨r, rfl, HR⟩, rfl⟩
  clear hx hg
  go_wp2
  go_ret
  exact ⟨ret_bool (by rw [HR.out, HV.out]), rfl⟩
theorem badkid_any (x : Int) (w : World) :
    Calls Try.prog 84 #[.int .i64 x] w fun e w' => e = .returned (.bool (decide (x < 0) || decide (65535 < x))) ∧ w = w' := by
  by_cases h1 : x < 0
  · have hd : decide (x < 0) = true := by simp [h1]
    go_enter Try.func84, Try.ntmps84
    go_wp2
    go_ret
    exact ⟨ret_bool (by first | rfl | (rw [hd]; rfl)), rfl⟩
  · have hd : decide (x < 0) = false := by simp [h1]
    go_enter Try.func84, Try.ntmps84
    go_wp2
    go_ret
    exact ⟨ret_bool (by first | rfl | (rw [hd]; simp)), rfl⟩
set_option maxHeartbeats 2000000 in
theorem idxkid_any (A : Option Addr) (n c : Nat) (xs : List Int) (w : World) (hx : Ins w A n xs) (hn : n ≤ 100000000) :
    Calls Try.prog 125 #[.slice A n c, .func (.func 84) #[] #[]] w fun e w' => (∃ r : Int, e = .returned (.int .i64 r) ∧ Hid (decide ((0 : Int) ≤ r) = dsB xs)) ∧ w = w' := by
  have HX := Lib.hid hx; have HL := Lib.hid hx.len
  clear hx
  go_enter Try.func125, Try.ntmps125
  go_wp2_with fail
  go_loop [8] (fun iv => ∃ kk : Nat, iv = .int .i64 (kk : Int) ∧ kk ≤ n ∧ Hid (dsB (xs.take kk) = false)) (fun iv => n - (intOf iv).toNat)
  case atStart => exact ⟨0, rfl, Nat.zero_le _, Lib.hid (by simp [dsB])⟩
  case round =>
    obtain ⟨kk, rfl, hk, HA⟩ := hrel
    by_cases hlt : kk < n
    · obtain ⟨b, off, x, rfl, hbl, hx1, hx2, hcl, HXK⟩ := HX.out.get hlt
      have z0 : (0 : Int) ≤ (kk : Int) := by omega
      have z1 : (kk : Int) < (n : Int) := by omega
      go_wp2_with fail
      refine (badkid_any x _).mono ?_
      rintro e w2 ⟨rfl, rfl⟩
      by_cases hg : x < 0 ∨ 65535 < x
      · have hd : (decide (x < 0) || decide (65535 < x)) = true := by simpa using hg
        have HR := Lib.hid (dsB_hit HXK.out hg)
        rw [hd]
        clear hg hd
        go_wp2
        go_ret
        exact ⟨⟨_, rfl, Lib.hid (by rw [HR.out]; simp)⟩, rfl⟩
      · have hd : (decide (x < 0) || decide (65535 < x)) = false := by simp; omega
        have HR := Lib.hid (dsB_step HXK.out (by omega) (by omega) HA.out)
        rw [hd]
        clear hg hd
        go_wp2
        go_round
        case rel => exact ⟨kk + 1, by go_num, by omega, HR⟩
        case measure => simp [intOf]; omega
    · obtain rfl : n = kk := by omega
      have HR : Hid (dsB xs = false) := Lib.hid (by have := HA.out; rw [List.take_of_length_le (by rw [HL.out]; exact Nat.le_refl _)] at this; exact this)
      go_wp2
      go_ret
      exact ⟨⟨_, rfl, Lib.hid (by rw [HR.out]; rfl)⟩, rfl⟩
theorem haskid_any (A : Option Addr) (n c : Nat) (xs : List Int) (v : Bool) (hv : dsB xs = v) (w : World) (hx : Ins w A n xs) (hn : n ≤ 100000000) :
    Calls Try.prog 83 #[.slice A n c, .func (.func 84) #[] #[]] w fun e w' => e = .returned (.bool v) ∧ w = w' := by
  have HV := Lib.hid hv; clear hv
  go_enter Try.func83, Try.ntmps83
  go_wp2_with fail
  refine (idxkid_any A n c xs w hx hn).mono ?_
  rintro e w2 ⟨⟨r, rfl, HR⟩, rfl⟩
  clear hx
  go_wp2
  go_ret
  exact ⟨ret_bool (by rw [HR.out, HV.out]), rfl⟩
theorem compare_is (A B : Option Addr) (n m c d : Nat) (xs ys : List Int) (r : Int) (hr : cmpL xs ys = r) (w : World) (hx : Bs w A n xs) (hy : Bs w B m ys) (hn : n ≤ maxLen) (hm : m ≤ maxLen) :
    Calls Try.prog 91 #[.slice A n c, .slice B m d] w fun e w' => e = .returned (.int .i64 r) ∧ Dr w w' := by rw [← hr]; exact compare_any A B n m c d xs ys w hx hy hn hm
set_option maxRecDepth 100000 in
set_option maxHeartbeats 4000000 in
theorem rising_any (A : Option Addr) (n c : Nat) (xss : List (List Int)) (w : World) (hx : Bss w A n xss) (hn : n ≤ 100000000) (hs : ∀ xs ∈ xss, xs.length ≤ maxLen) :
    Calls Try.prog 82 #[.slice A n c] w fun e w' => e = .returned (.bool (risB xss)) ∧ Dr w w' := by
  have HX := Lib.hid hx; have HL := Lib.hid hx.len; have HS := Lib.hid hs
  clear hx hs
  go_enter Try.func82, Try.ntmps82
  go_wp2_with fail
  go_loopw [3] (fun iv wr => ∃ kk q : Nat, iv = .int .i64 (kk : Int) ∧ wr = w.drewN q ∧ 1 ≤ kk ∧ (kk ≤ n ∨ kk = 1) ∧ Hid (∀ j a b, j + 1 < kk → xss[j]? = some a → xss[j + 1]? = some b → cmpL a b < 0)) (fun iv _ => n - (intOf iv).toNat)
  case atStart => exact ⟨1, 0, rfl, rfl, Nat.le_refl _, .inr rfl, Lib.hid (fun j a b h => by omega)⟩
  case round =>
    obtain ⟨kk, q, rfl, rfl, hk1, hk, HA⟩ := hrel
    by_cases hlt : kk < n
    · obtain ⟨b, off, A1, n1, c1, xs, hA, hbl, hcl, hxs, hnc, HXK⟩ := HX.out.at_ (k := kk - 1) (by omega)
      obtain ⟨b2, off2, A2, n2, c2, ys, hA2, hbl2, hcl2, hys, hnc2, HYK⟩ := HX.out.at_ hlt
      subst hA
      injection hA2 with hE
      injection hE with e1 e2 _
      subst e1 e2
      obtain ⟨j, rfl⟩ : ∃ j, kk = j + 1 := ⟨kk - 1, by omega⟩
      rw [show j + 1 - 1 = j by omega] at hcl HXK
      have hcl' : (w.drewN q).cell? ⟨b, off + j, none⟩ = some (.slice A1 n1 c1) := hcl
      have hcl2' : (w.drewN q).cell? ⟨b, off + (j + 1), none⟩ = some (.slice A2 n2 c2) := hcl2
      have l1 : n1 ≤ maxLen := by rw [← hxs.len]; exact HS.out _ (List.mem_of_getElem? HXK.out)
      have l2 : n2 ≤ maxLen := by rw [← hys.len]; exact HS.out _ (List.mem_of_getElem? HYK.out)
      have HXS := Lib.hid hxs; have HYS := Lib.hid hys
      clear hxs hys hnc hnc2
      have hw1 : IntKind.i64.wrap (((j + 1 : Nat) : Int) - 1) = (j : Int) := by rw [show (((j + 1 : Nat) : Int)) - 1 = (j : Int) by omega]; exact IntWalk.i64_in _ (by omega)
      have hw2 : IntKind.i64.wrap (((j : Int) + 1) - 1) = (j : Int) := by rw [show ((j : Int) + 1) - 1 = (j : Int) by omega]; exact IntWalk.i64_in _ (by omega)
      have z0 : (0 : Int) ≤ (j : Int) := by omega
      have z1 : (j : Int) < (n : Int) := by omega
      have z2 : (0 : Int) ≤ ((j + 1 : Nat) : Int) := by omega
      have z3 : ((j + 1 : Nat) : Int) < (n : Int) := by omega
      obtain ⟨r, HR⟩ : ∃ r : Int, Hid (cmpL xs ys = r) := ⟨_, rfl⟩
      go_wp2
      go_quiet ((go_at_call 91; first | with_reducible exact draw_call_add (compare_is A1 A2 n1 n2 c1 c2 xs ys r HR.out _ (HXS.out.n _) (HYS.out.n _) l1 l2) | with_reducible exact draw_call (compare_is A1 A2 n1 n2 c1 c2 xs ys r HR.out _ (HXS.out.n _) (HYS.out.n _) l1 l2)))
      by_cases hr : 0 ≤ r
      · have hd : decide ((0 : Int) ≤ r) = true := by simp; omega
        have HE := Lib.hid (risB_hit HXK.out HYK.out (by rw [HR.out]; omega))
        go_wp2
        go_ret
        exact ⟨ret_bool (by rw [HE.out]), (Dr.refl _).n _ |>.n _⟩
      · have hd : decide ((0 : Int) ≤ r) = false := by simp; omega
        have HA2 := Lib.hid (fun i a b (h : i + 1 < j + 1 + 1) ha hb => if hi : i + 1 < j + 1 then HA.out i a b hi ha hb else by
          obtain rfl : i = j := by omega
          rw [HXK.out] at ha; rw [HYK.out] at hb
          injection ha with ha; injection hb with hb
          subst ha hb
          rw [HR.out]; omega)
        go_wp2
        go_roundw
        case rel => exact ⟨j + 1 + 1, _, by go_num, rfl, by omega, .inl (by omega), HA2⟩
        case measure => simp [intOf]; omega
    · have HRI : Hid (risB xss = true) := Lib.hid (risB_all (fun j a b ha hb => HA.out j a b (by have := (List.getElem?_eq_some_iff.1 hb).1; have := HL.out; omega) ha hb))
      clear HA hk hk1
      go_wp2
      go_ret
      exact ⟨ret_bool (by rw [HRI.out]), (Dr.refl _).n _⟩
end Go.Proofs.Ytmjjbfcblmmipaa
namespace Go.Proofs.Ytmjjbfcblmmipaa
set_option linter.unusedVariables false
set_option linter.unusedSimpArgs false
open Go.RowKit
theorem chk_is {lf : Bool} {ks vs : List (List Int)} {ds : List Int} (h : (anyL 64 ks || anyL 128 vs) = false) : chkN lf ks vs ds = if (!risB ks || dsB ds || badF lf ks.length vs.length ds.length) = true then 3 else 0 := by
  unfold chkN; rw [h]; rfl
set_option maxRecDepth 100000 in
set_option maxHeartbeats 8000000 in
theorem check_any (lf : Bool) (AK : Option Addr) (nK cK : Nat) (AV : Option Addr) (nV cV : Nat) (AD : Option Addr) (nD cD : Nat) (ks vs : List (List Int)) (ds : List Int) (w : World) (hx : Bss w AK nK ks) (hy : Bss w AV nV vs) (hz : Ins w AD nD ds)
    (bK : nK ≤ 1048576) (bV : nV ≤ 1048576) (bD : nD ≤ 1048576) (sK : ∀ xs ∈ ks, xs.length ≤ maxLen) :
    Calls Try.prog 35 #[.agg (ndV lf AK nK cK AV nV cV AD nD cD)] w fun e w' => e = .returned (.int .i64 ((chkN lf ks vs ds : Nat) : Int)) ∧ Below w.heap.size w w' := by
  have hb1 := below_alloc w (.cells (ndV lf AK nK cK AV nV cV AD nD cD) 70)
  have HK := Lib.hid hx; have HV := Lib.hid hy; have HD := Lib.hid hz
  have HLK := Lib.hid hx.len; have HLV := Lib.hid hy.len; have HLD := Lib.hid hz.len; have HSK := Lib.hid sK
  have BX := Lib.hid (heap_alloc_new w (.cells (ndV lf AK nK cK AV nV cV AD nD cD) 70))
  have HB := Lib.hid hb1
  obtain ⟨r, HR⟩ : ∃ r : Nat, Hid (chkN lf ks vs ds = r) := ⟨_, rfl⟩
  rw [HR.out]
  clear hx hy hz hb1 sK
  go_enter Try.func35, Try.ntmps35
  go_upto_region 2 with fail
  generalize w.alloc (.cells (ndV lf AK nK cK AV nV cV AD nD cD) 70) = y at *
  go_cut [17] from 6 (fun p wx => p = .bool (anyL 64 ks || anyL 128 vs) ∧ Hid (wx.heap[w.heap.size]? = some (.cells (ndV lf AK nK cK AV nV cV AD nD cD) 70 (0, 0))) ∧ Hid (Below w.heap.size w wx))
  case first =>
    have BXd : Hid (y.drew.heap[w.heap.size]? = some (.cells (ndV lf AK nK cK AV nV cV AD nD cD) 70 (0, 0))) := BX
    have HBd := Lib.hid (HB.out.trans ((Dr.refl y).one.below _))
    cases h1 : anyL 64 ks with
    | true =>
      have HT1 := Lib.hid h1; clear h1
      refine wp_region_held_drew (S := fun w' => w'.cell? ⟨w.heap.size, 1, none⟩ = some (.slice AK nK cK) ∧ w'.cell? ⟨w.heap.size, 2, none⟩ = some (.slice AV nV cV)) (by kernel_rfl) ⟨rc_cell 1 _ BXd.out rfl, rc_cell 2 _ BXd.out rfl⟩ (fun hH0 => ?_)
      generalize y.drew = yd at *
      refine wpAnyH_take (i := 0) (oi := { dst := some 6, op := Op.fieldAddr 70 (Operand.tmp 1) 1, type := 0, pos := _, after := #[], guard := none }) (v := ?vctn1_0) rfl (by kernel_rfl) (by kernel_rfl) (by kernel_rfl) (fun _ _ _ h => h) (Or.inl ⟨by rfl, ?yctn1_0⟩) hH0 ?rctn1_0
      case yctn1_0 => (intro w hSw; (try dsimp only at hSw); go_simp; try (with_reducible rfl))
      try simp only [Act.put, List.setIfInBounds_toArray, List.set_cons_zero, List.set_cons_succ]
      refine wpAnyH_take (i := 1) (oi := { dst := some 7, op := Op.load 62 (Operand.tmp 6), type := 62, pos := _, after := #[{ on := 0, ground := Ground.data }], guard := none }) (v := ?vctn1_1) rfl (by kernel_rfl) (by kernel_rfl) (by kernel_rfl) (fun _ _ _ h => h) (Or.inl ⟨by rfl, ?yctn1_1⟩) hH0 ?rctn1_1
      case yctn1_1 => (intro w hSw; (try dsimp only at hSw); go_simp; try (with_reducible rfl))
      try simp only [Act.put, List.setIfInBounds_toArray, List.set_cons_zero, List.set_cons_succ]
      refine wpAnyH_take (i := 2) (oi := { dst := some 8, op := Op.move (Operand.tmp 3), type := 129, pos := _, after := #[], guard := none }) (v := ?vctn1_2) rfl (by kernel_rfl) (by kernel_rfl) (by kernel_rfl) (fun _ _ _ h => h) (Or.inl ⟨by rfl, ?yctn1_2⟩) hH0 ?rctn1_2
      case yctn1_2 => (intro w hSw; (try dsimp only at hSw); go_simp; try (with_reducible rfl))
      try simp only [Act.put, List.setIfInBounds_toArray, List.set_cons_zero, List.set_cons_succ]
      refine wpAnyH_ready (rs := [3]) (by kernel_rfl) (by simp) ?_
      refine (AllReadyH.cons (o := { dst := some 9, op := Op.call { callee := Callee.value (Operand.tmp 8), args := #[Operand.const (Value.int IntKind.i64 64)], argTypes := #[3] }, type := 47, pos := _, after := #[{ on := 2, ground := Ground.data }], guard := none }) rfl (fun K hK => ?_) AllReadyH.nil)
      go_simp
      refine (mklong_any 64 yd).mono ?_
      rintro e x2 ⟨rfl, rfl⟩
      have hb2 := below_alloc yd (.cells #[.int .i64 ((64 : Nat) : Int)] 3)
      have BX2 := Lib.hid ((hb2.block _ (lt_of_heap BXd.out)).trans BXd.out); have HB2 := Lib.hid (HBd.out.trans (hb2.mono HBd.out.size))
      have M1 := Lib.hid (heap_alloc_new yd (.cells #[.int .i64 ((64 : Nat) : Int)] 3))
      clear hb2
      go_wp2_with fail
      refine hK.out _ _ ⟨rc_cell 1 _ BX2.out rfl, rc_cell 2 _ BX2.out rfl⟩ (fun hH2 => ?_)
      clear hK K
      try simp only [Act.put, List.setIfInBounds_toArray, List.set_cons_zero, List.set_cons_succ]
      generalize yd.alloc (.cells #[.int .i64 ((64 : Nat) : Int)] 3) = y2 at *
      generalize yd.heap.size = gM1 at *
      refine wpAnyH_ready (rs := [4]) (by kernel_rfl) (by simp) ?_
      refine (AllReadyH.cons (o := { dst := some 10, op := Op.call { callee := Callee.value (Operand.func 81), args := #[Operand.tmp 7, Operand.tmp 9], argTypes := #[62, 47] }, type := 4, pos := _, after := #[{ on := 1, ground := Ground.data }, { on := 3, ground := Ground.data }, { on := 3, ground := Ground.chain }], guard := none }) rfl (fun K hK => ?_) AllReadyH.nil)
      go_simp
      refine (haslong_any AK nK cK 64 gM1 ks true HT1.out y2 (HK.out.keep HB2.out) (by omega) M1.out).mono ?_
      rintro e x4 ⟨rfl, rfl⟩
      go_wp2_with fail
      refine hK.out _ _ ⟨rc_cell 1 _ BX2.out rfl, rc_cell 2 _ BX2.out rfl⟩ (fun hH4 => ?_)
      clear hK K
      try simp only [Act.put, List.setIfInBounds_toArray, List.set_cons_zero, List.set_cons_succ]
      refine wpAnyH_take (i := 5) (oi := { dst := some 11, op := Op.move (Operand.tmp 10), type := 4, pos := _, after := #[{ on := 4, ground := Ground.data }, { on := 4, ground := Ground.chain }], guard := none }) (v := ?vctn5_5) rfl (by kernel_rfl) (by kernel_rfl) (by kernel_rfl) (fun _ _ _ h => h) (Or.inl ⟨by rfl, ?yctn5_5⟩) hH4 ?rctn5_5
      case yctn5_5 => (intro w hSw; (try dsimp only at hSw); go_simp; try (with_reducible rfl))
      try simp only [Act.put, List.setIfInBounds_toArray, List.set_cons_zero, List.set_cons_succ]
      refine wpAnyH_take (i := 6) (oi := { dst := some 12, op := Op.fieldAddr 70 (Operand.tmp 1) 2, type := 0, pos := _, after := #[{ on := 5, ground := Ground.guard }], guard := some (5, false) }) (v := undef) rfl (by kernel_rfl) (by kernel_rfl) (by kernel_rfl) (fun _ _ _ h => h) (Or.inr ⟨by rfl, rfl⟩) hH4 ?_
      try simp only [Act.put, List.setIfInBounds_toArray, List.set_cons_zero, List.set_cons_succ]
      refine wpAnyH_take (i := 7) (oi := { dst := some 13, op := Op.load 62 (Operand.tmp 12), type := 62, pos := _, after := #[{ on := 6, ground := Ground.data }, { on := 5, ground := Ground.guard }], guard := some (5, false) }) (v := undef) rfl (by kernel_rfl) (by kernel_rfl) (by kernel_rfl) (fun _ _ _ h => h) (Or.inr ⟨by rfl, rfl⟩) hH4 ?_
      try simp only [Act.put, List.setIfInBounds_toArray, List.set_cons_zero, List.set_cons_succ]
      refine wpAnyH_take (i := 8) (oi := { dst := some 14, op := Op.move (Operand.tmp 3), type := 129, pos := _, after := #[{ on := 5, ground := Ground.guard }], guard := some (5, false) }) (v := undef) rfl (by kernel_rfl) (by kernel_rfl) (by kernel_rfl) (fun _ _ _ h => h) (Or.inr ⟨by rfl, rfl⟩) hH4 ?_
      try simp only [Act.put, List.setIfInBounds_toArray, List.set_cons_zero, List.set_cons_succ]
      refine wpAnyH_take (i := 9) (oi := { dst := some 15, op := Op.call { callee := Callee.value (Operand.tmp 14), args := #[Operand.const (Value.int IntKind.i64 128)], argTypes := #[3] }, type := 47, pos := _, after := #[{ on := 8, ground := Ground.data }, { on := 5, ground := Ground.chain }, { on := 5, ground := Ground.guard }], guard := some (5, false) }) (v := undef) rfl (by kernel_rfl) (by kernel_rfl) (by kernel_rfl) (fun _ _ _ h => h) (Or.inr ⟨by rfl, rfl⟩) hH4 ?_
      try simp only [Act.put, List.setIfInBounds_toArray, List.set_cons_zero, List.set_cons_succ]
      refine wpAnyH_take (i := 10) (oi := { dst := some 16, op := Op.call { callee := Callee.value (Operand.func 81), args := #[Operand.tmp 13, Operand.tmp 15], argTypes := #[62, 47] }, type := 4, pos := _, after := #[{ on := 7, ground := Ground.data }, { on := 9, ground := Ground.data }, { on := 9, ground := Ground.chain }, { on := 5, ground := Ground.guard }], guard := some (5, false) }) (v := undef) rfl (by kernel_rfl) (by kernel_rfl) (by kernel_rfl) (fun _ _ _ h => h) (Or.inr ⟨by rfl, rfl⟩) hH4 ?_
      try simp only [Act.put, List.setIfInBounds_toArray, List.set_cons_zero, List.set_cons_succ]
      refine wpAnyH_take (i := 11) (oi := { dst := some 17, op := Op.pick (Operand.tmp 11) (Operand.const (Value.bool true)) (Operand.tmp 16), type := 4, pos := _, after := #[{ on := 5, ground := Ground.data }, { on := 10, ground := Ground.data }], guard := none }) (v := ?vctn5_11) rfl (by kernel_rfl) (by kernel_rfl) (by kernel_rfl) (fun _ _ _ h => h) (Or.inl ⟨by rfl, ?yctn5_11⟩) hH4 ?rctn5_11
      case yctn5_11 => (intro w hSw; (try dsimp only at hSw); go_simp; try (with_reducible rfl))
      try simp only [Act.put, List.setIfInBounds_toArray, List.set_cons_zero, List.set_cons_succ]
      refine wpAnyH_done (by kernel_rfl) ?_ _
      go_wp2_with fail
      go_meet
      case rel => exact ⟨by rw [HT1.out]; rfl, BX2, HB2⟩
    | false =>
      have HT1 := Lib.hid h1; clear h1
      cases h2 : anyL 128 vs with
      | true =>
        have HT2 := Lib.hid h2; clear h2
        refine wp_region_held_drew (S := fun w' => w'.cell? ⟨w.heap.size, 1, none⟩ = some (.slice AK nK cK) ∧ w'.cell? ⟨w.heap.size, 2, none⟩ = some (.slice AV nV cV)) (by kernel_rfl) ⟨rc_cell 1 _ BXd.out rfl, rc_cell 2 _ BXd.out rfl⟩ (fun hH0 => ?_)
        generalize y.drew = yd at *
        refine wpAnyH_take (i := 0) (oi := { dst := some 6, op := Op.fieldAddr 70 (Operand.tmp 1) 1, type := 0, pos := _, after := #[], guard := none }) (v := ?vcft1_0) rfl (by kernel_rfl) (by kernel_rfl) (by kernel_rfl) (fun _ _ _ h => h) (Or.inl ⟨by rfl, ?ycft1_0⟩) hH0 ?rcft1_0
        case ycft1_0 => (intro w hSw; (try dsimp only at hSw); go_simp; try (with_reducible rfl))
        try simp only [Act.put, List.setIfInBounds_toArray, List.set_cons_zero, List.set_cons_succ]
        refine wpAnyH_take (i := 1) (oi := { dst := some 7, op := Op.load 62 (Operand.tmp 6), type := 62, pos := _, after := #[{ on := 0, ground := Ground.data }], guard := none }) (v := ?vcft1_1) rfl (by kernel_rfl) (by kernel_rfl) (by kernel_rfl) (fun _ _ _ h => h) (Or.inl ⟨by rfl, ?ycft1_1⟩) hH0 ?rcft1_1
        case ycft1_1 => (intro w hSw; (try dsimp only at hSw); go_simp; try (with_reducible rfl))
        try simp only [Act.put, List.setIfInBounds_toArray, List.set_cons_zero, List.set_cons_succ]
        refine wpAnyH_take (i := 2) (oi := { dst := some 8, op := Op.move (Operand.tmp 3), type := 129, pos := _, after := #[], guard := none }) (v := ?vcft1_2) rfl (by kernel_rfl) (by kernel_rfl) (by kernel_rfl) (fun _ _ _ h => h) (Or.inl ⟨by rfl, ?ycft1_2⟩) hH0 ?rcft1_2
        case ycft1_2 => (intro w hSw; (try dsimp only at hSw); go_simp; try (with_reducible rfl))
        try simp only [Act.put, List.setIfInBounds_toArray, List.set_cons_zero, List.set_cons_succ]
        refine wpAnyH_ready (rs := [3]) (by kernel_rfl) (by simp) ?_
        refine (AllReadyH.cons (o := { dst := some 9, op := Op.call { callee := Callee.value (Operand.tmp 8), args := #[Operand.const (Value.int IntKind.i64 64)], argTypes := #[3] }, type := 47, pos := _, after := #[{ on := 2, ground := Ground.data }], guard := none }) rfl (fun K hK => ?_) AllReadyH.nil)
        go_simp
        refine (mklong_any 64 yd).mono ?_
        rintro e x2 ⟨rfl, rfl⟩
        have hb2 := below_alloc yd (.cells #[.int .i64 ((64 : Nat) : Int)] 3)
        have BX2 := Lib.hid ((hb2.block _ (lt_of_heap BXd.out)).trans BXd.out); have HB2 := Lib.hid (HBd.out.trans (hb2.mono HBd.out.size))
        have M1 := Lib.hid (heap_alloc_new yd (.cells #[.int .i64 ((64 : Nat) : Int)] 3))
        clear hb2
        go_wp2_with fail
        refine hK.out _ _ ⟨rc_cell 1 _ BX2.out rfl, rc_cell 2 _ BX2.out rfl⟩ (fun hH2 => ?_)
        clear hK K
        try simp only [Act.put, List.setIfInBounds_toArray, List.set_cons_zero, List.set_cons_succ]
        generalize yd.alloc (.cells #[.int .i64 ((64 : Nat) : Int)] 3) = y2 at *
        generalize yd.heap.size = gM1 at *
        refine wpAnyH_ready (rs := [4]) (by kernel_rfl) (by simp) ?_
        refine (AllReadyH.cons (o := { dst := some 10, op := Op.call { callee := Callee.value (Operand.func 81), args := #[Operand.tmp 7, Operand.tmp 9], argTypes := #[62, 47] }, type := 4, pos := _, after := #[{ on := 1, ground := Ground.data }, { on := 3, ground := Ground.data }, { on := 3, ground := Ground.chain }], guard := none }) rfl (fun K hK => ?_) AllReadyH.nil)
        go_simp
        refine (haslong_any AK nK cK 64 gM1 ks false HT1.out y2 (HK.out.keep HB2.out) (by omega) M1.out).mono ?_
        rintro e x4 ⟨rfl, rfl⟩
        go_wp2_with fail
        refine hK.out _ _ ⟨rc_cell 1 _ BX2.out rfl, rc_cell 2 _ BX2.out rfl⟩ (fun hH4 => ?_)
        clear hK K
        try simp only [Act.put, List.setIfInBounds_toArray, List.set_cons_zero, List.set_cons_succ]
        refine wpAnyH_take (i := 5) (oi := { dst := some 11, op := Op.move (Operand.tmp 10), type := 4, pos := _, after := #[{ on := 4, ground := Ground.data }, { on := 4, ground := Ground.chain }], guard := none }) (v := ?vcft5_5) rfl (by kernel_rfl) (by kernel_rfl) (by kernel_rfl) (fun _ _ _ h => h) (Or.inl ⟨by rfl, ?ycft5_5⟩) hH4 ?rcft5_5
        case ycft5_5 => (intro w hSw; (try dsimp only at hSw); go_simp; try (with_reducible rfl))
        try simp only [Act.put, List.setIfInBounds_toArray, List.set_cons_zero, List.set_cons_succ]
        refine wpAnyH_take (i := 6) (oi := { dst := some 12, op := Op.fieldAddr 70 (Operand.tmp 1) 2, type := 0, pos := _, after := #[{ on := 5, ground := Ground.guard }], guard := some (5, false) }) (v := ?vcft5_6) rfl (by kernel_rfl) (by kernel_rfl) (by kernel_rfl) (fun _ _ _ h => h) (Or.inl ⟨by rfl, ?ycft5_6⟩) hH4 ?rcft5_6
        case ycft5_6 => (intro w hSw; (try dsimp only at hSw); go_simp; try (with_reducible rfl))
        try simp only [Act.put, List.setIfInBounds_toArray, List.set_cons_zero, List.set_cons_succ]
        refine wpAnyH_take (i := 7) (oi := { dst := some 13, op := Op.load 62 (Operand.tmp 12), type := 62, pos := _, after := #[{ on := 6, ground := Ground.data }, { on := 5, ground := Ground.guard }], guard := some (5, false) }) (v := ?vcft5_7) rfl (by kernel_rfl) (by kernel_rfl) (by kernel_rfl) (fun _ _ _ h => h) (Or.inl ⟨by rfl, ?ycft5_7⟩) hH4 ?rcft5_7
        case ycft5_7 => (intro w hSw; (try dsimp only at hSw); go_simp; try (with_reducible rfl))
        try simp only [Act.put, List.setIfInBounds_toArray, List.set_cons_zero, List.set_cons_succ]
        refine wpAnyH_take (i := 8) (oi := { dst := some 14, op := Op.move (Operand.tmp 3), type := 129, pos := _, after := #[{ on := 5, ground := Ground.guard }], guard := some (5, false) }) (v := ?vcft5_8) rfl (by kernel_rfl) (by kernel_rfl) (by kernel_rfl) (fun _ _ _ h => h) (Or.inl ⟨by rfl, ?ycft5_8⟩) hH4 ?rcft5_8
        case ycft5_8 => (intro w hSw; (try dsimp only at hSw); go_simp; try (with_reducible rfl))
        try simp only [Act.put, List.setIfInBounds_toArray, List.set_cons_zero, List.set_cons_succ]
        refine wpAnyH_ready (rs := [9]) (by kernel_rfl) (by simp) ?_
        refine (AllReadyH.cons (o := { dst := some 15, op := Op.call { callee := Callee.value (Operand.tmp 14), args := #[Operand.const (Value.int IntKind.i64 128)], argTypes := #[3] }, type := 47, pos := _, after := #[{ on := 8, ground := Ground.data }, { on := 5, ground := Ground.chain }, { on := 5, ground := Ground.guard }], guard := some (5, false) }) rfl (fun K hK => ?_) AllReadyH.nil)
        go_simp
        refine (mklong_any 128 y2).mono ?_
        rintro e x6 ⟨rfl, rfl⟩
        have hb6 := below_alloc y2 (.cells #[.int .i64 ((128 : Nat) : Int)] 3)
        have BX6 := Lib.hid ((hb6.block _ (lt_of_heap BX2.out)).trans BX2.out); have HB6 := Lib.hid (HB2.out.trans (hb6.mono HB2.out.size))
        have M2 := Lib.hid (heap_alloc_new y2 (.cells #[.int .i64 ((128 : Nat) : Int)] 3))
        clear hb6
        go_wp2_with fail
        refine hK.out _ _ ⟨rc_cell 1 _ BX6.out rfl, rc_cell 2 _ BX6.out rfl⟩ (fun hH6 => ?_)
        clear hK K
        try simp only [Act.put, List.setIfInBounds_toArray, List.set_cons_zero, List.set_cons_succ]
        generalize y2.alloc (.cells #[.int .i64 ((128 : Nat) : Int)] 3) = y6 at *
        generalize y2.heap.size = gM2 at *
        refine wpAnyH_ready (rs := [10]) (by kernel_rfl) (by simp) ?_
        refine (AllReadyH.cons (o := { dst := some 16, op := Op.call { callee := Callee.value (Operand.func 81), args := #[Operand.tmp 13, Operand.tmp 15], argTypes := #[62, 47] }, type := 4, pos := _, after := #[{ on := 7, ground := Ground.data }, { on := 9, ground := Ground.data }, { on := 9, ground := Ground.chain }, { on := 5, ground := Ground.guard }], guard := some (5, false) }) rfl (fun K hK => ?_) AllReadyH.nil)
        go_simp
        refine (haslong_any AV nV cV 128 gM2 vs true HT2.out y6 (HV.out.keep HB6.out) (by omega) M2.out).mono ?_
        rintro e x8 ⟨rfl, rfl⟩
        go_wp2_with fail
        refine hK.out _ _ ⟨rc_cell 1 _ BX6.out rfl, rc_cell 2 _ BX6.out rfl⟩ (fun hH8 => ?_)
        clear hK K
        try simp only [Act.put, List.setIfInBounds_toArray, List.set_cons_zero, List.set_cons_succ]
        refine wpAnyH_take (i := 11) (oi := { dst := some 17, op := Op.pick (Operand.tmp 11) (Operand.const (Value.bool true)) (Operand.tmp 16), type := 4, pos := _, after := #[{ on := 5, ground := Ground.data }, { on := 10, ground := Ground.data }], guard := none }) (v := ?vcft9_11) rfl (by kernel_rfl) (by kernel_rfl) (by kernel_rfl) (fun _ _ _ h => h) (Or.inl ⟨by rfl, ?ycft9_11⟩) hH8 ?rcft9_11
        case ycft9_11 => (intro w hSw; (try dsimp only at hSw); go_simp; try (with_reducible rfl))
        try simp only [Act.put, List.setIfInBounds_toArray, List.set_cons_zero, List.set_cons_succ]
        refine wpAnyH_done (by kernel_rfl) ?_ _
        go_wp2_with fail
        go_meet
        case rel => exact ⟨by rw [HT1.out, HT2.out]; rfl, BX6, HB6⟩
      | false =>
        have HT2 := Lib.hid h2; clear h2
        refine wp_region_held_drew (S := fun w' => w'.cell? ⟨w.heap.size, 1, none⟩ = some (.slice AK nK cK) ∧ w'.cell? ⟨w.heap.size, 2, none⟩ = some (.slice AV nV cV)) (by kernel_rfl) ⟨rc_cell 1 _ BXd.out rfl, rc_cell 2 _ BXd.out rfl⟩ (fun hH0 => ?_)
        generalize y.drew = yd at *
        refine wpAnyH_take (i := 0) (oi := { dst := some 6, op := Op.fieldAddr 70 (Operand.tmp 1) 1, type := 0, pos := _, after := #[], guard := none }) (v := ?vcff1_0) rfl (by kernel_rfl) (by kernel_rfl) (by kernel_rfl) (fun _ _ _ h => h) (Or.inl ⟨by rfl, ?ycff1_0⟩) hH0 ?rcff1_0
        case ycff1_0 => (intro w hSw; (try dsimp only at hSw); go_simp; try (with_reducible rfl))
        try simp only [Act.put, List.setIfInBounds_toArray, List.set_cons_zero, List.set_cons_succ]
        refine wpAnyH_take (i := 1) (oi := { dst := some 7, op := Op.load 62 (Operand.tmp 6), type := 62, pos := _, after := #[{ on := 0, ground := Ground.data }], guard := none }) (v := ?vcff1_1) rfl (by kernel_rfl) (by kernel_rfl) (by kernel_rfl) (fun _ _ _ h => h) (Or.inl ⟨by rfl, ?ycff1_1⟩) hH0 ?rcff1_1
        case ycff1_1 => (intro w hSw; (try dsimp only at hSw); go_simp; try (with_reducible rfl))
        try simp only [Act.put, List.setIfInBounds_toArray, List.set_cons_zero, List.set_cons_succ]
        refine wpAnyH_take (i := 2) (oi := { dst := some 8, op := Op.move (Operand.tmp 3), type := 129, pos := _, after := #[], guard := none }) (v := ?vcff1_2) rfl (by kernel_rfl) (by kernel_rfl) (by kernel_rfl) (fun _ _ _ h => h) (Or.inl ⟨by rfl, ?ycff1_2⟩) hH0 ?rcff1_2
        case ycff1_2 => (intro w hSw; (try dsimp only at hSw); go_simp; try (with_reducible rfl))
        try simp only [Act.put, List.setIfInBounds_toArray, List.set_cons_zero, List.set_cons_succ]
        refine wpAnyH_ready (rs := [3]) (by kernel_rfl) (by simp) ?_
        refine (AllReadyH.cons (o := { dst := some 9, op := Op.call { callee := Callee.value (Operand.tmp 8), args := #[Operand.const (Value.int IntKind.i64 64)], argTypes := #[3] }, type := 47, pos := _, after := #[{ on := 2, ground := Ground.data }], guard := none }) rfl (fun K hK => ?_) AllReadyH.nil)
        go_simp
        refine (mklong_any 64 yd).mono ?_
        rintro e x2 ⟨rfl, rfl⟩
        have hb2 := below_alloc yd (.cells #[.int .i64 ((64 : Nat) : Int)] 3)
        have BX2 := Lib.hid ((hb2.block _ (lt_of_heap BXd.out)).trans BXd.out); have HB2 := Lib.hid (HBd.out.trans (hb2.mono HBd.out.size))
        have M1 := Lib.hid (heap_alloc_new yd (.cells #[.int .i64 ((64 : Nat) : Int)] 3))
        clear hb2
        go_wp2_with fail
        refine hK.out _ _ ⟨rc_cell 1 _ BX2.out rfl, rc_cell 2 _ BX2.out rfl⟩ (fun hH2 => ?_)
        clear hK K
        try simp only [Act.put, List.setIfInBounds_toArray, List.set_cons_zero, List.set_cons_succ]
        generalize yd.alloc (.cells #[.int .i64 ((64 : Nat) : Int)] 3) = y2 at *
        generalize yd.heap.size = gM1 at *
        refine wpAnyH_ready (rs := [4]) (by kernel_rfl) (by simp) ?_
        refine (AllReadyH.cons (o := { dst := some 10, op := Op.call { callee := Callee.value (Operand.func 81), args := #[Operand.tmp 7, Operand.tmp 9], argTypes := #[62, 47] }, type := 4, pos := _, after := #[{ on := 1, ground := Ground.data }, { on := 3, ground := Ground.data }, { on := 3, ground := Ground.chain }], guard := none }) rfl (fun K hK => ?_) AllReadyH.nil)
        go_simp
        refine (haslong_any AK nK cK 64 gM1 ks false HT1.out y2 (HK.out.keep HB2.out) (by omega) M1.out).mono ?_
        rintro e x4 ⟨rfl, rfl⟩
        go_wp2_with fail
        refine hK.out _ _ ⟨rc_cell 1 _ BX2.out rfl, rc_cell 2 _ BX2.out rfl⟩ (fun hH4 => ?_)
        clear hK K
        try simp only [Act.put, List.setIfInBounds_toArray, List.set_cons_zero, List.set_cons_succ]
        refine wpAnyH_take (i := 5) (oi := { dst := some 11, op := Op.move (Operand.tmp 10), type := 4, pos := _, after := #[{ on := 4, ground := Ground.data }, { on := 4, ground := Ground.chain }], guard := none }) (v := ?vcff5_5) rfl (by kernel_rfl) (by kernel_rfl) (by kernel_rfl) (fun _ _ _ h => h) (Or.inl ⟨by rfl, ?ycff5_5⟩) hH4 ?rcff5_5
        case ycff5_5 => (intro w hSw; (try dsimp only at hSw); go_simp; try (with_reducible rfl))
        try simp only [Act.put, List.setIfInBounds_toArray, List.set_cons_zero, List.set_cons_succ]
        refine wpAnyH_take (i := 6) (oi := { dst := some 12, op := Op.fieldAddr 70 (Operand.tmp 1) 2, type := 0, pos := _, after := #[{ on := 5, ground := Ground.guard }], guard := some (5, false) }) (v := ?vcff5_6) rfl (by kernel_rfl) (by kernel_rfl) (by kernel_rfl) (fun _ _ _ h => h) (Or.inl ⟨by rfl, ?ycff5_6⟩) hH4 ?rcff5_6
        case ycff5_6 => (intro w hSw; (try dsimp only at hSw); go_simp; try (with_reducible rfl))
        try simp only [Act.put, List.setIfInBounds_toArray, List.set_cons_zero, List.set_cons_succ]
        refine wpAnyH_take (i := 7) (oi := { dst := some 13, op := Op.load 62 (Operand.tmp 12), type := 62, pos := _, after := #[{ on := 6, ground := Ground.data }, { on := 5, ground := Ground.guard }], guard := some (5, false) }) (v := ?vcff5_7) rfl (by kernel_rfl) (by kernel_rfl) (by kernel_rfl) (fun _ _ _ h => h) (Or.inl ⟨by rfl, ?ycff5_7⟩) hH4 ?rcff5_7
        case ycff5_7 => (intro w hSw; (try dsimp only at hSw); go_simp; try (with_reducible rfl))
        try simp only [Act.put, List.setIfInBounds_toArray, List.set_cons_zero, List.set_cons_succ]
        refine wpAnyH_take (i := 8) (oi := { dst := some 14, op := Op.move (Operand.tmp 3), type := 129, pos := _, after := #[{ on := 5, ground := Ground.guard }], guard := some (5, false) }) (v := ?vcff5_8) rfl (by kernel_rfl) (by kernel_rfl) (by kernel_rfl) (fun _ _ _ h => h) (Or.inl ⟨by rfl, ?ycff5_8⟩) hH4 ?rcff5_8
        case ycff5_8 => (intro w hSw; (try dsimp only at hSw); go_simp; try (with_reducible rfl))
        try simp only [Act.put, List.setIfInBounds_toArray, List.set_cons_zero, List.set_cons_succ]
        refine wpAnyH_ready (rs := [9]) (by kernel_rfl) (by simp) ?_
        refine (AllReadyH.cons (o := { dst := some 15, op := Op.call { callee := Callee.value (Operand.tmp 14), args := #[Operand.const (Value.int IntKind.i64 128)], argTypes := #[3] }, type := 47, pos := _, after := #[{ on := 8, ground := Ground.data }, { on := 5, ground := Ground.chain }, { on := 5, ground := Ground.guard }], guard := some (5, false) }) rfl (fun K hK => ?_) AllReadyH.nil)
        go_simp
        refine (mklong_any 128 y2).mono ?_
        rintro e x6 ⟨rfl, rfl⟩
        have hb6 := below_alloc y2 (.cells #[.int .i64 ((128 : Nat) : Int)] 3)
        have BX6 := Lib.hid ((hb6.block _ (lt_of_heap BX2.out)).trans BX2.out); have HB6 := Lib.hid (HB2.out.trans (hb6.mono HB2.out.size))
        have M2 := Lib.hid (heap_alloc_new y2 (.cells #[.int .i64 ((128 : Nat) : Int)] 3))
        clear hb6
        go_wp2_with fail
        refine hK.out _ _ ⟨rc_cell 1 _ BX6.out rfl, rc_cell 2 _ BX6.out rfl⟩ (fun hH6 => ?_)
        clear hK K
        try simp only [Act.put, List.setIfInBounds_toArray, List.set_cons_zero, List.set_cons_succ]
        generalize y2.alloc (.cells #[.int .i64 ((128 : Nat) : Int)] 3) = y6 at *
        generalize y2.heap.size = gM2 at *
        refine wpAnyH_ready (rs := [10]) (by kernel_rfl) (by simp) ?_
        refine (AllReadyH.cons (o := { dst := some 16, op := Op.call { callee := Callee.value (Operand.func 81), args := #[Operand.tmp 13, Operand.tmp 15], argTypes := #[62, 47] }, type := 4, pos := _, after := #[{ on := 7, ground := Ground.data }, { on := 9, ground := Ground.data }, { on := 9, ground := Ground.chain }, { on := 5, ground := Ground.guard }], guard := some (5, false) }) rfl (fun K hK => ?_) AllReadyH.nil)
        go_simp
        refine (haslong_any AV nV cV 128 gM2 vs false HT2.out y6 (HV.out.keep HB6.out) (by omega) M2.out).mono ?_
        rintro e x8 ⟨rfl, rfl⟩
        go_wp2_with fail
        refine hK.out _ _ ⟨rc_cell 1 _ BX6.out rfl, rc_cell 2 _ BX6.out rfl⟩ (fun hH8 => ?_)
        clear hK K
        try simp only [Act.put, List.setIfInBounds_toArray, List.set_cons_zero, List.set_cons_succ]
        refine wpAnyH_take (i := 11) (oi := { dst := some 17, op := Op.pick (Operand.tmp 11) (Operand.const (Value.bool true)) (Operand.tmp 16), type := 4, pos := _, after := #[{ on := 5, ground := Ground.data }, { on := 10, ground := Ground.data }], guard := none }) (v := ?vcff9_11) rfl (by kernel_rfl) (by kernel_rfl) (by kernel_rfl) (fun _ _ _ h => h) (Or.inl ⟨by rfl, ?ycff9_11⟩) hH8 ?rcff9_11
        case ycff9_11 => (intro w hSw; (try dsimp only at hSw); go_simp; try (with_reducible rfl))
        try simp only [Act.put, List.setIfInBounds_toArray, List.set_cons_zero, List.set_cons_succ]
        refine wpAnyH_done (by kernel_rfl) ?_ _
        go_wp2_with fail
        go_meet
        case rel => exact ⟨by rw [HT1.out, HT2.out]; rfl, BX6, HB6⟩
  obtain ⟨rfl, BX1, HB1⟩ := hcut
  cases h1 : (anyL 64 ks || anyL 128 vs) with
  | true =>
    have HE : Hid (r = 2) := Lib.hid (by rw [← HR.out]; unfold chkN; rw [if_pos h1])
    clear h1
    go_wp2
    go_ret
    exact ⟨ret_int (by rw [HE.out]; rfl), HB1.out⟩
  | false =>
    have HA := Lib.hid h1; clear h1

    have hb1 := HB1.out.size
    cases lf with
    | true =>
      have q0 := rc_cell 0 (.bool true) BX1.out rfl; have q1 := rc_cell 1 (.slice AK nK cK) BX1.out rfl; have q2 := rc_cell 2 (.slice AV nV cV) BX1.out rfl; have q3 := rc_cell 3 (.slice AD nD cD) BX1.out rfl
      have hwk : IntKind.i64.wrap ((nK : Int) + 1) = (nK : Int) + 1 := IntWalk.i64_in _ (by omega)
      by_cases h1 : nV = nK
      · have d1 : ((nV : Int) != (nK : Int)) = false := by simp [h1]
        have HH1 := Lib.hid h1; clear h1
        by_cases h2 : nD = 0
        · have d2 : ((nD : Int) != 0) = false := by simp [h2]
          have HH2 := Lib.hid h2; clear h2
          have HBF : Hid (badF true ks.length vs.length ds.length = false) := Lib.hid (by have := HH1.out; have := HH2.out; rw [HLK.out, HLV.out, HLD.out]; unfold badF; simp; omega)
          go_wp2
          go_quiet (fail)
          go_wp2_with fail
          refine (rising_any AK nK cK ks _ ((HK.out.keep HB1.out).keep (((Dr.refl wc).n _).below _)) (by omega) HSK.out).mono ?_
          rintro e x9 ⟨rfl, q9, rfl⟩
          cases h3 : risB ks with
          | false =>
            have HE : Hid (r = 3) := Lib.hid (by rw [← HR.out, chk_is HA.out]; rw [h3]; rfl)
            clear h3
            go_wp2
            go_ret
            exact ⟨ret_int (by rw [HE.out]; rfl), HB1.out.trans ((((Dr.refl wc).n _).below _))⟩
          | true =>
            have HR3 := Lib.hid h3; clear h3
            go_wp2_with fail
            refine (haskid_any AD nD cD ds (dsB ds) rfl _ ((HD.out.keep HB1.out).keep (((Dr.refl wc).n _).below _)) (by omega)).mono ?_
            rintro e x10 ⟨rfl, rfl⟩
            cases h4 : dsB ds with
            | true =>
              have HE : Hid (r = 3) := Lib.hid (by rw [← HR.out, chk_is HA.out]; rw [h4]; simp)
              clear h4
              go_wp2
              go_ret
              exact ⟨ret_int (by rw [HE.out]; rfl), HB1.out.trans ((((Dr.refl wc).n _).below _))⟩
            | false =>
              have HE : Hid (r = 0) := Lib.hid (by rw [← HR.out, chk_is HA.out]; rw [h4, HR3.out, HBF.out]; rfl)
              clear h4
              go_wp2
              go_ret
              exact ⟨ret_int (by rw [HE.out]; rfl), HB1.out.trans ((((Dr.refl wc).n _).below _))⟩
        · have d2 : ((nD : Int) != 0) = true := by rw [bne_iff_ne]; omega
          have HE : Hid (r = 3) := Lib.hid (by rw [← HR.out, chk_is HA.out]; rw [show badF true ks.length vs.length ds.length = true by rw [HLK.out, HLV.out, HLD.out]; unfold badF; simp; omega]; simp)
          clear h2
          go_wp2
          go_quiet (fail)
          go_wp2
          go_ret
          exact ⟨ret_int (by rw [HE.out]; rfl), HB1.out.trans ((((Dr.refl wc).n _).below _))⟩
      · have d1 : ((nV : Int) != (nK : Int)) = true := by rw [bne_iff_ne]; omega
        have HE : Hid (r = 3) := Lib.hid (by rw [← HR.out, chk_is HA.out]; rw [show badF true ks.length vs.length ds.length = true by rw [HLK.out, HLV.out, HLD.out]; unfold badF; simp; omega]; simp)
        clear h1
        go_wp2
        go_quiet (fail)
        go_wp2
        go_ret
        exact ⟨ret_int (by rw [HE.out]; rfl), HB1.out.trans ((((Dr.refl wc).n _).below _))⟩
    | false =>
      have q0 := rc_cell 0 (.bool false) BX1.out rfl; have q1 := rc_cell 1 (.slice AK nK cK) BX1.out rfl; have q2 := rc_cell 2 (.slice AV nV cV) BX1.out rfl; have q3 := rc_cell 3 (.slice AD nD cD) BX1.out rfl
      have hwk : IntKind.i64.wrap ((nK : Int) + 1) = (nK : Int) + 1 := IntWalk.i64_in _ (by omega)
      by_cases h1 : nV = 0
      · have d1 : ((nV : Int) != 0) = false := by simp [h1]
        have HH1 := Lib.hid h1; clear h1
        by_cases h2 : nD = nK + 1
        · have d2 : ((nD : Int) != ((nK : Int) + 1)) = false := by simp [h2]
          have HH2 := Lib.hid h2; clear h2
          have HBF : Hid (badF false ks.length vs.length ds.length = false) := Lib.hid (by have := HH1.out; have := HH2.out; rw [HLK.out, HLV.out, HLD.out]; unfold badF; simp; omega)
          go_wp2
          go_quiet (fail)
          go_wp2_with fail
          refine (rising_any AK nK cK ks _ ((HK.out.keep HB1.out).keep (((Dr.refl wc).n _).below _)) (by omega) HSK.out).mono ?_
          rintro e x9 ⟨rfl, q9, rfl⟩
          cases h3 : risB ks with
          | false =>
            have HE : Hid (r = 3) := Lib.hid (by rw [← HR.out, chk_is HA.out]; rw [h3]; rfl)
            clear h3
            go_wp2
            go_ret
            exact ⟨ret_int (by rw [HE.out]; rfl), HB1.out.trans ((((Dr.refl wc).n _).below _))⟩
          | true =>
            have HR3 := Lib.hid h3; clear h3
            go_wp2_with fail
            refine (haskid_any AD nD cD ds (dsB ds) rfl _ ((HD.out.keep HB1.out).keep (((Dr.refl wc).n _).below _)) (by omega)).mono ?_
            rintro e x10 ⟨rfl, rfl⟩
            cases h4 : dsB ds with
            | true =>
              have HE : Hid (r = 3) := Lib.hid (by rw [← HR.out, chk_is HA.out]; rw [h4]; simp)
              clear h4
              go_wp2
              go_ret
              exact ⟨ret_int (by rw [HE.out]; rfl), HB1.out.trans ((((Dr.refl wc).n _).below _))⟩
            | false =>
              have HE : Hid (r = 0) := Lib.hid (by rw [← HR.out, chk_is HA.out]; rw [h4, HR3.out, HBF.out]; rfl)
              clear h4
              go_wp2
              go_ret
              exact ⟨ret_int (by rw [HE.out]; rfl), HB1.out.trans ((((Dr.refl wc).n _).below _))⟩
        · have d2 : ((nD : Int) != ((nK : Int) + 1)) = true := by rw [bne_iff_ne]; omega
          have HE : Hid (r = 3) := Lib.hid (by rw [← HR.out, chk_is HA.out]; rw [show badF false ks.length vs.length ds.length = true by rw [HLK.out, HLV.out, HLD.out]; unfold badF; simp; omega]; simp)
          clear h2
          go_wp2
          go_quiet (fail)
          go_wp2
          go_ret
          exact ⟨ret_int (by rw [HE.out]; rfl), HB1.out.trans ((((Dr.refl wc).n _).below _))⟩
      · have d1 : ((nV : Int) != 0) = true := by rw [bne_iff_ne]; omega
        have HE : Hid (r = 3) := Lib.hid (by rw [← HR.out, chk_is HA.out]; rw [show badF false ks.length vs.length ds.length = true by rw [HLK.out, HLV.out, HLD.out]; unfold badF; simp; omega]; simp)
        clear h1
        go_wp2
        go_quiet (fail)
        go_wp2
        go_ret
        exact ⟨ret_int (by rw [HE.out]; rfl), HB1.out.trans ((((Dr.refl wc).n _).below _))⟩
end Go.Proofs.Ytmjjbfcblmmipaa
