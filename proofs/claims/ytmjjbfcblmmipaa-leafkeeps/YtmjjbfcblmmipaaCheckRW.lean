/- The reference's Check of a node. -/
import Derived.Test.YtmjjbfcblmmipaaRSplitW
import Derived.IntWalk
import Derived.Deep.QuietTactic
import Derived.BigQuiet
namespace Go.Proofs.Ytmjjbfcblmmipaa
set_option linter.unusedVariables false
set_option linter.unusedSimpArgs false
open Go.RowKit

/-- One of the texts is longer. -/
def anyL (m : Nat) (l : List (List Int)) : Bool := l.any (fun x => decide (m < x.length))
theorem anyL_hit {m k : Nat} {l : List (List Int)} {x : List Int} (h : l[k]? = some x) (hx : m < x.length) : anyL m l = true := by
  unfold anyL
  rw [List.any_eq_true]
  exact ⟨x, List.mem_of_getElem? h, by simpa using hx⟩
theorem anyL_step {m k : Nat} {l : List (List Int)} {x : List Int} (h : l[k]? = some x) (hx : ¬ m < x.length) (ht : anyL m (l.take k) = false) : anyL m (l.take (k + 1)) = false := by
  unfold anyL at *
  rw [List.take_add_one, h, List.any_append, ht]
  simp; omega
theorem anyL_mem {m : Nat} {l : List (List Int)} (h : anyL m l = false) : ∀ x ∈ l, x.length ≤ m := by
  intro x hx
  unfold anyL at h
  rw [List.any_eq_false] at h
  have := h x hx
  simpa using this
/-- Each is below the next. -/
def risB : List (List Int) → Bool
  | a :: b :: r => decide (cmpL a b < 0) && risB (b :: r)
  | _ => true
theorem risB_hit : ∀ {l : List (List Int)} {j : Nat} {a b : List Int}, l[j]? = some a → l[j + 1]? = some b → ¬ cmpL a b < 0 → risB l = false := by
  intro l
  induction l with
  | nil => intro j a b h; simp at h
  | cons x l ih =>
    intro j a b h1 h2 h3
    cases l with
    | nil => simp at h2
    | cons y l =>
      cases j with
      | zero =>
        simp at h1 h2
        subst h1 h2
        unfold risB; simp [h3]
      | succ j =>
        have := ih (j := j) (a := a) (b := b) (by simpa using h1) (by simpa using h2) h3
        unfold risB; simp [this]
theorem risB_all : ∀ {l : List (List Int)}, (∀ j a b, l[j]? = some a → l[j + 1]? = some b → cmpL a b < 0) → risB l = true := by
  intro l
  induction l with
  | nil => intro _; rfl
  | cons x l ih =>
    intro h
    cases l with
    | nil => rfl
    | cons y l =>
      have h1 := h 0 x y rfl rfl
      have h2 := ih (fun j a b ha hb => h (j + 1) a b (by simpa using ha) (by simpa using hb))
      unfold risB; simp [h1, h2]
theorem risB_at {l : List (List Int)} {j : Nat} {a b : List Int} (h : risB l = true) (h1 : l[j]? = some a) (h2 : l[j + 1]? = some b) : cmpL a b < 0 := by
  apply Classical.byContradiction
  intro hc
  rw [risB_hit h1 h2 hc] at h
  cases h
/-- One of the numbers is none of a page. -/
def dsB (l : List Int) : Bool := l.any (fun d => decide (d < 0) || decide (65535 < d))
theorem dsB_hit {k : Nat} {l : List Int} {x : Int} (h : l[k]? = some x) (hx : x < 0 ∨ 65535 < x) : dsB l = true := by
  unfold dsB
  rw [List.any_eq_true]
  exact ⟨x, List.mem_of_getElem? h, by simpa using hx⟩
theorem dsB_step {k : Nat} {l : List Int} {x : Int} (h : l[k]? = some x) (h1 : ¬ x < 0) (h2 : ¬ 65535 < x) (ht : dsB (l.take k) = false) : dsB (l.take (k + 1)) = false := by
  unfold dsB at *
  rw [List.take_add_one, h, List.any_append, ht]
  simp; omega
theorem dsB_mem {l : List Int} (h : dsB l = false) : ∀ x ∈ l, 0 ≤ x ∧ x ≤ 65535 := by
  intro x hx
  unfold dsB at h
  rw [List.any_eq_false] at h
  have := h x hx
  simp at this
  exact this
/-- The lists don't fit together. -/
def badF (lf : Bool) (nK nV nD : Nat) : Bool := if lf then decide (nV ≠ nK) || decide (0 < nD) else decide (0 < nV) || decide (nD ≠ nK + 1)
/-- What Check answers. -/
def chkN (lf : Bool) (ks vs : List (List Int)) (ds : List Int) : Nat :=
  if anyL 64 ks || anyL 128 vs then 2 else if !risB ks || dsB ds || badF lf ks.length vs.length ds.length then 3 else 0
theorem chk_ok {lf : Bool} {ks vs : List (List Int)} {ds : List Int} (h : chkN lf ks vs ds = 0) : anyL 64 ks = false ∧ anyL 128 vs = false ∧ risB ks = true ∧ dsB ds = false ∧ badF lf ks.length vs.length ds.length = false := by
  unfold chkN at h
  split at h
  · cases h
  · rename_i h1
    split at h
    · cases h
    · rename_i h2
      simp at h1 h2
      exact ⟨h1.1, h1.2, h2.1.1, h2.1.2, h2.2⟩

theorem Ins.get {w : World} {A : Option Addr} {n k : Nat} {ls : List Int} (h : Ins w A n ls) (hk : k < n) : ∃ b off x, A = some ⟨b, off, none⟩ ∧ b < w.heap.size ∧ -9223372036854775808 ≤ x ∧ x ≤ 9223372036854775807 ∧ w.cell? ⟨b, off + k, none⟩ = some (.int .i64 x) ∧ Hid (ls[k]? = some x) := by
  obtain ⟨b, off, u, rfl, hb, hc, HU⟩ := h.1.at_ hk
  have hk' : k < ls.length := by have := h.len; omega
  have hx := h.2 ls[k] (List.getElem_mem hk')
  have hu := HU.out
  rw [List.getElem?_map, List.getElem?_eq_getElem hk'] at hu
  simp only [Option.map_some, Option.some.injEq] at hu
  subst hu
  exact ⟨b, off, ls[k], rfl, hb, hx.1, hx.2, hc, List.getElem?_eq_getElem hk'⟩
theorem cmp_is (A B : Option Addr) (n m c d : Nat) (xs ys : List Int) (r : Int) (hr : cmpL xs ys = r) (w : World) (hx : Bs w A n xs) (hy : Bs w B m ys) (hn : n ≤ maxLen) (hm : m ≤ maxLen) :
    Calls Try.prog 51 #[.slice A n c, .slice B m d] w fun e w' => e = .returned (.int .i64 r) ∧ Dr w w' := by rw [← hr]; exact cmp_any A B n m c d xs ys w hx hy hn hm
set_option maxRecDepth 100000 in
set_option maxHeartbeats 4000000 in
theorem rcheck_any (lf : Bool) (AK : Option Addr) (nK cK : Nat) (AV : Option Addr) (nV cV : Nat) (AD : Option Addr) (nD cD : Nat) (ks vs : List (List Int)) (ds : List Int) (w : World) (hx : Bss w AK nK ks) (hy : Bss w AV nV vs) (hz : Ins w AD nD ds)
    (bK : nK ≤ 100000) (bV : nV ≤ 100000) (bD : nD ≤ 100000) (sK : ∀ xs ∈ ks, xs.length ≤ maxLen) :
    Calls Try.prog 36 #[.agg (ndV lf AK nK cK AV nV cV AD nD cD)] w fun e w' => e = .returned (.int .i64 ((chkN lf ks vs ds : Nat) : Int)) ∧ Below w.heap.size w w' := by
  have hb1 := below_alloc w (.cells (ndV lf AK nK cK AV nV cV AD nD cD) 66)
  have HK := Lib.hid (hx.keep hb1); have HV := Lib.hid (hy.keep hb1); have HD := Lib.hid (hz.keep hb1)
  have HLK := Lib.hid hx.len; have HLV := Lib.hid hy.len; have HLD := Lib.hid hz.len
  have HSK := Lib.hid sK
  have HBX := Lib.hid (heap_alloc_new w (.cells (ndV lf AK nK cK AV nV cV AD nD cD) 66))
  have HB := Lib.hid hb1
  clear hx hy hz hb1 sK
  have q1 := rc_cell 1 (.slice AK nK cK) HBX.out rfl
  go_enter Try.func36, Try.ntmps36
  go_wp2_with fail
  clear q1
  generalize w.alloc (.cells (ndV lf AK nK cK AV nV cV AD nD cD) 66) = y at *
  go_loop [3] (fun iv => ∃ kk : Nat, iv = .int .i64 kk ∧ kk ≤ nK ∧ Hid (anyL 64 (ks.take kk) = false)) (fun iv => nK - (intOf iv).toNat)
  case atStart => exact ⟨0, rfl, Nat.zero_le _, Lib.hid (by simp [anyL])⟩
  case round =>
    obtain ⟨kk, rfl, hk, HA⟩ := hrel
    have q1 := rc_cell 1 (.slice AK nK cK) HBX.out rfl
    by_cases hlt : kk < nK
    · obtain ⟨b, off, A', n', c', xs, hA, hbl, hcl, hxs, hnc, HXK⟩ := HK.out.at_ hlt
      have HNL := Lib.hid hxs.len
      have z0 : (0 : Int) ≤ (kk : Int) := by omega
      have z1 : (kk : Int) < (nK : Int) := by omega
      rw [hA] at q1
      clear hA hxs
      by_cases hg : 64 < n'
      · have hd : decide ((64 : Int) < (n' : Int)) = true := by simp; omega
        have HR : Hid (chkN lf ks vs ds = 2) := Lib.hid (by unfold chkN; rw [anyL_hit HXK.out (by rw [HNL.out]; exact hg)]; rfl)
        go_wp2
        go_ret
        exact ⟨ret_int (by rw [HR.out]; rfl), HB.out⟩
      · have hd : decide ((64 : Int) < (n' : Int)) = false := by simp; omega
        have HA2 := Lib.hid (anyL_step HXK.out (by rw [HNL.out]; exact hg) HA.out)
        go_wp2
        go_round
        case rel => exact ⟨kk + 1, by go_num, by omega, HA2⟩
        case measure => simp [intOf]; omega
    · obtain rfl : nK = kk := by omega
      have HAK : Hid (anyL 64 ks = false) := Lib.hid (by have := HA.out; rw [List.take_of_length_le (by rw [HLK.out]; exact Nat.le_refl _)] at this; exact this)
      have q2 := rc_cell 2 (.slice AV nV cV) HBX.out rfl
      clear HA hlt hk
      go_wp2
      clear q1 q2
      go_loop [4] (fun iv => ∃ kk : Nat, iv = .int .i64 kk ∧ kk ≤ nV ∧ Hid (anyL 128 (vs.take kk) = false)) (fun iv => nV - (intOf iv).toNat)
      case atStart => exact ⟨0, rfl, Nat.zero_le _, Lib.hid (by simp [anyL])⟩
      case round =>
        obtain ⟨kk, rfl, hk, HA⟩ := hrel
        have q2 := rc_cell 2 (.slice AV nV cV) HBX.out rfl
        by_cases hlt : kk < nV
        · obtain ⟨b, off, A', n', c', xs, hA, hbl, hcl, hxs, hnc, HXK⟩ := HV.out.at_ hlt
          have HNL := Lib.hid hxs.len
          have z0 : (0 : Int) ≤ (kk : Int) := by omega
          have z1 : (kk : Int) < (nV : Int) := by omega
          rw [hA] at q2
          clear hA hxs
          by_cases hg : 128 < n'
          · have hd : decide ((128 : Int) < (n' : Int)) = true := by simp; omega
            have HR : Hid (chkN lf ks vs ds = 2) := Lib.hid (by unfold chkN; rw [anyL_hit HXK.out (by rw [HNL.out]; exact hg)]; simp)
            go_wp2
            go_ret
            exact ⟨ret_int (by rw [HR.out]; rfl), HB.out⟩
          · have hd : decide ((128 : Int) < (n' : Int)) = false := by simp; omega
            have HA2 := Lib.hid (anyL_step HXK.out (by rw [HNL.out]; exact hg) HA.out)
            go_wp2
            go_round
            case rel => exact ⟨kk + 1, by go_num, by omega, HA2⟩
            case measure => simp [intOf]; omega
        · obtain rfl : nV = kk := by omega
          have HAV : Hid (anyL 128 vs = false) := Lib.hid (by have := HA.out; rw [List.take_of_length_le (by rw [HLV.out]; exact Nat.le_refl _)] at this; exact this)
          have q1 := rc_cell 1 (.slice AK nK cK) HBX.out rfl
          clear HA hlt hk
          go_wp2
          clear q1 q2
          go_loopw [5] (fun iv wr => ∃ kk q : Nat, iv = .int .i64 (kk : Int) ∧ wr = y.drewN q ∧ 1 ≤ kk ∧ (kk ≤ nK ∨ kk = 1) ∧ Hid (∀ j a b, j + 1 < kk → ks[j]? = some a → ks[j + 1]? = some b → cmpL a b < 0)) (fun iv _ => nK - (intOf iv).toNat)
          case atStart => exact ⟨1, 0, rfl, rfl, Nat.le_refl _, .inr rfl, Lib.hid (fun j a b h => by omega)⟩
          case round =>
            obtain ⟨kk, q, rfl, rfl, hk1, hk, HA⟩ := hrel
            have HBXq : Hid ((y.drewN q).heap[w.heap.size]? = some (.cells (ndV lf AK nK cK AV nV cV AD nD cD) 66 (0, 0))) := HBX
            have q1 := rc_cell 1 (.slice AK nK cK) HBXq.out rfl
            by_cases hlt : kk < nK
            · obtain ⟨b, off, A1, n1, c1, xs, hA, hbl, hcl, hxs, hnc, HXK⟩ := HK.out.at_ (k := kk - 1) (by omega)
              obtain ⟨b2, off2, A2, n2, c2, ys, hA2, hbl2, hcl2, hys, hnc2, HYK⟩ := HK.out.at_ hlt
              have hE : (⟨b, off, none⟩ : Addr) = ⟨b2, off2, none⟩ := by rw [hA] at hA2; injection hA2
              injection hE with e1 e2 _
              subst e1 e2
              obtain ⟨j, rfl⟩ : ∃ j, kk = j + 1 := ⟨kk - 1, by omega⟩
              rw [show j + 1 - 1 = j by omega] at hcl HXK
              have hcl' : (y.drewN q).cell? ⟨b, off + j, none⟩ = some (.slice A1 n1 c1) := hcl
              have hcl2' : (y.drewN q).cell? ⟨b, off + (j + 1), none⟩ = some (.slice A2 n2 c2) := hcl2
              have l1 : n1 ≤ maxLen := by rw [← hxs.len]; exact HSK.out _ (List.mem_of_getElem? HXK.out)
              have l2 : n2 ≤ maxLen := by rw [← hys.len]; exact HSK.out _ (List.mem_of_getElem? HYK.out)
              have HXS := Lib.hid hxs; have HYS := Lib.hid hys
              rw [hA] at q1
              clear hA2 hxs hys hnc hnc2
              have q1y := rc_cell 1 (.slice AK nK cK) HBX.out rfl
              rw [hA] at q1y
              clear hA
              have hw1 : IntKind.i64.wrap (((j + 1 : Nat) : Int) - 1) = (j : Int) := by rw [show (((j + 1 : Nat) : Int)) - 1 = (j : Int) by omega]; exact IntWalk.i64_in _ (by omega)
              have hw2 : IntKind.i64.wrap (((j : Int) + 1) - 1) = (j : Int) := by rw [show ((j : Int) + 1) - 1 = (j : Int) by omega]; exact IntWalk.i64_in _ (by omega)
              have z0 : (0 : Int) ≤ (j : Int) := by omega
              have z1 : (j : Int) < (nK : Int) := by omega
              have z2 : (0 : Int) ≤ ((j + 1 : Nat) : Int) := by omega
              have z3 : ((j + 1 : Nat) : Int) < (nK : Int) := by omega
              obtain ⟨r, HR⟩ : ∃ r : Int, Hid (cmpL xs ys = r) := ⟨_, rfl⟩
              go_wp2
              go_quiet ((go_at_call 51; first | with_reducible exact draw_call_add (cmp_is A1 A2 n1 n2 c1 c2 xs ys r HR.out _ (HXS.out.n _) (HYS.out.n _) l1 l2) | with_reducible exact draw_call (cmp_is A1 A2 n1 n2 c1 c2 xs ys r HR.out _ (HXS.out.n _) (HYS.out.n _) l1 l2)))
              by_cases hr : 0 ≤ r
              · have hd : decide ((0 : Int) ≤ r) = true := by simp; omega
                have HE : Hid (chkN lf ks vs ds = 3) := Lib.hid (by unfold chkN; rw [HAK.out, HAV.out, risB_hit HXK.out HYK.out (by rw [HR.out]; omega)]; rfl)
                go_wp2
                go_ret
                exact ⟨ret_int (by rw [HE.out]; rfl), HB.out.trans (((Dr.refl _).n _ |>.n _).below _)⟩
              · have hd : decide ((0 : Int) ≤ r) = false := by simp; omega
                have HA2 := Lib.hid (fun i a b (h : i + 1 < j + 1 + 1) ha hb => if hi : i + 1 < j + 1 then HA.out i a b hi ha hb else by
                  obtain rfl : i = j := by omega
                  rw [HXK.out] at ha; rw [HYK.out] at hb
                  injection ha with ha; injection hb with hb
                  subst ha hb
                  rw [HR.out]; omega)
                go_wp2
                go_roundw
                case rel => exact ⟨j + 1 + 1, _, by go_num, rfl, by omega, .inl (by omega), HA2⟩
                case measure => simp [intOf]; omega
            · have HRI : Hid (risB ks = true) := Lib.hid (risB_all (fun j a b ha hb => HA.out j a b (by have := (List.getElem?_eq_some_iff.1 hb).1; have := HLK.out; omega) ha hb))
              have HLT := Lib.hid hlt
              have q3 := rc_cell 3 (.slice AD nD cD) HBXq.out rfl
              clear HA hk hk1
              go_wp2
              clear q1 q3
              have HDq : Hid (Ins (y.drewN q) AD nD ds) := Lib.hid (HD.out.keep (((Dr.refl _).n _).below _))
              have HBq : Hid (Below w.heap.size w (y.drewN q)) := Lib.hid (HB.out.trans (((Dr.refl _).n _).below _))
              generalize y.drewN q = z at *
              go_loop [6] (fun iv => ∃ kk : Nat, iv = .int .i64 (kk : Int) ∧ kk ≤ nD ∧ Hid (dsB (ds.take kk) = false)) (fun iv => nD - (intOf iv).toNat)
              case atStart => exact ⟨0, rfl, Nat.zero_le _, Lib.hid (by simp [dsB])⟩
              case round =>
                obtain ⟨kk, rfl, hk, HA⟩ := hrel
                have q3 := rc_cell 3 (.slice AD nD cD) HBXq.out rfl
                by_cases hlt : kk < nD
                · obtain ⟨b, off, x, hA, hbl, hx1, hx2, hcl, HXK⟩ := HDq.out.get hlt
                  have z0 : (0 : Int) ≤ (kk : Int) := by omega
                  have z1 : (kk : Int) < (nD : Int) := by omega
                  rw [hA] at q3
                  clear hA
                  by_cases g1 : x < 0
                  · have d1 : decide (x < 0) = true := by simp; omega
                    have HE : Hid (chkN lf ks vs ds = 3) := Lib.hid (by unfold chkN; rw [HAK.out, HAV.out, dsB_hit HXK.out (.inl g1)]; simp)
                    go_wp2
                    go_ret
                    exact ⟨ret_int (by rw [HE.out]; rfl), HBq.out⟩
                  · have d1 : decide (x < 0) = false := by simp; omega
                    by_cases g2 : 65535 < x
                    · have d2 : decide (65535 < x) = true := by simp; omega
                      have HE : Hid (chkN lf ks vs ds = 3) := Lib.hid (by unfold chkN; rw [HAK.out, HAV.out, dsB_hit HXK.out (.inr g2)]; simp)
                      go_wp2
                      go_ret
                      exact ⟨ret_int (by rw [HE.out]; rfl), HBq.out⟩
                    · have d2 : decide (65535 < x) = false := by simp; omega
                      have HA2 := Lib.hid (dsB_step HXK.out g1 g2 HA.out)
                      go_wp2
                      go_round
                      case rel => exact ⟨kk + 1, by go_num, by omega, HA2⟩
                      case measure => simp [intOf]; omega
                · obtain rfl : nD = kk := by omega
                  have HDT : Hid (dsB ds = false) := Lib.hid (by have := HA.out; rw [List.take_of_length_le (by rw [HLD.out]; exact Nat.le_refl _)] at this; exact this)
                  have r0 := rc_cell 0 (.bool lf) HBXq.out rfl; have r1 := rc_cell 1 (.slice AK nK cK) HBXq.out rfl; have r2 := rc_cell 2 (.slice AV nV cV) HBXq.out rfl
                  have hwn : IntKind.i64.wrap ((nD : Int) + 1) = (nD : Int) + 1 := IntWalk.i64_in _ (by omega)
                  have hwk : IntKind.i64.wrap ((nK : Int) + 1) = (nK : Int) + 1 := IntWalk.i64_in _ (by omega)
                  have HCH : ∀ v : Nat, badF lf nK nV nD = (v == 3) → (v = 0 ∨ v = 3) → chkN lf ks vs ds = v := by
                    intro v h1 h2
                    unfold chkN
                    rw [HAK.out, HAV.out, HRI.out, HDT.out, HLK.out, HLV.out, HLD.out, h1]
                    rcases h2 with rfl | rfl <;> rfl
                  have HCH2 := Lib.hid HCH; clear HCH HA hlt hk
                  cases lf with
                  | true =>
                    by_cases h1 : nV = nK
                    · have d1 : ((nV : Int) != (nK : Int)) = false := by simp [h1]
                      by_cases h2 : 0 < nD
                      · have d2 : decide ((0 : Int) < (nD : Int)) = true := by simp; omega
                        have HE : Hid (chkN true ks vs ds = 3) := Lib.hid (HCH2.out 3 (by unfold badF; simp; omega) (by omega))
                        go_wp2
                        go_ret
                        exact ⟨ret_int (by rw [HE.out]; rfl), HBq.out⟩
                      · have d2 : decide ((0 : Int) < (nD : Int)) = false := by simp; omega
                        have HE : Hid (chkN true ks vs ds = 0) := Lib.hid (HCH2.out 0 (by unfold badF; simp; omega) (by omega))
                        go_wp2
                        go_ret
                        exact ⟨ret_int (by rw [HE.out]; rfl), HBq.out⟩
                    · have d1 : ((nV : Int) != (nK : Int)) = true := by rw [bne_iff_ne]; omega
                      have HE : Hid (chkN true ks vs ds = 3) := Lib.hid (HCH2.out 3 (by unfold badF; simp; omega) (by omega))
                      go_wp2
                      go_ret
                      exact ⟨ret_int (by rw [HE.out]; rfl), HBq.out⟩
                  | false =>
                    by_cases h1 : 0 < nV
                    · have d1 : decide ((0 : Int) < (nV : Int)) = true := by simp; omega
                      have HE : Hid (chkN false ks vs ds = 3) := Lib.hid (HCH2.out 3 (by unfold badF; simp; omega) (by omega))
                      go_wp2
                      go_ret
                      exact ⟨ret_int (by rw [HE.out]; rfl), HBq.out⟩
                    · have d1 : decide ((0 : Int) < (nV : Int)) = false := by simp; omega
                      by_cases h2 : nD = nK + 1
                      · have d2 : ((nD : Int) != (nK : Int) + 1) = false := by subst h2; simp
                        have h2' := Lib.hid h2; clear h2
                        have HE : Hid (chkN false ks vs ds = 0) := Lib.hid (HCH2.out 0 (by unfold badF; have := h2'.out; simp; omega) (by omega))
                        go_wp2
                        go_ret
                        exact ⟨ret_int (by rw [HE.out]; rfl), HBq.out⟩
                      · have d2 : ((nD : Int) != (nK : Int) + 1) = true := by rw [bne_iff_ne]; omega
                        have HE : Hid (chkN false ks vs ds = 3) := Lib.hid (HCH2.out 3 (by unfold badF; simp; omega) (by omega))
                        go_wp2
                        go_ret
                        exact ⟨ret_int (by rw [HE.out]; rfl), HBq.out⟩
end Go.Proofs.Ytmjjbfcblmmipaa
