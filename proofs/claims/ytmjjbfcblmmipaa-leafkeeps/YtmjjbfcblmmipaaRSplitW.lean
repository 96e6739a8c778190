/- The reference's Split. -/
import Derived.Test.YtmjjbfcblmmipaaCopiedW
import Derived.BigQuiet
import Derived.StillTailTactics
import Derived.IntWalk
import Derived.Deep.RegionHeld3
namespace Go.Proofs.Ytmjjbfcblmmipaa
set_option linter.unusedVariables false
set_option linter.unusedSimpArgs false
open Go.RowKit

set_option maxRecDepth 100000 in
set_option maxHeartbeats 4000000 in
theorem rsize_any (lf : Bool) (AK : Option Addr) (nK cK : Nat) (AV : Option Addr) (nV cV : Nat) (AD : Option Addr) (nD cD : Nat) (ks vs : List (List Int)) (w : World) (hk : Bss w AK nK ks) (hv : Bss w AV nV vs)
    (bK : nK ≤ 20000000) (bV : nV ≤ 20000000) (bD : nD ≤ 20000000) (sK : szW 1 ks ≤ 100000000000000000) (sV : szW 2 vs ≤ 100000000000000000) :
    Calls Try.prog 38 #[.agg (ndV lf AK nK cK AV nV cV AD nD cD)] w fun e w' => e = .returned (.int .i64 (sizeN lf ks vs nD : Nat)) ∧ Below w.heap.size w w' := by
  have hb1 := below_alloc w (.cells (ndV lf AK nK cK AV nV cV AD nD cD) 66)
  have HK := Lib.hid (hk.keep hb1); have HV := Lib.hid (hv.keep hb1)
  have HBX := Lib.hid (heap_alloc_new w (.cells (ndV lf AK nK cK AV nV cV AD nD cD) 66))
  have HB := Lib.hid hb1
  have q1 := rc_cell 1 (.slice AK nK cK) HBX.out rfl
  clear hk hv hb1
  go_enter Try.func38, Try.ntmps38
  go_wp2_with fail
  clear q1
  generalize w.alloc (.cells (ndV lf AK nK cK AV nV cV AD nD cD) 66) = y at *
  go_loop [3, 4] (fun sv iv => ∃ kk : Nat, iv = .int .i64 kk ∧ sv = .int .i64 ((3 + szW 1 (ks.take kk) : Nat) : Int) ∧ kk ≤ nK) (fun _ iv => nK - (intOf iv).toNat)
  case atStart => exact ⟨0, rfl, by first | rfl | simp [szW], Nat.zero_le _⟩
  case round =>
    obtain ⟨kk, rfl, rfl, hk⟩ := hrel
    by_cases hlt : kk < nK
    · obtain ⟨b, off, A', n', c', xs, hA, hbl, hcl, hxs, hnc, HXK⟩ := HK.out.at_ hlt
      have HNL := Lib.hid hxs.len
      have hs := szW_take HXK.out (d := 1)
      have hle := szW_le 1 ks (kk + 1)
      obtain ⟨r, HU⟩ : ∃ r : Nat, Hid (3 + szW 1 (ks.take kk) = r) := ⟨_, rfl⟩
      have hu2 : r + (1 + n') ≤ 1000000000000000000 := by rw [← HU.out, ← HNL.out]; omega
      have HS : Hid (3 + szW 1 (ks.take (kk + 1)) = r + 1 + n') := Lib.hid (by rw [hs, ← HU.out, ← HNL.out]; omega)
      have z0 : (0 : Int) ≤ (kk : Int) := by omega
      have z1 : (kk : Int) < (nK : Int) := by omega
      rw [HU.out]
      clear hs hle hxs
      have q1 := rc_cell 1 (.slice AK nK cK) HBX.out rfl
      have q2 := rc_cell 2 (.slice AV nV cV) HBX.out rfl
      rw [hA] at q1
      clear hA
      go_wp2
      go_round
      case rel => exact ⟨kk + 1, by go_num, by rw [HS.out]; go_num, by omega⟩
      case measure => simp [intOf]; omega
    · obtain rfl : nK = kk := by omega
      have HT : Hid (ks.take nK = ks) := Lib.hid (List.take_of_length_le (by have := HK.out.1; omega))
      rw [HT.out]
      obtain ⟨u, HUK⟩ : ∃ u : Nat, Hid (3 + szW 1 ks = u) := ⟨_, rfl⟩
      have hu : u ≤ 200000000000000000 := by rw [← HUK.out]; omega
      rw [HUK.out]
      have q0 := rc_cell 0 (.bool lf) HBX.out rfl
      have q1 := rc_cell 1 (.slice AK nK cK) HBX.out rfl
      have q2 := rc_cell 2 (.slice AV nV cV) HBX.out rfl
      have q3 := rc_cell 3 (.slice AD nD cD) HBX.out rfl
      cases lf with
      | true =>
        clear hlt hk
        go_wp2
        clear q0 q1 q2 q3
        go_loop [3, 5] (fun sv iv => ∃ kk : Nat, iv = .int .i64 kk ∧ sv = .int .i64 ((u + szW 2 (vs.take kk) : Nat) : Int) ∧ kk ≤ nV) (fun _ iv => nV - (intOf iv).toNat)
        case atStart => exact ⟨0, rfl, by first | rfl | simp [szW], Nat.zero_le _⟩
        case round =>
          obtain ⟨kk, rfl, rfl, hk⟩ := hrel
          by_cases hlt : kk < nV
          · obtain ⟨b, off, A', n', c', xs, hA, hbl, hcl, hxs, hnc, HXK⟩ := HV.out.at_ hlt
            have HNL := Lib.hid hxs.len
            have hs := szW_take HXK.out (d := 2)
            have hle := szW_le 2 vs (kk + 1)
            obtain ⟨r, HU⟩ : ∃ r : Nat, Hid (u + szW 2 (vs.take kk) = r) := ⟨_, rfl⟩
            have hu2 : r + (2 + n') ≤ 1000000000000000000 := by rw [← HU.out, ← HNL.out]; omega
            have HS : Hid (u + szW 2 (vs.take (kk + 1)) = r + 2 + n') := Lib.hid (by rw [hs, ← HU.out, ← HNL.out]; omega)
            have z0 : (0 : Int) ≤ (kk : Int) := by omega
            have z1 : (kk : Int) < (nV : Int) := by omega
            rw [HU.out]
            clear hs hle hxs
            have q1 := rc_cell 1 (.slice AK nK cK) HBX.out rfl
            have q2 := rc_cell 2 (.slice AV nV cV) HBX.out rfl
            rw [hA] at q2
            clear hA
            go_wp2
            go_round
            case rel => exact ⟨kk + 1, by go_num, by rw [HS.out]; go_num, by omega⟩
            case measure => simp [intOf]; omega
          · obtain rfl : nV = kk := by omega
            have HT : Hid (vs.take nV = vs) := Lib.hid (List.take_of_length_le (by have := HV.out.1; omega))
            rw [HT.out]
            have q2 := rc_cell 2 (.slice AV nV cV) HBX.out rfl
            have HSZ : Hid (((sizeN true ks vs nD : Nat) : Int) = ((u + szW 2 vs : Nat) : Int)) := Lib.hid (by unfold sizeN; rw [if_pos rfl, HUK.out])
            go_wp2
            go_ret
            exact ⟨ret_int (by rw [HSZ.out]; first | done | rfl | simp), HB.out⟩
      | false =>
        have HSZ : Hid (((sizeN false ks vs nD : Nat) : Int) = (u : Int) + 2 * (nD : Int)) := Lib.hid (by unfold sizeN; rw [if_neg (by simp), HUK.out]; simp)
        go_wp2
        go_ret
        exact ⟨ret_int (by rw [HSZ.out]; first | done | rfl | simp), HB.out⟩
end Go.Proofs.Ytmjjbfcblmmipaa
namespace Go.Proofs.Ytmjjbfcblmmipaa
set_option linter.unusedVariables false
set_option linter.unusedSimpArgs false
open Go.RowKit

theorem toldN_any (lf : Bool) (AK : Option Addr) (nK cK : Nat) (AV : Option Addr) (nV cV : Nat) (AD : Option Addr) (nD cD : Nat) (w : World) :
    Calls Try.prog 41 #[.agg (ndV lf AK nK cK AV nV cV AD nD cD)] w fun e w' => e = .returned (.agg (ndV lf AK nK cK AV nV cV AD nD cD)) ∧ Below w.heap.size w w' := by
  have hb1 := below_alloc w (.cells (ndV lf AK nK cK AV nV cV AD nD cD) 70)
  have hsz : (w.alloc (.cells (ndV lf AK nK cK AV nV cV AD nD cD) 70)).heap.size = w.heap.size + 1 := by simp
  have hb2 := below_alloc (w.alloc (.cells (ndV lf AK nK cK AV nV cV AD nD cD) 70)) (.cells (ndV lf AK nK cK AV nV cV AD nD cD) 66)
  have HB := Lib.hid (hb1.trans (hb2.mono (by omega)))
  have hx2 := heap_alloc_new (w.alloc (.cells (ndV lf AK nK cK AV nV cV AD nD cD) 70)) (.cells (ndV lf AK nK cK AV nV cV AD nD cD) 66)
  rw [hsz] at hx2
  have HX := Lib.hid hx2
  clear hb1 hb2 hsz hx2
  go_enter Try.func41, Try.ntmps41
  go_wp2
  generalize (w.alloc (.cells (ndV lf AK nK cK AV nV cV AD nD cD) 70)).alloc (.cells (ndV lf AK nK cK AV nV cV AD nD cD) 66) = W at *
  have r0 := rc_cell (w := W) 0 (.bool lf) HX.out rfl
  have r1 := rc_cell (w := W) 1 (.slice AK nK cK) HX.out rfl
  have r2 := rc_cell (w := W) 2 (.slice AV nV cV) HX.out rfl
  have r3 := rc_cell (w := W) 3 (.slice AD nD cD) HX.out rfl
  refine bodyPost_ret (v := .agg (ndV lf AK nK cK AV nV cV AD nD cD)) (by simp [results, Try.f41, go_sem, Try.isAgg66, Try.sizeOf66, r0, r1, r2, r3]) rfl ⟨rfl, HB.out⟩
theorem slice62_h (A : Option Addr) (n c h : Nat) (hh : h ≤ c) (W : World) :
    (Instr.slice 62 (.slice A n c) none (some (.int .i64 (h : Int))) none).run Try.prog W = .ok (.slice A h c) W := by
  have e0 : A.map (fun x => x.add 0) = A := by
    cases A with
    | none => rfl
    | some a => simp only [Option.map_some, Option.some.injEq]; unfold Addr.add; simp
  rw [run_slice_h (P := Try.prog) W 62 A n c elem62 .i64 h (by omega) (by omega), elem62', Try.sizeOf28]
  simp only [sliced, Result.andThen, Nat.zero_mul, e0, ite_self, Int.toNat_natCast]; rfl
theorem elem27 : Try.prog.underlying 27 = some (.slice (Try.prog.elem 27)) := by kernel_rfl
theorem elem27' : Try.prog.elem 27 = 3 := by kernel_rfl
theorem slice27_h (A : Option Addr) (n c h : Nat) (hh : h ≤ c) (W : World) :
    (Instr.slice 27 (.slice A n c) none (some (.int .i64 (h : Int))) none).run Try.prog W = .ok (.slice A h c) W := by
  have e0 : A.map (fun x => x.add 0) = A := by
    cases A with
    | none => rfl
    | some a => simp only [Option.map_some, Option.some.injEq]; unfold Addr.add; simp
  rw [run_slice_h (P := Try.prog) W 27 A n c elem27 .i64 h (by omega) (by omega), elem27', Try.sizeOf3]
  simp only [sliced, Result.andThen, Nat.zero_mul, e0, ite_self, Int.toNat_natCast]; rfl
theorem slice27_lo (A : Option Addr) (n c lo : Nat) (h : lo ≤ n) (W : World) :
    (Instr.slice 27 (.slice A n c) (some (.int .i64 (lo : Int))) none none).run Try.prog W = .ok (.slice (cutA A c lo) (n - lo) (c - lo)) W := by
  rw [run_slice_l (P := Try.prog) W 27 A n c elem27 .i64 (lo : Int) (by omega) (by omega), elem27', Try.sizeOf3]
  simp only [sliced, Result.andThen, Int.toNat_natCast, Nat.mul_one]; rfl
set_option maxHeartbeats 2000000 in
/-- leaf.parted: where the place is within. -/
theorem parted62_any (A : Option Addr) (n c k : Nat) (w : World) (hk : k ≤ n) (hc : n ≤ c) (hn : n ≤ 100000) :
    Calls Try.prog 97 #[.slice A n c, .int .i64 (k : Int)] w fun e w' => e = .returned (.tuple #[.slice A k c, .slice (cutA A c k) (n - k) (c - k)]) ∧ Dr w w' := by
  have s1 := slice62_h A n c k (by omega)
  have s2 := slice62_lo A n c k hk
  have hmin : min (k : Int) (n : Int) = (k : Int) := by omega
  go_enter Try.func97, Try.ntmps97
  go_wp2
  go_quiet (fail)
  go_wp2
  go_ret2
  exact ⟨rfl, (Dr.refl w).n _⟩
set_option maxHeartbeats 2000000 in
/-- leaf.parted: where the place is within. -/
theorem parted27_any (A : Option Addr) (n c k : Nat) (w : World) (hk : k ≤ n) (hc : n ≤ c) (hn : n ≤ 100000) :
    Calls Try.prog 98 #[.slice A n c, .int .i64 (k : Int)] w fun e w' => e = .returned (.tuple #[.slice A k c, .slice (cutA A c k) (n - k) (c - k)]) ∧ Dr w w' := by
  have s1 := slice27_h A n c k (by omega)
  have s2 := slice27_lo A n c k hk
  have hmin : min (k : Int) (n : Int) = (k : Int) := by omega
  go_enter Try.func98, Try.ntmps98
  go_wp2
  go_quiet (fail)
  go_wp2
  go_ret2
  exact ⟨rfl, (Dr.refl w).n _⟩
end Go.Proofs.Ytmjjbfcblmmipaa
namespace Go.Proofs.Ytmjjbfcblmmipaa
set_option linter.unusedVariables false
set_option linter.unusedSimpArgs false
open Go.RowKit

theorem set4r (W : World) (a : Nat) (v0 v1 v2 v3 : Value) (h : W.heap[a]? = some (.cells ndZ 66 (0, 0))) :
    ((((W.setCell ⟨a, 0, none⟩ v0).setCell ⟨a, 1, none⟩ v1).setCell ⟨a, 2, none⟩ v2).setCell ⟨a, 3, none⟩ v3).heap[a]? = some (.cells #[v0, v1, v2, v3] 66 (0, 0)) ∧ Onl a W ((((W.setCell ⟨a, 0, none⟩ v0).setCell ⟨a, 1, none⟩ v1).setCell ⟨a, 2, none⟩ v2).setCell ⟨a, 3, none⟩ v3) := by
  have e0 := rc_set (cs' := #[v0, .slice none 0 0, .slice none 0 0, .slice none 0 0]) 0 v0 h rfl
  have e1 := rc_set (cs' := #[v0, v1, .slice none 0 0, .slice none 0 0]) 1 v1 e0 rfl
  have e2 := rc_set (cs' := #[v0, v1, v2, .slice none 0 0]) 2 v2 e1 rfl
  have e3 := rc_set (cs' := #[v0, v1, v2, v3]) 3 v3 e2 rfl
  exact ⟨e3, (((onl_set _ a 0 _).trans (onl_set _ a 1 _)).trans (onl_set _ a 2 _)).trans (onl_set _ a 3 _)⟩
set_option maxRecDepth 100000 in
set_option maxHeartbeats 4000000 in
theorem frontL_any (AK : Option Addr) (nK cK : Nat) (AV : Option Addr) (nV cV : Nat) (AD : Option Addr) (nD cD : Nat) (k : Nat) (w : World) (hKc : nK ≤ cK) (hVc : nV ≤ cV) (hDc : nD ≤ cD) (bK : nK ≤ 100000) (bV : nV ≤ 100000) (bD : nD ≤ 100000) (hk : k ≤ nK) (hv : k ≤ nV) :
    Calls Try.prog 100 #[.agg (ndV true AK nK cK AV nV cV AD nD cD), .int .i64 (k : Int)] w fun e w' => e = .returned (.agg #[.bool true, .slice AK k cK, .slice AV k cV, .slice none 0 0]) ∧ Below w.heap.size w w' := by
  have s1 := slice62_h AK nK cK k (by omega)
  have s2 := slice62_h AV nV cV k (by omega)
  have hsz : (w.alloc (.cells (ndV true AK nK cK AV nV cV AD nD cD) 66)).heap.size = w.heap.size + 1 := by simp
  have hb1 := below_alloc w (.cells (ndV true AK nK cK AV nV cV AD nD cD) 66)
  have hb2 := below_alloc (w.alloc (.cells (ndV true AK nK cK AV nV cV AD nD cD) 66)) (.cells ndZ 66)
  have hr2 := heap_alloc_new (w.alloc (.cells (ndV true AK nK cK AV nV cV AD nD cD) 66)) (.cells ndZ 66)
  rw [hsz] at hr2
  have BX := Lib.hid ((hb2.block w.heap.size (by omega)).trans (heap_alloc_new w (.cells (ndV true AK nK cK AV nV cV AD nD cD) 66)))
  have RS := Lib.hid hr2
  have HB := Lib.hid (hb1.trans (hb2.mono (by omega)))
  have q0 := rc_cell 0 (.bool true) BX.out rfl
  clear hsz hb1 hb2 hr2
  go_enter Try.func100, Try.ntmps100
  go_wp2
  clear q0
  generalize ((w.alloc (.cells (ndV true AK nK cK AV nV cV AD nD cD) 66)).alloc (.cells ndZ 66)) = y at *
  have BXd : Hid (y.drew.heap[w.heap.size]? = some (.cells (ndV true AK nK cK AV nV cV AD nD cD) 66 (0, 0))) := BX
  have RSd : Hid (y.drew.heap[w.heap.size + 1]? = some (.cells ndZ 66 (0, 0))) := RS
  have HBd := Lib.hid (HB.out.trans ((Dr.refl y).one.below _))
  have r1 := rc_cell 1 (.slice AK nK cK) BXd.out rfl
  have r2 := rc_cell 2 (.slice AV nV cV) BXd.out rfl
  have r3 := rc_cell 3 (.slice AD nD cD) BXd.out rfl
  go_still_tail 9, (by kernel_rfl)
  change wpList _ _ _ _ _ y.drew
  clear BX RS HB
  generalize y.drew = yd at *
  have z0 := rc_cell 0 (.bool false) RSd.out rfl
  have z1 := rc_cell 1 (.slice none 0 0) RSd.out rfl
  have z2 := rc_cell 2 (.slice none 0 0) RSd.out rfl
  have z3 := rc_cell 3 (.slice none 0 0) RSd.out rfl
  have y0 := two_frozen (i := 0) RSd.out
  have y1 := two_frozen (i := 1) RSd.out
  have y2 := two_frozen (i := 2) RSd.out
  have y3 := two_frozen (i := 3) RSd.out
  have HZ := Lib.hid (set4r yd (w.heap.size + 1) (.bool true) (.slice AK k cK) (.slice AV k cV) (.slice none 0 0) RSd.out)
  have HB5 := Lib.hid (HBd.out.trans ((HZ.out.2.below (Nat.le_of_lt (lt_of_heap RSd.out))).mono (by omega)))
  clear r1 r2 r3
  go_wp2
  clear z0 z1 z2 z3 y0 y1 y2 y3
  generalize ((((yd.setCell ⟨w.heap.size + 1, 0, none⟩ (.bool true)).setCell ⟨w.heap.size + 1, 1, none⟩ (.slice AK k cK)).setCell ⟨w.heap.size + 1, 2, none⟩ (.slice AV k cV)).setCell ⟨w.heap.size + 1, 3, none⟩ (.slice none 0 0)) = VZ at *
  have e0 := rc_cell 0 (.bool true) HZ.out.1 rfl
  have e1 := rc_cell 1 (.slice AK k cK) HZ.out.1 rfl
  have e2 := rc_cell 2 (.slice AV k cV) HZ.out.1 rfl
  have e3 := rc_cell 3 (.slice none 0 0) HZ.out.1 rfl
  refine bodyPost_ret (v := .agg #[.bool true, .slice AK k cK, .slice AV k cV, .slice none 0 0]) (by simp [results, Try.f100, go_sem, Try.isAgg66, Try.sizeOf66, e0, e1, e2, e3]) rfl ⟨rfl, HB5.out⟩
set_option maxRecDepth 100000 in
set_option maxHeartbeats 4000000 in
theorem backL_any (AK : Option Addr) (nK cK : Nat) (AV : Option Addr) (nV cV : Nat) (AD : Option Addr) (nD cD : Nat) (k : Nat) (w : World) (hKc : nK ≤ cK) (hVc : nV ≤ cV) (hDc : nD ≤ cD) (bK : nK ≤ 100000) (bV : nV ≤ 100000) (bD : nD ≤ 100000) (hk : k ≤ nK) (hv : k ≤ nV) :
    Calls Try.prog 101 #[.agg (ndV true AK nK cK AV nV cV AD nD cD), .int .i64 (k : Int)] w fun e w' => e = .returned (.agg #[.bool true, .slice (cutA AK cK k) (nK - k) (cK - k), .slice (cutA AV cV k) (nV - k) (cV - k), .slice none 0 0]) ∧ Below w.heap.size w w' := by
  have s1 := slice62_lo AK nK cK k hk
  have s2 := slice62_lo AV nV cV k hv
  have hsz : (w.alloc (.cells (ndV true AK nK cK AV nV cV AD nD cD) 66)).heap.size = w.heap.size + 1 := by simp
  have hb1 := below_alloc w (.cells (ndV true AK nK cK AV nV cV AD nD cD) 66)
  have hb2 := below_alloc (w.alloc (.cells (ndV true AK nK cK AV nV cV AD nD cD) 66)) (.cells ndZ 66)
  have hr2 := heap_alloc_new (w.alloc (.cells (ndV true AK nK cK AV nV cV AD nD cD) 66)) (.cells ndZ 66)
  rw [hsz] at hr2
  have BX := Lib.hid ((hb2.block w.heap.size (by omega)).trans (heap_alloc_new w (.cells (ndV true AK nK cK AV nV cV AD nD cD) 66)))
  have RS := Lib.hid hr2
  have HB := Lib.hid (hb1.trans (hb2.mono (by omega)))
  have q0 := rc_cell 0 (.bool true) BX.out rfl
  clear hsz hb1 hb2 hr2
  go_enter Try.func101, Try.ntmps101
  go_wp2
  clear q0
  generalize ((w.alloc (.cells (ndV true AK nK cK AV nV cV AD nD cD) 66)).alloc (.cells ndZ 66)) = y at *
  have BXd : Hid (y.drew.heap[w.heap.size]? = some (.cells (ndV true AK nK cK AV nV cV AD nD cD) 66 (0, 0))) := BX
  have RSd : Hid (y.drew.heap[w.heap.size + 1]? = some (.cells ndZ 66 (0, 0))) := RS
  have HBd := Lib.hid (HB.out.trans ((Dr.refl y).one.below _))
  have r1 := rc_cell 1 (.slice AK nK cK) BXd.out rfl
  have r2 := rc_cell 2 (.slice AV nV cV) BXd.out rfl
  have r3 := rc_cell 3 (.slice AD nD cD) BXd.out rfl
  go_still_tail 9, (by kernel_rfl)
  change wpList _ _ _ _ _ y.drew
  clear BX RS HB
  generalize y.drew = yd at *
  have z0 := rc_cell 0 (.bool false) RSd.out rfl
  have z1 := rc_cell 1 (.slice none 0 0) RSd.out rfl
  have z2 := rc_cell 2 (.slice none 0 0) RSd.out rfl
  have z3 := rc_cell 3 (.slice none 0 0) RSd.out rfl
  have y0 := two_frozen (i := 0) RSd.out
  have y1 := two_frozen (i := 1) RSd.out
  have y2 := two_frozen (i := 2) RSd.out
  have y3 := two_frozen (i := 3) RSd.out
  have HZ := Lib.hid (set4r yd (w.heap.size + 1) (.bool true) (.slice (cutA AK cK k) (nK - k) (cK - k)) (.slice (cutA AV cV k) (nV - k) (cV - k)) (.slice none 0 0) RSd.out)
  have HB5 := Lib.hid (HBd.out.trans ((HZ.out.2.below (Nat.le_of_lt (lt_of_heap RSd.out))).mono (by omega)))
  clear r1 r2 r3
  go_wp2
  clear z0 z1 z2 z3 y0 y1 y2 y3
  generalize ((((yd.setCell ⟨w.heap.size + 1, 0, none⟩ (.bool true)).setCell ⟨w.heap.size + 1, 1, none⟩ (.slice (cutA AK cK k) (nK - k) (cK - k))).setCell ⟨w.heap.size + 1, 2, none⟩ (.slice (cutA AV cV k) (nV - k) (cV - k))).setCell ⟨w.heap.size + 1, 3, none⟩ (.slice none 0 0)) = VZ at *
  have e0 := rc_cell 0 (.bool true) HZ.out.1 rfl
  have e1 := rc_cell 1 (.slice (cutA AK cK k) (nK - k) (cK - k)) HZ.out.1 rfl
  have e2 := rc_cell 2 (.slice (cutA AV cV k) (nV - k) (cV - k)) HZ.out.1 rfl
  have e3 := rc_cell 3 (.slice none 0 0) HZ.out.1 rfl
  refine bodyPost_ret (v := .agg #[.bool true, .slice (cutA AK cK k) (nK - k) (cK - k), .slice (cutA AV cV k) (nV - k) (cV - k), .slice none 0 0]) (by simp [results, Try.f101, go_sem, Try.isAgg66, Try.sizeOf66, e0, e1, e2, e3]) rfl ⟨rfl, HB5.out⟩
set_option maxRecDepth 100000 in
set_option maxHeartbeats 4000000 in
theorem frontF_any (AK : Option Addr) (nK cK : Nat) (AV : Option Addr) (nV cV : Nat) (AD : Option Addr) (nD cD : Nat) (k : Nat) (w : World) (hKc : nK ≤ cK) (hVc : nV ≤ cV) (hDc : nD ≤ cD) (bK : nK ≤ 100000) (bV : nV ≤ 100000) (bD : nD ≤ 100000) (hk : k ≤ nK) (hd : k + 1 ≤ nD) :
    Calls Try.prog 100 #[.agg (ndV false AK nK cK AV nV cV AD nD cD), .int .i64 (k : Int)] w fun e w' => e = .returned (.agg #[.bool false, .slice AK k cK, .slice none 0 0, .slice AD (k + 1) cD]) ∧ Below w.heap.size w w' := by
  have hw1 : IntKind.i64.wrap ((k : Int) + 1) = (k : Int) + 1 := IntWalk.i64_in _ (by omega)
  have s1 := slice62_h AK nK cK k (by omega)
  have s2 : ∀ W, _ := slice27_h AD nD cD (k + 1) (by omega)
  rw [show (((k + 1 : Nat) : Int)) = (k : Int) + 1 by omega] at s2
  have hsz : (w.alloc (.cells (ndV false AK nK cK AV nV cV AD nD cD) 66)).heap.size = w.heap.size + 1 := by simp
  have hb1 := below_alloc w (.cells (ndV false AK nK cK AV nV cV AD nD cD) 66)
  have hb2 := below_alloc (w.alloc (.cells (ndV false AK nK cK AV nV cV AD nD cD) 66)) (.cells ndZ 66)
  have hr2 := heap_alloc_new (w.alloc (.cells (ndV false AK nK cK AV nV cV AD nD cD) 66)) (.cells ndZ 66)
  rw [hsz] at hr2
  have BX := Lib.hid ((hb2.block w.heap.size (by omega)).trans (heap_alloc_new w (.cells (ndV false AK nK cK AV nV cV AD nD cD) 66)))
  have RS := Lib.hid hr2
  have HB := Lib.hid (hb1.trans (hb2.mono (by omega)))
  have q0 := rc_cell 0 (.bool false) BX.out rfl
  clear hsz hb1 hb2 hr2
  go_enter Try.func100, Try.ntmps100
  go_wp2
  clear q0
  generalize ((w.alloc (.cells (ndV false AK nK cK AV nV cV AD nD cD) 66)).alloc (.cells ndZ 66)) = y at *
  have BXd : Hid (y.drew.heap[w.heap.size]? = some (.cells (ndV false AK nK cK AV nV cV AD nD cD) 66 (0, 0))) := BX
  have RSd : Hid (y.drew.heap[w.heap.size + 1]? = some (.cells ndZ 66 (0, 0))) := RS
  have HBd := Lib.hid (HB.out.trans ((Dr.refl y).one.below _))
  have r1 := rc_cell 1 (.slice AK nK cK) BXd.out rfl
  have r2 := rc_cell 2 (.slice AV nV cV) BXd.out rfl
  have r3 := rc_cell 3 (.slice AD nD cD) BXd.out rfl
  go_still_tail 10, (by kernel_rfl)
  change wpList _ _ _ _ _ y.drew
  clear BX RS HB
  generalize y.drew = yd at *
  have z0 := rc_cell 0 (.bool false) RSd.out rfl
  have z1 := rc_cell 1 (.slice none 0 0) RSd.out rfl
  have z2 := rc_cell 2 (.slice none 0 0) RSd.out rfl
  have z3 := rc_cell 3 (.slice none 0 0) RSd.out rfl
  have y0 := two_frozen (i := 0) RSd.out
  have y1 := two_frozen (i := 1) RSd.out
  have y2 := two_frozen (i := 2) RSd.out
  have y3 := two_frozen (i := 3) RSd.out
  have HZ := Lib.hid (set4r yd (w.heap.size + 1) (.bool false) (.slice AK k cK) (.slice none 0 0) (.slice AD (k + 1) cD) RSd.out)
  have HB5 := Lib.hid (HBd.out.trans ((HZ.out.2.below (Nat.le_of_lt (lt_of_heap RSd.out))).mono (by omega)))
  clear r1 r2 r3
  go_wp2
  clear z0 z1 z2 z3 y0 y1 y2 y3
  generalize ((((yd.setCell ⟨w.heap.size + 1, 0, none⟩ (.bool false)).setCell ⟨w.heap.size + 1, 1, none⟩ (.slice AK k cK)).setCell ⟨w.heap.size + 1, 2, none⟩ (.slice none 0 0)).setCell ⟨w.heap.size + 1, 3, none⟩ (.slice AD (k + 1) cD)) = VZ at *
  have e0 := rc_cell 0 (.bool false) HZ.out.1 rfl
  have e1 := rc_cell 1 (.slice AK k cK) HZ.out.1 rfl
  have e2 := rc_cell 2 (.slice none 0 0) HZ.out.1 rfl
  have e3 := rc_cell 3 (.slice AD (k + 1) cD) HZ.out.1 rfl
  refine bodyPost_ret (v := .agg #[.bool false, .slice AK k cK, .slice none 0 0, .slice AD (k + 1) cD]) (by simp [results, Try.f100, go_sem, Try.isAgg66, Try.sizeOf66, e0, e1, e2, e3]) rfl ⟨rfl, HB5.out⟩
set_option maxRecDepth 100000 in
set_option maxHeartbeats 4000000 in
theorem backF_any (AK : Option Addr) (nK cK : Nat) (AV : Option Addr) (nV cV : Nat) (AD : Option Addr) (nD cD : Nat) (k : Nat) (w : World) (hKc : nK ≤ cK) (hVc : nV ≤ cV) (hDc : nD ≤ cD) (bK : nK ≤ 100000) (bV : nV ≤ 100000) (bD : nD ≤ 100000) (hk : k + 1 ≤ nK) (hd : k + 1 ≤ nD) :
    Calls Try.prog 101 #[.agg (ndV false AK nK cK AV nV cV AD nD cD), .int .i64 (k : Int)] w fun e w' => e = .returned (.agg #[.bool false, .slice (cutA AK cK (k + 1)) (nK - (k + 1)) (cK - (k + 1)), .slice none 0 0, .slice (cutA AD cD (k + 1)) (nD - (k + 1)) (cD - (k + 1))]) ∧ Below w.heap.size w w' := by
  have hw1 : IntKind.i64.wrap ((k : Int) + 1) = (k : Int) + 1 := IntWalk.i64_in _ (by omega)
  have s1 : ∀ W, _ := slice62_lo AK nK cK (k + 1) hk
  rw [show (((k + 1 : Nat) : Int)) = (k : Int) + 1 by omega] at s1
  have s2 : ∀ W, _ := slice27_lo AD nD cD (k + 1) hd
  rw [show (((k + 1 : Nat) : Int)) = (k : Int) + 1 by omega] at s2
  have hsz : (w.alloc (.cells (ndV false AK nK cK AV nV cV AD nD cD) 66)).heap.size = w.heap.size + 1 := by simp
  have hb1 := below_alloc w (.cells (ndV false AK nK cK AV nV cV AD nD cD) 66)
  have hb2 := below_alloc (w.alloc (.cells (ndV false AK nK cK AV nV cV AD nD cD) 66)) (.cells ndZ 66)
  have hr2 := heap_alloc_new (w.alloc (.cells (ndV false AK nK cK AV nV cV AD nD cD) 66)) (.cells ndZ 66)
  rw [hsz] at hr2
  have BX := Lib.hid ((hb2.block w.heap.size (by omega)).trans (heap_alloc_new w (.cells (ndV false AK nK cK AV nV cV AD nD cD) 66)))
  have RS := Lib.hid hr2
  have HB := Lib.hid (hb1.trans (hb2.mono (by omega)))
  have q0 := rc_cell 0 (.bool false) BX.out rfl
  clear hsz hb1 hb2 hr2
  go_enter Try.func101, Try.ntmps101
  go_wp2
  clear q0
  generalize ((w.alloc (.cells (ndV false AK nK cK AV nV cV AD nD cD) 66)).alloc (.cells ndZ 66)) = y at *
  have BXd : Hid (y.drew.heap[w.heap.size]? = some (.cells (ndV false AK nK cK AV nV cV AD nD cD) 66 (0, 0))) := BX
  have RSd : Hid (y.drew.heap[w.heap.size + 1]? = some (.cells ndZ 66 (0, 0))) := RS
  have HBd := Lib.hid (HB.out.trans ((Dr.refl y).one.below _))
  have r1 := rc_cell 1 (.slice AK nK cK) BXd.out rfl
  have r2 := rc_cell 2 (.slice AV nV cV) BXd.out rfl
  have r3 := rc_cell 3 (.slice AD nD cD) BXd.out rfl
  go_still_tail 11, (by kernel_rfl)
  change wpList _ _ _ _ _ y.drew
  clear BX RS HB
  generalize y.drew = yd at *
  have z0 := rc_cell 0 (.bool false) RSd.out rfl
  have z1 := rc_cell 1 (.slice none 0 0) RSd.out rfl
  have z2 := rc_cell 2 (.slice none 0 0) RSd.out rfl
  have z3 := rc_cell 3 (.slice none 0 0) RSd.out rfl
  have y0 := two_frozen (i := 0) RSd.out
  have y1 := two_frozen (i := 1) RSd.out
  have y2 := two_frozen (i := 2) RSd.out
  have y3 := two_frozen (i := 3) RSd.out
  have HZ := Lib.hid (set4r yd (w.heap.size + 1) (.bool false) (.slice (cutA AK cK (k + 1)) (nK - (k + 1)) (cK - (k + 1))) (.slice none 0 0) (.slice (cutA AD cD (k + 1)) (nD - (k + 1)) (cD - (k + 1))) RSd.out)
  have HB5 := Lib.hid (HBd.out.trans ((HZ.out.2.below (Nat.le_of_lt (lt_of_heap RSd.out))).mono (by omega)))
  clear r1 r2 r3
  go_wp2
  clear z0 z1 z2 z3 y0 y1 y2 y3
  generalize ((((yd.setCell ⟨w.heap.size + 1, 0, none⟩ (.bool false)).setCell ⟨w.heap.size + 1, 1, none⟩ (.slice (cutA AK cK (k + 1)) (nK - (k + 1)) (cK - (k + 1)))).setCell ⟨w.heap.size + 1, 2, none⟩ (.slice none 0 0)).setCell ⟨w.heap.size + 1, 3, none⟩ (.slice (cutA AD cD (k + 1)) (nD - (k + 1)) (cD - (k + 1)))) = VZ at *
  have e0 := rc_cell 0 (.bool false) HZ.out.1 rfl
  have e1 := rc_cell 1 (.slice (cutA AK cK (k + 1)) (nK - (k + 1)) (cK - (k + 1))) HZ.out.1 rfl
  have e2 := rc_cell 2 (.slice none 0 0) HZ.out.1 rfl
  have e3 := rc_cell 3 (.slice (cutA AD cD (k + 1)) (nD - (k + 1)) (cD - (k + 1))) HZ.out.1 rfl
  refine bodyPost_ret (v := .agg #[.bool false, .slice (cutA AK cK (k + 1)) (nK - (k + 1)) (cK - (k + 1)), .slice none 0 0, .slice (cutA AD cD (k + 1)) (nD - (k + 1)) (cD - (k + 1))]) (by simp [results, Try.f101, go_sem, Try.isAgg66, Try.sizeOf66, e0, e1, e2, e3]) rfl ⟨rfl, HB5.out⟩
end Go.Proofs.Ytmjjbfcblmmipaa
namespace Go.Proofs.Ytmjjbfcblmmipaa
set_option linter.unusedVariables false
set_option linter.unusedSimpArgs false
open Go.RowKit

theorem RdP.pre {w : World} {Pd : Nat → Prop} {A : Option Addr} {n m : Nat} {vs : List Value} (h : RdP w Pd A n vs) (hm : m ≤ n) : RdP w Pd A m (vs.take m) := by
  refine ⟨by rw [List.length_take]; have := h.1; omega, fun hp => ?_⟩
  obtain ⟨b, off, hA, hb, hc⟩ := h.2 (by omega)
  refine ⟨b, off, hA, hb, fun j u hu => hc j u ?_⟩
  rw [List.getElem?_take] at hu
  split at hu
  · exact hu
  · simp at hu
theorem RdP.cut {w : World} {Pd : Nat → Prop} {A : Option Addr} {n c lo : Nat} {vs : List Value} (h : RdP w Pd A n vs) (hc : n ≤ c) : RdP w Pd (cutA A c lo) (n - lo) (vs.drop lo) := by
  refine ⟨by rw [List.length_drop]; have := h.1; omega, fun hp => ?_⟩
  obtain ⟨b, off, rfl, hb, hr⟩ := h.2 (by omega)
  refine ⟨b, off + lo, ?_, hb, fun j u hu => ?_⟩
  · unfold cutA
    split
    · simp; omega
    · simp [Addr.add]
  · rw [List.getElem?_drop] at hu
    have := hr (lo + j) u hu
    rw [show off + lo + j = off + (lo + j) by omega]
    exact this
theorem Bss.pre {w : World} {A : Option Addr} {n m : Nat} {xss : List (List Int)} (h : Bss w A n xss) (hm : m ≤ n) : Bss w A m (xss.take m) := by
  obtain ⟨hl, vs, hr, he⟩ := h
  refine ⟨by rw [List.length_take]; omega, vs.take m, hr.pre hm, fun i v xs hv hx => ?_⟩
  rw [List.getElem?_take] at hv hx
  split at hv
  · rename_i hi
    rw [if_pos hi] at hx
    exact he i v xs hv hx
  · simp at hv
theorem Bss.cut {w : World} {A : Option Addr} {n c lo : Nat} {xss : List (List Int)} (h : Bss w A n xss) (hc : n ≤ c) : Bss w (cutA A c lo) (n - lo) (xss.drop lo) := by
  obtain ⟨hl, vs, hr, he⟩ := h
  refine ⟨by rw [List.length_drop]; omega, vs.drop lo, hr.cut hc, fun i v xs hv hx => ?_⟩
  rw [List.getElem?_drop] at hv hx
  exact he (lo + i) v xs hv hx
theorem Bss.nil_ {w : World} {A : Option Addr} : Bss w A 0 [] := ⟨rfl, [], ⟨rfl, fun h => by omega⟩, fun i v xs hv _ => by simp at hv⟩
theorem szW_drop (d : Nat) (l : List (List Int)) (k : Nat) : szW d (l.drop k) ≤ szW d l := by
  have := szW_app d (l.take k) (l.drop k)
  rw [List.take_append_drop] at this
  omega

set_option maxRecDepth 100000 in
set_option maxHeartbeats 4000000 in
theorem greaterL_any (AK : Option Addr) (nK cK : Nat) (AV : Option Addr) (nV cV : Nat) (AD : Option Addr) (nD cD : Nat) (k : Nat) (ks vs : List (List Int)) (w : World) (hx : Bss w AK nK ks) (hy : Bss w AV nV vs) (hKc : nK ≤ cK) (hVc : nV ≤ cV) (hDc : nD ≤ cD) (bK : nK ≤ 100000) (bV : nV ≤ 100000) (bD : nD ≤ 100000) (sK : szW 1 ks ≤ 100000000000000000) (sV : szW 2 vs ≤ 100000000000000000) (hk : k ≤ nK) (hv : k ≤ nV) :
    Calls Try.prog 99 #[.agg (ndV true AK nK cK AV nV cV AD nD cD), .int .i64 (k : Int)] w fun e w' => e = .returned (.int .i64 ((max (sizeN true (ks.take k) (vs.take k) 0) (sizeN true (ks.drop k) (vs.drop k) 0) : Nat) : Int)) ∧ Below w.heap.size w w' := by
  have HK := Lib.hid hx; have HV := Lib.hid hy
  have hb1 := below_alloc w (.cells (ndV true AK nK cK AV nV cV AD nD cD) 66)
  have BX := Lib.hid (heap_alloc_new w (.cells (ndV true AK nK cK AV nV cV AD nD cD) 66))
  have HB := Lib.hid hb1
  have q0 := rc_cell 0 (.bool true) BX.out rfl
  have q1 := rc_cell 1 (.slice AK nK cK) BX.out rfl
  have q2 := rc_cell 2 (.slice AV nV cV) BX.out rfl
  have q3 := rc_cell 3 (.slice AD nD cD) BX.out rfl
  clear hx hy hb1
  go_enter Try.func99, Try.ntmps99
  go_wp2_with fail
  go_at_call 100
  refine (frontL_any AK nK cK AV nV cV AD nD cD k _ hKc hVc hDc bK bV bD hk hv).mono ?_
  rintro e x1 ⟨rfl, hb2⟩
  have BX2 := Lib.hid ((hb2.block _ (lt_of_heap BX.out)).trans BX.out)
  have HB2 := Lib.hid (HB.out.trans (hb2.mono HB.out.size))
  have r0 := rc_cell 0 (.bool true) BX2.out rfl
  have r1 := rc_cell 1 (.slice AK nK cK) BX2.out rfl
  have r2 := rc_cell 2 (.slice AV nV cV) BX2.out rfl
  have r3 := rc_cell 3 (.slice AD nD cD) BX2.out rfl
  have K2 := Lib.hid ((HK.out.keep HB2.out).pre hk); have V2 := Lib.hid ((HV.out.keep HB2.out).pre hv)
  clear q0 q1 q2 q3 hb2
  go_wp2_with fail
  refine (rsize_any true AK k cK AV k cV none 0 0 (ks.take k) (vs.take k) _ K2.out V2.out (by omega) (by omega) (by omega) (Nat.le_trans (szW_le 1 ks k) sK) (Nat.le_trans (szW_le 2 vs k) sV)).mono ?_
  rintro e x2 ⟨rfl, hb3⟩
  obtain ⟨m1, HM1⟩ : ∃ m : Nat, Hid (sizeN true (ks.take k) (vs.take k) 0 = m) := ⟨_, rfl⟩
  rw [HM1.out]
  have BX3 := Lib.hid ((hb3.block _ (lt_of_heap BX2.out)).trans BX2.out)
  have HB3 := Lib.hid (HB2.out.trans (hb3.mono HB2.out.size))
  have s0 := rc_cell 0 (.bool true) BX3.out rfl
  have s1 := rc_cell 1 (.slice AK nK cK) BX3.out rfl
  have s2 := rc_cell 2 (.slice AV nV cV) BX3.out rfl
  have s3 := rc_cell 3 (.slice AD nD cD) BX3.out rfl
  clear r0 r1 r2 r3 hb3
  go_wp2_with fail
  go_at_call 101
  refine (backL_any AK nK cK AV nV cV AD nD cD k _ hKc hVc hDc bK bV bD hk hv).mono ?_
  rintro e x4 ⟨rfl, hb4⟩
  have HB4 := Lib.hid (HB3.out.trans (hb4.mono HB3.out.size))
  have K4 := Lib.hid ((HK.out.keep HB4.out).cut (lo := k) hKc); have V4 := Lib.hid ((HV.out.keep HB4.out).cut (lo := k) hVc)
  clear s0 s1 s2 s3 hb4
  go_wp2_with fail
  refine (rsize_any true (cutA AK cK k) (nK - k) (cK - k) (cutA AV cV k) (nV - k) (cV - k) none 0 0 (ks.drop k) (vs.drop k) _ K4.out V4.out (by omega) (by omega) (by omega) (Nat.le_trans (szW_drop 1 ks k) sK) (Nat.le_trans (szW_drop 2 vs k) sV)).mono ?_
  rintro e x5 ⟨rfl, hb5⟩
  obtain ⟨m2, HM2⟩ : ∃ m : Nat, Hid (sizeN true (ks.drop k) (vs.drop k) 0 = m) := ⟨_, rfl⟩
  rw [HM2.out]
  have HB5 := Lib.hid (HB4.out.trans (hb5.mono HB4.out.size))
  clear hb5
  by_cases hm : m2 < m1
  · have hd : decide ((m2 : Int) < (m1 : Int)) = true := by simp; omega
    have hmx : Hid (max m1 m2 = m1) := Lib.hid (by omega)
    go_wp2
    go_ret
    exact ⟨ret_int (by rw [HM1.out, HM2.out, hmx.out]; first | done | rfl | simp), HB5.out⟩
  · have hd : decide ((m2 : Int) < (m1 : Int)) = false := by simp; omega
    have hmx : Hid (max m1 m2 = m2) := Lib.hid (by omega)
    go_wp2
    go_ret
    exact ⟨ret_int (by rw [HM1.out, HM2.out, hmx.out]; first | done | rfl | simp), HB5.out⟩
set_option maxRecDepth 100000 in
set_option maxHeartbeats 4000000 in
theorem greaterF_any (AK : Option Addr) (nK cK : Nat) (AV : Option Addr) (nV cV : Nat) (AD : Option Addr) (nD cD : Nat) (k : Nat) (ks vs : List (List Int)) (w : World) (hx : Bss w AK nK ks) (hy : Bss w AV nV vs) (hKc : nK ≤ cK) (hVc : nV ≤ cV) (hDc : nD ≤ cD) (bK : nK ≤ 100000) (bV : nV ≤ 100000) (bD : nD ≤ 100000) (sK : szW 1 ks ≤ 100000000000000000) (sV : szW 2 vs ≤ 100000000000000000) (hk : k + 1 ≤ nK) (hd0 : k + 1 ≤ nD) :
    Calls Try.prog 99 #[.agg (ndV false AK nK cK AV nV cV AD nD cD), .int .i64 (k : Int)] w fun e w' => e = .returned (.int .i64 ((max (sizeN false (ks.take k) [] (k + 1)) (sizeN false (ks.drop (k + 1)) [] (nD - (k + 1))) : Nat) : Int)) ∧ Below w.heap.size w w' := by
  have HK := Lib.hid hx; have HV := Lib.hid hy
  have hb1 := below_alloc w (.cells (ndV false AK nK cK AV nV cV AD nD cD) 66)
  have BX := Lib.hid (heap_alloc_new w (.cells (ndV false AK nK cK AV nV cV AD nD cD) 66))
  have HB := Lib.hid hb1
  have q0 := rc_cell 0 (.bool false) BX.out rfl
  have q1 := rc_cell 1 (.slice AK nK cK) BX.out rfl
  have q2 := rc_cell 2 (.slice AV nV cV) BX.out rfl
  have q3 := rc_cell 3 (.slice AD nD cD) BX.out rfl
  clear hx hy hb1
  go_enter Try.func99, Try.ntmps99
  go_wp2_with fail
  go_at_call 100
  refine (frontF_any AK nK cK AV nV cV AD nD cD k _ hKc hVc hDc bK bV bD (by omega) hd0).mono ?_
  rintro e x1 ⟨rfl, hb2⟩
  have BX2 := Lib.hid ((hb2.block _ (lt_of_heap BX.out)).trans BX.out)
  have HB2 := Lib.hid (HB.out.trans (hb2.mono HB.out.size))
  have r0 := rc_cell 0 (.bool false) BX2.out rfl
  have r1 := rc_cell 1 (.slice AK nK cK) BX2.out rfl
  have r2 := rc_cell 2 (.slice AV nV cV) BX2.out rfl
  have r3 := rc_cell 3 (.slice AD nD cD) BX2.out rfl
  have K2 := Lib.hid ((HK.out.keep HB2.out).pre (by omega : k ≤ nK))
  clear q0 q1 q2 q3 hb2
  go_wp2_with fail
  refine (rsize_any false AK k cK none 0 0 AD (k + 1) cD (ks.take k) [] _ K2.out Bss.nil_ (by omega) (by omega) (by omega) (Nat.le_trans (szW_le 1 ks k) sK) (by simp [szW])).mono ?_
  rintro e x2 ⟨rfl, hb3⟩
  obtain ⟨m1, HM1⟩ : ∃ m : Nat, Hid (sizeN false (ks.take k) [] (k + 1) = m) := ⟨_, rfl⟩
  rw [HM1.out]
  have BX3 := Lib.hid ((hb3.block _ (lt_of_heap BX2.out)).trans BX2.out)
  have HB3 := Lib.hid (HB2.out.trans (hb3.mono HB2.out.size))
  have s0 := rc_cell 0 (.bool false) BX3.out rfl
  have s1 := rc_cell 1 (.slice AK nK cK) BX3.out rfl
  have s2 := rc_cell 2 (.slice AV nV cV) BX3.out rfl
  have s3 := rc_cell 3 (.slice AD nD cD) BX3.out rfl
  clear r0 r1 r2 r3 hb3
  go_wp2_with fail
  go_at_call 101
  refine (backF_any AK nK cK AV nV cV AD nD cD k _ hKc hVc hDc bK bV bD hk hd0).mono ?_
  rintro e x4 ⟨rfl, hb4⟩
  have HB4 := Lib.hid (HB3.out.trans (hb4.mono HB3.out.size))
  have K4 := Lib.hid ((HK.out.keep HB4.out).cut (lo := k + 1) hKc)
  clear s0 s1 s2 s3 hb4
  go_wp2_with fail
  refine (rsize_any false (cutA AK cK (k + 1)) (nK - (k + 1)) (cK - (k + 1)) none 0 0 (cutA AD cD (k + 1)) (nD - (k + 1)) (cD - (k + 1)) (ks.drop (k + 1)) [] _ K4.out Bss.nil_ (by omega) (by omega) (by omega) (Nat.le_trans (szW_drop 1 ks (k + 1)) sK) (by simp [szW])).mono ?_
  rintro e x5 ⟨rfl, hb5⟩
  obtain ⟨m2, HM2⟩ : ∃ m : Nat, Hid (sizeN false (ks.drop (k + 1)) [] (nD - (k + 1)) = m) := ⟨_, rfl⟩
  rw [HM2.out]
  have HB5 := Lib.hid (HB4.out.trans (hb5.mono HB4.out.size))
  clear hb5
  by_cases hm : m2 < m1
  · have hd : decide ((m2 : Int) < (m1 : Int)) = true := by simp; omega
    have hmx : Hid (max m1 m2 = m1) := Lib.hid (by omega)
    go_wp2
    go_ret
    exact ⟨ret_int (by rw [HM1.out, HM2.out, hmx.out]; first | done | rfl | simp), HB5.out⟩
  · have hd : decide ((m2 : Int) < (m1 : Int)) = false := by simp; omega
    have hmx : Hid (max m1 m2 = m2) := Lib.hid (by omega)
    go_wp2
    go_ret
    exact ⟨ret_int (by rw [HM1.out, HM2.out, hmx.out]; first | done | rfl | simp), HB5.out⟩
end Go.Proofs.Ytmjjbfcblmmipaa
namespace Go.Proofs.Ytmjjbfcblmmipaa
set_option linter.unusedVariables false
set_option linter.unusedSimpArgs false
open Go.RowKit

/-- The sizes of the two halves of a cut at k. -/
def frN (lf : Bool) (ks vs : List (List Int)) (k : Nat) : Nat := if lf then sizeN true (ks.take k) (vs.take k) 0 else sizeN false (ks.take k) [] (k + 1)
def bkN (lf : Bool) (ks vs : List (List Int)) (nD k : Nat) : Nat := if lf then sizeN true (ks.drop k) (vs.drop k) 0 else sizeN false (ks.drop (k + 1)) [] (nD - (k + 1))
def gtr (lf : Bool) (ks vs : List (List Int)) (nD k : Nat) : Nat := max (frN lf ks vs k) (bkN lf ks vs nD k)
def frV (lf : Bool) (AK : Option Addr) (cK : Nat) (AV : Option Addr) (cV : Nat) (AD : Option Addr) (cD k : Nat) : Value :=
  .agg (if lf then #[.bool true, .slice AK k cK, .slice AV k cV, .slice none 0 0] else #[.bool false, .slice AK k cK, .slice none 0 0, .slice AD (k + 1) cD])
def bkV (lf : Bool) (AK : Option Addr) (nK cK : Nat) (AV : Option Addr) (nV cV : Nat) (AD : Option Addr) (nD cD k : Nat) : Value :=
  .agg (if lf then #[.bool true, .slice (cutA AK cK k) (nK - k) (cK - k), .slice (cutA AV cV k) (nV - k) (cV - k), .slice none 0 0]
    else #[.bool false, .slice (cutA AK cK (k + 1)) (nK - (k + 1)) (cK - (k + 1)), .slice none 0 0, .slice (cutA AD cD (k + 1)) (nD - (k + 1)) (cD - (k + 1))])
/-- k is a place to cut at. -/
def Cuts (lf : Bool) (nK nV nD k : Nat) : Prop := if lf then k ≤ nK ∧ k ≤ nV else k + 1 ≤ nK ∧ k + 1 ≤ nD

theorem greater_any (lf : Bool) (AK : Option Addr) (nK cK : Nat) (AV : Option Addr) (nV cV : Nat) (AD : Option Addr) (nD cD : Nat) (k : Nat) (ks vs : List (List Int)) (w : World) (hx : Bss w AK nK ks) (hy : Bss w AV nV vs) (hKc : nK ≤ cK) (hVc : nV ≤ cV) (hDc : nD ≤ cD) (bK : nK ≤ 100000) (bV : nV ≤ 100000) (bD : nD ≤ 100000) (sK : szW 1 ks ≤ 100000000000000000) (sV : szW 2 vs ≤ 100000000000000000) (hc : Cuts lf nK nV nD k) :
    Calls Try.prog 99 #[.agg (ndV lf AK nK cK AV nV cV AD nD cD), .int .i64 (k : Int)] w fun e w' => e = .returned (.int .i64 ((gtr lf ks vs nD k : Nat) : Int)) ∧ Below w.heap.size w w' := by
  cases lf with
  | true => exact greaterL_any AK nK cK AV nV cV AD nD cD k ks vs w hx hy hKc hVc hDc bK bV bD sK sV hc.1 hc.2
  | false => exact greaterF_any AK nK cK AV nV cV AD nD cD k ks vs w hx hy hKc hVc hDc bK bV bD sK sV hc.1 hc.2
theorem front_any (lf : Bool) (AK : Option Addr) (nK cK : Nat) (AV : Option Addr) (nV cV : Nat) (AD : Option Addr) (nD cD : Nat) (k : Nat) (w : World) (hKc : nK ≤ cK) (hVc : nV ≤ cV) (hDc : nD ≤ cD) (bK : nK ≤ 100000) (bV : nV ≤ 100000) (bD : nD ≤ 100000) (hc : Cuts lf nK nV nD k) :
    Calls Try.prog 100 #[.agg (ndV lf AK nK cK AV nV cV AD nD cD), .int .i64 (k : Int)] w fun e w' => e = .returned (frV lf AK cK AV cV AD cD k) ∧ Below w.heap.size w w' := by
  cases lf with
  | true => exact frontL_any AK nK cK AV nV cV AD nD cD k w hKc hVc hDc bK bV bD hc.1 hc.2
  | false => exact frontF_any AK nK cK AV nV cV AD nD cD k w hKc hVc hDc bK bV bD (by have := hc.1; omega) hc.2
theorem back_any (lf : Bool) (AK : Option Addr) (nK cK : Nat) (AV : Option Addr) (nV cV : Nat) (AD : Option Addr) (nD cD : Nat) (k : Nat) (w : World) (hKc : nK ≤ cK) (hVc : nV ≤ cV) (hDc : nD ≤ cD) (bK : nK ≤ 100000) (bV : nV ≤ 100000) (bD : nD ≤ 100000) (hc : Cuts lf nK nV nD k) :
    Calls Try.prog 101 #[.agg (ndV lf AK nK cK AV nV cV AD nD cD), .int .i64 (k : Int)] w fun e w' => e = .returned (bkV lf AK nK cK AV nV cV AD nD cD k) ∧ Below w.heap.size w w' := by
  cases lf with
  | true => exact backL_any AK nK cK AV nV cV AD nD cD k w hKc hVc hDc bK bV bD hc.1 hc.2
  | false => exact backF_any AK nK cK AV nV cV AD nD cD k w hKc hVc hDc bK bV bD hc.1 hc.2

/-- The first of 1 .. k+1 at which f is least. -/
def bestN (f : Nat → Nat) : Nat → Nat
  | 0 => 1
  | k + 1 => if f (k + 2) < f (bestN f k) then k + 2 else bestN f k
theorem bestN_in (f : Nat → Nat) (k : Nat) : 1 ≤ bestN f k ∧ bestN f k ≤ k + 1 := by
  induction k with
  | zero => simp [bestN]
  | succ k ih => unfold bestN; split <;> omega
theorem bestN_le (f : Nat → Nat) (k j : Nat) (h1 : 1 ≤ j) (h2 : j ≤ k + 1) : f (bestN f k) ≤ f j := by
  induction k with
  | zero => obtain rfl : j = 1 := by omega
            simp [bestN]
  | succ k ih =>
    by_cases hj : j = k + 2
    · subst hj; unfold bestN; split <;> omega
    · have := ih (by omega); unfold bestN; split <;> omega
theorem bestN_lt (f : Nat → Nat) (k j : Nat) (h1 : 1 ≤ j) (h2 : j < bestN f k) : f (bestN f k) < f j := by
  induction k with
  | zero => simp [bestN] at h2; omega
  | succ k ih =>
    unfold bestN at h2 ⊢
    split at h2
    · rename_i h
      rw [if_pos h]
      exact Nat.lt_of_lt_of_le h (bestN_le f k j h1 (by omega))
    · rename_i h
      rw [if_neg h]
      exact ih h2

end Go.Proofs.Ytmjjbfcblmmipaa
