/- same: lists of texts, one by one. -/
import Derived.Test.YtlphlogliphhdaaDoorListW
import Derived.Test.YtlphlogliphhdaaDoorCmp
namespace Go.Proofs.YtlphlogliphhdaaDoor
set_option linter.unusedVariables false
set_option linter.unusedSimpArgs false
open Go.RowKit Go.Maps
open Go.Proofs (encStr)

theorem Sv_at {w : World} {A : Option Addr} {n k : Nat} {ss : List (List UInt8)} (h : Rd w A n (Sv ss)) (hk : k < n) : ∃ b off S, A = some ⟨b, off, none⟩ ∧ w.cell? ⟨b, off + k, none⟩ = some (.string S) ∧ Hid (ss[k]? = some S.data.toList) := by
  obtain ⟨b, off, u, hA, _, hc, HU⟩ := h.at_ hk
  have hu := HU.out
  have hl := h.1
  rw [Sv_length] at hl
  simp only [Sv, List.getElem?_map, List.getElem?_eq_getElem (show k < ss.length by omega), Option.map_some, Option.some.injEq] at hu
  refine ⟨b, off, ⟨ss[k].toArray⟩, hA, by rw [hc, ← hu], ?_⟩
  show _ = _
  rw [List.getElem?_eq_getElem (show k < ss.length by omega)]
theorem takes {us ts : List (List UInt8)} {k : Nat} {x : List UInt8} (h : us.take k = ts.take k) (ha : us[k]? = some x) (hb : ts[k]? = some x) : us.take (k + 1) = ts.take (k + 1) := by
  rw [List.take_add_one, List.take_add_one, h, ha, hb]

set_option maxRecDepth 100000 in
set_option maxHeartbeats 2000000 in
theorem same_any (A B : Option Addr) (n m c d : Nat) (us ts : List (List UInt8)) (w : World) (ha : Rd w A n (Sv us)) (hb : Rd w B m (Sv ts)) (hn : n ≤ 1000000) :
    Calls Tryd.prog 18 #[.slice A n c, .slice B m d] w fun e w' => e = .returned (.bool (decide (us = ts))) ∧ Dr w w' := by
  have hla : us.length = n := by have := ha.1; rwa [Sv_length] at this
  have hlb : ts.length = m := by have := hb.1; rwa [Sv_length] at this
  have HLA := Lib.hid hla
  have HLB := Lib.hid hlb
  clear hla hlb
  by_cases hnm : n = m
  · subst hnm
    have hq : ((n : Int) != (n : Int)) = false := by simp
    go_enter Tryd.func18, Tryd.ntmps18
    go_wp2
    go_loopw [13] (fun v wr => ∃ k q : Nat, v = .int .i64 (k : Int) ∧ k ≤ n ∧ wr = w.drewN q ∧ Hid (us.take k = ts.take k)) (fun v _ => n - (intOf v).toNat)
    case atStart => exact ⟨0, 0, rfl, Nat.zero_le _, rfl, rfl⟩
    case round =>
      obtain ⟨k, q, rfl, hk, rfl, HK⟩ := hrel
      by_cases hlt : k < n
      · obtain ⟨b, off, S, hA, hc1, HA⟩ := Sv_at ha hlt
        obtain ⟨b', off', T, hB, hc2, HB⟩ := Sv_at hb hlt
        subst hA; subst hB
        have hc1' : (w.drewN q).cell? ⟨b, off + k, none⟩ = some (.string S) := hc1
        have hc2' : (w.drewN q).cell? ⟨b', off' + k, none⟩ = some (.string T) := hc2
        by_cases hST : S = T
        · subst hST
          have hse : (S.toList == S.toList) = true := by simp
          have HN := Lib.hid (takes HK.out HA.out HB.out)
          clear HK ha hb
          go_wp2
          go_quiet (fail)
          go_wp2
          go_roundw
          case rel => exact ⟨k + 1, _, by go_num, by omega, rfl, HN.out⟩
          case measure => simp [intOf]; omega
        · have hse : (S.toList == T.toList) = false := by
            have : ¬ S.toList = T.toList := fun h => hST (by
              rw [ByteArray.toList_eq, ByteArray.toList_eq] at h
              exact ByteArray.ext (Array.toList_inj.1 h))
            simpa using this
          have HF : Hid (decide (us = ts) = false) := by
            show _ = _
            rw [decide_eq_false_iff_not]
            intro e
            have h1 := HA.out
            rw [e, HB.out] at h1
            injection h1 with h1
            exact hST (ByteArray.ext (Array.toList_inj.1 h1)).symm
          clear HK ha hb hST
          go_wp2
          go_quiet (fail)
          go_wp2
          go_ret
          exact ⟨ret_bool HF.out.symm, ((Dr.refl w).n _).n _⟩
      · obtain rfl : k = n := by omega
        have HT : Hid (decide (us = ts) = true) := by
          show _ = _
          rw [decide_eq_true_eq]
          have := HK.out
          rwa [List.take_of_length_le (by rw [HLA.out]; exact Nat.le_refl _), List.take_of_length_le (by rw [HLB.out]; exact Nat.le_refl _)] at this
        clear HK ha hb
        go_wp2
        go_ret
        exact ⟨ret_bool HT.out.symm, (Dr.refl w).n _⟩
  · have hq : ((n : Int) != (m : Int)) = true := by simp; omega
    have hq2 : ¬ (n : Int) = (m : Int) := by omega
    have HF : Hid (decide (us = ts) = false) := by
      show _ = _
      rw [decide_eq_false_iff_not]
      intro e
      exact hnm (by rw [← HLA.out, ← HLB.out, e])
    clear hnm
    go_enter Tryd.func18, Tryd.ntmps18
    go_wp2
    go_ret
    exact ⟨ret_bool HF.out.symm, Dr.refl w⟩
end Go.Proofs.YtlphlogliphhdaaDoor
