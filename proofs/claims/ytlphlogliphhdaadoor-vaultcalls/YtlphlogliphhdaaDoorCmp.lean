/- The order of byte lists: cmp.Compare at byte and int, pack.Compare, the reference's Cmp and Equal. -/
import Derived.Test.YtlphlogliphhdaaDoorRows
import Derived.Test.YtlphlogliphhdaaDoorBase
import Derived.WalkSpells
import Derived.Deep.QuietTactic
import Derived.BigQuiet
namespace Go.Proofs.YtlphlogliphhdaaDoor
set_option linter.unusedVariables false
set_option linter.unusedSimpArgs false
open Go.RowKit

set_option maxHeartbeats 400000 in
theorem cmp_any (A B : Option Addr) (n m c d : Nat) (xs ys : List Int) (w : World) (hx : Bs w A n xs) (hy : Bs w B m ys) (hn : n ≤ maxLen) (hm : m ≤ maxLen) :
    Calls Tryd.prog 35 #[.slice A n c, .slice B m d] w fun e w' => e = .returned (.int .i64 (cmpL xs ys)) ∧ Dr w w' := by
  unfold maxLen at hn hm
  have hlx := hx.len; have HLX := Lib.hid hlx; clear hlx
  have hly := hy.len; have HLY := Lib.hid hly; clear hly
  go_enter Tryd.func35, Tryd.ntmps35
  go_wp2
  go_loopw [5] (fun i wr => ∃ k q : Nat, k ≤ n ∧ k ≤ m ∧ i = .int .i64 k ∧ wr = w.drewN q ∧ Hid (cmpL xs ys = cmpL (xs.drop k) (ys.drop k))) (fun i _ => n + m - (intOf i).toNat)
  case atStart => exact ⟨0, 0, Nat.zero_le _, Nat.zero_le _, rfl, rfl, rfl⟩
  case round =>
    obtain ⟨k, q, hkn, hkm, rfl, rfl, HK⟩ := hrel
    by_cases hlt : k < n ∧ k < m
    · obtain ⟨h1, h2⟩ := hlt
      obtain ⟨b, off, x, rfl, hb, hx0, hx1, hcx, HX⟩ := hx.at_ h1
      obtain ⟨b', off', y, rfl, hb', hy0, hy1, hcy, HY⟩ := hy.at_ h2
      have hcx' : (w.drewN q).cell? ⟨b, off + k, none⟩ = some (.int .u8 x) := hcx
      have hcy' : (w.drewN q).cell? ⟨b', off' + k, none⟩ = some (.int .u8 y) := hcy
      by_cases hxy : x = y
      · subst hxy
        go_wp2
        go_quiet (fail)
        go_wp2
        go_quiet (fail)
        go_wp2
        go_roundw
        case rel => exact ⟨k + 1, _, by omega, by omega, by go_num, rfl, HK.out.trans (cmpL_drop_eq HX.out HY.out)⟩
        case measure => simp [intOf]; omega
      · have HF := Lib.hid (HK.out.trans (cmpL_drop_ne HX.out HY.out hxy))
        by_cases hl : x < y
        · have HG := Lib.hid (show cmpL xs ys = -1 by rw [HF.out]; simp [cmpI, hl])
          clear hxy
          go_wp2
          go_quiet (fail)
          go_wp2
          go_ret
          exact ⟨ret_int HG.out.symm, (((Dr.refl w).n _).n _)⟩
        · have hg : y < x := by omega
          have HG := Lib.hid (show cmpL xs ys = 1 by rw [HF.out]; simp [cmpI, hl, hg])
          clear hxy
          go_wp2
          go_quiet (fail)
          go_wp2
          go_quiet (fail)
          go_wp2
          go_ret
          exact ⟨ret_int HG.out.symm, (((Dr.refl w).n _).n _).n _⟩
    · have hmin : k = min n m := by omega
      have HF : Hid (cmpL xs ys = cmpI n m) := by
        have := HK.out.trans (cmpL_end (xs := xs) (ys := ys) (k := k) (by rw [HLX.out, HLY.out]; exact hmin))
        rw [HLX.out, HLY.out] at this; exact this
      clear hmin
      by_cases hge : k < n
      · have hgm : m ≤ k := by omega
        have HG := Lib.hid (show cmpL xs ys = 1 by rw [HF.out]; unfold cmpI; rw [if_neg (by omega), if_pos (by omega)])
        clear hlt
        go_wp2
        go_ret
        exact ⟨ret_int HG.out.symm, (Dr.refl w).n _⟩
      · by_cases hgm : n < m
        · have HG := Lib.hid (show cmpL xs ys = -1 by rw [HF.out]; unfold cmpI; rw [if_pos (by omega)])
          clear hlt
          go_wp2
          go_ret
          exact ⟨ret_int HG.out.symm, (Dr.refl w).n _⟩
        · have HG := Lib.hid (show cmpL xs ys = 0 by rw [HF.out]; unfold cmpI; rw [if_neg (by omega), if_neg (by omega)])
          clear hlt
          go_wp2
          go_ret
          exact ⟨ret_int HG.out.symm, (Dr.refl w).n _⟩
end Go.Proofs.YtlphlogliphhdaaDoor
