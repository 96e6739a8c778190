/- The reference's Quote. -/
import Derived.Test.YtdlbghjclcdfmaaDoorQuoteW
namespace Go.Proofs.YtdlbghjclcdfmaaDoor
set_option linter.unusedVariables false
set_option linter.unusedSimpArgs false
open Go.RowKit

theorem digitOf_any (d : Int) (w : World) (h0 : 0 ≤ d) (h1 : d ≤ 15) : Calls Tryd.prog 44 #[.int .u8 d] w fun e w' => e = .returned (.int .u8 (hxd d)) ∧ w = w' := by
  by_cases h : d < 10
  · have HR := Lib.hid (show 48 + d = hxd d by unfold hxd; rw [if_pos h])
    go_enter Tryd.func44, Tryd.ntmps44
    go_wp2
    go_ret
    exact ⟨ret_int HR.out, rfl⟩
  · have HR := Lib.hid (show 97 + d - 10 = hxd d by unfold hxd; rw [if_neg h]; omega)
    go_enter Tryd.func44, Tryd.ntmps44
    go_wp2
    go_ret
    exact ⟨ret_int HR.out, rfl⟩

set_option maxRecDepth 100000 in
set_option maxHeartbeats 1000000 in
theorem rquote_any (A : Option Addr) (n c : Nat) (xs : List Int) (w : World) (hx : Bs w A n xs) (hn : 4 * n + 10 ≤ 140737488355328) :
    Calls Tryd.prog 24 #[.slice A n c] w fun e w' => e = .returned (.string (strOfNums (quo xs))) ∧ Below w.heap.size w w' := by
  obtain ⟨i0, hi, hz0, hz1, hz2⟩ := info_parts info5
  have HL := Lib.hid hx.len
  have ho0 : Own (w.alloc (.cells #[.int .u8 34] 5)) w.heap.size 5 (some ⟨w.heap.size, 0, none⟩) 1 1 (By (34 :: qs (xs.take 0))) := by
    refine Own.of_block (n := 1) (vs := By [34]) ?_ (Nat.le_refl _) rfl (by unfold maxLen; omega)
    exact heap_alloc_new w _
  have hb0 := below_alloc w (.cells #[.int .u8 34] 5)
  go_enter Tryd.func24, Tryd.ntmps24
  go_wp2
  go_loopw [3, 4] (fun o i wr => ∃ (k n' c' : Nat) (A' : Option Addr), i = .int .i64 k ∧ o = .slice A' n' c' ∧ k ≤ n ∧ Hid (n' = 1 + (qs (xs.take k)).length) ∧ Own wr w.heap.size 5 A' n' c' (By (34 :: qs (xs.take k))) ∧ Below w.heap.size w wr) (fun _ i _ => n - (intOf i).toNat)
  case atStart => exact ⟨0, 1, 1, _, rfl, rfl, Nat.zero_le _, rfl, ho0, hb0⟩
  case round =>
    clear ho0 hb0
    obtain ⟨k, n', c', A', rfl, rfl, hk, HN, ho, hb⟩ := hrel
    have hsz := hb.size
    have hn' : n' ≤ 1 + 4 * n := by
      have h1 := qs_le (xs.take k); have h2 := HN.out
      have h3 := List.length_take_le k xs
      omega
    by_cases hlt : k < n
    · obtain ⟨b, off, x, rfl, hbk, hx0, hx1, hc, HX⟩ := (hx.keep hb).at_ hlt
      have HS := Lib.hid (qs_snoc HX.out)
      by_cases h2 : x = 92 ∨ x = 34
      · have HQ := Lib.hid (qb_esc h2)
        have hd2 : (x == 34) = true ∨ ((x == 34) = false ∧ (x == 92) = true) := by simp; omega
        clear h2
        rcases hd2 with h1 | ⟨h1, h2⟩
        · have ho2 := ho.alloc (.cells (By [92, x]).toArray 5)
          have hr2 := rd_new wr [92, x]
          have hbb := hb.alloc hsz (.cells (By [92, x]).toArray 5)
          go_wp2_with (at_builtin; refine wpList_append_rd rfl _ _ 36 rfl i0 (.int .u8 0) 1 Tryd.underlying36 hi hz0 hz1 hz2 rfl rfl ho2 (some ⟨wr.heap.size, 0, none⟩) 2 2 (By [92, x]) rfl hr2 (By_one _) ?c1 ?c2 ?c3 ?_)
          case c1 => unfold maxLen; omega
          case c2 => omega
          case c3 => simp; omega
          intro A2 c2 w2 ho3 hg
          have hb2 := hbb.trans (hg.below (by simp; omega) (fun k hk => (ho.lies k hk).1))
          rw [← By_append] at ho3
          have HN2 := Lib.hid (show n' + 2 = 1 + (qs (xs.take (k + 1))).length by rw [HS.out, HQ.out, List.length_append]; have := HN.out; simp; omega)
          have ho4 : Own w2 w.heap.size 5 A2 (n' + 2) c2 (By (34 :: qs (xs.take (k + 1)))) := by rw [HS.out, HQ.out]; exact ho3
          clear ho2 hr2 hbb hb ho hg ho3
          go_wp2
          go_roundw
          case rel => exact ⟨k + 1, n' + 2, c2, A2, by go_num, rfl, by omega, HN2, ho4, hb2⟩
          case measure => simp [intOf]; omega
        · have ho2 := ho.alloc (.cells (By [92, x]).toArray 5)
          have hr2 := rd_new wr [92, x]
          have hbb := hb.alloc hsz (.cells (By [92, x]).toArray 5)
          go_wp2_with (at_builtin; refine wpList_append_rd rfl _ _ 36 rfl i0 (.int .u8 0) 1 Tryd.underlying36 hi hz0 hz1 hz2 rfl rfl ho2 (some ⟨wr.heap.size, 0, none⟩) 2 2 (By [92, x]) rfl hr2 (By_one _) ?c1 ?c2 ?c3 ?_)
          case c1 => unfold maxLen; omega
          case c2 => omega
          case c3 => simp; omega
          intro A2 c2 w2 ho3 hg
          have hb2 := hbb.trans (hg.below (by simp; omega) (fun k hk => (ho.lies k hk).1))
          rw [← By_append] at ho3
          have HN2 := Lib.hid (show n' + 2 = 1 + (qs (xs.take (k + 1))).length by rw [HS.out, HQ.out, List.length_append]; have := HN.out; simp; omega)
          have ho4 : Own w2 w.heap.size 5 A2 (n' + 2) c2 (By (34 :: qs (xs.take (k + 1)))) := by rw [HS.out, HQ.out]; exact ho3
          clear ho2 hr2 hbb hb ho hg ho3
          go_wp2
          go_roundw
          case rel => exact ⟨k + 1, n' + 2, c2, A2, by go_num, rfl, by omega, HN2, ho4, hb2⟩
          case measure => simp [intOf]; omega
      · have h3 : (x == 92) = false := by simp; omega
        have h4 : (x == 34) = false := by simp; omega
        by_cases h1 : x < 32 ∨ 126 < x
        · have HQ := Lib.hid (qb_bad h1)
          have hd3 : x < 32 ∨ (32 ≤ x ∧ 127 ≤ x) := by omega
          clear h1 h2
          rcases hd3 with h1 | ⟨h1, h2⟩
          · go_wp2_with fail
            refine (digitOf_any (x / 16) _ (by omega) (by omega)).mono ?_
            rintro e w3 ⟨rfl, rfl⟩
            go_wp2_with fail
            refine (digitOf_any (x % 16) _ (by omega) (by omega)).mono ?_
            rintro e w3 ⟨rfl, rfl⟩
            have ho2 := ho.alloc (.cells (By [92, 120, hxd (x / 16), hxd (x % 16)]).toArray 5)
            have hr2 := rd_new wr [92, 120, hxd (x / 16), hxd (x % 16)]
            have hbb := hb.alloc hsz (.cells (By [92, 120, hxd (x / 16), hxd (x % 16)]).toArray 5)
            go_wp2_with (at_builtin; refine wpList_append_rd rfl _ _ 36 rfl i0 (.int .u8 0) 1 Tryd.underlying36 hi hz0 hz1 hz2 rfl rfl ho2 (some ⟨wr.heap.size, 0, none⟩) 4 4 (By [92, 120, hxd (x / 16), hxd (x % 16)]) rfl hr2 (By_one _) ?c1 ?c2 ?c3 ?_)
            case c1 => unfold maxLen; omega
            case c2 => omega
            case c3 => simp; omega
            intro A2 c2 w2 ho3 hg
            have hb2 := hbb.trans (hg.below (by simp; omega) (fun k hk => (ho.lies k hk).1))
            rw [← By_append] at ho3
            have HN2 := Lib.hid (show n' + 4 = 1 + (qs (xs.take (k + 1))).length by rw [HS.out, HQ.out, List.length_append]; have := HN.out; simp; omega)
            have ho4 : Own w2 w.heap.size 5 A2 (n' + 4) c2 (By (34 :: qs (xs.take (k + 1)))) := by rw [HS.out, HQ.out]; exact ho3
            clear ho2 hr2 hbb hb ho hg ho3
            go_wp2
            go_roundw
            case rel => exact ⟨k + 1, n' + 4, c2, A2, by go_num, rfl, by omega, HN2, ho4, hb2⟩
            case measure => simp [intOf]; omega
          · go_wp2_with fail
            refine (digitOf_any (x / 16) _ (by omega) (by omega)).mono ?_
            rintro e w3 ⟨rfl, rfl⟩
            go_wp2_with fail
            refine (digitOf_any (x % 16) _ (by omega) (by omega)).mono ?_
            rintro e w3 ⟨rfl, rfl⟩
            have ho2 := ho.alloc (.cells (By [92, 120, hxd (x / 16), hxd (x % 16)]).toArray 5)
            have hr2 := rd_new wr [92, 120, hxd (x / 16), hxd (x % 16)]
            have hbb := hb.alloc hsz (.cells (By [92, 120, hxd (x / 16), hxd (x % 16)]).toArray 5)
            go_wp2_with (at_builtin; refine wpList_append_rd rfl _ _ 36 rfl i0 (.int .u8 0) 1 Tryd.underlying36 hi hz0 hz1 hz2 rfl rfl ho2 (some ⟨wr.heap.size, 0, none⟩) 4 4 (By [92, 120, hxd (x / 16), hxd (x % 16)]) rfl hr2 (By_one _) ?c1 ?c2 ?c3 ?_)
            case c1 => unfold maxLen; omega
            case c2 => omega
            case c3 => simp; omega
            intro A2 c2 w2 ho3 hg
            have hb2 := hbb.trans (hg.below (by simp; omega) (fun k hk => (ho.lies k hk).1))
            rw [← By_append] at ho3
            have HN2 := Lib.hid (show n' + 4 = 1 + (qs (xs.take (k + 1))).length by rw [HS.out, HQ.out, List.length_append]; have := HN.out; simp; omega)
            have ho4 : Own w2 w.heap.size 5 A2 (n' + 4) c2 (By (34 :: qs (xs.take (k + 1)))) := by rw [HS.out, HQ.out]; exact ho3
            clear ho2 hr2 hbb hb ho hg ho3
            go_wp2
            go_roundw
            case rel => exact ⟨k + 1, n' + 4, c2, A2, by go_num, rfl, by omega, HN2, ho4, hb2⟩
            case measure => simp [intOf]; omega
        · have HQ := Lib.hid (qb_own (c := x) (by omega) (by omega) (by omega) (by omega))
          have h5 : 32 ≤ x := by omega
          have h6 : x < 127 := by omega
          clear h1 h2
          have ho2 := ho.alloc (.cells (By [x]).toArray 5)
          have hr2 := rd_new wr [x]
          have hbb := hb.alloc hsz (.cells (By [x]).toArray 5)
          go_wp2_with (at_builtin; refine wpList_append_rd rfl _ _ 36 rfl i0 (.int .u8 0) 1 Tryd.underlying36 hi hz0 hz1 hz2 rfl rfl ho2 (some ⟨wr.heap.size, 0, none⟩) 1 1 (By [x]) rfl hr2 (By_one _) ?c1 ?c2 ?c3 ?_)
          case c1 => unfold maxLen; omega
          case c2 => omega
          case c3 => simp; omega
          intro A2 c2 w2 ho3 hg
          have hb2 := hbb.trans (hg.below (by simp; omega) (fun k hk => (ho.lies k hk).1))
          rw [← By_append] at ho3
          have HN2 := Lib.hid (show n' + 1 = 1 + (qs (xs.take (k + 1))).length by rw [HS.out, HQ.out, List.length_append]; have := HN.out; simp; omega)
          have ho4 : Own w2 w.heap.size 5 A2 (n' + 1) c2 (By (34 :: qs (xs.take (k + 1)))) := by rw [HS.out, HQ.out]; exact ho3
          clear ho2 hr2 hbb hb ho hg ho3
          go_wp2
          go_roundw
          case rel => exact ⟨k + 1, n' + 1, c2, A2, by go_num, rfl, by omega, HN2, ho4, hb2⟩
          case measure => simp [intOf]; omega
    · have hke : xs.take k = xs := List.take_of_length_le (by rw [HL.out]; omega)
      rw [hke] at HN ho
      clear hke
      have ho2 := ho.alloc (.cells (By [34]).toArray 5)
      have hr2 := rd_new wr [34]
      have hbb := hb.alloc hsz (.cells (By [34]).toArray 5)
      go_wp2_with (at_builtin; refine wpList_append_rd rfl _ _ 36 rfl i0 (.int .u8 0) 1 Tryd.underlying36 hi hz0 hz1 hz2 rfl rfl ho2 (some ⟨wr.heap.size, 0, none⟩) 1 1 (By [34]) rfl hr2 (By_one _) ?c1 ?c2 ?c3 ?_)
      case c1 => unfold maxLen; omega
      case c2 => omega
      case c3 => simp; omega
      intro A2 c2 w2 ho3 hg
      have hb2 := hbb.trans (hg.below (by simp; omega) (fun k hk => (ho.lies k hk).1))
      rw [← By_append] at ho3
      have hcv := conv_own ho3 (by omega)
      clear ho2 hr2 hbb hb ho hg ho3
      go_wp2
      go_ret
      exact ⟨by rw [quo]; rfl, hb2⟩
end Go.Proofs.YtdlbghjclcdfmaaDoor
