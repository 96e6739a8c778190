/- label.Quote. -/
import Derived.Test.YtdlbghjclcdfmaaDoorQuo
import Derived.Deep.RegionLaw
import Derived.Laws.BitsAllLaws
namespace Go.Proofs.YtdlbghjclcdfmaaDoor
set_option linter.unusedVariables false
set_option linter.unusedSimpArgs false
open Go.RowKit

def pr (c : Int) : Bool := decide (32 ≤ c ∧ c ≤ 126)
theorem pr_true {c : Int} (h : 32 ≤ c) (h' : c ≤ 126) : pr c = true := by simp [pr, h, h']
theorem pr_false {c : Int} (h : c < 32 ∨ 126 < c) : pr c = false := by simp [pr]; omega
theorem printable_any (c : Int) (w : World) : Calls Tryd.prog 42 #[.int .u8 c] w fun e w' => e = .returned (.bool (pr c)) ∧ w = w' := by
  by_cases h1 : 32 ≤ c
  · by_cases h2 : c ≤ 126
    · have HR := Lib.hid (pr_true h1 h2)
      go_enter Tryd.func42, Tryd.ntmps42
      go_wp2
      go_ret
      exact ⟨ret_bool HR.out.symm, rfl⟩
    · have HR := Lib.hid (pr_false (c := c) (by omega))
      go_enter Tryd.func42, Tryd.ntmps42
      go_wp2
      go_ret
      exact ⟨ret_bool HR.out.symm, rfl⟩
  · have HR := Lib.hid (pr_false (c := c) (by omega))
    go_enter Tryd.func42, Tryd.ntmps42
    go_wp2
    go_ret
    exact ⟨ret_bool HR.out.symm, rfl⟩

theorem below_alloc (w : World) (o : Obj) : Below w.heap.size w (w.alloc o) := (Below.refl _ _).alloc (Nat.le_refl _) _
/-- A new row of bytes. -/
theorem rd_new (w : World) (ks : List Int) : Rd (w.alloc (.cells (By ks).toArray 5)) (some ⟨w.heap.size, 0, none⟩) ks.length (By ks) := by
  refine ⟨By_length _, fun _ => ⟨_, _, rfl, by simp, fun j u hu => ?_⟩⟩
  rw [cell_of_row _ w.heap.size (0 + j) (By ks).toArray 5 (0, 0) (heap_alloc_new w _)]
  simpa using hu

theorem hex_at : ∀ i : Fin 16, (((#[48, 49, 50, 51, 52, 53, 54, 55, 56, 57, 97, 98, 99, 100, 101, 102] : Array UInt8)[i.val]!).toNat : Int) = hxd i.val := by decide
theorem hex_index (d : Int) (h0 : 0 ≤ d) (h1 : d ≤ 15) (W : World) :
    (Instr.index 9 (.string ⟨#[48, 49, 50, 51, 52, 53, 54, 55, 56, 57, 97, 98, 99, 100, 101, 102]⟩) (.int .u8 d)).run Tryd.prog W = .ok (.int .u8 (hxd d)) W := by
  rw [run_index_string W 9 _ .u8 d Tryd.underlying9, dif_pos ⟨h0, by change d < 16; omega⟩]
  have h := hex_at ⟨d.toNat, by omega⟩
  simp only at h
  have e : ((d.toNat : Nat) : Int) = d := by omega
  rw [e] at h
  rw [← h]
  congr 3
  rw [ByteArray.getElem_eq_getElem_data]
  rw [getElem!_pos _ _ (by simp; omega)]

theorem low_bits (x : Int) (h0 : 0 ≤ x) (h1 : x ≤ 255) : bits .and .u8 x 15 = x % 16 := by
  rw [u8_and x 15 h0 (by omega) (by omega) (by omega)]
  have : x.toNat &&& (15 : Int).toNat = x.toNat % 16 := Nat.and_two_pow_sub_one_eq_mod x.toNat 4
  rw [this]; omega
theorem Own.alloc2 {w : World} {base : Nat} {e : TypeId} {A : Option Addr} {n c : Nat} {vs : List Value} (h : Own w base e A n c vs) (o : Obj) : Own (w.drew.alloc o) base e A n c vs := Own.alloc (w := w.drew) (h.drewN 1) o
/-- string(b), b a slice of the call's own. -/
theorem conv_own {w : World} {base : Nat} {A : Option Addr} {n c : Nat} {xs : List Int} (h : Own w base 5 A n c (By xs)) (hn : 0 < n) :
    (convert 36 9 (.slice A n c)).run Tryd.prog w = .ok (.string (strOfNums xs)) w := by
  obtain ⟨hl, hc⟩ := h.rd
  rw [By_length] at hl
  obtain ⟨b, off, rfl, hb, hcell⟩ := hc hn
  refine run_convert_bytes_arg w 36 5 Tryd.underlying36 Tryd.underlying5 b off n c xs hl (fun i hi => ?_) 9 Tryd.underlying9
  refine hcell i _ ?_
  rw [By, List.getElem?_map, List.getElem?_eq_getElem (by omega)]
  simp [List.getD, List.getElem?_eq_getElem (show i < xs.length by omega)]

set_option maxRecDepth 100000 in
set_option maxHeartbeats 1000000 in
theorem quote_any (A : Option Addr) (n c : Nat) (xs : List Int) (w : World) (hx : Bs w A n xs) (hn : 4 * n + 10 ≤ 140737488355328) :
    Calls Tryd.prog 21 #[.slice A n c] w fun e w' => e = .returned (.string (strOfNums (quo xs))) ∧ Below w.heap.size w w' := by
  obtain ⟨i0, hi, hz0, hz1, hz2⟩ := info_parts info5
  have HL := Lib.hid hx.len
  have ho0 : Own (w.alloc (.cells #[.int .u8 34] 5)) w.heap.size 5 (some ⟨w.heap.size, 0, none⟩) 1 1 (By (34 :: qs (xs.take 0))) := by
    refine Own.of_block (n := 1) (vs := By [34]) ?_ (Nat.le_refl _) rfl (by unfold maxLen; omega)
    exact heap_alloc_new w _
  have hb0 := below_alloc w (.cells #[.int .u8 34] 5)
  go_enter Tryd.func21, Tryd.ntmps21
  go_wp2
  go_loopw [3, 9] (fun o i wr => ∃ (k n' c' : Nat) (A' : Option Addr), i = .int .i64 k ∧ o = .slice A' n' c' ∧ k ≤ n ∧ Hid (n' = 1 + (qs (xs.take k)).length) ∧ Own wr w.heap.size 5 A' n' c' (By (34 :: qs (xs.take k))) ∧ Below w.heap.size w wr) (fun _ i _ => n - (intOf i).toNat)
  case atStart => exact ⟨0, 1, 1, _, rfl, rfl, Nat.zero_le _, rfl, ho0, hb0⟩
  case round =>
    clear ho0 hb0
    obtain ⟨k, n', c', A', rfl, rfl, hk, HN, ho, hb⟩ := hrel
    have hsz := hb.size
    have hn' : n' ≤ 1 + 4 * n := by
      have h1 := qs_le (xs.take k); have h2 := HN.out
      have h3 := List.length_take_le k xs
      omega
    by_cases hlt : k < n
    · obtain ⟨b, off, x, rfl, hbk, hx0, hx1, hc, HX⟩ := (hx.keep hb).at_ hlt
      have HS := Lib.hid (qs_snoc HX.out)
      go_wp2_with fail
      refine (printable_any _ _).mono ?_
      rintro e w2 ⟨rfl, rfl⟩
      by_cases h1 : x < 32 ∨ 126 < x
      · have hd := pr_false h1
        have HQ := Lib.hid (qb_bad h1)
        have hi1 := hex_index (x / 16) (by omega) (by omega)
        have hi2 := hex_index (x % 16) (by omega) (by omega)
        have hand := low_bits x hx0 hx1
        clear h1
        go_wp2
        have ho2 := ho.alloc2 (.cells (By [92, 120, hxd (x / 16), hxd (x % 16)]).toArray 5)
        have hr2 := rd_new wr.drew [92, 120, hxd (x / 16), hxd (x % 16)]
        have hbb := (hb.drew).alloc hsz (.cells (By [92, 120, hxd (x / 16), hxd (x % 16)]).toArray 5)
        have hc1 : n' + 4 ≤ maxLen := by unfold maxLen; omega
        have hc2 : (n' + 4) * 1 ≤ 140737488355328 := by omega
        have hc3 : w.heap.size ≤ (wr.drew.alloc (.cells (By [92, 120, hxd (x / 16), hxd (x % 16)]).toArray 5)).heap.size := by simp; omega
        go_region_law (refine step_append_rd rfl (.tmp 24) (.tmp 31) 36 rfl i0 (.int .u8 0) 1 Tryd.underlying36 hi hz0 hz1 hz2 rfl (by simp [Act.eval, Act.put]) ho2 (some ⟨wr.heap.size, 0, none⟩) 4 4 (By [92, 120, hxd (x / 16), hxd (x % 16)]) (by simp [Act.eval, Act.put]) hr2 (By_one _) hc1 hc2 hc3 ?_; intro A2 c2 w2 ho3 hg)
        all_goals
          have hb2 := hbb.trans (hg.below (by simp; omega) (fun k hk => (ho.lies k hk).1))
          rw [← By_append] at ho3
          have HN2 := Lib.hid (show n' + 4 = 1 + (qs (xs.take (k + 1))).length by rw [HS.out, HQ.out, List.length_append]; have := HN.out; simp; omega)
          have ho4 : Own w2 w.heap.size 5 A2 (n' + 4) c2 (By (34 :: qs (xs.take (k + 1)))) := by rw [HS.out, HQ.out]; exact ho3
          clear ho2 hr2 hbb hb ho hg ho3
          go_wp2
          go_roundw
          case rel => exact ⟨k + 1, n' + 4, c2, A2, by go_num, rfl, by omega, HN2, ho4, hb2⟩
          case measure => simp [intOf]; omega
      · have hd := pr_true (c := x) (by omega) (by omega)
        by_cases h2 : x = 92 ∨ x = 34
        · have HQ := Lib.hid (qb_esc h2)
          have hd2 : (x == 92) = true ∨ ((x == 92) = false ∧ (x == 34) = true) := by simp; omega
          clear h1 h2
          rcases hd2 with h1 | ⟨h1, h2⟩
          · have ho2 := ho.alloc (.cells (By [92, x]).toArray 5)
            have hr2 := rd_new (wr) [92, x]
            have hbb := hb.alloc hsz (.cells (By [92, x]).toArray 5)
            go_wp2_with (at_builtin; refine wpList_append_rd rfl _ _ 36 rfl i0 (.int .u8 0) 1 Tryd.underlying36 hi hz0 hz1 hz2 rfl rfl ho2 (some ⟨wr.heap.size, 0, none⟩) 2 2 (By [92, x]) rfl hr2 (By_one _) ?c1 ?c2 ?c3 ?_)
            case c1 => unfold maxLen; omega
            case c2 => omega
            case c3 => simp; omega
            intro A2 c2 w2 ho3 hg
            have hb2 := hbb.trans (hg.below (by simp; omega) (fun k hk => (ho.lies k hk).1))
            rw [← By_append] at ho3
            have HN2 := Lib.hid (show n' + 2 = 1 + (qs (xs.take (k + 1))).length by rw [HS.out, HQ.out, List.length_append]; have := HN.out; simp; omega)
            have ho4 : Own w2 w.heap.size 5 A2 (n' + 2) c2 (By (34 :: qs (xs.take (k + 1)))) := by rw [HS.out, HQ.out]; exact ho3
            clear ho2 hr2 hbb hb ho hg ho3
            go_wp2
            go_roundw
            case rel => exact ⟨k + 1, n' + 2, c2, A2, by go_num, rfl, by omega, HN2, ho4, hb2⟩
            case measure => simp [intOf]; omega
          · have ho2 := ho.alloc (.cells (By [92, x]).toArray 5)
            have hr2 := rd_new (wr) [92, x]
            have hbb := hb.alloc hsz (.cells (By [92, x]).toArray 5)
            go_wp2_with (at_builtin; refine wpList_append_rd rfl _ _ 36 rfl i0 (.int .u8 0) 1 Tryd.underlying36 hi hz0 hz1 hz2 rfl rfl ho2 (some ⟨wr.heap.size, 0, none⟩) 2 2 (By [92, x]) rfl hr2 (By_one _) ?c1 ?c2 ?c3 ?_)
            case c1 => unfold maxLen; omega
            case c2 => omega
            case c3 => simp; omega
            intro A2 c2 w2 ho3 hg
            have hb2 := hbb.trans (hg.below (by simp; omega) (fun k hk => (ho.lies k hk).1))
            rw [← By_append] at ho3
            have HN2 := Lib.hid (show n' + 2 = 1 + (qs (xs.take (k + 1))).length by rw [HS.out, HQ.out, List.length_append]; have := HN.out; simp; omega)
            have ho4 : Own w2 w.heap.size 5 A2 (n' + 2) c2 (By (34 :: qs (xs.take (k + 1)))) := by rw [HS.out, HQ.out]; exact ho3
            clear ho2 hr2 hbb hb ho hg ho3
            go_wp2
            go_roundw
            case rel => exact ⟨k + 1, n' + 2, c2, A2, by go_num, rfl, by omega, HN2, ho4, hb2⟩
            case measure => simp [intOf]; omega
        · have HQ := Lib.hid (qb_own (c := x) (by omega) (by omega) (by omega) (by omega))
          have h3 : (x == 92) = false := by simp; omega
          have h4 : (x == 34) = false := by simp; omega
          clear h1 h2
          have ho2 := ho.alloc (.cells (By [x]).toArray 5)
          have hr2 := rd_new (wr) [x]
          have hbb := hb.alloc hsz (.cells (By [x]).toArray 5)
          go_wp2_with (at_builtin; refine wpList_append_rd rfl _ _ 36 rfl i0 (.int .u8 0) 1 Tryd.underlying36 hi hz0 hz1 hz2 rfl rfl ho2 (some ⟨wr.heap.size, 0, none⟩) 1 1 (By [x]) rfl hr2 (By_one _) ?c1 ?c2 ?c3 ?_)
          case c1 => unfold maxLen; omega
          case c2 => omega
          case c3 => simp; omega
          intro A2 c2 w2 ho3 hg
          have hb2 := hbb.trans (hg.below (by simp; omega) (fun k hk => (ho.lies k hk).1))
          rw [← By_append] at ho3
          have HN2 := Lib.hid (show n' + 1 = 1 + (qs (xs.take (k + 1))).length by rw [HS.out, HQ.out, List.length_append]; have := HN.out; simp; omega)
          have ho4 : Own w2 w.heap.size 5 A2 (n' + 1) c2 (By (34 :: qs (xs.take (k + 1)))) := by rw [HS.out, HQ.out]; exact ho3
          clear ho2 hr2 hbb hb ho hg ho3
          go_wp2
          go_roundw
          case rel => exact ⟨k + 1, n' + 1, c2, A2, by go_num, rfl, by omega, HN2, ho4, hb2⟩
          case measure => simp [intOf]; omega
    · have hke : xs.take k = xs := List.take_of_length_le (by rw [HL.out]; omega)
      rw [hke] at HN ho
      clear hke
      have ho2 := ho.alloc (.cells (By [34]).toArray 5)
      have hr2 := rd_new wr [34]
      have hbb := hb.alloc hsz (.cells (By [34]).toArray 5)
      go_wp2_with (at_builtin; refine wpList_append_rd rfl _ _ 36 rfl i0 (.int .u8 0) 1 Tryd.underlying36 hi hz0 hz1 hz2 rfl rfl ho2 (some ⟨wr.heap.size, 0, none⟩) 1 1 (By [34]) rfl hr2 (By_one _) ?c1 ?c2 ?c3 ?_)
      case c1 => unfold maxLen; omega
      case c2 => omega
      case c3 => simp; omega
      intro A2 c2 w2 ho3 hg
      have hb2 := hbb.trans (hg.below (by simp; omega) (fun k hk => (ho.lies k hk).1))
      rw [← By_append] at ho3
      have hcv := conv_own ho3 (by omega)
      clear ho2 hr2 hbb hb ho hg ho3
      go_wp2
      go_ret
      exact ⟨by rw [quo]; rfl, hb2⟩
end Go.Proofs.YtdlbghjclcdfmaaDoor
