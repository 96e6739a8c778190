/- Lists with tinted spare room: tint, stamp, Spare, Kept of the reference. -/
import Derived.Test.YtlphlogliphhdaaDoorMem
import Derived.Test.YtlphlogliphhdaaDoorSlc
import Derived.Test.YtlphlogliphhdaaDoorApt
namespace Go.Proofs.YtlphlogliphhdaaDoor
set_option linter.unusedVariables false
set_option linter.unusedSimpArgs false
open Go.RowKit

theorem wrap_u8 (x : Int) : IntKind.u8.wrap x = x % 256 := by simp [IntKind.wrap, IntKind.bits, IntKind.signed]
def tn (i : Nat) : Nat := (81 + 7 * (i % 31)) % 256
theorem tn_lt (i : Nat) : tn i < 256 := Nat.mod_lt _ (by omega)
theorem stamp_any (i k : Nat) (hi : i ≤ 1000000000) (hk : k ≤ 10000000000) (w : World) : Calls Tryd.prog 43 #[.int .i64 (i : Int), .int .i64 (k : Int)] w fun e w' => e = .returned (.int .u8 (stp i k : Nat)) ∧ w = w' := by
  have H := Lib.hid (show ((3 : Int) * (i : Int) + 11 * (k : Int) + 1) % 256 = ((stp i k : Nat) : Int) by unfold stp; omega)
  have H2 := Lib.hid (wrap_u8 ((3 : Int) * (i : Int) + 11 * (k : Int) + 1))
  go_enter Tryd.func43, Tryd.ntmps43
  go_wp2
  go_ret
  exact ⟨by first | exact ret_int H.out | exact ret_int (H2.out.trans H.out), rfl⟩
theorem tint_any (i : Nat) (hi : i ≤ 9223372036854775807) (w : World) : Calls Tryd.prog 42 #[.int .i64 (i : Int)] w fun e w' => e = .returned (.int .u8 (tn i : Nat)) ∧ w = w' := by
  have H := Lib.hid (show ((81 : Int) + 7 * ((i : Int) % 31)) % 256 = ((tn i : Nat) : Int) by unfold tn; omega)
  have H2 := Lib.hid (wrap_u8 ((81 : Int) + 7 * ((i : Int) % 31)))
  have hm : ((i : Int).tmod 31) = (i : Int) % 31 := Int.tmod_eq_emod_of_nonneg (by omega)
  have hm0 : 0 ≤ (i : Int) % 31 := by omega
  have hm1 : (i : Int) % 31 < 31 := by omega
  go_enter Tryd.func42, Tryd.ntmps42
  go_wp2
  go_ret
  exact ⟨by first | exact ret_int H.out | exact ret_int (H2.out.trans H.out), rfl⟩

/-- A list with its tinted room. -/
def sp (xs : List Int) : List Int := xs ++ (List.range 33).map (fun t => ((tn (xs.length + t) : Nat) : Int))
theorem sp_length (xs : List Int) : (sp xs).length = xs.length + 33 := by simp [sp]
theorem sp_lo {xs : List Int} {k : Nat} (h : k < xs.length) : (sp xs)[k]? = xs[k]? := by unfold sp; rw [List.getElem?_append_left h]
theorem sp_hi {xs : List Int} {k : Nat} (h : xs.length ≤ k) (h2 : k < xs.length + 33) : (sp xs)[k]? = some ((tn k : Nat) : Int) := by
  unfold sp
  rw [List.getElem?_append_right h, List.getElem?_map, List.getElem?_range (by omega)]
  simp only [Option.map_some]
  congr 4; omega
theorem sp_ran {xs : List Int} (h : Ran xs) : Ran (sp xs) := by
  refine h.append ?_
  intro x hx
  obtain ⟨t, _, rfl⟩ := List.mem_map.1 hx
  have := tn_lt (xs.length + t)
  omega
theorem sp_take (xs : List Int) : (sp xs).take xs.length = xs := by unfold sp; exact List.take_left
theorem take_next {l : List Int} {k : Nat} {x : Int} (h : l[k]? = some x) : l.take (k + 1) = l.take k ++ [x] := by rw [List.take_add_one, h]; rfl
theorem ran_setI {xs : List Int} (h : Ran xs) (k : Nat) {v : Int} (h0 : 0 ≤ v) (h1 : v ≤ 255) : Ran (xs.set k v) := by
  intro x hx
  rcases List.mem_or_eq_of_mem_set hx with h' | rfl
  · exact h x h'
  · exact ⟨h0, h1⟩
theorem By_setI (xs : List Int) (k : Nat) (v : Int) : By (xs.set k v) = (By xs).set k (.int .u8 v) := by simp [By, List.map_set]
/-- One place of an own row is written. -/
theorem Own.put {w : World} {base g n c k : Nat} {xs : List Int} (h : Own w base 5 (some ⟨g, 0, none⟩) n c (By xs)) (v : Int) : Own (w.setCell ⟨g, k, none⟩ (.int .u8 v)) base 5 (some ⟨g, 0, none⟩) n c (By (xs.set k v)) := by
  rw [By_setI]; exact (h.stored k (.int .u8 v)).1
theorem Own.cellI {w : World} {base g n c k : Nat} {xs : List Int} {x : Int} (h : Own w base 5 (some ⟨g, 0, none⟩) n c (By xs)) (hx : xs[k]? = some x) : w.cell? ⟨g, k, none⟩ = some (.int .u8 x) := by
  have hl := h.len
  rw [By_length] at hl
  have hk : k < n := by have := (List.getElem?_eq_some_iff.1 hx).1; omega
  rw [World.ownsRow.cellAt h k (by omega)]
  simp [By, hx]

set_option maxRecDepth 100000 in
set_option maxHeartbeats 1000000 in
theorem spare_any (A : Option Addr) (n c : Nat) (xs : List Int) (w : World) (hx : Bs w A n xs) (hn : n ≤ 1000000000000) :
    Calls Tryd.prog 30 #[.slice A n c] w fun e w' => e = .returned (.tuple #[.slice (some ⟨w.heap.size, 0, none⟩) n (n + 33), .slice (some ⟨w.heap.size, 0, none⟩) (n + 33) (n + 33)]) ∧ Own w' w.heap.size 5 (some ⟨w.heap.size, 0, none⟩) (n + 33) (n + 33) (By (sp xs)) ∧ Below w.heap.size w w' := by
  obtain ⟨i0, hi, hz0, hz1, hz2⟩ := info_parts info5
  have HL := Lib.hid hx.len
  have hmk := fun W => run_make_bytes (P := Tryd.prog) 28 5 i0 Tryd.underlying28 hi hz0 hz1 hz2 ((n : Int) + 33) (n + 33) (by omega) (by omega) W
  have hb0 := below_alloc w (.cells (zerA (n + 33)) 5)
  have ho0 : Own (w.alloc (.cells (zerA (n + 33)) 5)) w.heap.size 5 (some ⟨w.heap.size, 0, none⟩) (n + 33) (n + 33) (By (List.replicate (n + 33) 0)) := by
    have : By (List.replicate (n + 33) 0) = zer (n + 33) := by simp [By, zer]
    rw [this]
    exact Own.of_block (heap_alloc_new w _) (Nat.le_refl _) (by simp [zer]) (by unfold maxLen; omega)
  have hr0 : Ran (List.replicate (n + 33) 0) := by
    intro x hx
    have := List.eq_of_mem_replicate hx
    omega
  have hsl := slice_h28 (some ⟨w.heap.size, 0, none⟩) (n + 33) (n + 33) n (by omega)
  go_enter Tryd.func30, Tryd.ntmps30
  go_wp2
  go_loopw [5] (fun i wr => ∃ (k : Nat) (ss : List Int), i = .int .i64 k ∧ k ≤ n + 33 ∧ Own wr w.heap.size 5 (some ⟨w.heap.size, 0, none⟩) (n + 33) (n + 33) (By ss) ∧ Ran ss ∧ Hid (ss.take k = (sp xs).take k) ∧ Below w.heap.size w wr) (fun i _ => n + 33 - (intOf i).toNat)
  case atStart => exact ⟨0, _, rfl, Nat.zero_le _, ho0, hr0, by show _ = _; simp, hb0⟩
  case round =>
    obtain ⟨k, ss, rfl, hk, ho, hr, HS, hbr⟩ := hrel
    have hl := ho.len
    rw [By_length] at hl
    have HLS := Lib.hid hl; clear hl
    by_cases hlt : k < n + 33
    · obtain ⟨u, hu⟩ : ∃ u, ss[k]? = some u := ⟨_, List.getElem?_eq_getElem (by rw [HLS.out]; exact hlt)⟩
      have hcu := ho.cellI hu
      have hfz : wr.frozen? ⟨w.heap.size, k, none⟩ = false := ho.frozenAt k
      have htl := tn_lt k
      have ho1 := ho.put (k := k) ((tn k : Nat) : Int)
      have hr1 := ran_setI hr k (v := ((tn k : Nat) : Int)) (by omega) (by omega)
      have hb1 : Below w.heap.size w (wr.setCell ⟨w.heap.size, k, none⟩ (.int .u8 ((tn k : Nat) : Int))) := hbr.setCell (by simp) _
      have hxr := hx.keep hb1
      have hT1 : (ss.set k ((tn k : Nat) : Int)).take k = ss.take k := List.take_set_of_le (Nat.le_refl k)
      have HS1 := Lib.hid (hT1.trans HS.out)
      have HT := Lib.hid (set_take ((tn k : Nat) : Int) (show k < ss.length by rw [HLS.out]; exact hlt))
      have HLS1 := Lib.hid (show (ss.set k ((tn k : Nat) : Int)).length = n + 33 by rw [List.length_set, HLS.out])
      have HU := Lib.hid hu
      clear hu hT1
      go_wp2_with fail
      refine (tint_any k (by omega) _).mono ?_
      rintro e w' ⟨rfl, rfl⟩
      by_cases hkn : k < n
      · obtain ⟨b, off, x, rfl, hbk, h0, h1, hcx, HX⟩ := hxr.at_ hkn
        have hcu1 := ho1.cellI (k := k) (x := ((tn k : Nat) : Int)) (by rw [List.getElem?_set_self (by rw [HLS.out]; exact hlt)])
        have hfz1 : (wr.setCell ⟨w.heap.size, k, none⟩ (.int .u8 ((tn k : Nat) : Int))).frozen? ⟨w.heap.size, k, none⟩ = false := ho1.frozenAt k
        have ho2 := ho1.put (k := k) x
        have hr2 := ran_setI hr1 k h0 h1
        have hb2 : Below w.heap.size w ((wr.setCell ⟨w.heap.size, k, none⟩ (.int .u8 ((tn k : Nat) : Int))).setCell ⟨w.heap.size, k, none⟩ (.int .u8 x)) := hb1.setCell (by simp) _
        have HS2 := Lib.hid (show ((ss.set k ((tn k : Nat) : Int)).set k x).take (k + 1) = (sp xs).take (k + 1) by
          rw [set_take x (by rw [HLS1.out]; exact hlt), HS1.out, take_next (show (sp xs)[k]? = some x by rw [sp_lo (by rw [HL.out]; exact hkn)]; exact HX.out)])
        clear ho ho1 hbr hb1 hr hr1 hxr
        go_wp2
        go_roundw
        case rel => exact ⟨k + 1, _, by go_num, by omega, ho2, hr2, HS2, hb2⟩
        case measure => simp [intOf]; omega
      · have HS2 := Lib.hid (show (ss.set k ((tn k : Nat) : Int)).take (k + 1) = (sp xs).take (k + 1) by
          rw [HT.out, HS.out, take_next (sp_hi (xs := xs) (k := k) (by rw [HL.out]; omega) (by rw [HL.out]; omega))])
        clear ho hbr hr hxr
        go_wp2
        go_roundw
        case rel => exact ⟨k + 1, _, by go_num, by omega, ho1, hr1, HS2, hb1⟩
        case measure => simp [intOf]; omega
    · obtain rfl : k = n + 33 := by omega
      have HE := Lib.hid (show ss = sp xs by
        have := HS.out
        rwa [List.take_of_length_le (by rw [HLS.out]; exact Nat.le_refl _), List.take_of_length_le (by rw [sp_length, HL.out]; exact Nat.le_refl _)] at this)
      clear HS
      go_wp2
      go_ret2
      exact ⟨rfl, by rw [← HE.out]; exact ho, hbr⟩

end Go.Proofs.YtlphlogliphhdaaDoor
