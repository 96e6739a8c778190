/- One field of a record as bytes: (Rec).part: the other letters. -/
import Derived.Test.YtmjjbfcblmmipaaPartW
import Derived.Laws.BytesArg
import Derived.Test.YtmjjbfcblmmipaaSteps
namespace Go.Proofs.Ytmjjbfcblmmipaa
set_option linter.unusedVariables false
set_option linter.unusedSimpArgs false
open Go.RowKit

theorem wrap_uw (x : Int) (h0 : -9223372036854775808 ≤ x) (h1 : x ≤ 9223372036854775807) : IntKind.u64.wrap x = uw x := by
  simp [IntKind.wrap, IntKind.bits, IntKind.signed, uw]
  omega
theorem bw_bs (w : World) (xs : List Int) (h : Ran xs) : Bs (Lib.bytesWorld w 5 (strOfNums xs)) (some ⟨w.heap.size, 0, none⟩) xs.length xs := by
  refine ⟨⟨By_length _, fun _ => ⟨w.heap.size, 0, rfl, by rw [Lib.bytesWorld_size]; omega, fun j u hu => ?_⟩⟩, h⟩
  have hj : j < xs.length := by
    have := (List.getElem?_eq_some_iff.1 hu).1
    rwa [By_length] at this
  rw [Nat.zero_add, Lib.bytesWorld_cell w 5 _ j (by rw [strOfNums_size]; exact hj)]
  have hx := h xs[j] (List.getElem_mem hj)
  simp only [By, List.getElem?_map, List.getElem?_eq_getElem hj, Option.map_some, Option.some.injEq] at hu
  subst hu
  rw [strOfNums_data]
  simp only [List.getD, List.getElem?_map, List.getElem?_eq_getElem hj, Option.map_some, Option.getD_some]
  have : ((UInt8.ofNat (xs[j]).toNat).toNat : Int) = xs[j] := by
    rw [UInt8.toNat_ofNat']
    omega
  rw [this]
theorem bw_fo (w : World) (base : Nat) (s : ByteArray) (n : Nat) : Fo (Lib.bytesWorld w 5 s) base (some ⟨w.heap.size, 0, none⟩) n := fun _ k hk => by
  simp only [blk, Option.map_some, Option.some.injEq] at hk
  subst hk
  exact .inr ⟨_, _, Lib.bytesWorld_at_new w 5 s⟩

set_option maxRecDepth 100000 in
set_option maxHeartbeats 1000000 in
theorem part_c {B : Nat} (k b s q : Int) (f : Bool) (vW vR vS vP vI vN : Value) (w : World) :
    Calls Try.prog 54 #[.agg #[.int .i64 k, .int .u64 b, .int .u64 s, .int .u64 q, vW, vR, .bool f, vS, vP, vI, vN], .int .i32 99] w (PartP B w [flagB f]) := by
  have hb0 := below_alloc w (.cells #[.int .i64 k, .int .u64 b, .int .u64 s, .int .u64 q, vW, vR, .bool f, vS, vP, vI, vN] 32)
  have hs0 := hb0.size
  go_enter Try.func54, Try.ntmps54
  go_wp2_with fail
  refine (flag_any f _).mono ?_
  rintro e w2 ⟨A2, c2, rfl, ho2, hb2⟩
  have hb3 := hb0.trans (hb2.mono hs0)
  go_wp2
  go_ret
  exact partP_own ho2 (flagB_ran f) hb3
set_option maxRecDepth 100000 in
set_option maxHeartbeats 1000000 in
theorem part_i {B : Nat} (k b s q i : Int) (vW vR vC vS vP vN : Value) (w : World) (h0 : 0 ≤ i ∧ i ≤ 18446744073709551615) :
    Calls Try.prog 54 #[.agg #[.int .i64 k, .int .u64 b, .int .u64 s, .int .u64 q, vW, vR, vC, vS, vP, .int .u64 i, vN], .int .i32 105] w (PartP B w (num i)) := by
  have hbel : Below w.heap.size w ((w.alloc (.cells #[.int .i64 k, .int .u64 b, .int .u64 s, .int .u64 q, vW, vR, vC, vS, vP, .int .u64 i, vN] 32)).alloc (.cells #[.int .u64 i] 22)) := (below_alloc w _).alloc (by simp) _
  have hus : Us ((w.alloc (.cells #[.int .i64 k, .int .u64 b, .int .u64 s, .int .u64 q, vW, vR, vC, vS, vP, .int .u64 i, vN] 32)).alloc (.cells #[.int .u64 i] 22)) (some ⟨w.heap.size + 1, 0, none⟩) 1 [i] := by
    refine us_of (t := 22) (fr := (0, 0)) ?_ rfl (fun x hx => by rw [List.mem_singleton.1 hx]; exact h0)
    have := heap_alloc_new (w.alloc (.cells #[.int .i64 k, .int .u64 b, .int .u64 s, .int .u64 q, vW, vR, vC, vS, vP, .int .u64 i, vN] 32)) (.cells #[.int .u64 i] 22)
    simpa using this
  have HRN := Lib.hid (num_ran i h0.1)
  have HNE := Lib.hid (show nums [i] = num i by simp [nums])
  go_enter Try.func54, Try.ntmps54
  go_wp2_with fail
  refine (number_any _ 1 1 [i] _ hus (by omega)).mono ?_
  rintro e w2 ⟨A2, c2, n2, rfl, hn2, ho2, hb2⟩
  rw [HNE.out] at ho2
  have hs := hbel.size
  have hb3 := hbel.trans (hb2.mono hs)
  clear hn2 hus hbel hb2
  go_wp2
  go_ret
  exact partP_own ho2 HRN.out hb3
set_option maxRecDepth 100000 in
set_option maxHeartbeats 1000000 in
theorem part_a {B : Nat} (k b s q : Int) (A : Option Addr) (n c : Nat) (vW vR vC vS vI vN : Value) (xs : List Int) (w : World) (h : Bs w A n xs) (hnc : n ≤ c) (hfo : Fo w B A n) :
    Calls Try.prog 54 #[.agg #[.int .i64 k, .int .u64 b, .int .u64 s, .int .u64 q, vW, vR, vC, vS, .slice A n c, vI, vN], .int .i32 97] w (PartP B w xs) := by
  have hb0 := below_alloc w (.cells #[.int .i64 k, .int .u64 b, .int .u64 s, .int .u64 q, vW, vR, vC, vS, .slice A n c, vI, vN] 32)
  have HP : Hid (Pt w B A n c xs) := ⟨h.len.symm, hnc, h, hfo⟩
  go_enter Try.func54, Try.ntmps54
  go_wp2
  go_ret
  exact ⟨A, n, c, rfl, HP.out.keep hb0, hb0⟩
set_option maxRecDepth 100000 in
set_option maxHeartbeats 1000000 in
theorem part_n {B : Nat} (k b s q : Int) (vW vR vC vS vP vI : Value) (xs : List Int) (w : World) (hr : Ran xs) :
    Calls Try.prog 54 #[.agg #[.int .i64 k, .int .u64 b, .int .u64 s, .int .u64 q, vW, vR, vC, vS, vP, vI, .string (strOfNums xs)], .int .i32 110] w (PartP B w xs) := by
  have hb0 := below_alloc w (.cells #[.int .i64 k, .int .u64 b, .int .u64 s, .int .u64 q, vW, vR, vC, vS, vP, vI, .string (strOfNums xs)] 32)
  have hs0 := hb0.size
  generalize hW : w.alloc (.cells #[.int .i64 k, .int .u64 b, .int .u64 s, .int .u64 q, vW, vR, vC, vS, vP, vI, .string (strOfNums xs)] 32) = W at *
  have hcv := Lib.run_convert_string_bytes (P := Try.prog) W 9 28 5 (strOfNums xs) Try.underlying9 Try.underlying28 Try.underlying5
  have hbw := Lib.bytesWorld_below W 5 (strOfNums xs)
  have HBS := Lib.hid (bw_bs W xs hr)
  have HFO := Lib.hid (bw_fo W B (strOfNums xs) xs.length)
  have HCG := Lib.hid (grownCap_ge W (strOfNums xs).size 0 5)
  have HSZ := Lib.hid (strOfNums_size xs)
  have hb1 := hb0.trans (hbw.mono hs0)
  subst hW
  have HB1 := Lib.hid hb1
  clear hb0 hbw hb1
  go_enter Try.func54, Try.ntmps54
  go_wp2
  go_ret
  refine ⟨_, _, _, rfl, ⟨HSZ.out, HCG.out, ?_, ?_⟩, HB1.out⟩
  · rw [HSZ.out]; have h1 := HBS.out; rw [World.size_alloc] at h1; exact h1
  · rw [HSZ.out]; have h1 := HFO.out; rw [World.size_alloc] at h1; exact h1
set_option maxRecDepth 100000 in
set_option maxHeartbeats 2000000 in
theorem part_s {B : Nat} (k b s q : Int) (A : Option Addr) (n c : Nat) (vW vR vC vP vI vN : Value) (l : List Int) (w : World) (h : Ins w A n l) (hn : n ≤ 20000000) :
    Calls Try.prog 54 #[.agg #[.int .i64 k, .int .u64 b, .int .u64 s, .int .u64 q, vW, vR, vC, .slice A n c, vP, vI, vN], .int .i32 115] w (PartP B w (nums (l.map uw))) := by
  have HLN := Lib.hid h.len
  have HLB := Lib.hid h.2
  have hw0 : Wtr ((w.alloc (.cells #[.int .i64 k, .int .u64 b, .int .u64 s, .int .u64 q, vW, vR, vC, .slice A n c, vP, vI, vN] 32)).alloc (.cells #[.slice none 0 0] 147)) (w.heap.size + 1) none 0 0 [] := by
    refine ⟨?_, Own.nil_⟩
    have := heap_alloc_new (w.alloc (.cells #[.int .i64 k, .int .u64 b, .int .u64 s, .int .u64 q, vW, vR, vC, .slice A n c, vP, vI, vN] 32)) (.cells #[.slice none 0 0] 147)
    simpa using this
  have hb0 : Below w.heap.size w ((w.alloc (.cells #[.int .i64 k, .int .u64 b, .int .u64 s, .int .u64 q, vW, vR, vC, .slice A n c, vP, vI, vN] 32)).alloc (.cells #[.slice none 0 0] 147)) := (below_alloc w _).alloc (by simp) _
  have HRN : Hid (Ran (nums (l.map uw))) := nums_ran _ (fun x hx => by
    obtain ⟨y, hy, rfl⟩ := List.mem_map.1 hx
    exact (uw_bd y (h.2 y hy).1 (h.2 y hy).2).1)
  go_enter Try.func54, Try.ntmps54
  go_wp2_with fail
  go_loopw [82] (fun iv wr => ∃ (k n' c' : Nat) (A' : Option Addr), iv = .int .i64 k ∧ k ≤ n ∧ n' ≤ 9 * k ∧ Wtr wr (w.heap.size + 1) A' n' c' (nums ((l.map uw).take k)) ∧ Below w.heap.size w wr) (fun iv _ => n - (intOf iv).toNat)
  case atStart => exact ⟨0, 0, 0, none, rfl, by omega, by omega, hw0, hb0⟩
  case round =>
    clear hw0 hb0
    obtain ⟨k, n', c', A', rfl, hk, hn', hw, hb⟩ := hrel
    have hs := hb.size
    have hgl := hw.lt
    by_cases hlt : k < n
    · obtain ⟨bb, off, x, rfl, hbl, hx0, hx1, hcx⟩ := h.at_ hlt
      have d0 := (hb.cell (p := ⟨bb, off + k, none⟩) hbl).trans hcx
      have HX : Hid (l[k]? = some x) := by
        obtain ⟨b2, off2, u, hA, _, hcu, HU⟩ := h.1.at_ hlt
        injection hA with hA; injection hA with e1 e2; subst e1; subst e2
        rw [hcx] at hcu
        injection hcu with hcu
        have h3 := HU.out
        rw [← hcu, List.getElem?_map] at h3
        cases hl : l[k]? with
        | none => rw [hl] at h3; cases h3
        | some y =>
          rw [hl] at h3
          simp only [Option.map_some, Option.some.injEq] at h3
          injection h3 with _ h3
          exact Lib.hid (by rw [h3])
      have HSN := Lib.hid (nums_snoc (ls := l.map uw) (k := k) (x := uw x) (by rw [List.getElem?_map, HX.out]; rfl))
      have HWU := Lib.hid (wrap_uw x hx0 hx1)
      have HUB := Lib.hid (uw_bd x hx0 hx1)
      have hnew := heap_alloc_new wr (.cells #[.int .u64 (IntKind.u64.wrap x)] 22)
      have hwa := hw.keep (B := 0) (below_alloc wr (.cells #[.int .u64 (IntKind.u64.wrap x)] 22))
      have hba := hb.alloc hs (.cells #[.int .u64 (IntKind.u64.wrap x)] 22)
      have hbh := hw.behind
      have HNB := Lib.hid hnew
      clear hnew hcx hw hb
      go_wp2_with fail
      refine (wnum_one _ (w.heap.size + 1) wr.heap.size A' n' c' _ (IntKind.u64.wrap x) hwa HNB.out (by rw [HWU.out]; exact HUB.out.1) (by rw [HWU.out]; exact HUB.out.2) (by omega)).mono ?_
      rintro e w4 ⟨A4, n4, c4, rfl, hn4, hw4, hef4⟩
      rw [HWU.out, ← HSN.out] at hw4 hn4
      have hb4 := hba.trans ((hef4.below (by simp; omega) (fun k hk => by have := (hbh k hk).1; omega)).mono (Nat.le_succ _))
      have hn4' : n4 ≤ 9 * (k + 1) := by
        rw [hn4]
        have h1 := nums_le ((l.map uw).take (k + 1))
        have h2 : ((l.map uw).take (k + 1)).length ≤ k + 1 := by rw [List.length_take]; omega
        omega
      clear hwa hba hef4 hn4
      go_wp2
      go_roundw
      case rel => exact ⟨k + 1, n4, c4, A4, by go_num, by omega, hn4', hw4, hb4⟩
      case measure => simp [intOf]; omega
    · obtain rfl : k = n := by omega
      rw [show (l.map uw).take k = l.map uw from List.take_of_length_le (by rw [List.length_map, HLN.out]; exact Nat.le_refl _)] at hw
      go_wp2_with fail
      refine (wbytes_any _ (w.heap.size + 1) A' n' c' _ hw HRN.out (by omega)).mono ?_
      rintro e w2 ⟨A2, c2, rfl, ho2, hb2⟩
      have hb3 := hb.trans (hb2.mono hs)
      clear hw hb2
      go_wp2
      go_ret
      exact partP_own ho2 HRN.out hb3
end Go.Proofs.Ytmjjbfcblmmipaa
