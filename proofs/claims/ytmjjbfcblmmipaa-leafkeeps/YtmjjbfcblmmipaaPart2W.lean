/- One field of a record as bytes: (Rec).part: the other letters. -/
import Derived.Test.YtmjjbfcblmmipaaRcd
import Derived.Deep.RegionHeld3
import Derived.Deep.RegionLaw
import Derived.Lib.AtoiErrMem
import Derived.Laws.BytesArg
import Derived.Test.YtmjjbfcblmmipaaSteps
namespace Go.Proofs.Ytmjjbfcblmmipaa
set_option linter.unusedVariables false
set_option linter.unusedSimpArgs false
open Go.RowKit

set_option maxHeartbeats 1000000 in
theorem flag_any (f : Bool) (w : World) : Calls Try.prog 104 #[.bool f] w fun e w' => ∃ A' c', e = .returned (.slice A' 1 c') ∧ Own w' w.heap.size 5 A' 1 c' (By [flagB f]) ∧ Below w.heap.size w w' := by
  have hw0 : Wtr ((w.alloc (.cells #[.slice none 0 0] 147)).alloc (.cells #[.bool f] 4)) w.heap.size none 0 0 [] := by
    refine ⟨?_, Own.nil_⟩
    rw [Below.heap_alloc _ _ _ (by simp)]; exact heap_alloc_new w _
  have hb0 : ((w.alloc (.cells #[.slice none 0 0] 147)).alloc (.cells #[.bool f] 4)).heap[w.heap.size + 1]? = some (.cells #[.bool f] 4 (0, 0)) := by
    have := heap_alloc_new (w.alloc (.cells #[.slice none 0 0] 147)) (.cells #[.bool f] 4)
    simpa using this
  have hbel : Below w.heap.size w ((w.alloc (.cells #[.slice none 0 0] 147)).alloc (.cells #[.bool f] 4)) := (below_alloc w _).alloc (by simp) _
  have HB0 := Lib.hid hb0; clear hb0
  go_enter Try.func104, Try.ntmps104
  go_wp2_with fail
  refine (wflag_one _ w.heap.size (w.heap.size + 1) none 0 0 [] f hw0 HB0.out (by omega)).mono ?_
  rintro e w2 ⟨A2, n2, c2, rfl, hn2, hw2, hef2⟩
  have hb2 : Below w.heap.size w w2 := hbel.trans (hef2.below (by simp; omega) (fun k hk => by cases hk))
  have hs2 := hb2.size
  rw [List.nil_append] at hw2 hn2
  obtain rfl : n2 = 1 := by rw [hn2]; rfl
  clear hw0 hbel hef2 hn2
  go_wp2_with fail
  refine (wbytes_any _ w.heap.size A2 1 c2 _ hw2 (flagB_ran f) (by omega)).mono ?_
  rintro e w3 ⟨A3, c3, rfl, ho3, hb3⟩
  have hb4 := hb2.trans (hb3.mono hs2)
  have ho4 := ho3.mono hs2
  go_wp2
  go_ret
  exact ⟨A3, c3, rfl, ho4, hb4⟩
set_option maxHeartbeats 1000000 in
theorem rflag_one (f : Bool) (w : World) : Calls Try.prog 60 #[.bool f] w fun e w' => ∃ A' c', e = .returned (.slice A' 1 c') ∧ Own w' w.heap.size 5 A' 1 c' (By [flagB f]) ∧ Below w.heap.size w w' := by
  cases f
  · go_enter Try.func60, Try.ntmps60
    go_wp2
    go_ret
    exact ⟨_, _, rfl, Own.of_block (vs := [.int .u8 0]) (heap_alloc_new w _) (Nat.le_refl _) rfl (by unfold maxLen; omega), below_alloc w _⟩
  · go_enter Try.func60, Try.ntmps60
    go_wp2
    go_ret
    exact ⟨_, _, rfl, Own.of_block (vs := [.int .u8 1]) (heap_alloc_new w _) (Nat.le_refl _) rfl (by unfold maxLen; omega), below_alloc w _⟩
end Go.Proofs.Ytmjjbfcblmmipaa
namespace Go.Proofs.Ytmjjbfcblmmipaa
set_option linter.unusedVariables false
set_option linter.unusedSimpArgs false
open Go.RowKit

/-- A part that a call answers. -/
def PartP (B : Nat) (w : World) (xs : List Int) (e : Ending) (w' : World) : Prop := ∃ A' n' c', e = .returned (.slice A' n' c') ∧ Pt w' B A' n' c' xs ∧ Below w.heap.size w w'
theorem partP_own {B : Nat} {w w' : World} {xs : List Int} {A' : Option Addr} {n' c' b : Nat} (h : Own w' b 5 A' n' c' (By xs)) (hr : Ran xs) (hb : Below w.heap.size w w') : PartP B w xs (.returned (.slice A' n' c')) w' := ⟨A', n', c', rfl, Pt.own h hr, hb⟩
theorem three_cell0 {w : World} {g : Nat} {t : TypeId} {u v x : Value} (h : w.heap[g]? = some (.cells #[u, v, x] t (0, 0))) : w.cell? ⟨g, 0, none⟩ = some u := by rw [cell_of_row w g 0 _ t (0, 0) h]; rfl
theorem three_cell1 {w : World} {g : Nat} {t : TypeId} {u v x : Value} (h : w.heap[g]? = some (.cells #[u, v, x] t (0, 0))) : w.cell? ⟨g, 1, none⟩ = some v := by rw [cell_of_row w g 1 _ t (0, 0) h]; rfl
theorem three_cell2 {w : World} {g : Nat} {t : TypeId} {u v x : Value} (h : w.heap[g]? = some (.cells #[u, v, x] t (0, 0))) : w.cell? ⟨g, 2, none⟩ = some x := by rw [cell_of_row w g 2 _ t (0, 0) h]; rfl
theorem rd_three (w : World) (u v x : Value) (t : TypeId) : Rd (w.alloc (.cells #[u, v, x] t)) (some ⟨w.heap.size, 0, none⟩) 3 [u, v, x] := Rd.of_block (cs := #[u, v, x]) (heap_alloc_new w _) rfl
theorem us_of {w : World} {g n : Nat} {ls : List Int} {t : TypeId} {fr : Nat × Nat} (h : w.heap[g]? = some (.cells (ls.map (Value.int .u64)).toArray t fr)) (hn : ls.length = n) (hr : ∀ x ∈ ls, 0 ≤ x ∧ x ≤ 18446744073709551615) : Us w (some ⟨g, 0, none⟩) n ls :=
  ⟨by have := Rd.of_block h (n := n) (by simp [hn]); simpa using this, hr⟩
theorem three_slices (A B C : Option Addr) (n c m d l e : Nat) : ∀ u ∈ [Value.slice A n c, Value.slice B m d, Value.slice C l e], u.oneCell' = true := by
  intro u hu
  simp only [List.mem_cons, List.not_mem_nil, or_false] at hu
  rcases hu with rfl | rfl | rfl <;> rfl
theorem pt_three {w : World} {base : Nat} {A B C : Option Addr} {n c m d l e : Nat} {xs ys zs : List Int} (h1 : Pt w base A n c xs) (h2 : Pt w base B m d ys) (h3 : Pt w base C l e zs) :
    ∀ (i : Nat) (v : Value) (us : List Int), [Value.slice A n c, Value.slice B m d, Value.slice C l e][i]? = some v → [xs, ys, zs][i]? = some us → ∃ (A2 : Option Addr) (n2 c2 : Nat), v = .slice A2 n2 c2 ∧ Pt w base A2 n2 c2 us := by
  intro i v us hv hu
  match i, hv, hu with
  | 0, hv, hu => simp at hv hu; subst hv; subst hu; exact ⟨A, n, c, rfl, h1⟩
  | 1, hv, hu => simp at hv hu; subst hv; subst hu; exact ⟨B, m, d, rfl, h2⟩
  | 2, hv, hu => simp at hv hu; subst hv; subst hu; exact ⟨C, l, e, rfl, h3⟩

set_option maxRecDepth 100000 in
set_option maxHeartbeats 1000000 in
theorem part_t {B : Nat} (k b s q : Int) (vW vR vC vS vP vI vN : Value) (w : World) (h0 : 0 ≤ b ∧ b ≤ 18446744073709551615) (h1 : 0 ≤ s ∧ s ≤ 18446744073709551615) (h2 : 0 ≤ q ∧ q ≤ 18446744073709551615) :
    Calls Try.prog 54 #[.agg #[.int .i64 k, .int .u64 b, .int .u64 s, .int .u64 q, vW, vR, vC, vS, vP, vI, vN], .int .i32 116] w (PartP B w (nums [b, s, q])) := by
  have hr : ∀ x ∈ [b, s, q], 0 ≤ x ∧ x ≤ 18446744073709551615 := by
    intro x hx
    simp only [List.mem_cons, List.not_mem_nil, or_false] at hx
    rcases hx with rfl | rfl | rfl <;> assumption
  have hbel : Below w.heap.size w ((w.alloc (.cells #[.int .i64 k, .int .u64 b, .int .u64 s, .int .u64 q, vW, vR, vC, vS, vP, vI, vN] 32)).alloc (.cells #[.int .u64 b, .int .u64 s, .int .u64 q] 22)) := (below_alloc w _).alloc (by simp) _
  have hus : Us ((w.alloc (.cells #[.int .i64 k, .int .u64 b, .int .u64 s, .int .u64 q, vW, vR, vC, vS, vP, vI, vN] 32)).alloc (.cells #[.int .u64 b, .int .u64 s, .int .u64 q] 22)) (some ⟨w.heap.size + 1, 0, none⟩) 3 [b, s, q] := by
    refine us_of (t := 22) (fr := (0, 0)) ?_ rfl hr
    have := heap_alloc_new (w.alloc (.cells #[.int .i64 k, .int .u64 b, .int .u64 s, .int .u64 q, vW, vR, vC, vS, vP, vI, vN] 32)) (.cells #[.int .u64 b, .int .u64 s, .int .u64 q] 22)
    simpa using this
  have HRN := Lib.hid (nums_ran [b, s, q] (fun x hx => (hr x hx).1))
  clear hr
  go_enter Try.func54, Try.ntmps54
  go_wp2_with fail
  refine (number_any _ 3 3 [b, s, q] _ hus (by omega)).mono ?_
  rintro e w2 ⟨A2, c2, n2, rfl, hn2, ho2, hb2⟩
  have hs := hbel.size
  have hb3 := hbel.trans (hb2.mono hs)
  clear hn2 hus hbel hb2
  go_wp2
  go_ret
  exact partP_own ho2 HRN.out hb3
set_option maxRecDepth 100000 in
set_option maxHeartbeats 2000000 in
theorem part_w {B : Nat} (k b s q : Int) (A : Option Addr) (n c : Nat) (vR vC vS vP vI vN : Value) (l : List Tr) (w : World) (h : Trs w A n l) (hn : n ≤ 20000000) (hbig : (trs l).length + 20 ≤ 140737488355328) :
    Calls Try.prog 54 #[.agg #[.int .i64 k, .int .u64 b, .int .u64 s, .int .u64 q, .slice A n c, vR, vC, vS, vP, vI, vN], .int .i32 119] w (PartP B w (trs l)) := by
  obtain ⟨j0, hj, hy0, hy1, hy2⟩ := info_parts info23
  have HLN := Lib.hid h.1
  have hb0 := below_alloc w (.cells #[.int .i64 k, .int .u64 b, .int .u64 s, .int .u64 q, .slice A n c, vR, vC, vS, vP, vI, vN] 32)
  go_enter Try.func54, Try.ntmps54
  go_wp2_with fail
  go_loopw [5, 33] (fun pv iv wr => ∃ (k m c' : Nat) (A' : Option Addr), pv = .slice A' m c' ∧ iv = .int .i64 k ∧ k ≤ n ∧ m ≤ 3 * k ∧ Pts wr w.heap.size A' m c' (trP (l.take k)) ∧ Below w.heap.size w wr) (fun _ iv _ => n - (intOf iv).toNat)
  case atStart => exact ⟨0, 0, 0, none, rfl, rfl, by omega, by omega, Pts.nil_, hb0⟩
  case round =>
    clear hb0
    obtain ⟨k, m, c', A', rfl, rfl, hk, hm, hp, hb⟩ := hrel
    have hs := hb.size
    by_cases hlt : k < n
    · obtain ⟨b, off, A1, n1, c1, A2, n2, c2, t, rfl, hbl, HX, HA, HB, hc0, hc1, hc2, hb1, hn1, hb2, hn2⟩ := h.at_ hlt
      have d0 := (hb.cell (p := ⟨b, off + k * 3, none⟩) hbl).trans hc0
      have d1 := (hb.cell (p := ⟨b, off + k * 3 + 1, none⟩) hbl).trans hc1
      have d2 := (hb.cell (p := ⟨b, off + k * 3 + 2, none⟩) hbl).trans hc2
      have P1 := Lib.hid (Pt.arg (base := w.heap.size) hb1 hn1 (Nat.le_refl _))
      have P2 := Lib.hid (Pt.arg (base := w.heap.size) hb2 hn2 (Nat.le_refl _))
      have HSN := Lib.hid (trP_snoc HX.out)
      generalize t.f = f at *
      clear hb1 hb2 hc0 hc1 hc2
      have hnew := heap_alloc_new wr (.cells #[.slice A1 n1 c1, .slice A2 n2 c2, .bool f] 61)
      have e0 : (wr.alloc (.cells #[.slice A1 n1 c1, .slice A2 n2 c2, .bool f] 61)).drew.cell? ⟨wr.heap.size, 0, none⟩ = some (.slice A1 n1 c1) := three_cell0 hnew
      have e1 : (wr.alloc (.cells #[.slice A1 n1 c1, .slice A2 n2 c2, .bool f] 61)).drew.cell? ⟨wr.heap.size, 1, none⟩ = some (.slice A2 n2 c2) := three_cell1 hnew
      have e2 : (wr.alloc (.cells #[.slice A1 n1 c1, .slice A2 n2 c2, .bool f] 61)).drew.cell? ⟨wr.heap.size, 2, none⟩ = some (.bool f) := three_cell2 hnew
      have HNW := Lib.hid hnew; clear hnew
      have hbB : Below w.heap.size w (wr.alloc (.cells #[.slice A1 n1 c1, .slice A2 n2 c2, .bool f] 61)).drew := below_n (hb.alloc hs (.cells #[.slice A1 n1 c1, .slice A2 n2 c2, .bool f] 61)) 1
      have hpB : Pts (wr.alloc (.cells #[.slice A1 n1 c1, .slice A2 n2 c2, .bool f] 61)).drew w.heap.size A' m c' (trP (l.take k)) := hp.keep (below_n (below_alloc wr (.cells #[.slice A1 n1 c1, .slice A2 n2 c2, .bool f] 61)) 1)
      have hsB : w.heap.size ≤ (wr.alloc (.cells #[.slice A1 n1 c1, .slice A2 n2 c2, .bool f] 61)).drew.heap.size := hbB.size
      have hwl : wr.heap.size < (wr.alloc (.cells #[.slice A1 n1 c1, .slice A2 n2 c2, .bool f] 61)).drew.heap.size := by show wr.heap.size < (wr.alloc (.cells #[.slice A1 n1 c1, .slice A2 n2 c2, .bool f] 61)).heap.size; simp
      clear hp
      go_wp2_with fail
      go_region_held3 (fun w' => w'.cell? ⟨wr.heap.size, 0, none⟩ = some (.slice A1 n1 c1) ∧ w'.cell? ⟨wr.heap.size, 1, none⟩ = some (.slice A2 n2 c2) ∧ w'.cell? ⟨wr.heap.size, 2, none⟩ = some (.bool f)) (first | exact ⟨e0, e1, e2⟩ | exact ⟨f0, f1, f2⟩ | exact ⟨g0, g1, g2⟩ | exact ⟨i0, i1, i2⟩)
        (first | (go_at_call 104; refine (flag_any _ _).mono ?_; rintro e w4 ⟨A4, c4, rfl, ho4, hb4⟩; have f0 := (hb4.cell (p := ⟨wr.heap.size, 0, none⟩) hwl).trans e0; have f1 := (hb4.cell (p := ⟨wr.heap.size, 1, none⟩) hwl).trans e1; have f2 := (hb4.cell (p := ⟨wr.heap.size, 2, none⟩) hwl).trans e2; have hp4 := hpB.keep hb4; have hbw4 := hbB.trans (hb4.mono hsB); have hs4 := hbw4.size; have hw4l := Nat.lt_of_lt_of_le hwl hb4.size; have hbo := below_alloc w4 (.cells #[.slice A4 1 c4, .slice A1 n1 c1, .slice A2 n2 c2] 28); have g0 := (hbo.cell (p := ⟨wr.heap.size, 0, none⟩) hw4l).trans f0; have g1 := (hbo.cell (p := ⟨wr.heap.size, 1, none⟩) hw4l).trans f1; have g2 := (hbo.cell (p := ⟨wr.heap.size, 2, none⟩) hw4l).trans f2; have HOB : Hid (((w4.alloc (.cells #[.slice A4 1 c4, .slice A1 n1 c1, .slice A2 n2 c2] 28)).heap[wr.heap.size]?) = some (.cells #[.slice A1 n1 c1, .slice A2 n2 c2, .bool f] 61 (0, 0))) := (hbo.block wr.heap.size hw4l).trans ((hb4.block wr.heap.size hwl).trans HNW.out); have P3 := Lib.hid (Pt.own (base := w.heap.size) ho4 (flagB_ran f)); obtain ⟨vs, hrow, HROW⟩ := hp4.row (.cells #[.slice A4 1 c4, .slice A1 n1 c1, .slice A2 n2 c2] 28)) | (refine step_append_rd rfl (.tmp 37) (.tmp 45) 62 rfl j0 (.slice none 0 0) 24 Try.underlying62 hj hy0 hy1 hy2 rfl (by simp [Act.eval, Act.put]) hrow (some ⟨w4.heap.size, 0, none⟩) 3 3 [.slice A4 1 c4, .slice A1 n1 c1, .slice A2 n2 c2] (by simp [Act.eval, Act.put]) (rd_three w4 _ _ _ 28) (three_slices _ _ _ _ _ _ _ _ _) (by unfold maxLen; omega) (by omega) (by simp; omega) ?_; intro A5 c5 w5 ho5 hg5; have i0 := (World.cell?_of_block (a := ⟨wr.heap.size, 0, none⟩) (hg5.1.block wr.heap.size (lt_of_heap HOB.out) (fun e => hrow.ne_blk HOB.out (by decide) e.symm))).trans g0; have i1 := (World.cell?_of_block (a := ⟨wr.heap.size, 1, none⟩) (hg5.1.block wr.heap.size (lt_of_heap HOB.out) (fun e => hrow.ne_blk HOB.out (by decide) e.symm))).trans g1; have i2 := (World.cell?_of_block (a := ⟨wr.heap.size, 2, none⟩) (hg5.1.block wr.heap.size (lt_of_heap HOB.out) (fun e => hrow.ne_blk HOB.out (by decide) e.symm))).trans g2))
      have hp5 : Pts w5 w.heap.size A5 (m + 3) c5 (trP (l.take (k + 1))) := by
        rw [HSN.out]
        exact HROW.out [.slice A4 1 c4, .slice A1 n1 c1, .slice A2 n2 c2] [[flagB f], t.a, t.b] w5 A5 c5 rfl (pt_three P3.out (P1.out.keepW hbw4) (P2.out.keepW hbw4)) ho5 hg5
      have hb5 := (hbw4.alloc hs4 (.cells #[.slice A4 1 c4, .slice A1 n1 c1, .slice A2 n2 c2] 28)).trans (hg5.below (by simp; omega) (fun j hj => (hrow.lies j hj).1))
      clear hrow ho5 hg5 hp4 ho4 hb4 hbo f0 f1 f2 g0 g1 g2 i0 i1 i2 e0 e1 e2 d0 d1 d2 hbB hpB
      go_wp2
      go_roundw
      case rel => exact ⟨k + 1, m + 3, c5, A5, rfl, by go_num, by omega, by omega, hp5, hb5⟩
      case measure => simp [intOf]; omega
    · obtain rfl : k = n := by omega
      rw [show l.take k = l from List.take_of_length_le (by rw [HLN.out]; exact Nat.le_refl _)] at hp
      have HBG : Hid ((joinL (trP l)).length + 20 ≤ 140737488355328) := Lib.hid hbig
      have HRN := Lib.hid (joinL_ran hp.bss)
      go_wp2_with fail
      refine (join_any A' m c' (trP l) _ hp.bss (by unfold maxLen; omega) HBG.out).mono ?_
      rintro e w2 ⟨A2, n2, c2, rfl, hn2, ho2, hb2⟩
      have hb3 := hb.trans (hb2.mono hs)
      clear hn2 hp hb2
      go_wp2
      go_ret
      exact partP_own ho2 HRN.out hb3
set_option maxRecDepth 100000 in
set_option maxHeartbeats 2000000 in
theorem part_r {B : Nat} (k b s q : Int) (A : Option Addr) (n c : Nat) (vW vC vS vP vI vN : Value) (l : List Tr) (w : World) (h : Trs w A n l) (hn : n ≤ 20000000) (hbig : (trs l).length + 20 ≤ 140737488355328) :
    Calls Try.prog 54 #[.agg #[.int .i64 k, .int .u64 b, .int .u64 s, .int .u64 q, vW, .slice A n c, vC, vS, vP, vI, vN], .int .i32 114] w (PartP B w (trs l)) := by
  obtain ⟨j0, hj, hy0, hy1, hy2⟩ := info_parts info23
  have HLN := Lib.hid h.1
  have hb0 := below_alloc w (.cells #[.int .i64 k, .int .u64 b, .int .u64 s, .int .u64 q, vW, .slice A n c, vC, vS, vP, vI, vN] 32)
  go_enter Try.func54, Try.ntmps54
  go_wp2_with fail
  go_loopw [8, 55] (fun pv iv wr => ∃ (k m c' : Nat) (A' : Option Addr), pv = .slice A' m c' ∧ iv = .int .i64 k ∧ k ≤ n ∧ m ≤ 3 * k ∧ Pts wr w.heap.size A' m c' (trP (l.take k)) ∧ Below w.heap.size w wr) (fun _ iv _ => n - (intOf iv).toNat)
  case atStart => exact ⟨0, 0, 0, none, rfl, rfl, by omega, by omega, Pts.nil_, hb0⟩
  case round =>
    clear hb0
    obtain ⟨k, m, c', A', rfl, rfl, hk, hm, hp, hb⟩ := hrel
    have hs := hb.size
    by_cases hlt : k < n
    · obtain ⟨b, off, A1, n1, c1, A2, n2, c2, t, rfl, hbl, HX, HA, HB, hc0, hc1, hc2, hb1, hn1, hb2, hn2⟩ := h.at_ hlt
      have d0 := (hb.cell (p := ⟨b, off + k * 3, none⟩) hbl).trans hc0
      have d1 := (hb.cell (p := ⟨b, off + k * 3 + 1, none⟩) hbl).trans hc1
      have d2 := (hb.cell (p := ⟨b, off + k * 3 + 2, none⟩) hbl).trans hc2
      have P1 := Lib.hid (Pt.arg (base := w.heap.size) hb1 hn1 (Nat.le_refl _))
      have P2 := Lib.hid (Pt.arg (base := w.heap.size) hb2 hn2 (Nat.le_refl _))
      have HSN := Lib.hid (trP_snoc HX.out)
      generalize t.f = f at *
      clear hb1 hb2 hc0 hc1 hc2
      have hnew := heap_alloc_new wr (.cells #[.slice A1 n1 c1, .slice A2 n2 c2, .bool f] 99)
      have e0 : (wr.alloc (.cells #[.slice A1 n1 c1, .slice A2 n2 c2, .bool f] 99)).drew.cell? ⟨wr.heap.size, 0, none⟩ = some (.slice A1 n1 c1) := three_cell0 hnew
      have e1 : (wr.alloc (.cells #[.slice A1 n1 c1, .slice A2 n2 c2, .bool f] 99)).drew.cell? ⟨wr.heap.size, 1, none⟩ = some (.slice A2 n2 c2) := three_cell1 hnew
      have e2 : (wr.alloc (.cells #[.slice A1 n1 c1, .slice A2 n2 c2, .bool f] 99)).drew.cell? ⟨wr.heap.size, 2, none⟩ = some (.bool f) := three_cell2 hnew
      have HNW := Lib.hid hnew; clear hnew
      have hbB : Below w.heap.size w (wr.alloc (.cells #[.slice A1 n1 c1, .slice A2 n2 c2, .bool f] 99)).drew := below_n (hb.alloc hs (.cells #[.slice A1 n1 c1, .slice A2 n2 c2, .bool f] 99)) 1
      have hpB : Pts (wr.alloc (.cells #[.slice A1 n1 c1, .slice A2 n2 c2, .bool f] 99)).drew w.heap.size A' m c' (trP (l.take k)) := hp.keep (below_n (below_alloc wr (.cells #[.slice A1 n1 c1, .slice A2 n2 c2, .bool f] 99)) 1)
      have hsB : w.heap.size ≤ (wr.alloc (.cells #[.slice A1 n1 c1, .slice A2 n2 c2, .bool f] 99)).drew.heap.size := hbB.size
      have hwl : wr.heap.size < (wr.alloc (.cells #[.slice A1 n1 c1, .slice A2 n2 c2, .bool f] 99)).drew.heap.size := by show wr.heap.size < (wr.alloc (.cells #[.slice A1 n1 c1, .slice A2 n2 c2, .bool f] 99)).heap.size; simp
      clear hp
      go_wp2_with fail
      go_region_held3 (fun w' => w'.cell? ⟨wr.heap.size, 0, none⟩ = some (.slice A1 n1 c1) ∧ w'.cell? ⟨wr.heap.size, 1, none⟩ = some (.slice A2 n2 c2) ∧ w'.cell? ⟨wr.heap.size, 2, none⟩ = some (.bool f)) (first | exact ⟨e0, e1, e2⟩ | exact ⟨f0, f1, f2⟩ | exact ⟨g0, g1, g2⟩ | exact ⟨i0, i1, i2⟩)
        (first | (go_at_call 104; refine (flag_any _ _).mono ?_; rintro e w4 ⟨A4, c4, rfl, ho4, hb4⟩; have f0 := (hb4.cell (p := ⟨wr.heap.size, 0, none⟩) hwl).trans e0; have f1 := (hb4.cell (p := ⟨wr.heap.size, 1, none⟩) hwl).trans e1; have f2 := (hb4.cell (p := ⟨wr.heap.size, 2, none⟩) hwl).trans e2; have hp4 := hpB.keep hb4; have hbw4 := hbB.trans (hb4.mono hsB); have hs4 := hbw4.size; have hw4l := Nat.lt_of_lt_of_le hwl hb4.size; have hbo := below_alloc w4 (.cells #[.slice A4 1 c4, .slice A1 n1 c1, .slice A2 n2 c2] 28); have g0 := (hbo.cell (p := ⟨wr.heap.size, 0, none⟩) hw4l).trans f0; have g1 := (hbo.cell (p := ⟨wr.heap.size, 1, none⟩) hw4l).trans f1; have g2 := (hbo.cell (p := ⟨wr.heap.size, 2, none⟩) hw4l).trans f2; have HOB : Hid (((w4.alloc (.cells #[.slice A4 1 c4, .slice A1 n1 c1, .slice A2 n2 c2] 28)).heap[wr.heap.size]?) = some (.cells #[.slice A1 n1 c1, .slice A2 n2 c2, .bool f] 99 (0, 0))) := (hbo.block wr.heap.size hw4l).trans ((hb4.block wr.heap.size hwl).trans HNW.out); have P3 := Lib.hid (Pt.own (base := w.heap.size) ho4 (flagB_ran f)); obtain ⟨vs, hrow, HROW⟩ := hp4.row (.cells #[.slice A4 1 c4, .slice A1 n1 c1, .slice A2 n2 c2] 28)) | (refine step_append_rd rfl (.tmp 59) (.tmp 67) 62 rfl j0 (.slice none 0 0) 24 Try.underlying62 hj hy0 hy1 hy2 rfl (by simp [Act.eval, Act.put]) hrow (some ⟨w4.heap.size, 0, none⟩) 3 3 [.slice A4 1 c4, .slice A1 n1 c1, .slice A2 n2 c2] (by simp [Act.eval, Act.put]) (rd_three w4 _ _ _ 28) (three_slices _ _ _ _ _ _ _ _ _) (by unfold maxLen; omega) (by omega) (by simp; omega) ?_; intro A5 c5 w5 ho5 hg5; have i0 := (World.cell?_of_block (a := ⟨wr.heap.size, 0, none⟩) (hg5.1.block wr.heap.size (lt_of_heap HOB.out) (fun e => hrow.ne_blk HOB.out (by decide) e.symm))).trans g0; have i1 := (World.cell?_of_block (a := ⟨wr.heap.size, 1, none⟩) (hg5.1.block wr.heap.size (lt_of_heap HOB.out) (fun e => hrow.ne_blk HOB.out (by decide) e.symm))).trans g1; have i2 := (World.cell?_of_block (a := ⟨wr.heap.size, 2, none⟩) (hg5.1.block wr.heap.size (lt_of_heap HOB.out) (fun e => hrow.ne_blk HOB.out (by decide) e.symm))).trans g2))
      have hp5 : Pts w5 w.heap.size A5 (m + 3) c5 (trP (l.take (k + 1))) := by
        rw [HSN.out]
        exact HROW.out [.slice A4 1 c4, .slice A1 n1 c1, .slice A2 n2 c2] [[flagB f], t.a, t.b] w5 A5 c5 rfl (pt_three P3.out (P1.out.keepW hbw4) (P2.out.keepW hbw4)) ho5 hg5
      have hb5 := (hbw4.alloc hs4 (.cells #[.slice A4 1 c4, .slice A1 n1 c1, .slice A2 n2 c2] 28)).trans (hg5.below (by simp; omega) (fun j hj => (hrow.lies j hj).1))
      clear hrow ho5 hg5 hp4 ho4 hb4 hbo f0 f1 f2 g0 g1 g2 i0 i1 i2 e0 e1 e2 d0 d1 d2 hbB hpB
      go_wp2
      go_roundw
      case rel => exact ⟨k + 1, m + 3, c5, A5, rfl, by go_num, by omega, by omega, hp5, hb5⟩
      case measure => simp [intOf]; omega
    · obtain rfl : k = n := by omega
      rw [show l.take k = l from List.take_of_length_le (by rw [HLN.out]; exact Nat.le_refl _)] at hp
      have HBG : Hid ((joinL (trP l)).length + 20 ≤ 140737488355328) := Lib.hid hbig
      have HRN := Lib.hid (joinL_ran hp.bss)
      go_wp2_with fail
      refine (join_any A' m c' (trP l) _ hp.bss (by unfold maxLen; omega) HBG.out).mono ?_
      rintro e w2 ⟨A2, n2, c2, rfl, hn2, ho2, hb2⟩
      have hb3 := hb.trans (hb2.mono hs)
      clear hn2 hp hb2
      go_wp2
      go_ret
      exact partP_own ho2 HRN.out hb3
end Go.Proofs.Ytmjjbfcblmmipaa
namespace Go.Proofs.Ytmjjbfcblmmipaa
set_option linter.unusedVariables false
set_option linter.unusedSimpArgs false
open Go.RowKit

theorem wrap_uw (x : Int) (h0 : -9223372036854775808 ≤ x) (h1 : x ≤ 9223372036854775807) : IntKind.u64.wrap x = uw x := by
  simp [IntKind.wrap, IntKind.bits, IntKind.signed, uw]
  omega
theorem bw_bs (w : World) (xs : List Int) (h : Ran xs) : Bs (Lib.bytesWorld w 5 (strOfNums xs)) (some ⟨w.heap.size, 0, none⟩) xs.length xs := by
  refine ⟨⟨By_length _, fun _ => ⟨w.heap.size, 0, rfl, by rw [Lib.bytesWorld_size]; omega, fun j u hu => ?_⟩⟩, h⟩
  have hj : j < xs.length := by
    have := (List.getElem?_eq_some_iff.1 hu).1
    rwa [By_length] at this
  rw [Nat.zero_add, Lib.bytesWorld_cell w 5 _ j (by rw [strOfNums_size]; exact hj)]
  have hx := h xs[j] (List.getElem_mem hj)
  simp only [By, List.getElem?_map, List.getElem?_eq_getElem hj, Option.map_some, Option.some.injEq] at hu
  subst hu
  rw [strOfNums_data]
  simp only [List.getD, List.getElem?_map, List.getElem?_eq_getElem hj, Option.map_some, Option.getD_some]
  have : ((UInt8.ofNat (xs[j]).toNat).toNat : Int) = xs[j] := by
    rw [UInt8.toNat_ofNat']
    omega
  rw [this]
theorem bw_fo (w : World) (base : Nat) (s : ByteArray) (n : Nat) : Fo (Lib.bytesWorld w 5 s) base (some ⟨w.heap.size, 0, none⟩) n := fun _ k hk => by
  simp only [blk, Option.map_some, Option.some.injEq] at hk
  subst hk
  exact .inr ⟨_, _, Lib.bytesWorld_at_new w 5 s⟩

set_option maxRecDepth 100000 in
set_option maxHeartbeats 1000000 in
theorem part_c {B : Nat} (k b s q : Int) (f : Bool) (vW vR vS vP vI vN : Value) (w : World) :
    Calls Try.prog 54 #[.agg #[.int .i64 k, .int .u64 b, .int .u64 s, .int .u64 q, vW, vR, .bool f, vS, vP, vI, vN], .int .i32 99] w (PartP B w [flagB f]) := by
  have hb0 := below_alloc w (.cells #[.int .i64 k, .int .u64 b, .int .u64 s, .int .u64 q, vW, vR, .bool f, vS, vP, vI, vN] 32)
  have hs0 := hb0.size
  go_enter Try.func54, Try.ntmps54
  go_wp2_with fail
  refine (flag_any f _).mono ?_
  rintro e w2 ⟨A2, c2, rfl, ho2, hb2⟩
  have hb3 := hb0.trans (hb2.mono hs0)
  go_wp2
  go_ret
  exact partP_own ho2 (flagB_ran f) hb3
set_option maxRecDepth 100000 in
set_option maxHeartbeats 1000000 in
theorem part_i {B : Nat} (k b s q i : Int) (vW vR vC vS vP vN : Value) (w : World) (h0 : 0 ≤ i ∧ i ≤ 18446744073709551615) :
    Calls Try.prog 54 #[.agg #[.int .i64 k, .int .u64 b, .int .u64 s, .int .u64 q, vW, vR, vC, vS, vP, .int .u64 i, vN], .int .i32 105] w (PartP B w (num i)) := by
  have hbel : Below w.heap.size w ((w.alloc (.cells #[.int .i64 k, .int .u64 b, .int .u64 s, .int .u64 q, vW, vR, vC, vS, vP, .int .u64 i, vN] 32)).alloc (.cells #[.int .u64 i] 22)) := (below_alloc w _).alloc (by simp) _
  have hus : Us ((w.alloc (.cells #[.int .i64 k, .int .u64 b, .int .u64 s, .int .u64 q, vW, vR, vC, vS, vP, .int .u64 i, vN] 32)).alloc (.cells #[.int .u64 i] 22)) (some ⟨w.heap.size + 1, 0, none⟩) 1 [i] := by
    refine us_of (t := 22) (fr := (0, 0)) ?_ rfl (fun x hx => by rw [List.mem_singleton.1 hx]; exact h0)
    have := heap_alloc_new (w.alloc (.cells #[.int .i64 k, .int .u64 b, .int .u64 s, .int .u64 q, vW, vR, vC, vS, vP, .int .u64 i, vN] 32)) (.cells #[.int .u64 i] 22)
    simpa using this
  have HRN := Lib.hid (num_ran i h0.1)
  have HNE := Lib.hid (show nums [i] = num i by simp [nums])
  go_enter Try.func54, Try.ntmps54
  go_wp2_with fail
  refine (number_any _ 1 1 [i] _ hus (by omega)).mono ?_
  rintro e w2 ⟨A2, c2, n2, rfl, hn2, ho2, hb2⟩
  rw [HNE.out] at ho2
  have hs := hbel.size
  have hb3 := hbel.trans (hb2.mono hs)
  clear hn2 hus hbel hb2
  go_wp2
  go_ret
  exact partP_own ho2 HRN.out hb3
set_option maxRecDepth 100000 in
set_option maxHeartbeats 1000000 in
theorem part_a {B : Nat} (k b s q : Int) (A : Option Addr) (n c : Nat) (vW vR vC vS vI vN : Value) (xs : List Int) (w : World) (h : Bs w A n xs) (hnc : n ≤ c) (hfo : Fo w B A n) :
    Calls Try.prog 54 #[.agg #[.int .i64 k, .int .u64 b, .int .u64 s, .int .u64 q, vW, vR, vC, vS, .slice A n c, vI, vN], .int .i32 97] w (PartP B w xs) := by
  have hb0 := below_alloc w (.cells #[.int .i64 k, .int .u64 b, .int .u64 s, .int .u64 q, vW, vR, vC, vS, .slice A n c, vI, vN] 32)
  have HP : Hid (Pt w B A n c xs) := ⟨h.len.symm, hnc, h, hfo⟩
  go_enter Try.func54, Try.ntmps54
  go_wp2
  go_ret
  exact ⟨A, n, c, rfl, HP.out.keep hb0, hb0⟩
set_option maxRecDepth 100000 in
set_option maxHeartbeats 1000000 in
theorem part_n {B : Nat} (k b s q : Int) (vW vR vC vS vP vI : Value) (xs : List Int) (w : World) (hr : Ran xs) :
    Calls Try.prog 54 #[.agg #[.int .i64 k, .int .u64 b, .int .u64 s, .int .u64 q, vW, vR, vC, vS, vP, vI, .string (strOfNums xs)], .int .i32 110] w (PartP B w xs) := by
  have hb0 := below_alloc w (.cells #[.int .i64 k, .int .u64 b, .int .u64 s, .int .u64 q, vW, vR, vC, vS, vP, vI, .string (strOfNums xs)] 32)
  have hs0 := hb0.size
  generalize hW : w.alloc (.cells #[.int .i64 k, .int .u64 b, .int .u64 s, .int .u64 q, vW, vR, vC, vS, vP, vI, .string (strOfNums xs)] 32) = W at *
  have hcv := Lib.run_convert_string_bytes (P := Try.prog) W 9 28 5 (strOfNums xs) Try.underlying9 Try.underlying28 Try.underlying5
  have hbw := Lib.bytesWorld_below W 5 (strOfNums xs)
  have HBS := Lib.hid (bw_bs W xs hr)
  have HFO := Lib.hid (bw_fo W B (strOfNums xs) xs.length)
  have HCG := Lib.hid (grownCap_ge W (strOfNums xs).size 0 5)
  have HSZ := Lib.hid (strOfNums_size xs)
  have hb1 := hb0.trans (hbw.mono hs0)
  subst hW
  have HB1 := Lib.hid hb1
  clear hb0 hbw hb1
  go_enter Try.func54, Try.ntmps54
  go_wp2
  go_ret
  refine ⟨_, _, _, rfl, ⟨HSZ.out, HCG.out, ?_, ?_⟩, HB1.out⟩
  · rw [HSZ.out]; have h1 := HBS.out; rw [World.size_alloc] at h1; exact h1
  · rw [HSZ.out]; have h1 := HFO.out; rw [World.size_alloc] at h1; exact h1
set_option maxRecDepth 100000 in
set_option maxHeartbeats 2000000 in
theorem part_s {B : Nat} (k b s q : Int) (A : Option Addr) (n c : Nat) (vW vR vC vP vI vN : Value) (l : List Int) (w : World) (h : Ins w A n l) (hn : n ≤ 20000000) :
    Calls Try.prog 54 #[.agg #[.int .i64 k, .int .u64 b, .int .u64 s, .int .u64 q, vW, vR, vC, .slice A n c, vP, vI, vN], .int .i32 115] w (PartP B w (nums (l.map uw))) := by
  have HLN := Lib.hid h.len
  have HLB := Lib.hid h.2
  have hw0 : Wtr ((w.alloc (.cells #[.int .i64 k, .int .u64 b, .int .u64 s, .int .u64 q, vW, vR, vC, .slice A n c, vP, vI, vN] 32)).alloc (.cells #[.slice none 0 0] 147)) (w.heap.size + 1) none 0 0 [] := by
    refine ⟨?_, Own.nil_⟩
    have := heap_alloc_new (w.alloc (.cells #[.int .i64 k, .int .u64 b, .int .u64 s, .int .u64 q, vW, vR, vC, .slice A n c, vP, vI, vN] 32)) (.cells #[.slice none 0 0] 147)
    simpa using this
  have hb0 : Below w.heap.size w ((w.alloc (.cells #[.int .i64 k, .int .u64 b, .int .u64 s, .int .u64 q, vW, vR, vC, .slice A n c, vP, vI, vN] 32)).alloc (.cells #[.slice none 0 0] 147)) := (below_alloc w _).alloc (by simp) _
  have HRN : Hid (Ran (nums (l.map uw))) := nums_ran _ (fun x hx => by
    obtain ⟨y, hy, rfl⟩ := List.mem_map.1 hx
    exact (uw_bd y (h.2 y hy).1 (h.2 y hy).2).1)
  go_enter Try.func54, Try.ntmps54
  go_wp2_with fail
  go_loopw [82] (fun iv wr => ∃ (k n' c' : Nat) (A' : Option Addr), iv = .int .i64 k ∧ k ≤ n ∧ n' ≤ 9 * k ∧ Wtr wr (w.heap.size + 1) A' n' c' (nums ((l.map uw).take k)) ∧ Below w.heap.size w wr) (fun iv _ => n - (intOf iv).toNat)
  case atStart => exact ⟨0, 0, 0, none, rfl, by omega, by omega, hw0, hb0⟩
  case round =>
    clear hw0 hb0
    obtain ⟨k, n', c', A', rfl, hk, hn', hw, hb⟩ := hrel
    have hs := hb.size
    have hgl := hw.lt
    by_cases hlt : k < n
    · obtain ⟨bb, off, x, rfl, hbl, hx0, hx1, hcx⟩ := h.at_ hlt
      have d0 := (hb.cell (p := ⟨bb, off + k, none⟩) hbl).trans hcx
      have HX : Hid (l[k]? = some x) := by
        obtain ⟨b2, off2, u, hA, _, hcu, HU⟩ := h.1.at_ hlt
        injection hA with hA; injection hA with e1 e2; subst e1; subst e2
        rw [hcx] at hcu
        injection hcu with hcu
        have h3 := HU.out
        rw [← hcu, List.getElem?_map] at h3
        cases hl : l[k]? with
        | none => rw [hl] at h3; cases h3
        | some y =>
          rw [hl] at h3
          simp only [Option.map_some, Option.some.injEq] at h3
          injection h3 with _ h3
          exact Lib.hid (by rw [h3])
      have HSN := Lib.hid (nums_snoc (ls := l.map uw) (k := k) (x := uw x) (by rw [List.getElem?_map, HX.out]; rfl))
      have HWU := Lib.hid (wrap_uw x hx0 hx1)
      have HUB := Lib.hid (uw_bd x hx0 hx1)
      have hnew := heap_alloc_new wr (.cells #[.int .u64 (IntKind.u64.wrap x)] 22)
      have hwa := hw.keep (B := 0) (below_alloc wr (.cells #[.int .u64 (IntKind.u64.wrap x)] 22))
      have hba := hb.alloc hs (.cells #[.int .u64 (IntKind.u64.wrap x)] 22)
      have hbh := hw.behind
      have HNB := Lib.hid hnew
      clear hnew hcx hw hb
      go_wp2_with fail
      refine (wnum_one _ (w.heap.size + 1) wr.heap.size A' n' c' _ (IntKind.u64.wrap x) hwa HNB.out (by rw [HWU.out]; exact HUB.out.1) (by rw [HWU.out]; exact HUB.out.2) (by omega)).mono ?_
      rintro e w4 ⟨A4, n4, c4, rfl, hn4, hw4, hef4⟩
      rw [HWU.out, ← HSN.out] at hw4 hn4
      have hb4 := hba.trans ((hef4.below (by simp; omega) (fun k hk => by have := (hbh k hk).1; omega)).mono (Nat.le_succ _))
      have hn4' : n4 ≤ 9 * (k + 1) := by
        rw [hn4]
        have h1 := nums_le ((l.map uw).take (k + 1))
        have h2 : ((l.map uw).take (k + 1)).length ≤ k + 1 := by rw [List.length_take]; omega
        omega
      clear hwa hba hef4 hn4
      go_wp2
      go_roundw
      case rel => exact ⟨k + 1, n4, c4, A4, by go_num, by omega, hn4', hw4, hb4⟩
      case measure => simp [intOf]; omega
    · obtain rfl : k = n := by omega
      rw [show (l.map uw).take k = l.map uw from List.take_of_length_le (by rw [List.length_map, HLN.out]; exact Nat.le_refl _)] at hw
      go_wp2_with fail
      refine (wbytes_any _ (w.heap.size + 1) A' n' c' _ hw HRN.out (by omega)).mono ?_
      rintro e w2 ⟨A2, c2, rfl, ho2, hb2⟩
      have hb3 := hb.trans (hb2.mono hs)
      clear hw hb2
      go_wp2
      go_ret
      exact partP_own ho2 HRN.out hb3
end Go.Proofs.Ytmjjbfcblmmipaa
