/- pack.Split of two joined texts: the parts lie apart. -/
import Derived.Test.YtdlbghjclcdfmaaSplitW
import Derived.Test.YtdlbghjclcdfmaaApt
namespace Go.Proofs.Ytdlbghjclcdfmaa
set_option linter.unusedVariables false
set_option linter.unusedSimpArgs false
open Go.RowKit

theorem K5.onl {base g : Nat} {w w' : World} {cs : Array Value} {t : TypeId} {fr : Nat × Nat} (h : Onl g w w') (hg : w.heap[g]? = some (.cells cs t fr)) (ht : t ≠ 5) : K5 base w w' := fun A n c vs x => x.onl h (x.ne_block hg ht)
theorem Rdr.heap {w : World} {g : Nat} {xs : List Int} {err : Int} (h : Rdr w g xs err) : ∃ cs fr, w.heap[g]? = some (.cells cs 63 fr) := by
  obtain ⟨A, n, c, hh, _⟩ := h
  exact ⟨_, _, hh⟩
theorem Rdr.k5 {base g : Nat} {w w' : World} {xs : List Int} {err : Int} (h : Rdr w g xs err) (ho : Onl g w w') : K5 base w w' := by
  obtain ⟨cs, fr, hh⟩ := h.heap
  exact K5.onl ho hh (by decide)
theorem texts_two (xs ys : List Int) : texts [xs, ys] = num xs.length ++ (xs ++ texts [ys]) := by simp [texts]
theorem texts_one (ys : List Int) : texts [ys] = num ys.length ++ (ys ++ []) := by simp [texts]
theorem textS_two (xs ys : List Int) (h : (xs.length : Int) ≤ 18446744073709551615) : textS (texts [xs, ys]) 0 = (xs, texts [ys], 0) := by
  rw [texts_two]; exact textS_head xs _ h
theorem textS_one (ys : List Int) (h : (ys.length : Int) ≤ 18446744073709551615) : textS (texts [ys]) 0 = (ys, [], 0) := by
  rw [texts_one]; exact textS_head ys _ h
theorem numS_two (xs ys : List Int) : numS (joinL [xs, ys]) 0 = (2, texts [xs, ys], 0) := by
  unfold numS joinL
  rw [tkN_head _ _ (by omega) (by simp)]
  simp
theorem Rdr.grow {w w' : World} {g base nl cl : Nat} {xs : List Int} {err : Int} {A A' : Option Addr} {us : List Value} (h : Rdr w g xs err) (ho : Own w base 23 A nl cl us) (hg : Grows w w' A A') (hb : g < base) (hbs : base ≤ w.heap.size) : Rdr w' g xs err :=
  h.keep (hg.below (B := base) hbs (fun k hk => (ho.lies k hk).1)) hb

set_option maxRecDepth 100000 in
set_option maxHeartbeats 2000000 in
theorem split_two (B : Option Addr) (m d : Nat) (xs ys : List Int) (w : World) (hx : Bs w B m (joinL [xs, ys])) (hmd : m ≤ d) (hB : ∀ k, blk B = some k → k < w.heap.size) (hm : m ≤ 1073741824) (hxl : xs.length ≤ 1073741824) (hyl : ys.length ≤ 1073741824) :
    Calls Try.prog 19 #[.slice B m d] w fun e w' => ∃ (gv cv : Nat) (A1 : Option Addr) (n1 c1 : Nat) (A2 : Option Addr) (n2 c2 mid : Nat), e = .returned (.tuple #[.slice (some ⟨gv, 0, none⟩) 2 cv, .int .i64 0]) ∧ gv < w'.heap.size ∧ w'.cell? ⟨gv, 0, none⟩ = some (.slice A1 n1 c1) ∧ w'.cell? ⟨gv, 1, none⟩ = some (.slice A2 n2 c2) ∧ Hid (n1 = xs.length) ∧ Hid (n2 = ys.length) ∧ Own w' w.heap.size 5 A1 n1 c1 (By xs) ∧ Own w' w.heap.size 5 A2 n2 c2 (By ys) ∧ Hid (∀ b, blk A1 = some b → w.heap.size ≤ b ∧ b < mid) ∧ Hid (∀ b, blk A2 = some b → mid ≤ b ∧ b < w'.heap.size) ∧ w.heap.size ≤ mid ∧ mid ≤ w'.heap.size ∧ Below w.heap.size w w' := by
  obtain ⟨i0, hi, hz0, hz1, hz2⟩ := info_parts info23
  have hrd0 : Rdr (w.alloc (.cells #[.slice B m d, .int .i64 0] 63)) w.heap.size (joinL [xs, ys]) 0 := ⟨B, m, d, heap_alloc_new w _, hx.keep (below_alloc w _), hmd, hB⟩
  have hjl : (joinL [xs, ys]).length ≤ 1073741824 := by rw [hx.len]; exact hm
  have htl : (texts [xs, ys]).length ≤ 1073741824 := by
    have : (joinL [xs, ys]).length = (num 2).length + (texts [xs, ys]).length := by simp [joinL]
    omega
  have htl2 : (texts [ys]).length ≤ 1073741824 := by
    have := texts_two xs ys
    have h2 : (texts [xs, ys]).length = (num (xs.length : Int)).length + (xs.length + (texts [ys]).length) := by rw [this]; simp only [List.length_append]
    omega
  have HN := Lib.hid (numS_two xs ys)
  have HT1 := Lib.hid (textS_two xs ys (by omega))
  have HT2 := Lib.hid (textS_one ys (by omega))
  clear hx hB
  go_enter Try.func19, Try.ntmps19
  go_wp2_with fail
  refine (rnum_any _ w.heap.size _ 0 hrd0 (by omega)).mono ?_
  rw [HN.out]
  rintro e' w1 ⟨rfl, hrd1, ho1⟩
  have hb1 := (below_alloc w (.cells #[.slice B m d, .int .i64 0] 63)).trans (ho1.below (by simp))
  have hw1 := hrd1.lt
  clear hrd0 ho1
  go_wp2
  refine wp_loop_rounds 3 ?_
  rw [rounds_succ]
  go_wp2_with fail
  refine (rtext_any _ w.heap.size _ 0 hrd1 (by omega)).mono ?_
  rw [HT1.out]
  rintro e' w2 ⟨A2, c2, n2, rfl, hn2, ho2, hr2, hrd2, hl2⟩
  have HN2 := Lib.hid (show n2 = xs.length from hn2)
  have hn2' : n2 ≤ 1073741824 := by rw [HN2.out]; exact hxl
  have hb2 := hb1.trans (hl2.below (by omega))
  have hs2 := hl2.size
  have HR2 : Hid (∀ b, blk A2 = some b → w1.heap.size ≤ b ∧ b < w2.heap.size) := fun b hb => ho2.lies b hb
  have ho2' : Own w2 (w.heap.size + 1) 5 A2 n2 c2 (By xs) := ho2.mono (by omega)
  obtain ⟨A9, n9, c9, hh9, hrest9⟩ := hrd2
  have hcc := two_cell1 hh9
  have hrd2 : Rdr w2 w.heap.size (texts [ys]) 0 := ⟨A9, n9, c9, hh9, hrest9⟩
  have hba2 := below_alloc w2 (.cells #[.slice A2 n2 c2] 23)
  have hrow2 : Own (w2.alloc (.cells #[.slice A2 n2 c2] 23)) (w.heap.size + 1) 23 none 0 0 [] := Own.nil_
  have ho2a := K5.below hba2 _ _ _ _ ho2'
  have hrd2a := hrd2.keep hba2 hrd2.lt
  have hb2a := hb2.trans (hba2.mono (by omega))
  clear hn2 hl2 hh9 hrest9 hrd1 hb1 ho2 ho2' hrd2 hba2 hb2
  go_wp2_with (at_builtin; refine wpList_append_rd rfl _ _ 36 rfl i0 (.slice none 0 0) 24 Try.underlying36 hi hz0 hz1 hz2 rfl rfl hrow2 (some ⟨w2.heap.size, 0, none⟩) 1 1 [.slice A2 n2 c2] rfl (rd_oneV w2 _ 23) (one_slice _ _ _) ?c1 ?c2 ?c3 ?_)
  case c1 => unfold maxLen; omega
  case c2 => omega
  case c3 => simp; omega
  intro A4 c4 w4 ho4 hg4
  have ho24 := K5.grown (base := w.heap.size + 1) hrow2 hg4.1 _ _ _ _ ho2a
  have hrd4 := hrd2a.grow hrow2 hg4 (Nat.lt_succ_self _) (by simp; omega)
  have hb4 := hb2a.trans (hg4.below (B := w.heap.size) (by simp; omega) (fun k hk => by cases hk))
  have hs4 : w2.heap.size ≤ w4.heap.size := by have := hg4.size; simp at this; omega
  have ho4' : Own w4 (w.heap.size + 1) 23 A4 1 c4 [.slice A2 n2 c2] := by simpa using ho4
  clear hrow2 ho4 hg4 ho2a hrd2a hb2a hcc
  go_wp2
  rw [rounds_succ]
  go_wp2_with fail
  refine (rtext_any _ w.heap.size _ 0 hrd4 (by omega)).mono ?_
  rw [HT2.out]
  rintro e' w5 ⟨A5, c5, n5, rfl, hn5, ho5, hr5, hrd5, hl5⟩
  have HN5 := Lib.hid (show n5 = ys.length from hn5)
  have hn5' : n5 ≤ 1073741824 := by rw [HN5.out]; exact hyl
  have hk5 := hrd4.k5 (base := w.heap.size + 1) hl5
  have hb5 := hb4.trans (hl5.below (by omega))
  have hs5 := hl5.size
  have HR5 : Hid (∀ b, blk A5 = some b → w4.heap.size ≤ b ∧ b < w5.heap.size) := fun b hb => ho5.lies b hb
  have ho5' : Own w5 (w.heap.size + 1) 5 A5 n5 c5 (By ys) := ho5.mono (by omega)
  have ho25 := hk5 _ _ _ _ ho24
  have ho45 := ho4'.onl hl5 (fun e => by have := (ho4'.lies _ e).1; omega)
  obtain ⟨A9, n9, c9, hh9, hrest9⟩ := hrd5
  have hcc := two_cell1 hh9
  have hrd5 : Rdr w5 w.heap.size [] 0 := ⟨A9, n9, c9, hh9, hrest9⟩
  have hba5 := below_alloc w5 (.cells #[.slice A5 n5 c5] 23)
  have hrow5 := ho45.alloc (.cells #[.slice A5 n5 c5] 23)
  have ho25a := K5.below hba5 _ _ _ _ ho25
  have ho5a := K5.below hba5 _ _ _ _ ho5'
  have hrd5a := hrd5.keep hba5 hrd5.lt
  have hb5a := hb5.trans (hba5.mono (by omega))
  clear hn5 hl5 hh9 hrest9 hrd4 hb4 ho5 ho5' hrd5 hba5 hb5 ho24 ho4' ho25 ho45 hk5
  go_wp2_with (at_builtin; refine wpList_append_rd rfl _ _ 36 rfl i0 (.slice none 0 0) 24 Try.underlying36 hi hz0 hz1 hz2 rfl rfl hrow5 (some ⟨w5.heap.size, 0, none⟩) 1 1 [.slice A5 n5 c5] rfl (rd_oneV w5 _ 23) (one_slice _ _ _) ?d1 ?d2 ?d3 ?_)
  case d1 => unfold maxLen; omega
  case d2 => omega
  case d3 => simp; omega
  intro A7 c7 w7 ho7 hg7
  have hk7 := K5.grown (base := w.heap.size + 1) hrow5 hg7.1
  have ho27 := hk7 _ _ _ _ ho25a
  have ho57 := hk7 _ _ _ _ ho5a
  have hrd7 := hrd5a.grow hrow5 hg7 (Nat.lt_succ_self _) (by simp; omega)
  have hb7 := hb5a.trans (hg7.below (B := w.heap.size) (by simp; omega) (fun k hk => by have := (hrow5.lies k hk).1; omega))
  have hs7 : w5.heap.size ≤ w7.heap.size := by have := hg7.size; simp at this; omega
  have ho7' : Own w7 (w.heap.size + 1) 23 A7 2 c7 [.slice A2 n2 c2, .slice A5 n5 c5] := by simpa using ho7
  have HCL := Lib.hid (show closeV [] 0 = 0 by decide)
  obtain ⟨gv, cap7, hv7, _, hgv⟩ := World.ownsRow.form ho7' (by omega)
  obtain rfl : A7 = some ⟨gv, 0, none⟩ := by injection hv7
  have HC0 := Lib.hid (show w7.cell? ⟨gv, 0, none⟩ = some (.slice A2 n2 c2) by rw [World.ownsRow.cellAt ho7' 0 (by omega)]; rfl)
  have HC1 := Lib.hid (show w7.cell? ⟨gv, 1, none⟩ = some (.slice A5 n5 c5) by rw [World.ownsRow.cellAt ho7' 1 (by omega)]; rfl)
  clear hrow5 ho7 hg7 ho25a ho5a hrd5a hb5a hcc ho7' hv7 hk7
  go_wp2
  rw [rounds_succ]
  go_wp2_with fail
  refine (rclose_any _ w.heap.size _ _ hrd7).mono ?_
  rintro e' w8 ⟨rfl, rfl⟩
  rw [HCL.out]
  go_wp2
  go_ret2
  exact ⟨gv, c7, A2, n2, c2, A5, n5, c5, w4.heap.size, rfl, hgv, HC0.out, HC1.out, HN2, HN5, ho27.mono (by omega), ho57.mono (by omega), fun b hb => ⟨by have := (ho27.lies b hb).1; omega, by have := (HR2.out b hb).2; omega⟩, fun b hb => ⟨(HR5.out b hb).1, by have := (HR5.out b hb).2; omega⟩, by omega, by omega, hb7⟩
end Go.Proofs.Ytdlbghjclcdfmaa
