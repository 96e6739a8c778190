/- pack.Reader: Read, Num, Text, Flag, Err, Left, Close. -/
import Derived.Test.YtmjjbfcblmmipaaRefTake
namespace Go.Proofs.Ytmjjbfcblmmipaa
set_option linter.unusedVariables false
set_option linter.unusedSimpArgs false

theorem tkN_cases (xs : List Int) (hr : Ran xs) (i : Nat) : (∃ e, tkN xs i = (0, 0, e) ∧ (e = 5 ∨ e = 3)) ∨ ∃ (n : Int) (k : Nat), tkN xs i = (n, (k : Int), 0) ∧ 0 ≤ n ∧ n ≤ 18446744073709551615 ∧ i < k ∧ k ≤ xs.length := by
  cases h : xs[i]? with
  | none => exact .inl ⟨5, by simp [tkN, h], .inl rfl⟩
  | some b =>
    have hi := (List.getElem?_eq_some_iff.1 h).1
    have hb := hr b (List.mem_of_getElem? h)
    by_cases h1 : b < 248
    · exact .inr ⟨b, i + 1, by rw [tkN_small h h1]; simp, hb.1, by omega, by omega, by omega⟩
    · by_cases h2 : xs.length < i + 1 + (b - 247).toNat
      · exact .inl ⟨5, tkN_short h h1 h2, .inl rfl⟩
      · by_cases h3 : val ((xs.drop (i + 1)).take (b - 247).toNat) < 248 ∨ nb (val ((xs.drop (i + 1)).take (b - 247).toNat)) < (b - 247).toNat
        · exact .inl ⟨3, tkN_form h h1 h2 h3, .inr rfl⟩
        · have hv := val_lt (b - 247).toNat ((xs.drop (i + 1)).take (b - 247).toNat) (hr.sub fun x hx => List.mem_of_mem_drop (List.mem_of_mem_take hx)) (by rw [List.length_take, List.length_drop]; omega)
          have hp := pow256 (b - 247).toNat (by omega)
          refine .inr ⟨_, i + 1 + (b - 247).toNat, by rw [tkN_ok h h1 h2 h3]; congr 2; omega, hv.1, by omega, by omega, by omega⟩

theorem tkN_drop (xs : List Int) (i : Nat) (hi : i ≤ xs.length) : tkN xs i = ((tkN (xs.drop i) 0).1, (if (tkN (xs.drop i) 0).2.2 = 0 then (tkN (xs.drop i) 0).2.1 + i else 0), (tkN (xs.drop i) 0).2.2) := by
  have e : (xs.drop i)[0]? = xs[i]? := by rw [List.getElem?_drop]; simp
  cases h : xs[i]? with
  | none => rw [h] at e; simp [tkN, h, e]
  | some b =>
    rw [h] at e
    have hl : i < xs.length := (List.getElem?_eq_some_iff.1 h).1
    by_cases h1 : b < 248
    · rw [tkN_small h h1, tkN_small e h1]; simp; omega
    · have ed : (xs.drop i).drop (0 + 1) = xs.drop (i + 1) := by rw [List.drop_drop]
      by_cases h2 : xs.length < i + 1 + (b - 247).toNat
      · rw [tkN_short h h1 h2, tkN_short e h1 (by rw [List.length_drop]; omega)]; simp
      · have h2' : ¬ (xs.drop i).length < 0 + 1 + (b - 247).toNat := by rw [List.length_drop]; omega
        by_cases h3 : val ((xs.drop (i + 1)).take (b - 247).toNat) < 248 ∨ nb (val ((xs.drop (i + 1)).take (b - 247).toNat)) < (b - 247).toNat
        · rw [tkN_form h h1 h2 h3, tkN_form e h1 h2' (by rw [ed]; exact h3)]; simp
        · rw [tkN_ok h h1 h2 h3, tkN_ok e h1 h2' (by rw [ed]; exact h3), ed]; simp; omega

theorem tk_zero (xs : List Int) : tk xs 0 = tkN xs 0 := tk_nat (i := 0) (Nat.zero_le _)

/-- What a reader that has xs left, and an error, does. -/
def numS (xs : List Int) (err : Int) : Int × List Int × Int :=
  if err ≠ 0 then (0, xs, err) else if (tkN xs 0).2.2 ≠ 0 then (0, xs, (tkN xs 0).2.2) else ((tkN xs 0).1, xs.drop (tkN xs 0).2.1.toNat, 0)
def textS (xs : List Int) (err : Int) : List Int × List Int × Int :=
  if err ≠ 0 then ([], xs, err) else if (tkN xs 0).2.2 ≠ 0 then ([], xs, (tkN xs 0).2.2)
  else if (xs.length : Int) - (tkN xs 0).2.1 < (tkN xs 0).1 then ([], xs, 5)
  else ((xs.drop (tkN xs 0).2.1.toNat).take (tkN xs 0).1.toNat, xs.drop ((tkN xs 0).2.1 + (tkN xs 0).1).toNat, 0)
def flagS (xs : List Int) (err : Int) : Bool × List Int × Int :=
  if err ≠ 0 then (false, xs, err) else match xs with
    | [] => (false, [], 5)
    | b :: r => if 1 < b then (false, b :: r, 3) else (b == 1, r, 0)
end Go.Proofs.Ytmjjbfcblmmipaa
namespace Go.Proofs.Ytmjjbfcblmmipaa
set_option linter.unusedVariables false
set_option linter.unusedSimpArgs false
open Go.RowKit

/-- A slice's address behind a cut at its head. -/
def cutA (A : Option Addr) (c lo : Nat) : Option Addr := if c = lo then A else A.map (·.add lo)
theorem blk_cutA (A : Option Addr) (c lo : Nat) : blk (cutA A c lo) = blk A := by
  unfold cutA blk
  split
  · rfl
  · cases A with
    | none => rfl
    | some a => simp only [Option.map_some, Option.some.injEq]; unfold Addr.add; split <;> rfl
theorem elem23 : Try.prog.underlying 28 = some (.slice (Try.prog.elem 28)) := by kernel_rfl
theorem elem23' : Try.prog.elem 28 = 5 := by kernel_rfl
theorem slice_lo (A : Option Addr) (n c lo : Nat) (h : lo ≤ n) (W : World) :
    (Instr.slice 28 (.slice A n c) (some (.int .i64 (lo : Int))) none none).run Try.prog W = .ok (.slice (cutA A c lo) (n - lo) (c - lo)) W := by
  rw [run_slice_l (P := Try.prog) W 28 A n c elem23 .i64 (lo : Int) (by omega) (by omega), elem23', Try.sizeOf5]
  simp only [sliced, Result.andThen, Int.toNat_natCast, Nat.mul_one]; rfl
theorem slice_lohi (A : Option Addr) (n c lo hi : Nat) (h : lo ≤ hi) (h1 : hi ≤ c) (W : World) :
    (Instr.slice 28 (.slice A n c) (some (.int .i64 (lo : Int))) (some (.int .i64 (hi : Int))) none).run Try.prog W = .ok (.slice (cutA A c lo) (hi - lo) (c - lo)) W := by
  rw [run_slice_lh (P := Try.prog) W 28 A n c elem23 .i64 .i64 (lo : Int) (hi : Int) (by omega) (by omega) (by omega), elem23', Try.sizeOf5]
  simp only [sliced, Result.andThen, Int.toNat_natCast, Nat.mul_one]; rfl
theorem Bs.cut {w : World} {A : Option Addr} {n c lo hi : Nat} {xs : List Int} (h : Bs w A n xs) (h1 : lo ≤ hi) (h2 : hi ≤ n) (h3 : n ≤ c) : Bs w (cutA A c lo) (hi - lo) ((xs.drop lo).take (hi - lo)) := by
  have hl := h.len
  refine ⟨⟨by rw [By_length, List.length_take, List.length_drop]; omega, fun hn => ?_⟩, h.2.sub fun x hx => List.mem_of_mem_drop (List.mem_of_mem_take hx)⟩
  obtain ⟨b, off, rfl, hb, hc⟩ := h.1.2 (by omega)
  refine ⟨b, off + lo, ?_, hb, fun j u hu => ?_⟩
  · unfold cutA; rw [if_neg (by omega)]
    simp only [Option.map_some, Option.some.injEq]
    unfold Addr.add; split
    · next h0 => subst h0; rfl
    · rfl
  · rw [Nat.add_assoc]
    refine hc _ u ?_
    simp only [By, List.getElem?_map, List.getElem?_take, List.getElem?_drop] at hu ⊢
    split at hu
    · exact hu
    · cases hu
theorem Bs.cutTail {w : World} {A : Option Addr} {n c lo : Nat} {xs : List Int} (h : Bs w A n xs) (h2 : lo ≤ n) (h3 : n ≤ c) : Bs w (cutA A c lo) (n - lo) (xs.drop lo) := by
  have := h.cut (lo := lo) (hi := n) h2 (Nat.le_refl _) h3
  rwa [List.take_of_length_le (by rw [List.length_drop, h.len]; omega)] at this

/-! Two cells in a block of their own. -/
theorem two_cell0 {w : World} {g : Nat} {t : TypeId} {u v : Value} (h : w.heap[g]? = some (.cells #[u, v] t (0, 0))) : w.cell? ⟨g, 0, none⟩ = some u := by rw [cell_of_row w g 0 _ t (0, 0) h]; rfl
theorem two_cell1 {w : World} {g : Nat} {t : TypeId} {u v : Value} (h : w.heap[g]? = some (.cells #[u, v] t (0, 0))) : w.cell? ⟨g, 1, none⟩ = some v := by rw [cell_of_row w g 1 _ t (0, 0) h]; rfl
theorem two_frozen {w : World} {g i : Nat} {t : TypeId} {cs : Array Value} (h : w.heap[g]? = some (.cells cs t (0, 0))) : w.frozen? ⟨g, i, none⟩ = false := by simp [World.frozen?, h]
theorem two_set0 {w : World} {g : Nat} {t : TypeId} {u v x : Value} (h : w.heap[g]? = some (.cells #[u, v] t (0, 0))) : (w.setCell ⟨g, 0, none⟩ x).heap[g]? = some (.cells #[x, v] t (0, 0)) := by
  simp [World.setCell, Array.getElem?_modify, h]
theorem two_set1 {w : World} {g : Nat} {t : TypeId} {u v x : Value} (h : w.heap[g]? = some (.cells #[u, v] t (0, 0))) : (w.setCell ⟨g, 1, none⟩ x).heap[g]? = some (.cells #[u, x] t (0, 0)) := by
  simp [World.setCell, Array.getElem?_modify, h]
theorem below_set (w : World) (g i : Nat) (x : Value) : Below g w (w.setCell ⟨g, i, none⟩ x) := (Below.refl g w).setCell (p := ⟨g, i, none⟩) (Nat.le_refl _) x
/-- Only that block, and what is new, has turned. -/
def Onl (g : Nat) (w w' : World) : Prop := w.grownBy w' (some g)
theorem Onl.refl (g : Nat) (w : World) : Onl g w w := ⟨rfl, rfl, rfl, Nat.le_refl _, fun _ _ _ => rfl⟩
theorem Onl.trans {g : Nat} {a b c : World} (h : Onl g a b) (k : Onl g b c) : Onl g a c :=
  ⟨k.os.trans h.os, k.tape.trans h.tape, k.output.trans h.output, Nat.le_trans h.size k.size, fun i hi hne => (k.block i (Nat.lt_of_lt_of_le hi h.size) hne).trans (h.block i hi hne)⟩
theorem Onl.of_below {g : Nat} {w w' : World} (h : Below w.heap.size w w') : Onl g w w' := ⟨h.os, h.tape, h.output, h.size, fun i hi _ => h.block i hi⟩
theorem Onl.below {g : Nat} {w w' : World} (h : Onl g w w') (hg : g ≤ w.heap.size) : Below g w w' := ⟨h.os, h.tape, h.output, h.size, fun i hi => h.block i (Nat.lt_of_lt_of_le hi hg) (fun e => by injection e with e; omega)⟩
theorem onl_set (w : World) (g i : Nat) (x : Value) : Onl g w (w.setCell ⟨g, i, none⟩ x) :=
  ⟨rfl, rfl, rfl, by simp [World.setCell], fun k _ hne => Below.heap_setCell _ _ _ _ (fun e => hne (by rw [e]))⟩
theorem Own.onl {w w' : World} {base : Nat} {e : TypeId} {A : Option Addr} {n c g : Nat} {vs : List Value} (h : Own w base e A n c vs) (hg : Onl g w w') (hne : blk A ≠ some g) : Own w' base e A n c vs := h.kept hg (.inr hne)
theorem Bs.onl {w w' : World} {A : Option Addr} {n g : Nat} {xs : List Int} (h : Bs w A n xs) (hg : Onl g w w') (hne : blk A ≠ some g) : Bs w' A n xs := by
  refine ⟨⟨h.1.1, fun hn => ?_⟩, h.2⟩
  obtain ⟨b, off, rfl, hlt, hc⟩ := h.1.2 hn
  refine ⟨b, off, rfl, Nat.lt_of_lt_of_le hlt hg.size, fun j u hu => ?_⟩
  rw [World.cell?_of_block (a := ⟨b, off + j, none⟩) (hg.block b hlt (fun e => hne e))]
  exact hc j u hu
theorem lt_of_heap {w : World} {g : Nat} {o : Obj} (h : w.heap[g]? = some o) : g < w.heap.size := (Array.getElem?_eq_some_iff.1 h).1

/-- A slice of bytes that reads, below a block. -/
theorem Bs.keepB {w w' : World} {A : Option Addr} {n B : Nat} {xs : List Int} (h : Bs w A n xs) (hb : Below B w w') (hB : ∀ k, blk A = some k → k < B) : Bs w' A n xs := by
  refine ⟨⟨h.1.1, fun hn => ?_⟩, h.2⟩
  obtain ⟨b, off, rfl, hlt, hc⟩ := h.1.2 hn
  refine ⟨b, off, rfl, Nat.lt_of_lt_of_le hlt hb.size, fun j u hu => ?_⟩
  rw [hb.cell (p := ⟨b, off + j, none⟩) (hB b rfl)]; exact hc j u hu

/-- A reader: its block, what it has left, its error. -/
def Rdr (w : World) (g : Nat) (xs : List Int) (err : Int) : Prop :=
  ∃ (A : Option Addr) (n c : Nat), w.heap[g]? = some (.cells #[.slice A n c, .int .i64 err] 151 (0, 0)) ∧ Bs w A n xs ∧ n ≤ c ∧ ∀ k, blk A = some k → k < g
theorem Rdr.keep {w w' : World} {g B : Nat} {xs : List Int} {err : Int} (h : Rdr w g xs err) (hb : Below B w w') (hg : g < B) : Rdr w' g xs err := by
  obtain ⟨A, n, c, hh, hx, hnc, hk⟩ := h
  exact ⟨A, n, c, (hb.block g hg).trans hh, hx.keepB hb (fun k h => Nat.lt_trans (hk k h) hg), hnc, hk⟩
theorem Rdr.lt {w : World} {g : Nat} {xs : List Int} {err : Int} (h : Rdr w g xs err) : g < w.heap.size := by
  obtain ⟨A, n, c, hh, _⟩ := h
  exact lt_of_heap hh

set_option maxHeartbeats 1000000 in
theorem rnum_any (w : World) (g : Nat) (xs : List Int) (err : Int) (h : Rdr w g xs err) (hn : xs.length ≤ 140737488355328) :
    Calls Try.prog 108 #[.pointer (some ⟨g, 0, none⟩)] w fun e w' => e = .returned (.int .u64 (numS xs err).1) ∧ Rdr w' g (numS xs err).2.1 (numS xs err).2.2 ∧ Onl g w w' := by
  obtain ⟨A, n, c, hh, hx, hnc, hk⟩ := h
  have hc0 := two_cell0 hh; have hc1 := two_cell1 hh
  have hf0 := two_frozen (i := 0) hh; have hf1 := two_frozen (i := 1) hh
  have HH := Lib.hid hh; clear hh
  have hl := hx.len
  have hnn : n ≤ 140737488355328 := by omega
  clear hl hn
  by_cases he : err = 0
  · subst he
    have he1 : ((0 : Int) != 0) = false := by decide
    rcases tkN_cases xs hx.2 0 with ⟨e, ht, he5⟩ | ⟨v, k, ht, hv0, hv1, hk0, hk1⟩
    · have HS := Lib.hid (show numS xs 0 = (0, xs, e) by unfold numS; rw [ht]; rcases he5 with rfl | rfl <;> simp)
      have HT := Lib.hid (show tk xs 0 = (0, 0, e) by rw [tk_zero]; exact ht)
      have hne : (e != 0) = true := by rcases he5 with rfl | rfl <;> decide
      clear ht he5
      go_enter Try.func108, Try.ntmps108
      go_wp2_with (go_at_call 136; refine (take_any A n c 0 xs _ hx (by omega)).mono ?_; rintro e' w' ⟨he', rfl⟩; rw [HT.out] at he'; unfold Tk3 at he'; subst he')
      go_ret
      rw [HS.out]
      refine ⟨rfl, ⟨A, n, c, two_set1 HH.out, hx.keepB (below_set _ _ _ _) hk, hnc, hk⟩, onl_set _ _ _ _⟩
    · have HS := Lib.hid (show numS xs 0 = (v, xs.drop k, 0) by unfold numS; rw [ht]; simp)
      have HT := Lib.hid (show tk xs 0 = (v, (k : Int), 0) by rw [tk_zero]; exact ht)
      have hkn : k ≤ n := by rw [← hx.len]; exact hk1
      clear ht hk1
      have hsl := slice_lo A n c k hkn
      go_enter Try.func108, Try.ntmps108
      go_wp2_with (go_at_call 136; refine (take_any A n c 0 xs _ hx (by omega)).mono ?_; rintro e' w' ⟨he', rfl⟩; rw [HT.out] at he'; unfold Tk3 at he'; subst he')
      go_ret
      rw [HS.out]
      refine ⟨rfl, ⟨_, _, _, two_set0 HH.out, (hx.cutTail hkn hnc).keepB (below_set _ _ _ _) ?_, by omega, ?_⟩, onl_set _ _ _ _⟩
      · rw [blk_cutA]; exact hk
      · rw [blk_cutA]; exact hk
  · have HS := Lib.hid (show numS xs err = (0, xs, err) by unfold numS; rw [if_pos he])
    have he1 : (err != 0) = true := by simpa using he
    clear he
    go_enter Try.func108, Try.ntmps108
    go_wp2
    go_ret
    rw [HS.out]
    exact ⟨rfl, ⟨A, n, c, HH.out, hx, hnc, hk⟩, Onl.refl _ _⟩

/-- bytes.Clone. -/
theorem clone_any (A : Option Addr) (n c : Nat) (xs : List Int) (w : World) (hx : Bs w A n xs) (hn : n ≤ 140737488355328) :
    Calls Try.prog 94 #[.slice A n c] w fun e w' => ∃ A' c', e = .returned (.slice A' n c') ∧ Own w' w.heap.size 5 A' n c' (By xs) ∧ Below w.heap.size w w' := by
  cases A with
  | none =>
    have h0 : n = 0 := by
      rcases Nat.eq_zero_or_pos n with h | h
      · exact h
      · obtain ⟨_, _, h, _⟩ := hx.1.2 h; cases h
    subst h0
    have hxs : xs = [] := List.eq_nil_of_length_eq_zero hx.len
    subst hxs
    refine (Try.bytes_Clone_nil 0 c w).mono ?_
    rintro e w' ⟨rfl, rfl⟩
    exact ⟨none, 0, rfl, Own.nil_, Below.refl _ _⟩
  | some a =>
    have hc : ∀ i, i < n → w.cell? (a.add i) = some (.int .u8 (xs.getD i 0)) := by
      intro i hi
      obtain ⟨b, off, x, hA, _, _, _, hc, HX⟩ := hx.at_ hi
      have : a = ⟨b, off, none⟩ := by injection hA
      subst this
      have e : (⟨b, off, none⟩ : Addr).add i = ⟨b, off + i, none⟩ := by unfold Addr.add; split <;> simp_all
      rw [e, hc, List.getD_eq_getElem?_getD, HX.out]; rfl
    refine (Try.bytes_Clone_at a n c xs w hx.len hn hc).mono ?_
    rintro e w' ⟨v', rfl, ho, hne, hb⟩
    rcases ho.2 with ⟨rfl, _⟩ | ⟨g, cap, cur, rfl, _⟩
    · exact absurd rfl hne
    · exact ⟨_, cap, rfl, ho, hb⟩

theorem read_any (A : Option Addr) (n c : Nat) (xs : List Int) (w : World) (hx : Bs w A n xs) (hn : n ≤ 140737488355328) :
    Calls Try.prog 114 #[.slice A n c] w fun e w' => ∃ g, e = .returned (.pointer (some ⟨g, 0, none⟩)) ∧ Rdr w' g xs 0 ∧ w.heap.size ≤ g ∧ Below w.heap.size w w' := by
  go_enter Try.func114, Try.ntmps114
  go_wp2_with fail
  refine (clone_any A n c xs _ hx hn).mono ?_
  rintro e w1 ⟨A1, c1, rfl, ho1, hb1⟩
  have hsz := hb1.size
  have HO := Lib.hid ho1; clear ho1
  go_wp2
  go_ret
  have ho1 := HO.out
  have hl := ho1.lies
  have hnc : n ≤ c1 := by
    rcases ho1.2 with ⟨hv, h0⟩ | ⟨g, cap, cur, hv, _, _, h, _⟩
    · omega
    · have : c1 = cap := by injection hv
      omega
  refine ⟨w1.heap.size, rfl, ⟨A1, n, c1, heap_alloc_new w1 _, (ho1.bs hx.2).keep (below_alloc w1 _), hnc, fun k hk => (hl k hk).2⟩, hsz, hb1.alloc hsz _⟩

theorem rerr_any (w : World) (g : Nat) (xs : List Int) (err : Int) (h : Rdr w g xs err) :
    Calls Try.prog 117 #[.pointer (some ⟨g, 0, none⟩)] w fun e w' => e = .returned (.int .i64 err) ∧ w = w' := by
  obtain ⟨A, n, c, hh, hx, hnc, hk⟩ := h
  have hc1 := two_cell1 hh
  clear hh
  go_enter Try.func117, Try.ntmps117
  go_wp2
  go_ret
  exact ⟨rfl, rfl⟩

theorem rleft_any (w : World) (g : Nat) (xs : List Int) (err : Int) (h : Rdr w g xs err) :
    Calls Try.prog 116 #[.pointer (some ⟨g, 0, none⟩)] w fun e w' => e = .returned (.int .i64 xs.length) ∧ w = w' := by
  obtain ⟨A, n, c, hh, hx, hnc, hk⟩ := h
  have hc0 := two_cell0 hh
  have HL := Lib.hid hx.len
  clear hh
  go_enter Try.func116, Try.ntmps116
  go_wp2
  go_ret
  exact ⟨by rw [HL.out]; rfl, rfl⟩

def closeV (xs : List Int) (err : Int) : Int := if err = 0 ∧ xs ≠ [] then 3 else err
theorem rclose_any (w : World) (g : Nat) (xs : List Int) (err : Int) (h : Rdr w g xs err) :
    Calls Try.prog 110 #[.pointer (some ⟨g, 0, none⟩)] w fun e w' => e = .returned (.int .i64 (closeV xs err)) ∧ w = w' := by
  obtain ⟨A, n, c, hh, hx, hnc, hk⟩ := h
  have hc0 := two_cell0 hh; have hc1 := two_cell1 hh
  have hl := hx.len
  clear hh
  by_cases he : err = 0
  · by_cases hn : 0 < n
    · have HV := Lib.hid (show closeV xs err = 3 by
        unfold closeV; rw [if_pos]
        refine ⟨he, ?_⟩
        intro e; rw [e] at hl; simp at hl; omega)
      have he1 : (err == 0) = true := by simp [he]
      clear he hl
      go_enter Try.func110, Try.ntmps110
      go_wp2
      go_ret
      exact ⟨by rw [HV.out]; rfl, rfl⟩
    · have HV := Lib.hid (show closeV xs err = err by
        unfold closeV; rw [if_neg]
        intro h
        exact h.2 (List.eq_nil_of_length_eq_zero (by omega)))
      have he1 : (err == 0) = true := by simp [he]
      clear he hl
      go_enter Try.func110, Try.ntmps110
      go_wp2
      go_ret
      exact ⟨by rw [HV.out]; rfl, rfl⟩
  · have HV := Lib.hid (show closeV xs err = err by
      unfold closeV; rw [if_neg]
      intro h
      exact he h.1)
    have he1 : (err == 0) = false := by simpa using he
    clear he hl
    go_enter Try.func110, Try.ntmps110
    go_wp2
    go_ret
    exact ⟨by rw [HV.out]; rfl, rfl⟩

set_option maxHeartbeats 1000000 in
theorem rflag_any (w : World) (g : Nat) (xs : List Int) (err : Int) (h : Rdr w g xs err) :
    Calls Try.prog 115 #[.pointer (some ⟨g, 0, none⟩)] w fun e w' => e = .returned (.bool (flagS xs err).1) ∧ Rdr w' g (flagS xs err).2.1 (flagS xs err).2.2 ∧ Onl g w w' := by
  obtain ⟨A, n, c, hh, hx, hnc, hk⟩ := h
  have hc0 := two_cell0 hh; have hc1 := two_cell1 hh
  have hf0 := two_frozen (i := 0) hh; have hf1 := two_frozen (i := 1) hh
  have HH := Lib.hid hh; clear hh
  have hl := hx.len
  by_cases he : err = 0
  · subst he
    have he1 : ((0 : Int) != 0) = false := by decide
    cases xs with
    | nil =>
      have hn : n = 0 := by simpa using hl.symm
      subst hn
      have HS := Lib.hid (show flagS [] 0 = (false, [], 5) by decide)
      clear hl
      go_enter Try.func115, Try.ntmps115
      go_wp2
      go_ret
      rw [HS.out]
      exact ⟨rfl, ⟨A, 0, c, two_set1 HH.out, hx.keepB (below_set _ _ _ _) hk, hnc, hk⟩, onl_set _ _ _ _⟩
    | cons b r =>
      have hn : 0 < n := by rw [← hl]; simp
      have hn0 : ((n : Int) == 0) = false := by simp; omega
      obtain ⟨bb, off, x, rfl, hbb, hx0, hx1, hcx, HX⟩ := hx.at_ hn
      have hxb : x = b := by have := HX.out; simpa using this.symm
      subst hxb
      have hcx0 : w.cell? ⟨bb, off, none⟩ = some (.int .u8 x) := by simpa using hcx
      clear hl hcx
      by_cases h1 : 1 < x
      · have HS := Lib.hid (show flagS (x :: r) 0 = (false, x :: r, 3) by simp [flagS, h1])
        go_enter Try.func115, Try.ntmps115
        go_wp2
        go_ret
        rw [HS.out]
        exact ⟨rfl, ⟨_, n, c, two_set1 HH.out, hx.keepB (below_set _ _ _ _) hk, hnc, hk⟩, onl_set _ _ _ _⟩
      · have HS := Lib.hid (show flagS (x :: r) 0 = (x == 1, r, 0) by simp [flagS, h1])
        have hsl := slice_lo (some ⟨bb, off, none⟩) n c 1 (by omega)
        have hsl' : ∀ W, (Instr.slice 28 (.slice (some ⟨bb, off, none⟩) n c) (some (.int .i64 1)) none none).run Try.prog W = .ok (.slice (cutA (some ⟨bb, off, none⟩) c 1) (n - 1) (c - 1)) W := hsl
        clear hsl
        go_enter Try.func115, Try.ntmps115
        go_wp2
        go_ret
        rw [HS.out]
        refine ⟨rfl, ⟨_, _, _, two_set0 HH.out, ?_, by omega, ?_⟩, onl_set _ _ _ _⟩
        · have := (hx.cutTail (lo := 1) (by omega) hnc).keepB (below_set w g 0 (.slice (cutA (some ⟨bb, off, none⟩) c 1) (n - 1) (c - 1))) (by rw [blk_cutA]; exact hk)
          exact this
        · rw [blk_cutA]; exact hk
  · have HS := Lib.hid (show flagS xs err = (false, xs, err) by unfold flagS; rw [if_pos he])
    have he1 : (err != 0) = true := by simpa using he
    clear he hl
    go_enter Try.func115, Try.ntmps115
    go_wp2
    go_ret
    rw [HS.out]
    exact ⟨rfl, ⟨A, n, c, HH.out, hx, hnc, hk⟩, Onl.refl _ _⟩

/-- What Text leaves. -/
def TextPost (w : World) (g : Nat) (r : List Int × List Int × Int) (e : Ending) (w' : World) : Prop :=
  ∃ A' c' n', e = .returned (.slice A' n' c') ∧ n' = r.1.length ∧ Own w' w.heap.size 5 A' n' c' (By r.1) ∧ Ran r.1 ∧ Rdr w' g r.2.1 r.2.2 ∧ Onl g w w'

set_option maxHeartbeats 1000000 in
theorem rtext_any (w : World) (g : Nat) (xs : List Int) (err : Int) (h : Rdr w g xs err) (hn : xs.length ≤ 140737488355328) :
    Calls Try.prog 109 #[.pointer (some ⟨g, 0, none⟩)] w (TextPost w g (textS xs err)) := by
  have hgl := h.lt
  obtain ⟨A, n, c, hh, hx, hnc, hk⟩ := h
  have hc0 := two_cell0 hh; have hc1 := two_cell1 hh
  have hf0 := two_frozen (i := 0) hh; have hf1 := two_frozen (i := 1) hh
  have HH := Lib.hid hh; clear hh
  have HL := Lib.hid hx.len
  have hnn : n ≤ 140737488355328 := by rw [← HL.out]; exact hn
  clear hn
  by_cases he : err = 0
  · subst he
    have he1 : ((0 : Int) != 0) = false := by decide
    rcases tkN_cases xs hx.2 0 with ⟨e, ht, he5⟩ | ⟨v, k, ht, hv0, hv1, hk0, hk1⟩
    · have HS := Lib.hid (show textS xs 0 = ([], xs, e) by unfold textS; rw [ht]; rcases he5 with rfl | rfl <;> simp)
      have HT := Lib.hid (show tk xs 0 = (0, 0, e) by rw [tk_zero]; exact ht)
      have hne : (e != 0) = true := by rcases he5 with rfl | rfl <;> decide
      have hne' : (e == 0) = false := by rcases he5 with rfl | rfl <;> decide
      clear ht he5
      go_enter Try.func109, Try.ntmps109
      go_wp2_with (go_at_call 136; refine (take_any A n c 0 xs _ hx (by omega)).mono ?_; rintro e' w' ⟨he', rfl⟩; rw [HT.out] at he'; unfold Tk3 at he'; subst he')
      go_ret
      rw [HS.out]
      exact ⟨none, 0, 0, rfl, rfl, Own.nil_, Ran.nil, ⟨A, n, c, two_set1 HH.out, hx.keepB (below_set _ _ _ _) hk, hnc, hk⟩, onl_set _ _ _ _⟩
    · have HT := Lib.hid (show tk xs 0 = (v, (k : Int), 0) by rw [tk_zero]; exact ht)
      have hkn : k ≤ n := by rw [← hx.len]; exact hk1
      obtain ⟨vn, rfl⟩ := Int.eq_ofNat_of_zero_le hv0
      by_cases hend : (n : Int) - (k : Int) < (vn : Int)
      · have HS := Lib.hid (show textS xs 0 = ([], xs, 5) by unfold textS; rw [ht, HL.out]; simp; omega)
        clear ht hk1
        go_enter Try.func109, Try.ntmps109
        go_wp2_with (go_at_call 136; refine (take_any A n c 0 xs _ hx (by omega)).mono ?_; rintro e' w' ⟨he', rfl⟩; rw [HT.out] at he'; unfold Tk3 at he'; subst he')
        go_ret
        rw [HS.out]
        exact ⟨none, 0, 0, rfl, rfl, Own.nil_, Ran.nil, ⟨A, n, c, two_set1 HH.out, hx.keepB (below_set _ _ _ _) hk, hnc, hk⟩, onl_set _ _ _ _⟩
      · have hfit : k + vn ≤ n := by omega
        have hadd : ((k : Int) + (vn : Int)).toNat = k + vn := by omega
        have HS := Lib.hid (show textS xs 0 = ((xs.drop k).take vn, xs.drop (k + vn), 0) by
          unfold textS; rw [ht, HL.out]; simp only [Int.toNat_natCast, hadd]; simp; omega)
        clear ht hk1 hadd
        have hsl1 := slice_lohi A n c k (k + vn) (by omega) (by omega)
        have hsl2 := slice_lo A n c (k + vn) hfit
        have ec : ((k + vn : Nat) : Int) = (k : Int) + (vn : Int) := by omega
        rw [ec] at hsl1 hsl2
        have eb : k + vn - k = vn := by omega
        rw [eb] at hsl1
        have hcl := hx.cut (lo := k) (hi := k + vn) (by omega) hfit hnc
        rw [eb] at hcl
        clear ec eb
        go_enter Try.func109, Try.ntmps109
        go_wp2_with (go_at_call 136; refine (take_any A n c 0 xs _ hx (by omega)).mono ?_; rintro e' w' ⟨he', rfl⟩; rw [HT.out] at he'; unfold Tk3 at he'; subst he')
        refine (clone_any (cutA A c k) vn (c - k) _ _ hcl (by omega)).mono ?_
        rintro e w1 ⟨A1, c1, rfl, ho1, hb1⟩
        have hh1 : w1.heap[g]? = some (.cells #[.slice A n c, .int .i64 0] 151 (0, 0)) := (hb1.block g hgl).trans HH.out
        have hd0 := two_cell0 hh1
        have hg0 := two_frozen (i := 0) hh1
        have HH1 := Lib.hid hh1; clear hh1
        have hlies := ho1.lies
        go_wp2
        go_ret
        rw [HS.out]
        have hlen : vn = ((xs.drop k).take vn).length := by rw [List.length_take, List.length_drop, HL.out]; omega
        refine ⟨A1, c1, vn, rfl, hlen, ho1.onl (onl_set _ g _ _) (fun e => ?_), hcl.2, ⟨_, _, _, two_set0 HH1.out, (hx.cutTail hfit hnc).keepB ((hb1.mono (by omega)).trans (below_set _ _ _ _)) ?_, by omega, ?_⟩, (Onl.of_below hb1).trans (onl_set _ _ _ _)⟩
        · have := (hlies g e).1; omega
        · rw [blk_cutA]; exact hk
        · rw [blk_cutA]; exact hk
  · have HS := Lib.hid (show textS xs err = ([], xs, err) by unfold textS; rw [if_pos he])
    have he1 : (err != 0) = true := by simpa using he
    clear he
    go_enter Try.func109, Try.ntmps109
    go_wp2
    go_ret
    rw [HS.out]
    exact ⟨none, 0, 0, rfl, rfl, Own.nil_, Ran.nil, ⟨A, n, c, HH.out, hx, hnc, hk⟩, Onl.refl _ _⟩
end Go.Proofs.Ytmjjbfcblmmipaa
