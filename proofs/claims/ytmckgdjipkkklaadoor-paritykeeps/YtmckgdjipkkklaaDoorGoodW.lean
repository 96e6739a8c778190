/- Good in the program, and the laws' fixed fact. -/
import Derived.Test.YtmckgdjipkkklaaDoorCheckW
import Derived.Test.YtmckgdjipkkklaaDoorSlc
import Derived.Test.YtmckgdjipkkklaaDoorEq
import Derived.Deep.RegionHeld3
namespace Go.Proofs.YtmckgdjipkkklaaDoor
set_option linter.unusedVariables false
set_option linter.unusedSimpArgs false
open Go.RowKit

theorem good_short (A : Option Addr) (n c : Nat) (xs : List Int) (w : World) (hx : Bs w A n xs) (hn : n < 4) : Calls Tryd.prog 22 #[.slice A n c] w fun e w' => e = .returned (.bool (goodL (nl xs))) ∧ Below w.heap.size w w' := by
  have HR := Lib.hid (show goodL (nl xs) = false by have := hx.len; unfold goodL; rw [nl_length]; simp; omega)
  have hd : decide (0 ≤ (n : Int) - 4) = false := by simp; omega
  have hd' : decide (4 ≤ (n : Int)) = false := by simp; omega
  go_enter Tryd.func22, Tryd.ntmps22
  go_wp2
  go_quiet (fail)
  go_wp2
  go_ret
  exact ⟨ret_bool HR.out.symm, ((Dr.refl w).n _).below _⟩

theorem good_long (b off m c : Nat) (xs : List Int) (w : World) (hx : Bs w (some ⟨b, off, none⟩) (m + 4) xs) (hn : m + 4 ≤ maxLen) (hc : m + 4 ≤ c) (ht : Tabs w) : Calls Tryd.prog 22 #[.slice (some ⟨b, off, none⟩) (m + 4 : Nat) c] w fun e w' => e = .returned (.bool (goodL (nl xs))) ∧ Below w.heap.size w w' := by
  unfold maxLen at hn
  obtain ⟨y0, h0, l0, HY0⟩ := hx.nat_at (k := m) (by omega)
  obtain ⟨y1, h1, l1, HY1⟩ := hx.nat_at (k := m + 1) (by omega)
  obtain ⟨y2, h2, l2, HY2⟩ := hx.nat_at (k := m + 2) (by omega)
  obtain ⟨y3, h3, l3, HY3⟩ := hx.nat_at (k := m + 3) (by omega)
  have hblt : b < w.heap.size := hx.blt (by omega)
  have kp : ∀ (o : Obj) (i : Nat), (w.alloc o).drew.cell? ⟨b, i, none⟩ = w.cell? ⟨b, i, none⟩ := fun o i => (below_alloc w o).cell (p := ⟨b, i, none⟩) hblt
  have hs1 := slice_h28 (some ⟨b, off, none⟩) (m + 4) c m (by omega)
  have hs2 := slice_l28 b off (m + 4) c m (by omega) (by omega)
  have e4 : m + 4 - m = 4 := by omega
  rw [e4] at hs2
  have KP := Lib.hid kp
  have hb1 := below_alloc w (.cells #[.slice (some ⟨b, off, none⟩) m c] 28)
  have hone : Bss (w.alloc (.cells #[.slice (some ⟨b, off, none⟩) m c] 28)).drew (some ⟨w.heap.size, 0, none⟩) 1 [xs.take m] := (Bss.one (hx.first (m := m) (by omega)) (by omega)).dr (Dr.refl _).one
  have ht1 : Tabs (w.alloc (.cells #[.slice (some ⟨b, off, none⟩) m c] 28)).drew := (ht.below hb1).dr (Dr.refl _).one
  have HS : Hid (∀ ys ∈ [xs.take m], ys.length ≤ maxLen) := by
    intro ys hys
    obtain rfl : ys = xs.take m := by simpa using hys
    rw [List.length_take]; unfold maxLen; omega
  have HK2 : Hid (∀ (w1 : World) (i : Nat), Below ((w.alloc (.cells #[.slice (some ⟨b, off, none⟩) m c] 28)).drew).heap.size (w.alloc (.cells #[.slice (some ⟨b, off, none⟩) m c] 28)).drew w1 → w1.cell? ⟨b, i, none⟩ = w.cell? ⟨b, i, none⟩) := by
    intro w1 i h
    exact (h.cell (p := ⟨b, i, none⟩) (by simp; omega)).trans (KP.out _ _)
  have harr : ∀ W, (Instr.arrayAt 30 (.slice (some ⟨b, off + m, none⟩) 4 (c - m))).run Tryd.prog W = .ok (.pointer (some ⟨b, off + m, none⟩)) W := fun W => run_arrayAt W 30 5 4 _ 4 _ arr30 (Nat.le_refl _)
  have ly : y0 < 256 ∧ y1 < 256 ∧ y2 < 256 ∧ y3 < 256 := ⟨l0, l1, l2, l3⟩
  have HF := Lib.hid (show ∀ b0 b1 b2 b3 : Nat, w4 (chk (nl [xs.take m].flatten)) = [b0, b1, b2, b3] → goodL (nl xs) = eq4 [b0, b1, b2, b3] [y0, y1, y2, y3] by
    intro b0 b1 b2 b3 h
    have hlen : (nl xs).length = m + 4 := by rw [nl_length]; exact hx.len
    have hd : (nl xs).drop m = [y0, y1, y2, y3] := by
      rw [nl_drop HY0.out, nl_drop HY1.out, nl_drop HY2.out, nl_drop HY3.out, List.drop_eq_nil_of_le (by omega)]
    have htk : nl [xs.take m].flatten = (nl xs).take m := by simp [nl]
    rw [htk] at h
    unfold goodL eq4
    rw [hlen, Nat.add_sub_cancel, h, hd]
    simp)
  clear kp e4
  go_enter Tryd.func22, Tryd.ntmps22
  go_wp2
  go_region_held3 (fun w' => w'.cell? ⟨b, off + m, none⟩ = some (.int .u8 y0) ∧ w'.cell? ⟨b, off + m + 1, none⟩ = some (.int .u8 y1) ∧ w'.cell? ⟨b, off + m + 2, none⟩ = some (.int .u8 y2) ∧ w'.cell? ⟨b, off + m + 3, none⟩ = some (.int .u8 y3)) (first | exact ⟨h0, h1, h2, h3⟩ | exact ⟨(KP.out _ _).trans h0, (KP.out _ _).trans h1, (KP.out _ _).trans h2, (KP.out _ _).trans h3⟩ | exact ⟨k0, k1, k2, k3⟩)
    (first | (go_at_call 17; refine (check_any _ 1 1 [xs.take m] _ hone (by unfold maxLen; omega) HS.out ht1).mono ?_; rintro e w1 ⟨b0, b1, b2, b3, rfl, H4, l4, hb4⟩; have k0 := (HK2.out w1 _ hb4).trans h0; have k1 := (HK2.out w1 _ hb4).trans h1; have k2 := (HK2.out w1 _ hb4).trans h2; have k3 := (HK2.out w1 _ hb4).trans h3; have he := fun W => eql30 l4 ly W; unfold a4))
  all_goals
    go_wp2
    go_ret
    exact ⟨ret_bool (HF.out _ _ _ _ H4.out).symm, (hb1.trans ((Dr.refl _).one.below _)).trans (hb4.mono (by simp))⟩

theorem good_any (A : Option Addr) (n c : Nat) (xs : List Int) (w : World) (hx : Bs w A n xs) (hn : n ≤ maxLen) (hc : n ≤ c) (ht : Tabs w) : Calls Tryd.prog 22 #[.slice A n c] w fun e w' => e = .returned (.bool (goodL (nl xs))) ∧ Below w.heap.size w w' := by
  by_cases h : n < 4
  · exact good_short A n c xs w hx h
  · obtain ⟨b, off, rfl, _, _⟩ := hx.1.2 (by omega)
    obtain ⟨m, rfl⟩ : ∃ m, n = m + 4 := ⟨n - 4, by omega⟩
    exact good_long b off m c xs w hx hn hc ht
end Go.Proofs.YtmckgdjipkkklaaDoor
