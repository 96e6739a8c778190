/- The reference's Check. -/
import Derived.Test.YtmckgdjipkkklaaDoorAr
import Derived.Deep.RegionHeld3
import Derived.StillTailTactics
namespace Go.Proofs.YtmckgdjipkkklaaDoor
set_option linter.unusedVariables false
set_option linter.unusedSimpArgs false
open Go.RowKit

theorem still_of {P : Program} {f : FuncId} {args : Array Value} {v : Value} {w : World} (h : Calls P f args w fun e w' => e = .returned v ∧ w = w') : Calls P f args w fun e w' => e = .returned v ∧ w' = w := h.mono fun _ _ ⟨h1, h2⟩ => ⟨h1, h2.symm⟩
theorem rd_zero (w : World) : Rd (w.alloc (.cells #[.int .u8 0, .int .u8 0, .int .u8 0, .int .u8 0] 5)) (some ⟨w.heap.size, 0, none⟩) 4 (By [0, 0, 0, 0]) :=
  Rd.of_block (cs := #[.int .u8 0, .int .u8 0, .int .u8 0, .int .u8 0]) (heap_alloc_new w _) rfl

/-- The differences behind so many rounds. -/
def nst (D0 D1 D2 D3 : Nat) : Nat → Nat × Nat × Nat × Nat
  | 1 => (D0, D1, D2, D3)
  | 2 => (D0, ne1 D0 D1 D2 D3, ne2 D0 D1 D2 D3, ne3 D0 D1 D2 D3)
  | 3 => (D0, ne1 D0 D1 D2 D3, nf2 D0 D1 D2 D3, nf3 D0 D1 D2 D3)
  | _ => (D0, ne1 D0 D1 D2 D3, nf2 D0 D1 D2 D3, nh3 D0 D1 D2 D3)
/-- Newton's form, so far. -/
def osf (f0 f1 f2 f3 : Nat) : Nat → Nat × Nat × Nat × Nat
  | 0 => ostep (ostep (ostep (0, 0, 0, f3) 4 f2) 2 f1) 1 f0
  | 1 => ostep (ostep (0, 0, 0, f3) 4 f2) 2 f1
  | 2 => ostep (0, 0, 0, f3) 4 f2
  | _ => (0, 0, 0, f3)
theorem nstep1 {D0 D1 D2 D3 f0 f1 f2 f3 : Nat} (hb : f0 < 256 ∧ f1 < 256 ∧ f2 < 256 ∧ f3 < 256) (h : (f0, f1, f2, f3) = nst D0 D1 D2 D3 1) : (f0, mul (f1 ^^^ f0) (invL 3), mul (f2 ^^^ f1) (invL 6), mul (f3 ^^^ f2) (invL 12)) = nst D0 D1 D2 D3 2 := by
  simp only [nst, Prod.mk.injEq] at h ⊢
  obtain ⟨rfl, rfl, rfl, rfl⟩ := h
  exact ⟨rfl, mul_comm (xor_lt _ _ hb.2.1 hb.1) (invL_lt 3), mul_comm (xor_lt _ _ hb.2.2.1 hb.2.1) (invL_lt 6), mul_comm (xor_lt _ _ hb.2.2.2 hb.2.2.1) (invL_lt 12)⟩
theorem nstep2 {D0 D1 D2 D3 f0 f1 f2 f3 : Nat} (hb : f0 < 256 ∧ f1 < 256 ∧ f2 < 256 ∧ f3 < 256) (h : (f0, f1, f2, f3) = nst D0 D1 D2 D3 2) : (f0, f1, mul (f2 ^^^ f1) (invL 5), mul (f3 ^^^ f2) (invL 10)) = nst D0 D1 D2 D3 3 := by
  simp only [nst, Prod.mk.injEq] at h ⊢
  obtain ⟨rfl, rfl, rfl, rfl⟩ := h
  exact ⟨rfl, rfl, mul_comm (xor_lt _ _ hb.2.2.1 hb.2.1) (invL_lt 5), mul_comm (xor_lt _ _ hb.2.2.2 hb.2.2.1) (invL_lt 10)⟩
theorem nstep3 {D0 D1 D2 D3 f0 f1 f2 f3 : Nat} (hb : f0 < 256 ∧ f1 < 256 ∧ f2 < 256 ∧ f3 < 256) (h : (f0, f1, f2, f3) = nst D0 D1 D2 D3 3) : (f0, f1, f2, mul (f3 ^^^ f2) (invL 9)) = nst D0 D1 D2 D3 4 := by
  simp only [nst, Prod.mk.injEq] at h ⊢
  obtain ⟨rfl, rfl, rfl, rfl⟩ := h
  exact ⟨rfl, rfl, rfl, mul_comm (xor_lt _ _ hb.2.2.2 hb.2.2.1) (invL_lt 9)⟩

set_option maxRecDepth 100000 in
set_option maxHeartbeats 8000000 in
theorem rcheck_any (A : Option Addr) (n c : Nat) (xs : List Int) (w : World) (hx : Bs w A n xs) (hn : n ≤ 1048576) :
    Calls Tryd.prog 20 #[.slice A n c] w (Four (w4 (chk (nl xs))) w) := by
  obtain ⟨i0, hi, hz0, hz1, hz2⟩ := info_parts info5
  have a1 := Ar.new w 0 0 0 0
  have a2 := Ar.new (w.alloc (.cells (ar 0 0 0 0) 30)) 1 2 4 8
  have a3 := Ar.new ((w.alloc (.cells (ar 0 0 0 0) 30)).alloc (.cells (ar 1 2 4 8) 30)) 0 0 0 0
  have b1 := below_alloc w (.cells (ar 0 0 0 0) 30)
  have b2 := below_alloc (w.alloc (.cells (ar 0 0 0 0) 30)) (.cells (ar 1 2 4 8) 30)
  have b3 := below_alloc ((w.alloc (.cells (ar 0 0 0 0) 30)).alloc (.cells (ar 1 2 4 8) 30)) (.cells (ar 0 0 0 0) 30)
  have a1' := (a1.keep b2 a1.lt).keep b3 (Nat.lt_of_lt_of_le a1.lt b2.size)
  have a2' := a2.keep b3 a2.lt
  have bw : Below w.heap.size w (((w.alloc (.cells (ar 0 0 0 0) 30)).alloc (.cells (ar 1 2 4 8) 30)).alloc (.cells (ar 0 0 0 0) 30)) := (b1.trans (b2.mono b1.size)).trans (b3.mono (by simp; omega))
  have s1 : (w.alloc (.cells (ar 0 0 0 0) 30)).heap.size = w.heap.size + 1 := by simp
  have s2 : ((w.alloc (.cells (ar 0 0 0 0) 30)).alloc (.cells (ar 1 2 4 8) 30)).heap.size = w.heap.size + 1 + 1 := by simp
  rw [s1] at a2'
  rw [s2] at a3
  go_enter Tryd.func20, Tryd.ntmps20
  go_wp2
  generalize hW0 : ((w.alloc (.cells #[.int .u8 0, .int .u8 0, .int .u8 0, .int .u8 0] 30)).alloc (.cells #[.int .u8 1, .int .u8 2, .int .u8 4, .int .u8 8] 30)).alloc (.cells #[.int .u8 0, .int .u8 0, .int .u8 0, .int .u8 0] 30) = w0
  have A1 : Ar w0 w.heap.size 0 0 0 0 := by rw [← hW0]; exact a1'
  have A2 : Ar w0 (w.heap.size + 1) 1 2 4 8 := by rw [← hW0]; exact a2'
  have A3 : Ar w0 (w.heap.size + 1 + 1) 0 0 0 0 := by rw [← hW0]; exact a3
  have BW : Below w.heap.size w w0 := by rw [← hW0]; exact bw
  clear a1 a2 a3 a1' a2' b1 b2 b3 bw s1 s2 hW0
  have hgxw : w.heap.size < w.heap.size + 1 := by omega
  have hgdx : w.heap.size + 1 < w.heap.size + 1 + 1 := by omega
  generalize w.heap.size + 1 = gx at *
  generalize gx + 1 = gd at *
  have hne : gx ≠ gd := by omega
  have hne2 : w.heap.size ≠ gd := by omega
  have hne3 : w.heap.size ≠ gx := by omega
  have hgdw : w.heap.size ≤ gd := by omega
  have HXR := Lib.hid hx.2
  have hrz : Ran (xs ++ [0, 0, 0, 0]) := hx.2.append (ran_of (by decide))
  have HZ : Hid (nl (xs ++ [0, 0, 0, 0]) = nl xs ++ [0, 0, 0, 0]) := by show _ = _; rw [nl_append]; rfl
  have HZS : Hid (∀ (v : World) (base : Nat) (A5 : Option Addr) (c5 : Nat), Own v base 5 A5 (n + 4) c5 (By xs ++ By [0, 0, 0, 0]) → Bs v A5 (n + 4) (xs ++ [0, 0, 0, 0])) := by
    intro v base A5 c5 ho
    rw [← By_append] at ho
    exact ho.bs hrz
  generalize xs ++ [0, 0, 0, 0] = zs at *
  have hc1 : n + 4 ≤ maxLen := by unfold maxLen; omega
  have hc2 : (n + 4) * 1 ≤ 140737488355328 := by omega
  go_loopw [5] (fun i wr => ∃ (k e0 e1 e2 e3 : Nat), k ≤ 4 ∧ i = .int .i64 k ∧ Ar wr gd e0 e1 e2 e3 ∧ Ar wr gx 1 2 4 8 ∧ Ar wr w.heap.size 0 0 0 0 ∧ Below w.heap.size w wr ∧ e0 < 256 ∧ e1 < 256 ∧ e2 < 256 ∧ e3 < 256 ∧ Hid ((0 < k → e0 = ev 1 (nl zs)) ∧ (1 < k → e1 = ev 2 (nl zs)) ∧ (2 < k → e2 = ev 4 (nl zs)) ∧ (3 < k → e3 = ev 8 (nl zs)))) (fun i _ => 4 - (intOf i).toNat)
  case atStart => exact ⟨0, 0, 0, 0, 0, by omega, rfl, A3, A2, A1, BW, by omega, by omega, by omega, by omega, fun h => absurd h (by omega), fun h => absurd h (by omega), fun h => absurd h (by omega), fun h => absurd h (by omega)⟩
  case round =>
    obtain ⟨k, e0, e1, e2, e3, hk4, rfl, had, hax, har, hbr, hl0, hl1, hl2, hl3, HK⟩ := hrel
    have hsr := hbr.size
    have hgx := hax.lt
    have hgd := had.lt
    have hgr := har.lt
    have hbsA : Bs wr.drew A n xs := (hx.keep hbr).dr (Dr.refl _).one
    have hbsB : Bs (wr.alloc (.cells #[.int .u8 0, .int .u8 0, .int .u8 0, .int .u8 0] 5)).drew A n xs := ((hx.keep hbr).keep (below_alloc wr _)).dr (Dr.refl _).one
    have hkk : k = 0 ∨ k = 1 ∨ k = 2 ∨ k = 3 ∨ k = 4 := by omega
    rcases hkk with rfl | rfl | rfl | rfl | rfl
    · have hcx : wr.cell? ⟨gx, 0, none⟩ = some (.int .u8 1) := hax.c0
      have hix := fun W => idx30 gx 0 (by omega) W
      have hid := fun W => idx30 gd 0 (by omega) W
      simp only [Int.cast_ofNat_Int] at hix hid
      have hev := ev_lt 1 (nl_rn hrz)
      have hcxZ : (wr.alloc (.cells #[.int .u8 0, .int .u8 0, .int .u8 0, .int .u8 0] 5)).drew.cell? ⟨gx, 0, none⟩ = some (.int .u8 1) := ((below_alloc wr _).cell (p := ⟨gx, 0, none⟩) hgx).trans hcx
      have hcxd : wr.drew.cell? ⟨gx, 0, none⟩ = some (.int .u8 1) := hcx
      go_wp2
      go_region_held3 (fun w' => w'.cell? ⟨gx, 0, none⟩ = some (.int .u8 1)) (first | exact hcx | exact hcxd | exact hcxZ | exact hcx4 | exact hcx4Z | exact hcx5 | exact hcx6 | exact hcx7)
        (first
          | (go_at_call 19; refine (copy_any A n c xs _ hbsA (by omega)).mono ?_; rintro e v4 ⟨A4, c4, rfl, ho4A, hb4⟩; have hb4A := below_undrew hb4; have hr4A := rd_zero v4; have hz4A := ho4A.alloc (.cells #[.int .u8 0, .int .u8 0, .int .u8 0, .int .u8 0] 5); have hc3A : wr.heap.size ≤ (v4.alloc (.cells #[.int .u8 0, .int .u8 0, .int .u8 0, .int .u8 0] 5)).heap.size := (by have := hb4A.size; simp; omega); have hcx4 := (hb4A.cell (p := ⟨gx, 0, none⟩) hgx).trans hcx; have hcx4Z : (v4.alloc (.cells #[.int .u8 0, .int .u8 0, .int .u8 0, .int .u8 0] 5)).cell? ⟨gx, 0, none⟩ = some (.int .u8 1) := ((hb4A.alloc hb4A.size (.cells #[.int .u8 0, .int .u8 0, .int .u8 0, .int .u8 0] 5)).cell (p := ⟨gx, 0, none⟩) hgx).trans hcx)
          | (go_at_call 19; refine (copy_any A n c xs _ hbsB (by omega)).mono ?_; rintro e v4 ⟨A4, c4, rfl, ho4B, hb4⟩; have hr4B := (rd_zero wr).keep (below_undrew hb4); have hb4B := (below_alloc wr (.cells #[.int .u8 0, .int .u8 0, .int .u8 0, .int .u8 0] 5)).trans ((below_undrew hb4).mono (by simp)); have hc3B : wr.heap.size + 1 ≤ v4.heap.size := (by have := (below_undrew hb4).size; simpa using this); have hcx4 := (hb4B.cell (p := ⟨gx, 0, none⟩) hgx).trans hcx)
          | (refine step_append_rd rfl (.tmp 19) (.tmp 20) 28 rfl i0 (.int .u8 0) 1 Tryd.underlying28 hi hz0 hz1 hz2 rfl (by simp [Act.eval, Act.put]) hz4A (some ⟨v4.heap.size, 0, none⟩) 4 4 (By [0, 0, 0, 0]) (by simp [Act.eval, Act.put]) hr4A (By_one _) hc1 hc2 hc3A ?_; intro A5 c5 v5 ho5 hg5; have hb5 : Below wr.heap.size wr v5 := (hb4A.alloc hb4A.size _).trans (hg5.below hc3A (fun k hk => (ho4A.lies k hk).1)); have hbs5 : Bs v5 A5 (n + 4) zs := HZS.out v5 _ A5 c5 ho5; have hcx5 := (hb5.cell (p := ⟨gx, 0, none⟩) hgx).trans hcx)
          | (refine step_append_rd rfl (.tmp 19) (.tmp 20) 28 rfl i0 (.int .u8 0) 1 Tryd.underlying28 hi hz0 hz1 hz2 rfl (by simp [Act.eval, Act.put]) ho4B (some ⟨wr.heap.size, 0, none⟩) 4 4 (By [0, 0, 0, 0]) (by simp [Act.eval, Act.put]) hr4B (By_one _) hc1 hc2 (by simpa using hc3B) ?_; intro A5 c5 v5 ho5 hg5; have hb5 : Below wr.heap.size wr v5 := hb4B.trans (hg5.below (by omega) (fun k hk => Nat.le_trans (by simp) (ho4B.lies k hk).1)); have hbs5 : Bs v5 A5 (n + 4) zs := HZS.out v5 _ A5 c5 ho5; have hcx5 := (hb5.cell (p := ⟨gx, 0, none⟩) hgx).trans hcx)
          | (go_at_call 40; refine (at_any A5 (n + 4) c5 zs 1 (by omega) _ hbs5 hc1).mono ?_; rintro e v6 ⟨rfl, hd6⟩; have hb6 := hb5.trans (hd6.below _); have hx6 := hax.keep hb6 hgx; have had6 := had.keep hb6 hgd; have hcx6 := hx6.c0; have hcd6 := had6.c0; have hfd6 := had6.fr 0; have hx7 := hx6.other (k := gd) (i := 0) (.int .u8 ((ev 1 (nl zs) : Nat) : Int)) hne; have hcx7 := hx7.c0))
      all_goals
        have hd7 := had6.s0 (ev 1 (nl zs))
        have hr7 := (har.keep hb6 hgr).other (k := gd) (i := 0) (.int .u8 ((ev 1 (nl zs) : Nat) : Int)) hne2
        have hbw7 : Below w.heap.size w (v6.setCell ⟨gd, 0, none⟩ (.int .u8 ((ev 1 (nl zs) : Nat) : Int))) := (hbr.trans (hb6.mono hsr)).setCell (by exact hgdw) _
        have HN := Lib.hid (show (0 < 1 → ev 1 (nl zs) = ev 1 (nl zs)) ∧ (1 < 1 → e1 = ev 2 (nl zs)) ∧ (2 < 1 → e2 = ev 4 (nl zs)) ∧ (3 < 1 → e3 = ev 8 (nl zs)) from ⟨fun _ => rfl, fun h => absurd h (by omega), fun h => absurd h (by omega), fun h => absurd h (by omega)⟩)
        go_wp2
        go_roundw
        case rel => exact ⟨1, _, _, _, _, by omega, by go_num, hd7, hx7, hr7, hbw7, hev, hl1, hl2, hl3, HN⟩
        case measure => simp [intOf]
    · have hcx : wr.cell? ⟨gx, 1, none⟩ = some (.int .u8 2) := hax.c1
      have hix := fun W => idx30 gx 1 (by omega) W
      have hid := fun W => idx30 gd 1 (by omega) W
      simp only [Int.cast_ofNat_Int] at hix hid
      have hev := ev_lt 2 (nl_rn hrz)
      have hcxZ : (wr.alloc (.cells #[.int .u8 0, .int .u8 0, .int .u8 0, .int .u8 0] 5)).drew.cell? ⟨gx, 1, none⟩ = some (.int .u8 2) := ((below_alloc wr _).cell (p := ⟨gx, 1, none⟩) hgx).trans hcx
      have hcxd : wr.drew.cell? ⟨gx, 1, none⟩ = some (.int .u8 2) := hcx
      go_wp2
      go_region_held3 (fun w' => w'.cell? ⟨gx, 1, none⟩ = some (.int .u8 2)) (first | exact hcx | exact hcxd | exact hcxZ | exact hcx4 | exact hcx4Z | exact hcx5 | exact hcx6 | exact hcx7)
        (first
          | (go_at_call 19; refine (copy_any A n c xs _ hbsA (by omega)).mono ?_; rintro e v4 ⟨A4, c4, rfl, ho4A, hb4⟩; have hb4A := below_undrew hb4; have hr4A := rd_zero v4; have hz4A := ho4A.alloc (.cells #[.int .u8 0, .int .u8 0, .int .u8 0, .int .u8 0] 5); have hc3A : wr.heap.size ≤ (v4.alloc (.cells #[.int .u8 0, .int .u8 0, .int .u8 0, .int .u8 0] 5)).heap.size := (by have := hb4A.size; simp; omega); have hcx4 := (hb4A.cell (p := ⟨gx, 1, none⟩) hgx).trans hcx; have hcx4Z : (v4.alloc (.cells #[.int .u8 0, .int .u8 0, .int .u8 0, .int .u8 0] 5)).cell? ⟨gx, 1, none⟩ = some (.int .u8 2) := ((hb4A.alloc hb4A.size (.cells #[.int .u8 0, .int .u8 0, .int .u8 0, .int .u8 0] 5)).cell (p := ⟨gx, 1, none⟩) hgx).trans hcx)
          | (go_at_call 19; refine (copy_any A n c xs _ hbsB (by omega)).mono ?_; rintro e v4 ⟨A4, c4, rfl, ho4B, hb4⟩; have hr4B := (rd_zero wr).keep (below_undrew hb4); have hb4B := (below_alloc wr (.cells #[.int .u8 0, .int .u8 0, .int .u8 0, .int .u8 0] 5)).trans ((below_undrew hb4).mono (by simp)); have hc3B : wr.heap.size + 1 ≤ v4.heap.size := (by have := (below_undrew hb4).size; simpa using this); have hcx4 := (hb4B.cell (p := ⟨gx, 1, none⟩) hgx).trans hcx)
          | (refine step_append_rd rfl (.tmp 19) (.tmp 20) 28 rfl i0 (.int .u8 0) 1 Tryd.underlying28 hi hz0 hz1 hz2 rfl (by simp [Act.eval, Act.put]) hz4A (some ⟨v4.heap.size, 0, none⟩) 4 4 (By [0, 0, 0, 0]) (by simp [Act.eval, Act.put]) hr4A (By_one _) hc1 hc2 hc3A ?_; intro A5 c5 v5 ho5 hg5; have hb5 : Below wr.heap.size wr v5 := (hb4A.alloc hb4A.size _).trans (hg5.below hc3A (fun k hk => (ho4A.lies k hk).1)); have hbs5 : Bs v5 A5 (n + 4) zs := HZS.out v5 _ A5 c5 ho5; have hcx5 := (hb5.cell (p := ⟨gx, 1, none⟩) hgx).trans hcx)
          | (refine step_append_rd rfl (.tmp 19) (.tmp 20) 28 rfl i0 (.int .u8 0) 1 Tryd.underlying28 hi hz0 hz1 hz2 rfl (by simp [Act.eval, Act.put]) ho4B (some ⟨wr.heap.size, 0, none⟩) 4 4 (By [0, 0, 0, 0]) (by simp [Act.eval, Act.put]) hr4B (By_one _) hc1 hc2 (by simpa using hc3B) ?_; intro A5 c5 v5 ho5 hg5; have hb5 : Below wr.heap.size wr v5 := hb4B.trans (hg5.below (by omega) (fun k hk => Nat.le_trans (by simp) (ho4B.lies k hk).1)); have hbs5 : Bs v5 A5 (n + 4) zs := HZS.out v5 _ A5 c5 ho5; have hcx5 := (hb5.cell (p := ⟨gx, 1, none⟩) hgx).trans hcx)
          | (go_at_call 40; refine (at_any A5 (n + 4) c5 zs 2 (by omega) _ hbs5 hc1).mono ?_; rintro e v6 ⟨rfl, hd6⟩; have hb6 := hb5.trans (hd6.below _); have hx6 := hax.keep hb6 hgx; have had6 := had.keep hb6 hgd; have hcx6 := hx6.c1; have hcd6 := had6.c1; have hfd6 := had6.fr 1; have hx7 := hx6.other (k := gd) (i := 1) (.int .u8 ((ev 2 (nl zs) : Nat) : Int)) hne; have hcx7 := hx7.c1))
      all_goals
        have hd7 := had6.s1 (ev 2 (nl zs))
        have hr7 := (har.keep hb6 hgr).other (k := gd) (i := 1) (.int .u8 ((ev 2 (nl zs) : Nat) : Int)) hne2
        have hbw7 : Below w.heap.size w (v6.setCell ⟨gd, 1, none⟩ (.int .u8 ((ev 2 (nl zs) : Nat) : Int))) := (hbr.trans (hb6.mono hsr)).setCell (by exact hgdw) _
        have HN := Lib.hid (show (0 < 2 → e0 = ev 1 (nl zs)) ∧ (1 < 2 → ev 2 (nl zs) = ev 2 (nl zs)) ∧ (2 < 2 → e2 = ev 4 (nl zs)) ∧ (3 < 2 → e3 = ev 8 (nl zs)) from ⟨fun _ => HK.out.1 (by omega), fun _ => rfl, fun h => absurd h (by omega), fun h => absurd h (by omega)⟩)
        go_wp2
        go_roundw
        case rel => exact ⟨2, _, _, _, _, by omega, by go_num, hd7, hx7, hr7, hbw7, hl0, hev, hl2, hl3, HN⟩
        case measure => simp [intOf]
    · have hcx : wr.cell? ⟨gx, 2, none⟩ = some (.int .u8 4) := hax.c2
      have hix := fun W => idx30 gx 2 (by omega) W
      have hid := fun W => idx30 gd 2 (by omega) W
      simp only [Int.cast_ofNat_Int] at hix hid
      have hev := ev_lt 4 (nl_rn hrz)
      have hcxZ : (wr.alloc (.cells #[.int .u8 0, .int .u8 0, .int .u8 0, .int .u8 0] 5)).drew.cell? ⟨gx, 2, none⟩ = some (.int .u8 4) := ((below_alloc wr _).cell (p := ⟨gx, 2, none⟩) hgx).trans hcx
      have hcxd : wr.drew.cell? ⟨gx, 2, none⟩ = some (.int .u8 4) := hcx
      go_wp2
      go_region_held3 (fun w' => w'.cell? ⟨gx, 2, none⟩ = some (.int .u8 4)) (first | exact hcx | exact hcxd | exact hcxZ | exact hcx4 | exact hcx4Z | exact hcx5 | exact hcx6 | exact hcx7)
        (first
          | (go_at_call 19; refine (copy_any A n c xs _ hbsA (by omega)).mono ?_; rintro e v4 ⟨A4, c4, rfl, ho4A, hb4⟩; have hb4A := below_undrew hb4; have hr4A := rd_zero v4; have hz4A := ho4A.alloc (.cells #[.int .u8 0, .int .u8 0, .int .u8 0, .int .u8 0] 5); have hc3A : wr.heap.size ≤ (v4.alloc (.cells #[.int .u8 0, .int .u8 0, .int .u8 0, .int .u8 0] 5)).heap.size := (by have := hb4A.size; simp; omega); have hcx4 := (hb4A.cell (p := ⟨gx, 2, none⟩) hgx).trans hcx; have hcx4Z : (v4.alloc (.cells #[.int .u8 0, .int .u8 0, .int .u8 0, .int .u8 0] 5)).cell? ⟨gx, 2, none⟩ = some (.int .u8 4) := ((hb4A.alloc hb4A.size (.cells #[.int .u8 0, .int .u8 0, .int .u8 0, .int .u8 0] 5)).cell (p := ⟨gx, 2, none⟩) hgx).trans hcx)
          | (go_at_call 19; refine (copy_any A n c xs _ hbsB (by omega)).mono ?_; rintro e v4 ⟨A4, c4, rfl, ho4B, hb4⟩; have hr4B := (rd_zero wr).keep (below_undrew hb4); have hb4B := (below_alloc wr (.cells #[.int .u8 0, .int .u8 0, .int .u8 0, .int .u8 0] 5)).trans ((below_undrew hb4).mono (by simp)); have hc3B : wr.heap.size + 1 ≤ v4.heap.size := (by have := (below_undrew hb4).size; simpa using this); have hcx4 := (hb4B.cell (p := ⟨gx, 2, none⟩) hgx).trans hcx)
          | (refine step_append_rd rfl (.tmp 19) (.tmp 20) 28 rfl i0 (.int .u8 0) 1 Tryd.underlying28 hi hz0 hz1 hz2 rfl (by simp [Act.eval, Act.put]) hz4A (some ⟨v4.heap.size, 0, none⟩) 4 4 (By [0, 0, 0, 0]) (by simp [Act.eval, Act.put]) hr4A (By_one _) hc1 hc2 hc3A ?_; intro A5 c5 v5 ho5 hg5; have hb5 : Below wr.heap.size wr v5 := (hb4A.alloc hb4A.size _).trans (hg5.below hc3A (fun k hk => (ho4A.lies k hk).1)); have hbs5 : Bs v5 A5 (n + 4) zs := HZS.out v5 _ A5 c5 ho5; have hcx5 := (hb5.cell (p := ⟨gx, 2, none⟩) hgx).trans hcx)
          | (refine step_append_rd rfl (.tmp 19) (.tmp 20) 28 rfl i0 (.int .u8 0) 1 Tryd.underlying28 hi hz0 hz1 hz2 rfl (by simp [Act.eval, Act.put]) ho4B (some ⟨wr.heap.size, 0, none⟩) 4 4 (By [0, 0, 0, 0]) (by simp [Act.eval, Act.put]) hr4B (By_one _) hc1 hc2 (by simpa using hc3B) ?_; intro A5 c5 v5 ho5 hg5; have hb5 : Below wr.heap.size wr v5 := hb4B.trans (hg5.below (by omega) (fun k hk => Nat.le_trans (by simp) (ho4B.lies k hk).1)); have hbs5 : Bs v5 A5 (n + 4) zs := HZS.out v5 _ A5 c5 ho5; have hcx5 := (hb5.cell (p := ⟨gx, 2, none⟩) hgx).trans hcx)
          | (go_at_call 40; refine (at_any A5 (n + 4) c5 zs 4 (by omega) _ hbs5 hc1).mono ?_; rintro e v6 ⟨rfl, hd6⟩; have hb6 := hb5.trans (hd6.below _); have hx6 := hax.keep hb6 hgx; have had6 := had.keep hb6 hgd; have hcx6 := hx6.c2; have hcd6 := had6.c2; have hfd6 := had6.fr 2; have hx7 := hx6.other (k := gd) (i := 2) (.int .u8 ((ev 4 (nl zs) : Nat) : Int)) hne; have hcx7 := hx7.c2))
      all_goals
        have hd7 := had6.s2 (ev 4 (nl zs))
        have hr7 := (har.keep hb6 hgr).other (k := gd) (i := 2) (.int .u8 ((ev 4 (nl zs) : Nat) : Int)) hne2
        have hbw7 : Below w.heap.size w (v6.setCell ⟨gd, 2, none⟩ (.int .u8 ((ev 4 (nl zs) : Nat) : Int))) := (hbr.trans (hb6.mono hsr)).setCell (by exact hgdw) _
        have HN := Lib.hid (show (0 < 3 → e0 = ev 1 (nl zs)) ∧ (1 < 3 → e1 = ev 2 (nl zs)) ∧ (2 < 3 → ev 4 (nl zs) = ev 4 (nl zs)) ∧ (3 < 3 → e3 = ev 8 (nl zs)) from ⟨fun _ => HK.out.1 (by omega), fun _ => HK.out.2.1 (by omega), fun _ => rfl, fun h => absurd h (by omega)⟩)
        go_wp2
        go_roundw
        case rel => exact ⟨3, _, _, _, _, by omega, by go_num, hd7, hx7, hr7, hbw7, hl0, hl1, hev, hl3, HN⟩
        case measure => simp [intOf]
    · have hcx : wr.cell? ⟨gx, 3, none⟩ = some (.int .u8 8) := hax.c3
      have hix := fun W => idx30 gx 3 (by omega) W
      have hid := fun W => idx30 gd 3 (by omega) W
      simp only [Int.cast_ofNat_Int] at hix hid
      have hev := ev_lt 8 (nl_rn hrz)
      have hcxZ : (wr.alloc (.cells #[.int .u8 0, .int .u8 0, .int .u8 0, .int .u8 0] 5)).drew.cell? ⟨gx, 3, none⟩ = some (.int .u8 8) := ((below_alloc wr _).cell (p := ⟨gx, 3, none⟩) hgx).trans hcx
      have hcxd : wr.drew.cell? ⟨gx, 3, none⟩ = some (.int .u8 8) := hcx
      go_wp2
      go_region_held3 (fun w' => w'.cell? ⟨gx, 3, none⟩ = some (.int .u8 8)) (first | exact hcx | exact hcxd | exact hcxZ | exact hcx4 | exact hcx4Z | exact hcx5 | exact hcx6 | exact hcx7)
        (first
          | (go_at_call 19; refine (copy_any A n c xs _ hbsA (by omega)).mono ?_; rintro e v4 ⟨A4, c4, rfl, ho4A, hb4⟩; have hb4A := below_undrew hb4; have hr4A := rd_zero v4; have hz4A := ho4A.alloc (.cells #[.int .u8 0, .int .u8 0, .int .u8 0, .int .u8 0] 5); have hc3A : wr.heap.size ≤ (v4.alloc (.cells #[.int .u8 0, .int .u8 0, .int .u8 0, .int .u8 0] 5)).heap.size := (by have := hb4A.size; simp; omega); have hcx4 := (hb4A.cell (p := ⟨gx, 3, none⟩) hgx).trans hcx; have hcx4Z : (v4.alloc (.cells #[.int .u8 0, .int .u8 0, .int .u8 0, .int .u8 0] 5)).cell? ⟨gx, 3, none⟩ = some (.int .u8 8) := ((hb4A.alloc hb4A.size (.cells #[.int .u8 0, .int .u8 0, .int .u8 0, .int .u8 0] 5)).cell (p := ⟨gx, 3, none⟩) hgx).trans hcx)
          | (go_at_call 19; refine (copy_any A n c xs _ hbsB (by omega)).mono ?_; rintro e v4 ⟨A4, c4, rfl, ho4B, hb4⟩; have hr4B := (rd_zero wr).keep (below_undrew hb4); have hb4B := (below_alloc wr (.cells #[.int .u8 0, .int .u8 0, .int .u8 0, .int .u8 0] 5)).trans ((below_undrew hb4).mono (by simp)); have hc3B : wr.heap.size + 1 ≤ v4.heap.size := (by have := (below_undrew hb4).size; simpa using this); have hcx4 := (hb4B.cell (p := ⟨gx, 3, none⟩) hgx).trans hcx)
          | (refine step_append_rd rfl (.tmp 19) (.tmp 20) 28 rfl i0 (.int .u8 0) 1 Tryd.underlying28 hi hz0 hz1 hz2 rfl (by simp [Act.eval, Act.put]) hz4A (some ⟨v4.heap.size, 0, none⟩) 4 4 (By [0, 0, 0, 0]) (by simp [Act.eval, Act.put]) hr4A (By_one _) hc1 hc2 hc3A ?_; intro A5 c5 v5 ho5 hg5; have hb5 : Below wr.heap.size wr v5 := (hb4A.alloc hb4A.size _).trans (hg5.below hc3A (fun k hk => (ho4A.lies k hk).1)); have hbs5 : Bs v5 A5 (n + 4) zs := HZS.out v5 _ A5 c5 ho5; have hcx5 := (hb5.cell (p := ⟨gx, 3, none⟩) hgx).trans hcx)
          | (refine step_append_rd rfl (.tmp 19) (.tmp 20) 28 rfl i0 (.int .u8 0) 1 Tryd.underlying28 hi hz0 hz1 hz2 rfl (by simp [Act.eval, Act.put]) ho4B (some ⟨wr.heap.size, 0, none⟩) 4 4 (By [0, 0, 0, 0]) (by simp [Act.eval, Act.put]) hr4B (By_one _) hc1 hc2 (by simpa using hc3B) ?_; intro A5 c5 v5 ho5 hg5; have hb5 : Below wr.heap.size wr v5 := hb4B.trans (hg5.below (by omega) (fun k hk => Nat.le_trans (by simp) (ho4B.lies k hk).1)); have hbs5 : Bs v5 A5 (n + 4) zs := HZS.out v5 _ A5 c5 ho5; have hcx5 := (hb5.cell (p := ⟨gx, 3, none⟩) hgx).trans hcx)
          | (go_at_call 40; refine (at_any A5 (n + 4) c5 zs 8 (by omega) _ hbs5 hc1).mono ?_; rintro e v6 ⟨rfl, hd6⟩; have hb6 := hb5.trans (hd6.below _); have hx6 := hax.keep hb6 hgx; have had6 := had.keep hb6 hgd; have hcx6 := hx6.c3; have hcd6 := had6.c3; have hfd6 := had6.fr 3; have hx7 := hx6.other (k := gd) (i := 3) (.int .u8 ((ev 8 (nl zs) : Nat) : Int)) hne; have hcx7 := hx7.c3))
      all_goals
        have hd7 := had6.s3 (ev 8 (nl zs))
        have hr7 := (har.keep hb6 hgr).other (k := gd) (i := 3) (.int .u8 ((ev 8 (nl zs) : Nat) : Int)) hne2
        have hbw7 : Below w.heap.size w (v6.setCell ⟨gd, 3, none⟩ (.int .u8 ((ev 8 (nl zs) : Nat) : Int))) := (hbr.trans (hb6.mono hsr)).setCell (by exact hgdw) _
        have HN := Lib.hid (show (0 < 4 → e0 = ev 1 (nl zs)) ∧ (1 < 4 → e1 = ev 2 (nl zs)) ∧ (2 < 4 → e2 = ev 4 (nl zs)) ∧ (3 < 4 → ev 8 (nl zs) = ev 8 (nl zs)) from ⟨fun _ => HK.out.1 (by omega), fun _ => HK.out.2.1 (by omega), fun _ => HK.out.2.2.1 (by omega), fun _ => rfl⟩)
        go_wp2
        go_roundw
        case rel => exact ⟨4, _, _, _, _, by omega, by go_num, hd7, hx7, hr7, hbw7, hl0, hl1, hl2, hev, HN⟩
        case measure => simp [intOf]
    · have HD := Lib.hid (show e0 = ev 1 (nl zs) ∧ e1 = ev 2 (nl zs) ∧ e2 = ev 4 (nl zs) ∧ e3 = ev 8 (nl zs) from ⟨HK.out.1 (by omega), HK.out.2.1 (by omega), HK.out.2.2.1 (by omega), HK.out.2.2.2 (by omega)⟩)
      clear HK hbsA hbsB A1 A2 A3 BW hx HZS hgx hgd hgr
      generalize hwB : wr = wB at *
      clear hwB
      simp only [Int.cast_ofNat_Int]
      go_wp2
      go_loopw [6] (fun i wr => ∃ (k f0 f1 f2 f3 : Nat), 1 ≤ k ∧ k ≤ 4 ∧ i = .int .i64 k ∧ Ar wr gd f0 f1 f2 f3 ∧ Ar wr gx 1 2 4 8 ∧ Ar wr w.heap.size 0 0 0 0 ∧ Below w.heap.size w wr ∧ f0 < 256 ∧ f1 < 256 ∧ f2 < 256 ∧ f3 < 256 ∧ Hid ((f0, f1, f2, f3) = nst e0 e1 e2 e3 k)) (fun i _ => 4 - (intOf i).toNat)
      case atStart => exact ⟨1, e0, e1, e2, e3, by omega, by omega, rfl, had, hax, har, hbr, hl0, hl1, hl2, hl3, rfl⟩
      case round =>
        clear had hax har hbr hsr hl0 hl1 hl2 hl3
        obtain ⟨k, f0, f1, f2, f3, hk1, hk4, rfl, had, hax, har, hbr, hl0, hl1, hl2, hl3, HK⟩ := hrel
        have hkk : k = 1 ∨ k = 2 ∨ k = 3 ∨ k = 4 := by omega
        rcases hkk with rfl | rfl | rfl | rfl
        · have HB := Lib.hid (show f0 < 256 ∧ f1 < 256 ∧ f2 < 256 ∧ f3 < 256 from ⟨hl0, hl1, hl2, hl3⟩)
          have hb0 := hl0
          have hb1 := hl1
          have hb2 := hl2
          have hb3 := hl3
          clear hl0 hl1 hl2 hl3
          go_wp2
          refine wp_loop_rounds 4 ?_
          rw [rounds_succ]
          have higd2 := fun W => idx30 gd 2 (by omega) W
          have higd3 := fun W => idx30 gd 3 (by omega) W
          have higx2 := fun W => idx30 gx 2 (by omega) W
          have higx3 := fun W => idx30 gx 3 (by omega) W
          simp only [Int.cast_ofNat_Int] at higd2 higd3 higx2 higx3
          have cd3 := had.c3
          have cd3' : wr.drew.cell? _ = _ := had.c3
          have cd2 := had.c2
          have cd2' : wr.drew.cell? _ = _ := had.c2
          have cx3 := hax.c3
          have cx3' : wr.drew.cell? _ = _ := hax.c3
          have cx2 := hax.c2
          have cx2' : wr.drew.cell? _ = _ := hax.c2
          simp only [Int.cast_ofNat_Int] at cx3 cx3' cx2 cx2'
          have fr := had.fr 3
          have fr' : wr.drew.frozen? _ = _ := had.fr 3
          have hxa := xor_u8 f3 f2 hb3 hb2
          have hxb : bits .xor .u8 8 4 = 12 := by decide
          have hwa : IntKind.i64.wrap 2 = 2 := by decide
          have hxl := xor_lt f3 f2 hb3 hb2
          have hml := mul_lt (invL 12) hxl
          go_wp2
          refine wp_region_still_tail 21 (by kernel_rfl) (by kernel_rfl) ?_
          simp only [List.take_succ_cons, List.take_zero, List.drop_succ_cons, List.drop_zero]
          change wpStill _ _ wr.drew (fun a' => wpList _ _ _ _ a' wr.drew) _ _
          repeat still_step
          still_call (still_of (inverse_any 12 (by omega) (by omega) _))
          repeat still_step
          still_call (still_of (rmul_any (f3 ^^^ f2) (invL 12) _ hxl (invL_lt 12)))
          repeat still_step
          refine wpStill_nil ?_
          go_wp2
          clear higd2 higd3 higx2 higx3 cd3 cd2 cx3 cx2 cd3' cd2' cx3' cx2' fr fr' hxa hxb hwa hxl
          replace had := (had.s3 (mul (f3 ^^^ f2) (invL 12))).drew
          replace hax := (hax.other (k := gd) (i := 3) (.int .u8 ((mul (f3 ^^^ f2) (invL 12)) : Nat)) hne).drew
          replace har := (har.other (k := gd) (i := 3) (.int .u8 ((mul (f3 ^^^ f2) (invL 12)) : Nat)) hne2).drew
          replace hbr : Below w.heap.size w (wr.setCell ⟨gd, 3, none⟩ (.int .u8 ((mul (f3 ^^^ f2) (invL 12)) : Nat))).drew := (hbr.setCell (by exact hgdw) _).trans ((Dr.refl _).one.below _)
          generalize (wr.setCell ⟨gd, 3, none⟩ (.int .u8 ((mul (f3 ^^^ f2) (invL 12)) : Nat))).drew = wn1 at *
          generalize hvv1 : mul (f3 ^^^ f2) (invL 12) = v1 at *
          have Hv1 := Lib.hid hvv1; clear hvv1
          clear hb3; have hb3 := hml; clear hml
          rw [rounds_succ]
          have higd1 := fun W => idx30 gd 1 (by omega) W
          have higd2 := fun W => idx30 gd 2 (by omega) W
          have higx1 := fun W => idx30 gx 1 (by omega) W
          have higx2 := fun W => idx30 gx 2 (by omega) W
          simp only [Int.cast_ofNat_Int] at higd1 higd2 higx1 higx2
          have cd2 := had.c2
          have cd2' : wn1.drew.cell? _ = _ := had.c2
          have cd1 := had.c1
          have cd1' : wn1.drew.cell? _ = _ := had.c1
          have cx2 := hax.c2
          have cx2' : wn1.drew.cell? _ = _ := hax.c2
          have cx1 := hax.c1
          have cx1' : wn1.drew.cell? _ = _ := hax.c1
          simp only [Int.cast_ofNat_Int] at cx2 cx2' cx1 cx1'
          have fr := had.fr 2
          have fr' : wn1.drew.frozen? _ = _ := had.fr 2
          have hxa := xor_u8 f2 f1 hb2 hb1
          have hxb : bits .xor .u8 4 2 = 6 := by decide
          have hwa : IntKind.i64.wrap 1 = 1 := by decide
          have hxl := xor_lt f2 f1 hb2 hb1
          have hml := mul_lt (invL 6) hxl
          go_wp2
          refine wp_region_still_tail 21 (by kernel_rfl) (by kernel_rfl) ?_
          simp only [List.take_succ_cons, List.take_zero, List.drop_succ_cons, List.drop_zero]
          change wpStill _ _ wn1.drew (fun a' => wpList _ _ _ _ a' wn1.drew) _ _
          repeat still_step
          still_call (still_of (inverse_any 6 (by omega) (by omega) _))
          repeat still_step
          still_call (still_of (rmul_any (f2 ^^^ f1) (invL 6) _ hxl (invL_lt 6)))
          repeat still_step
          refine wpStill_nil ?_
          go_wp2
          clear higd1 higd2 higx1 higx2 cd2 cd1 cx2 cx1 cd2' cd1' cx2' cx1' fr fr' hxa hxb hwa hxl
          replace had := (had.s2 (mul (f2 ^^^ f1) (invL 6))).drew
          replace hax := (hax.other (k := gd) (i := 2) (.int .u8 ((mul (f2 ^^^ f1) (invL 6)) : Nat)) hne).drew
          replace har := (har.other (k := gd) (i := 2) (.int .u8 ((mul (f2 ^^^ f1) (invL 6)) : Nat)) hne2).drew
          replace hbr : Below w.heap.size w (wn1.setCell ⟨gd, 2, none⟩ (.int .u8 ((mul (f2 ^^^ f1) (invL 6)) : Nat))).drew := (hbr.setCell (by exact hgdw) _).trans ((Dr.refl _).one.below _)
          generalize (wn1.setCell ⟨gd, 2, none⟩ (.int .u8 ((mul (f2 ^^^ f1) (invL 6)) : Nat))).drew = wn2 at *
          generalize hvv2 : mul (f2 ^^^ f1) (invL 6) = v2 at *
          have Hv2 := Lib.hid hvv2; clear hvv2
          clear hb2; have hb2 := hml; clear hml
          rw [rounds_succ]
          have higd0 := fun W => idx30 gd 0 (by omega) W
          have higd1 := fun W => idx30 gd 1 (by omega) W
          have higx0 := fun W => idx30 gx 0 (by omega) W
          have higx1 := fun W => idx30 gx 1 (by omega) W
          simp only [Int.cast_ofNat_Int] at higd0 higd1 higx0 higx1
          have cd1 := had.c1
          have cd1' : wn2.drew.cell? _ = _ := had.c1
          have cd0 := had.c0
          have cd0' : wn2.drew.cell? _ = _ := had.c0
          have cx1 := hax.c1
          have cx1' : wn2.drew.cell? _ = _ := hax.c1
          have cx0 := hax.c0
          have cx0' : wn2.drew.cell? _ = _ := hax.c0
          simp only [Int.cast_ofNat_Int] at cx1 cx1' cx0 cx0'
          have fr := had.fr 1
          have fr' : wn2.drew.frozen? _ = _ := had.fr 1
          have hxa := xor_u8 f1 f0 hb1 hb0
          have hxb : bits .xor .u8 2 1 = 3 := by decide
          have hwa : IntKind.i64.wrap 0 = 0 := by decide
          have hxl := xor_lt f1 f0 hb1 hb0
          have hml := mul_lt (invL 3) hxl
          go_wp2
          refine wp_region_still_tail 21 (by kernel_rfl) (by kernel_rfl) ?_
          simp only [List.take_succ_cons, List.take_zero, List.drop_succ_cons, List.drop_zero]
          change wpStill _ _ wn2.drew (fun a' => wpList _ _ _ _ a' wn2.drew) _ _
          repeat still_step
          still_call (still_of (inverse_any 3 (by omega) (by omega) _))
          repeat still_step
          still_call (still_of (rmul_any (f1 ^^^ f0) (invL 3) _ hxl (invL_lt 3)))
          repeat still_step
          refine wpStill_nil ?_
          go_wp2
          clear higd0 higd1 higx0 higx1 cd1 cd0 cx1 cx0 cd1' cd0' cx1' cx0' fr fr' hxa hxb hwa hxl
          replace had := (had.s1 (mul (f1 ^^^ f0) (invL 3))).drew
          replace hax := (hax.other (k := gd) (i := 1) (.int .u8 ((mul (f1 ^^^ f0) (invL 3)) : Nat)) hne).drew
          replace har := (har.other (k := gd) (i := 1) (.int .u8 ((mul (f1 ^^^ f0) (invL 3)) : Nat)) hne2).drew
          replace hbr : Below w.heap.size w (wn2.setCell ⟨gd, 1, none⟩ (.int .u8 ((mul (f1 ^^^ f0) (invL 3)) : Nat))).drew := (hbr.setCell (by exact hgdw) _).trans ((Dr.refl _).one.below _)
          generalize (wn2.setCell ⟨gd, 1, none⟩ (.int .u8 ((mul (f1 ^^^ f0) (invL 3)) : Nat))).drew = wn3 at *
          generalize hvv3 : mul (f1 ^^^ f0) (invL 3) = v3 at *
          have Hv3 := Lib.hid hvv3; clear hvv3
          clear hb1; have hb1 := hml; clear hml
          rw [rounds_succ]
          have HN := Lib.hid (show (f0, v3, v2, v1) = nst e0 e1 e2 e3 2 by rw [← Hv1.out, ← Hv2.out, ← Hv3.out]; exact nstep1 HB.out HK.out)
          go_wp2
          go_roundw
          case rel => exact ⟨2, _, _, _, _, by omega, by omega, by go_num, had, hax, har, hbr, hb0, hb1, hb2, hb3, HN⟩
          case measure => simp [intOf]
        · have HB := Lib.hid (show f0 < 256 ∧ f1 < 256 ∧ f2 < 256 ∧ f3 < 256 from ⟨hl0, hl1, hl2, hl3⟩)
          have hb0 := hl0
          have hb1 := hl1
          have hb2 := hl2
          have hb3 := hl3
          clear hl0 hl1 hl2 hl3
          go_wp2
          refine wp_loop_rounds 3 ?_
          rw [rounds_succ]
          have higd2 := fun W => idx30 gd 2 (by omega) W
          have higd3 := fun W => idx30 gd 3 (by omega) W
          have higx1 := fun W => idx30 gx 1 (by omega) W
          have higx3 := fun W => idx30 gx 3 (by omega) W
          simp only [Int.cast_ofNat_Int] at higd2 higd3 higx1 higx3
          have cd3 := had.c3
          have cd3' : wr.drew.cell? _ = _ := had.c3
          have cd2 := had.c2
          have cd2' : wr.drew.cell? _ = _ := had.c2
          have cx3 := hax.c3
          have cx3' : wr.drew.cell? _ = _ := hax.c3
          have cx1 := hax.c1
          have cx1' : wr.drew.cell? _ = _ := hax.c1
          simp only [Int.cast_ofNat_Int] at cx3 cx3' cx1 cx1'
          have fr := had.fr 3
          have fr' : wr.drew.frozen? _ = _ := had.fr 3
          have hxa := xor_u8 f3 f2 hb3 hb2
          have hxb : bits .xor .u8 8 2 = 10 := by decide
          have hwa : IntKind.i64.wrap 2 = 2 := by decide
          have hwb : IntKind.i64.wrap 1 = 1 := by decide
          have hxl := xor_lt f3 f2 hb3 hb2
          have hml := mul_lt (invL 10) hxl
          go_wp2
          refine wp_region_still_tail 21 (by kernel_rfl) (by kernel_rfl) ?_
          simp only [List.take_succ_cons, List.take_zero, List.drop_succ_cons, List.drop_zero]
          change wpStill _ _ wr.drew (fun a' => wpList _ _ _ _ a' wr.drew) _ _
          repeat still_step
          still_call (still_of (inverse_any 10 (by omega) (by omega) _))
          repeat still_step
          still_call (still_of (rmul_any (f3 ^^^ f2) (invL 10) _ hxl (invL_lt 10)))
          repeat still_step
          refine wpStill_nil ?_
          go_wp2
          clear higd2 higd3 higx1 higx3 cd3 cd2 cx3 cx1 cd3' cd2' cx3' cx1' fr fr' hxa hxb hwa hxl hwb
          replace had := (had.s3 (mul (f3 ^^^ f2) (invL 10))).drew
          replace hax := (hax.other (k := gd) (i := 3) (.int .u8 ((mul (f3 ^^^ f2) (invL 10)) : Nat)) hne).drew
          replace har := (har.other (k := gd) (i := 3) (.int .u8 ((mul (f3 ^^^ f2) (invL 10)) : Nat)) hne2).drew
          replace hbr : Below w.heap.size w (wr.setCell ⟨gd, 3, none⟩ (.int .u8 ((mul (f3 ^^^ f2) (invL 10)) : Nat))).drew := (hbr.setCell (by exact hgdw) _).trans ((Dr.refl _).one.below _)
          generalize (wr.setCell ⟨gd, 3, none⟩ (.int .u8 ((mul (f3 ^^^ f2) (invL 10)) : Nat))).drew = wn4 at *
          generalize hvv4 : mul (f3 ^^^ f2) (invL 10) = v4 at *
          have Hv4 := Lib.hid hvv4; clear hvv4
          clear hb3; have hb3 := hml; clear hml
          rw [rounds_succ]
          have higd1 := fun W => idx30 gd 1 (by omega) W
          have higd2 := fun W => idx30 gd 2 (by omega) W
          have higx0 := fun W => idx30 gx 0 (by omega) W
          have higx2 := fun W => idx30 gx 2 (by omega) W
          simp only [Int.cast_ofNat_Int] at higd1 higd2 higx0 higx2
          have cd2 := had.c2
          have cd2' : wn4.drew.cell? _ = _ := had.c2
          have cd1 := had.c1
          have cd1' : wn4.drew.cell? _ = _ := had.c1
          have cx2 := hax.c2
          have cx2' : wn4.drew.cell? _ = _ := hax.c2
          have cx0 := hax.c0
          have cx0' : wn4.drew.cell? _ = _ := hax.c0
          simp only [Int.cast_ofNat_Int] at cx2 cx2' cx0 cx0'
          have fr := had.fr 2
          have fr' : wn4.drew.frozen? _ = _ := had.fr 2
          have hxa := xor_u8 f2 f1 hb2 hb1
          have hxb : bits .xor .u8 4 1 = 5 := by decide
          have hwa : IntKind.i64.wrap 1 = 1 := by decide
          have hwb : IntKind.i64.wrap 0 = 0 := by decide
          have hxl := xor_lt f2 f1 hb2 hb1
          have hml := mul_lt (invL 5) hxl
          go_wp2
          refine wp_region_still_tail 21 (by kernel_rfl) (by kernel_rfl) ?_
          simp only [List.take_succ_cons, List.take_zero, List.drop_succ_cons, List.drop_zero]
          change wpStill _ _ wn4.drew (fun a' => wpList _ _ _ _ a' wn4.drew) _ _
          repeat still_step
          still_call (still_of (inverse_any 5 (by omega) (by omega) _))
          repeat still_step
          still_call (still_of (rmul_any (f2 ^^^ f1) (invL 5) _ hxl (invL_lt 5)))
          repeat still_step
          refine wpStill_nil ?_
          go_wp2
          clear higd1 higd2 higx0 higx2 cd2 cd1 cx2 cx0 cd2' cd1' cx2' cx0' fr fr' hxa hxb hwa hxl hwb
          replace had := (had.s2 (mul (f2 ^^^ f1) (invL 5))).drew
          replace hax := (hax.other (k := gd) (i := 2) (.int .u8 ((mul (f2 ^^^ f1) (invL 5)) : Nat)) hne).drew
          replace har := (har.other (k := gd) (i := 2) (.int .u8 ((mul (f2 ^^^ f1) (invL 5)) : Nat)) hne2).drew
          replace hbr : Below w.heap.size w (wn4.setCell ⟨gd, 2, none⟩ (.int .u8 ((mul (f2 ^^^ f1) (invL 5)) : Nat))).drew := (hbr.setCell (by exact hgdw) _).trans ((Dr.refl _).one.below _)
          generalize (wn4.setCell ⟨gd, 2, none⟩ (.int .u8 ((mul (f2 ^^^ f1) (invL 5)) : Nat))).drew = wn5 at *
          generalize hvv5 : mul (f2 ^^^ f1) (invL 5) = v5 at *
          have Hv5 := Lib.hid hvv5; clear hvv5
          clear hb2; have hb2 := hml; clear hml
          rw [rounds_succ]
          have HN := Lib.hid (show (f0, f1, v5, v4) = nst e0 e1 e2 e3 3 by rw [← Hv4.out, ← Hv5.out]; exact nstep2 HB.out HK.out)
          go_wp2
          go_roundw
          case rel => exact ⟨3, _, _, _, _, by omega, by omega, by go_num, had, hax, har, hbr, hb0, hb1, hb2, hb3, HN⟩
          case measure => simp [intOf]
        · have HB := Lib.hid (show f0 < 256 ∧ f1 < 256 ∧ f2 < 256 ∧ f3 < 256 from ⟨hl0, hl1, hl2, hl3⟩)
          have hb0 := hl0
          have hb1 := hl1
          have hb2 := hl2
          have hb3 := hl3
          clear hl0 hl1 hl2 hl3
          go_wp2
          refine wp_loop_rounds 2 ?_
          rw [rounds_succ]
          have higd2 := fun W => idx30 gd 2 (by omega) W
          have higd3 := fun W => idx30 gd 3 (by omega) W
          have higx0 := fun W => idx30 gx 0 (by omega) W
          have higx3 := fun W => idx30 gx 3 (by omega) W
          simp only [Int.cast_ofNat_Int] at higd2 higd3 higx0 higx3
          have cd3 := had.c3
          have cd3' : wr.drew.cell? _ = _ := had.c3
          have cd2 := had.c2
          have cd2' : wr.drew.cell? _ = _ := had.c2
          have cx3 := hax.c3
          have cx3' : wr.drew.cell? _ = _ := hax.c3
          have cx0 := hax.c0
          have cx0' : wr.drew.cell? _ = _ := hax.c0
          simp only [Int.cast_ofNat_Int] at cx3 cx3' cx0 cx0'
          have fr := had.fr 3
          have fr' : wr.drew.frozen? _ = _ := had.fr 3
          have hxa := xor_u8 f3 f2 hb3 hb2
          have hxb : bits .xor .u8 8 1 = 9 := by decide
          have hwa : IntKind.i64.wrap 2 = 2 := by decide
          have hwb : IntKind.i64.wrap 0 = 0 := by decide
          have hxl := xor_lt f3 f2 hb3 hb2
          have hml := mul_lt (invL 9) hxl
          go_wp2
          refine wp_region_still_tail 21 (by kernel_rfl) (by kernel_rfl) ?_
          simp only [List.take_succ_cons, List.take_zero, List.drop_succ_cons, List.drop_zero]
          change wpStill _ _ wr.drew (fun a' => wpList _ _ _ _ a' wr.drew) _ _
          repeat still_step
          still_call (still_of (inverse_any 9 (by omega) (by omega) _))
          repeat still_step
          still_call (still_of (rmul_any (f3 ^^^ f2) (invL 9) _ hxl (invL_lt 9)))
          repeat still_step
          refine wpStill_nil ?_
          go_wp2
          clear higd2 higd3 higx0 higx3 cd3 cd2 cx3 cx0 cd3' cd2' cx3' cx0' fr fr' hxa hxb hwa hxl hwb
          replace had := (had.s3 (mul (f3 ^^^ f2) (invL 9))).drew
          replace hax := (hax.other (k := gd) (i := 3) (.int .u8 ((mul (f3 ^^^ f2) (invL 9)) : Nat)) hne).drew
          replace har := (har.other (k := gd) (i := 3) (.int .u8 ((mul (f3 ^^^ f2) (invL 9)) : Nat)) hne2).drew
          replace hbr : Below w.heap.size w (wr.setCell ⟨gd, 3, none⟩ (.int .u8 ((mul (f3 ^^^ f2) (invL 9)) : Nat))).drew := (hbr.setCell (by exact hgdw) _).trans ((Dr.refl _).one.below _)
          generalize (wr.setCell ⟨gd, 3, none⟩ (.int .u8 ((mul (f3 ^^^ f2) (invL 9)) : Nat))).drew = wn6 at *
          generalize hvv6 : mul (f3 ^^^ f2) (invL 9) = v6 at *
          have Hv6 := Lib.hid hvv6; clear hvv6
          clear hb3; have hb3 := hml; clear hml
          rw [rounds_succ]
          have HN := Lib.hid (show (f0, f1, f2, v6) = nst e0 e1 e2 e3 4 by rw [← Hv6.out]; exact nstep3 HB.out HK.out)
          go_wp2
          go_roundw
          case rel => exact ⟨4, _, _, _, _, by omega, by omega, by go_num, had, hax, har, hbr, hb0, hb1, hb2, hb3, HN⟩
          case measure => simp [intOf]
        · have hf0 := hl0
          have hf1 := hl1
          have hf2 := hl2
          have hf3 := hl3
          clear hl0 hl1 hl2 hl3 hk1 hk4
          have hid3 := fun W => idx30 gd 3 (by omega) W
          simp only [Int.cast_ofNat_Int] at hid3
          have cd3 := had.c3
          go_wp2
          clear hid3 cd3
          have hao : Ar (wr.alloc (.cells #[.int .u8 0, .int .u8 0, .int .u8 0, .int .u8 (f3 : Int)] 30)) wr.heap.size 0 0 0 f3 := Ar.new wr 0 0 0 f3
          have hbA := below_alloc wr (.cells #[.int .u8 0, .int .u8 0, .int .u8 0, .int .u8 (f3 : Int)] 30)
          have hlt1 := had.lt; replace had := had.keep hbA hlt1
          have hlt2 := hax.lt; replace hax := hax.keep hbA hlt2
          have hlt3 := har.lt; replace har := har.keep hbA hlt3
          have hsz := hbr.size; replace hbr := hbr.trans (hbA.mono hsz)
          clear hbA
          generalize wr.alloc (.cells #[.int .u8 0, .int .u8 0, .int .u8 0, .int .u8 (f3 : Int)] 30) = wO at *
          generalize wr.heap.size = go at *
          have hne4 : go ≠ gd := by omega
          have hne5 : go ≠ gx := by omega
          have hne6 : go ≠ w.heap.size := by omega
          have hgow : w.heap.size ≤ go := hsz
          clear hlt1 hlt2 hlt3 hsz
          obtain ⟨za, hza⟩ : ∃ z : Nat, 0 = z := ⟨_, rfl⟩
          obtain ⟨zb, hzb⟩ : ∃ z : Nat, 0 = z := ⟨_, rfl⟩
          obtain ⟨zc, hzc⟩ : ∃ z : Nat, 0 = z := ⟨_, rfl⟩
          replace hao : Ar wO go za zb zc f3 := by rw [← hza, ← hzb, ← hzc]; exact hao
          have ho0 : za < 256 := by omega
          have ho1 : zb < 256 := by omega
          have ho2 : zc < 256 := by omega
          have ho3 := hf3
          have HZA := Lib.hid hza; clear hza
          have HZB := Lib.hid hzb; clear hzb
          have HZC := Lib.hid hzc; clear hzc
          have HZZ := Lib.hid (show za = 0 ∧ zb = 0 ∧ zc = 0 from ⟨HZA.out.symm, HZB.out.symm, HZC.out.symm⟩)
          simp only [Int.cast_ofNat_Int]
          go_loopw [9] (fun i wr => ∃ (j : Nat) (v : Int) (o0 o1 o2 o3 : Nat), j ≤ 3 ∧ v = (j : Int) - 1 ∧ i = .int .i64 v ∧ Ar wr gd f0 f1 f2 f3 ∧ Ar wr gx 1 2 4 8 ∧ Ar wr w.heap.size 0 0 0 0 ∧ Ar wr go o0 o1 o2 o3 ∧ Below w.heap.size w wr ∧ o0 < 256 ∧ o1 < 256 ∧ o2 < 256 ∧ o3 < 256 ∧ Hid ((o0, o1, o2, o3) = osf f0 f1 f2 f3 j)) (fun i _ => (intOf i + 1).toNat)
          case atStart => exact ⟨3, 2, za, zb, zc, f3, by omega, by omega, rfl, had, hax, har, hao, hbr, ho0, ho1, ho2, ho3, by rw [HZZ.out.1, HZZ.out.2.1, HZZ.out.2.2]; rfl⟩
          case round =>
            clear had hax har hao hbr ho0 ho1 ho2 ho3
            obtain ⟨j, v, o0, o1, o2, o3, hj3, hv, rfl, had, hax, har, hao, hbr, ho0, ho1, ho2, ho3, HOS⟩ := hrel
            by_cases hj : j = 0
            ·
                subst hj
                obtain rfl : v = -1 := by omega
                clear hv
                have HFIN : Hid (w4 (chk (nl xs)) = [o0, o1, o2, o3]) := by
                  have k1 := HK.out
                  simp only [nst, Prod.mk.injEq] at k1
                  obtain ⟨q0, q1, q2, q3⟩ := k1
                  obtain ⟨d0, d1, d2, d3⟩ := HD.out
                  have hc := nout_chk (nl_rn HXR.out)
                  rw [← HZ.out, ← d0, ← d1, ← d2, ← d3] at hc
                  show _ = _
                  rw [← hc]
                  have t0 := HOS.out
                  rw [q0, q1, q2, q3] at t0
                  have : nout e0 e1 e2 e3 = (o0, o1, o2, o3) := t0.symm
                  rw [this]; rfl
                have HBB := Lib.hid (show o0 < 256 ∧ o1 < 256 ∧ o2 < 256 ∧ o3 < 256 from ⟨ho0, ho1, ho2, ho3⟩)
                have co0 := hao.c0
                have co1 := hao.c1
                have co2 := hao.c2
                have co3 := hao.c3
                have cr0 := har.c0
                have cr1 := har.c1
                have cr2 := har.c2
                have cr3 := har.c3
                have fr0 := har.fr 0
                have fr1 := har.fr 1
                have fr2 := har.fr 2
                have fr3 := har.fr 3
                clear HOS HK HD HZ HZA HZB HZC had hax har hao
                go_wp2
                refine bodyPost_ret (v := a4 o0 o1 o2 o3) (by simp [a4, results, Tryd.results20, go_sem, cr0, cr1, cr2, cr3]) rfl ⟨o0, o1, o2, o3, rfl, HFIN, HBB.out, ?_⟩
                exact (((hbr.setCell (by simp) _).setCell (by simp) _).setCell (by simp) _).setCell (by simp) _
            ·
                obtain ⟨k, rfl⟩ : ∃ k, j = k + 1 := ⟨j - 1, by omega⟩
                obtain rfl : v = (k : Int) := by omega
                have hk3 : k < 4 := by omega
                clear hv hj
                have hcase : k = 2 ∨ k = 1 ∨ k = 0 := by omega
                obtain ⟨x, dk, hx256, hdk, HCX, HCD, HSTEP⟩ : ∃ x dk : Nat, x < 256 ∧ dk < 256 ∧ Hid (∀ W : World, Ar W gx 1 2 4 8 → W.cell? ⟨gx, k, none⟩ = some (.int .u8 (x : Int))) ∧ Hid (∀ W : World, Ar W gd f0 f1 f2 f3 → W.cell? ⟨gd, k, none⟩ = some (.int .u8 (dk : Int))) ∧ Hid (∀ a b c d : Nat, (a, b, c, d) = osf f0 f1 f2 f3 (k + 1) → (mul a x ^^^ b, mul b x ^^^ c, mul c x ^^^ d, mul d x ^^^ dk) = osf f0 f1 f2 f3 k) := by
                  rcases hcase with rfl | rfl | rfl
                  · exact ⟨4, f2, by omega, hf2, fun W h => h.c2, fun W h => h.c2, fun a b c d h => by show _ = ostep (osf f0 f1 f2 f3 3) 4 f2; rw [← h]; rfl⟩
                  · exact ⟨2, f1, by omega, hf1, fun W h => h.c1, fun W h => h.c1, fun a b c d h => by show _ = ostep (osf f0 f1 f2 f3 2) 2 f1; rw [← h]; rfl⟩
                  · exact ⟨1, f0, by omega, hf0, fun W h => h.c0, fun W h => h.c0, fun a b c d h => by show _ = ostep (osf f0 f1 f2 f3 1) 1 f0; rw [← h]; rfl⟩
                clear hcase
                go_wp2
                refine wp_loop_rounds 5 ?_
                have han : Ar (wr.alloc (.cells #[.int .u8 0, .int .u8 0, .int .u8 0, .int .u8 0] 30)) wr.heap.size 0 0 0 0 := Ar.new wr 0 0 0 0
                have hbA := below_alloc wr (.cells #[.int .u8 0, .int .u8 0, .int .u8 0, .int .u8 0] 30)
                have hlthad := had.lt; replace had := had.keep hbA hlthad
                have hlthax := hax.lt; replace hax := hax.keep hbA hlthax
                have hlthar := har.lt; replace har := har.keep hbA hlthar
                have hlthao := hao.lt; replace hao := hao.keep hbA hlthao
                have hsz := hbr.size; replace hbr := hbr.trans (hbA.mono hsz)
                clear hbA hsz
                generalize (wr.alloc (.cells #[.int .u8 0, .int .u8 0, .int .u8 0, .int .u8 0] 30)) = wn7 at *
                generalize wr.heap.size = gn7 at *
                have hGw : w.heap.size ≤ gn7 := Nat.le_of_lt hlthar
                have hnhad : gd ≠ gn7 := Nat.ne_of_lt hlthad; clear hlthad
                have hnhax : gx ≠ gn7 := Nat.ne_of_lt hlthax; clear hlthax
                have hnhar : w.heap.size ≠ gn7 := Nat.ne_of_lt hlthar; clear hlthar
                have hnhao : go ≠ gn7 := Nat.ne_of_lt hlthao; clear hlthao
                have hixk := fun W => idx30 gx k hk3 W
                have hidk := fun W => idx30 gd k hk3 W
                rw [rounds_succ]
                have hio0 := fun W => idx30 go 0 (by omega) W
                have hin0 := fun W => idx30 gn7 0 (by omega) W
                have hio1 := fun W => idx30 go 1 (by omega) W
                simp only [Int.cast_ofNat_Int] at hio0 hin0 hio1
                have co := hao.c0
                have co' : wn7.drew.cell? _ = _ := hao.c0
                have cx := HCX.out _ hax
                have cx' : wn7.drew.cell? _ = _ := HCX.out _ hax
                have cn := han.c0
                have cn' : wn7.drew.cell? _ = _ := han.c0
                have fr := han.fr 0
                have fr' : wn7.drew.frozen? _ = _ := han.fr 0
                have hml := mul_lt x ho0
                go_wp2
                refine wp_region_still_tail 9 (by kernel_rfl) (by kernel_rfl) ?_
                simp only [List.take_succ_cons, List.take_zero, List.drop_succ_cons, List.drop_zero]
                change wpStill _ _ wn7.drew (fun a' => wpList _ _ _ _ a' wn7.drew) _ _
                repeat still_step
                still_call (still_of (rmul_any o0 x _ ho0 hx256))
                repeat still_step
                refine wpStill_nil ?_
                go_wp2_with fail
                clear co co' cx cx' cn cn' fr fr'
                replace han := (han.s0 (mul o0 x)).drew
                replace had := (had.other (k := gn7) (i := 0) (.int .u8 ((mul o0 x) : Nat)) hnhad).drew
                replace hax := (hax.other (k := gn7) (i := 0) (.int .u8 ((mul o0 x) : Nat)) hnhax).drew
                replace har := (har.other (k := gn7) (i := 0) (.int .u8 ((mul o0 x) : Nat)) hnhar).drew
                replace hao := (hao.other (k := gn7) (i := 0) (.int .u8 ((mul o0 x) : Nat)) hnhao).drew
                replace hbr : Below w.heap.size w (wn7.setCell ⟨gn7, 0, none⟩ (.int .u8 ((mul o0 x) : Nat))).drew := (hbr.setCell (by exact hGw) _).trans ((Dr.refl _).one.below _)
                generalize (wn7.setCell ⟨gn7, 0, none⟩ (.int .u8 ((mul o0 x) : Nat))).drew = wn8 at *
                have cn := han.c0
                have cn' : wn8.drew.cell? _ = _ := han.c0
                have co := hao.c1
                have co' : wn8.drew.cell? _ = _ := hao.c1
                have fr := han.fr 0
                have fr' : wn8.drew.frozen? _ = _ := han.fr 0
                have hxa := xor_u8 (mul o0 x) o1 hml ho1
                have hxl := xor_lt _ _ hml ho1
                have hwa : IntKind.i64.wrap 1 = 1 := by decide
                go_wp2
                refine wp_region_still_tail 9 (by kernel_rfl) (by kernel_rfl) ?_
                simp only [List.take_succ_cons, List.take_zero, List.drop_succ_cons, List.drop_zero]
                change wpStill _ _ wn8.drew (fun a' => wpList _ _ _ _ a' wn8.drew) _ _
                repeat still_step
                refine wpStill_nil ?_
                go_wp2_with fail
                clear cn cn' co co' fr fr' hxa hwa hml
                replace han := (han.s0 ((mul o0 x) ^^^ o1)).drew
                replace had := (had.other (k := gn7) (i := 0) (.int .u8 (((mul o0 x) ^^^ o1) : Nat)) hnhad).drew
                replace hax := (hax.other (k := gn7) (i := 0) (.int .u8 (((mul o0 x) ^^^ o1) : Nat)) hnhax).drew
                replace har := (har.other (k := gn7) (i := 0) (.int .u8 (((mul o0 x) ^^^ o1) : Nat)) hnhar).drew
                replace hao := (hao.other (k := gn7) (i := 0) (.int .u8 (((mul o0 x) ^^^ o1) : Nat)) hnhao).drew
                replace hbr : Below w.heap.size w (wn8.setCell ⟨gn7, 0, none⟩ (.int .u8 (((mul o0 x) ^^^ o1) : Nat))).drew := (hbr.setCell (by exact hGw) _).trans ((Dr.refl _).one.below _)
                generalize (wn8.setCell ⟨gn7, 0, none⟩ (.int .u8 (((mul o0 x) ^^^ o1) : Nat))).drew = wn9 at *
                have hq0 := hxl; clear hxl
                clear hio0 hin0 hio1
                rw [rounds_succ]
                have hio1 := fun W => idx30 go 1 (by omega) W
                have hin1 := fun W => idx30 gn7 1 (by omega) W
                have hio2 := fun W => idx30 go 2 (by omega) W
                simp only [Int.cast_ofNat_Int] at hio1 hin1 hio2
                have co := hao.c1
                have co' : wn9.drew.cell? _ = _ := hao.c1
                have cx := HCX.out _ hax
                have cx' : wn9.drew.cell? _ = _ := HCX.out _ hax
                have cn := han.c1
                have cn' : wn9.drew.cell? _ = _ := han.c1
                have fr := han.fr 1
                have fr' : wn9.drew.frozen? _ = _ := han.fr 1
                have hml := mul_lt x ho1
                go_wp2
                refine wp_region_still_tail 9 (by kernel_rfl) (by kernel_rfl) ?_
                simp only [List.take_succ_cons, List.take_zero, List.drop_succ_cons, List.drop_zero]
                change wpStill _ _ wn9.drew (fun a' => wpList _ _ _ _ a' wn9.drew) _ _
                repeat still_step
                still_call (still_of (rmul_any o1 x _ ho1 hx256))
                repeat still_step
                refine wpStill_nil ?_
                go_wp2_with fail
                clear co co' cx cx' cn cn' fr fr'
                replace han := (han.s1 (mul o1 x)).drew
                replace had := (had.other (k := gn7) (i := 1) (.int .u8 ((mul o1 x) : Nat)) hnhad).drew
                replace hax := (hax.other (k := gn7) (i := 1) (.int .u8 ((mul o1 x) : Nat)) hnhax).drew
                replace har := (har.other (k := gn7) (i := 1) (.int .u8 ((mul o1 x) : Nat)) hnhar).drew
                replace hao := (hao.other (k := gn7) (i := 1) (.int .u8 ((mul o1 x) : Nat)) hnhao).drew
                replace hbr : Below w.heap.size w (wn9.setCell ⟨gn7, 1, none⟩ (.int .u8 ((mul o1 x) : Nat))).drew := (hbr.setCell (by exact hGw) _).trans ((Dr.refl _).one.below _)
                generalize (wn9.setCell ⟨gn7, 1, none⟩ (.int .u8 ((mul o1 x) : Nat))).drew = wn10 at *
                have cn := han.c1
                have cn' : wn10.drew.cell? _ = _ := han.c1
                have co := hao.c2
                have co' : wn10.drew.cell? _ = _ := hao.c2
                have fr := han.fr 1
                have fr' : wn10.drew.frozen? _ = _ := han.fr 1
                have hxa := xor_u8 (mul o1 x) o2 hml ho2
                have hxl := xor_lt _ _ hml ho2
                have hwa : IntKind.i64.wrap 2 = 2 := by decide
                go_wp2
                refine wp_region_still_tail 9 (by kernel_rfl) (by kernel_rfl) ?_
                simp only [List.take_succ_cons, List.take_zero, List.drop_succ_cons, List.drop_zero]
                change wpStill _ _ wn10.drew (fun a' => wpList _ _ _ _ a' wn10.drew) _ _
                repeat still_step
                refine wpStill_nil ?_
                go_wp2_with fail
                clear cn cn' co co' fr fr' hxa hwa hml
                replace han := (han.s1 ((mul o1 x) ^^^ o2)).drew
                replace had := (had.other (k := gn7) (i := 1) (.int .u8 (((mul o1 x) ^^^ o2) : Nat)) hnhad).drew
                replace hax := (hax.other (k := gn7) (i := 1) (.int .u8 (((mul o1 x) ^^^ o2) : Nat)) hnhax).drew
                replace har := (har.other (k := gn7) (i := 1) (.int .u8 (((mul o1 x) ^^^ o2) : Nat)) hnhar).drew
                replace hao := (hao.other (k := gn7) (i := 1) (.int .u8 (((mul o1 x) ^^^ o2) : Nat)) hnhao).drew
                replace hbr : Below w.heap.size w (wn10.setCell ⟨gn7, 1, none⟩ (.int .u8 (((mul o1 x) ^^^ o2) : Nat))).drew := (hbr.setCell (by exact hGw) _).trans ((Dr.refl _).one.below _)
                generalize (wn10.setCell ⟨gn7, 1, none⟩ (.int .u8 (((mul o1 x) ^^^ o2) : Nat))).drew = wn11 at *
                have hq1 := hxl; clear hxl
                clear hio1 hin1 hio2
                rw [rounds_succ]
                have hio2 := fun W => idx30 go 2 (by omega) W
                have hin2 := fun W => idx30 gn7 2 (by omega) W
                have hio3 := fun W => idx30 go 3 (by omega) W
                simp only [Int.cast_ofNat_Int] at hio2 hin2 hio3
                have co := hao.c2
                have co' : wn11.drew.cell? _ = _ := hao.c2
                have cx := HCX.out _ hax
                have cx' : wn11.drew.cell? _ = _ := HCX.out _ hax
                have cn := han.c2
                have cn' : wn11.drew.cell? _ = _ := han.c2
                have fr := han.fr 2
                have fr' : wn11.drew.frozen? _ = _ := han.fr 2
                have hml := mul_lt x ho2
                go_wp2
                refine wp_region_still_tail 9 (by kernel_rfl) (by kernel_rfl) ?_
                simp only [List.take_succ_cons, List.take_zero, List.drop_succ_cons, List.drop_zero]
                change wpStill _ _ wn11.drew (fun a' => wpList _ _ _ _ a' wn11.drew) _ _
                repeat still_step
                still_call (still_of (rmul_any o2 x _ ho2 hx256))
                repeat still_step
                refine wpStill_nil ?_
                go_wp2_with fail
                clear co co' cx cx' cn cn' fr fr'
                replace han := (han.s2 (mul o2 x)).drew
                replace had := (had.other (k := gn7) (i := 2) (.int .u8 ((mul o2 x) : Nat)) hnhad).drew
                replace hax := (hax.other (k := gn7) (i := 2) (.int .u8 ((mul o2 x) : Nat)) hnhax).drew
                replace har := (har.other (k := gn7) (i := 2) (.int .u8 ((mul o2 x) : Nat)) hnhar).drew
                replace hao := (hao.other (k := gn7) (i := 2) (.int .u8 ((mul o2 x) : Nat)) hnhao).drew
                replace hbr : Below w.heap.size w (wn11.setCell ⟨gn7, 2, none⟩ (.int .u8 ((mul o2 x) : Nat))).drew := (hbr.setCell (by exact hGw) _).trans ((Dr.refl _).one.below _)
                generalize (wn11.setCell ⟨gn7, 2, none⟩ (.int .u8 ((mul o2 x) : Nat))).drew = wn12 at *
                have cn := han.c2
                have cn' : wn12.drew.cell? _ = _ := han.c2
                have co := hao.c3
                have co' : wn12.drew.cell? _ = _ := hao.c3
                have fr := han.fr 2
                have fr' : wn12.drew.frozen? _ = _ := han.fr 2
                have hxa := xor_u8 (mul o2 x) o3 hml ho3
                have hxl := xor_lt _ _ hml ho3
                have hwa : IntKind.i64.wrap 3 = 3 := by decide
                go_wp2
                refine wp_region_still_tail 9 (by kernel_rfl) (by kernel_rfl) ?_
                simp only [List.take_succ_cons, List.take_zero, List.drop_succ_cons, List.drop_zero]
                change wpStill _ _ wn12.drew (fun a' => wpList _ _ _ _ a' wn12.drew) _ _
                repeat still_step
                refine wpStill_nil ?_
                go_wp2_with fail
                clear cn cn' co co' fr fr' hxa hwa hml
                replace han := (han.s2 ((mul o2 x) ^^^ o3)).drew
                replace had := (had.other (k := gn7) (i := 2) (.int .u8 (((mul o2 x) ^^^ o3) : Nat)) hnhad).drew
                replace hax := (hax.other (k := gn7) (i := 2) (.int .u8 (((mul o2 x) ^^^ o3) : Nat)) hnhax).drew
                replace har := (har.other (k := gn7) (i := 2) (.int .u8 (((mul o2 x) ^^^ o3) : Nat)) hnhar).drew
                replace hao := (hao.other (k := gn7) (i := 2) (.int .u8 (((mul o2 x) ^^^ o3) : Nat)) hnhao).drew
                replace hbr : Below w.heap.size w (wn12.setCell ⟨gn7, 2, none⟩ (.int .u8 (((mul o2 x) ^^^ o3) : Nat))).drew := (hbr.setCell (by exact hGw) _).trans ((Dr.refl _).one.below _)
                generalize (wn12.setCell ⟨gn7, 2, none⟩ (.int .u8 (((mul o2 x) ^^^ o3) : Nat))).drew = wn13 at *
                have hq2 := hxl; clear hxl
                clear hio2 hin2 hio3
                rw [rounds_succ]
                have hio3 := fun W => idx30 go 3 (by omega) W
                have hin3 := fun W => idx30 gn7 3 (by omega) W
                simp only [Int.cast_ofNat_Int] at hio3 hin3
                have co := hao.c3
                have co' : wn13.drew.cell? _ = _ := hao.c3
                have cx := HCX.out _ hax
                have cx' : wn13.drew.cell? _ = _ := HCX.out _ hax
                have cn := han.c3
                have cn' : wn13.drew.cell? _ = _ := han.c3
                have fr := han.fr 3
                have fr' : wn13.drew.frozen? _ = _ := han.fr 3
                have hml := mul_lt x ho3
                go_wp2
                refine wp_region_still_tail 9 (by kernel_rfl) (by kernel_rfl) ?_
                simp only [List.take_succ_cons, List.take_zero, List.drop_succ_cons, List.drop_zero]
                change wpStill _ _ wn13.drew (fun a' => wpList _ _ _ _ a' wn13.drew) _ _
                repeat still_step
                still_call (still_of (rmul_any o3 x _ ho3 hx256))
                repeat still_step
                refine wpStill_nil ?_
                go_wp2_with fail
                clear co co' cx cx' cn cn' fr fr'
                replace han := (han.s3 (mul o3 x)).drew
                replace had := (had.other (k := gn7) (i := 3) (.int .u8 ((mul o3 x) : Nat)) hnhad).drew
                replace hax := (hax.other (k := gn7) (i := 3) (.int .u8 ((mul o3 x) : Nat)) hnhax).drew
                replace har := (har.other (k := gn7) (i := 3) (.int .u8 ((mul o3 x) : Nat)) hnhar).drew
                replace hao := (hao.other (k := gn7) (i := 3) (.int .u8 ((mul o3 x) : Nat)) hnhao).drew
                replace hbr : Below w.heap.size w (wn13.setCell ⟨gn7, 3, none⟩ (.int .u8 ((mul o3 x) : Nat))).drew := (hbr.setCell (by exact hGw) _).trans ((Dr.refl _).one.below _)
                generalize (wn13.setCell ⟨gn7, 3, none⟩ (.int .u8 ((mul o3 x) : Nat))).drew = wn14 at *
                have hq3 := hml; clear hml
                clear hio3 hin3
                rw [rounds_succ]
                have hin3 := fun W => idx30 gn7 3 (by omega) W
                simp only [Int.cast_ofNat_Int] at hin3
                have cn := han.c3
                have cn' : wn14.drew.cell? _ = _ := han.c3
                have cd := HCD.out _ had
                have cd' : wn14.drew.cell? _ = _ := HCD.out _ had
                have fr := han.fr 3
                have fr' : wn14.drew.frozen? _ = _ := han.fr 3
                have hxa := xor_u8 (mul o3 x) dk hq3 hdk
                have hxl := xor_lt _ _ hq3 hdk
                have cn0 := han.c0
                have cn1 := han.c1
                have cn2 := han.c2
                have co0 := hao.c0
                have fo0 := hao.fr 0
                have co1 := hao.c1
                have fo1 := hao.fr 1
                have co2 := hao.c2
                have fo2 := hao.fr 2
                have co3 := hao.c3
                have fo3 := hao.fr 3
                have hnG := hnhao
                go_wp2
                refine wp_region_still_tail 7 (by kernel_rfl) (by kernel_rfl) ?_
                simp only [List.take_succ_cons, List.take_zero, List.drop_succ_cons, List.drop_zero]
                change wpStill _ _ wn14.drew (fun a' => wpList _ _ _ _ a' wn14.drew) _ _
                repeat still_step
                refine wpStill_nil ?_
                have hp3 := hxl
                have had2 := (((((had.other (k := gn7) (i := 3) (.int .u8 (((mul o3 x) ^^^ dk) : Nat)) hnhad).other (k := go) (i := 0) (.int .u8 (((mul o0 x) ^^^ o1) : Nat)) hne4.symm).other (k := go) (i := 1) (.int .u8 (((mul o1 x) ^^^ o2) : Nat)) hne4.symm).other (k := go) (i := 2) (.int .u8 (((mul o2 x) ^^^ o3) : Nat)) hne4.symm).other (k := go) (i := 3) (.int .u8 (((mul o3 x) ^^^ dk) : Nat)) hne4.symm).drew
                have hax2 := (((((hax.other (k := gn7) (i := 3) (.int .u8 (((mul o3 x) ^^^ dk) : Nat)) hnhax).other (k := go) (i := 0) (.int .u8 (((mul o0 x) ^^^ o1) : Nat)) hne5.symm).other (k := go) (i := 1) (.int .u8 (((mul o1 x) ^^^ o2) : Nat)) hne5.symm).other (k := go) (i := 2) (.int .u8 (((mul o2 x) ^^^ o3) : Nat)) hne5.symm).other (k := go) (i := 3) (.int .u8 (((mul o3 x) ^^^ dk) : Nat)) hne5.symm).drew
                have har2 := (((((har.other (k := gn7) (i := 3) (.int .u8 (((mul o3 x) ^^^ dk) : Nat)) hnhar).other (k := go) (i := 0) (.int .u8 (((mul o0 x) ^^^ o1) : Nat)) hne6.symm).other (k := go) (i := 1) (.int .u8 (((mul o1 x) ^^^ o2) : Nat)) hne6.symm).other (k := go) (i := 2) (.int .u8 (((mul o2 x) ^^^ o3) : Nat)) hne6.symm).other (k := go) (i := 3) (.int .u8 (((mul o3 x) ^^^ dk) : Nat)) hne6.symm).drew
                have hao2 := ((((hao.other (k := gn7) (i := 3) (.int .u8 (((mul o3 x) ^^^ dk) : Nat)) hnhao).s0 ((mul o0 x) ^^^ o1)).s1 ((mul o1 x) ^^^ o2)).s2 ((mul o2 x) ^^^ o3)).s3 ((mul o3 x) ^^^ dk) |>.drew
                have hbr2 : Below w.heap.size w (((((wn14.setCell ⟨gn7, 3, none⟩ (.int .u8 (((mul o3 x) ^^^ dk) : Nat))).setCell ⟨go, 0, none⟩ (.int .u8 (((mul o0 x) ^^^ o1) : Nat))).setCell ⟨go, 1, none⟩ (.int .u8 (((mul o1 x) ^^^ o2) : Nat))).setCell ⟨go, 2, none⟩ (.int .u8 (((mul o2 x) ^^^ o3) : Nat))).setCell ⟨go, 3, none⟩ (.int .u8 (((mul o3 x) ^^^ dk) : Nat))).drew := (((((hbr.setCell (by exact hGw) _).setCell (by exact hgow) _).setCell (by exact hgow) _).setCell (by exact hgow) _).setCell (by exact hgow) _).trans ((Dr.refl _).one.below _)
                have HN := Lib.hid (show (((mul o0 x) ^^^ o1), ((mul o1 x) ^^^ o2), ((mul o2 x) ^^^ o3), ((mul o3 x) ^^^ dk)) = osf f0 f1 f2 f3 k from HSTEP.out _ _ _ _ HOS.out)
                go_wp2
                go_roundw
                case rel => exact ⟨k, (k : Int) - 1, _, _, _, _, by omega, rfl, rfl, had2, hax2, har2, hao2, hbr2, hq0, hq1, hq2, hp3, HN⟩
                case measure => simp [intOf]
end Go.Proofs.YtmckgdjipkkklaaDoor
