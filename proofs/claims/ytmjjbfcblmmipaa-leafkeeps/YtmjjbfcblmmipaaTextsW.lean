/- leaf.texts: copies of texts. -/
import Derived.Test.YtmjjbfcblmmipaaReadA
namespace Go.Proofs.Ytmjjbfcblmmipaa
set_option linter.unusedVariables false
set_option linter.unusedSimpArgs false
open Go.RowKit

/-- Texts, each with so many bytes more. -/
def szW (d : Nat) : List (List Int) → Nat
  | [] => 0
  | x :: r => d + x.length + szW d r
theorem szW_app (d : Nat) (a b : List (List Int)) : szW d (a ++ b) = szW d a + szW d b := by
  induction a with
  | nil => simp [szW]
  | cons x a ih => simp only [List.cons_append, szW, ih]; omega
theorem szW_take {d : Nat} {l : List (List Int)} {k : Nat} {x : List Int} (h : l[k]? = some x) : szW d (l.take (k + 1)) = szW d (l.take k) + (d + x.length) := by
  rw [List.take_add_one, h, szW_app]; simp [szW]
theorem szW_le (d : Nat) (l : List (List Int)) (k : Nat) : szW d (l.take k) ≤ szW d l := by
  conv => rhs; rw [← List.take_append_drop k l, szW_app]
  omega
set_option maxHeartbeats 2000000 in
theorem add_any (d : Nat) (A : Option Addr) (n c : Nat) (xss : List (List Int)) (g v : Nat) (w0 w : World) (hx : Bss w0 A n xss) (hb : Below w0.heap.size w0 w) (hg0 : w0.heap.size ≤ g) (hg : w.heap[g]? = some (.cells #[.int .i64 (v : Int)] 3 (0, 0)))
    (hn : n ≤ 20000000) (hv : v + szW d xss ≤ 1000000000000000000) (hd : d ≤ 1000) :
    Calls Try.prog 85 #[.int .i64 (d : Int), .slice A n c, .pointer (some ⟨g, 0, none⟩)] w fun e w' => e = .returned (.tuple #[]) ∧ w'.heap[g]? = some (.cells #[.int .i64 ((v + szW d xss : Nat) : Int)] 3 (0, 0)) ∧ Onl g w w' := by
  have HX := Lib.hid hx; have HB := Lib.hid hb; have HG := Lib.hid hg
  have HL : Hid (xss.length = n) := Lib.hid hx.1
  have hgl := lt_of_heap hg
  clear hx hb hg
  go_enter Try.func85, Try.ntmps85
  go_wp2
  go_loopw [9] (fun iv wr => ∃ kk : Nat, iv = .int .i64 kk ∧ kk ≤ n ∧ Hid (wr.heap[g]? = some (.cells #[.int .i64 ((v + szW d (xss.take kk) : Nat) : Int)] 3 (0, 0))) ∧ Hid (Onl g w wr)) (fun iv _ => n - (intOf iv).toNat)
  case atStart => exact ⟨0, rfl, Nat.zero_le _, HG, Lib.hid (Onl.refl _ _)⟩
  case round =>
    obtain ⟨kk, rfl, hk, HC, HO⟩ := hrel
    by_cases hlt : kk < n
    · have HBr := Lib.hid (HB.out.trans ((HO.out.below (Nat.le_of_lt hgl)).mono hg0))
      obtain ⟨b, off, A', n', c', xs, rfl, hbl, hcl, hxs, hnc, HXK⟩ := (HX.out.keep HBr.out).at_ hlt
      have HNL := Lib.hid hxs.len
      have hs := szW_take HXK.out (d := d)
      have hle := szW_le d xss (kk + 1)
      have hn' : n' ≤ 1000000000000000000 := by rw [← HNL.out]; omega
      obtain ⟨u, HU⟩ : ∃ u : Nat, Hid (v + szW d (xss.take kk) = u) := ⟨_, rfl⟩
      have hu2 : u + (d + n') ≤ 1000000000000000000 := by rw [← HU.out, ← HNL.out]; omega
      have HS : Hid (v + szW d (xss.take (kk + 1)) = u + (d + n')) := Lib.hid (by rw [hs, ← HU.out, ← HNL.out]; omega)
      rw [HU.out] at HC
      have z0 : (0 : Int) ≤ (kk : Int) := by omega
      have z1 : (kk : Int) < (n : Int) := by omega
      have q0 := rc_cell 0 (.int .i64 (u : Int)) HC.out rfl
      have f0 := two_frozen (i := 0) HC.out
      have HC2 := Lib.hid (rc_set (cs' := #[.int .i64 ((u : Int) + ((d : Int) + (n' : Int)))]) 0 (.int .i64 ((u : Int) + ((d : Int) + (n' : Int)))) HC.out rfl)
      have HO2 := Lib.hid (HO.out.trans (onl_set wr g 0 (.int .i64 ((u : Int) + ((d : Int) + (n' : Int))))))
      clear hs hle hxs
      go_wp2
      go_roundw
      case rel => exact ⟨kk + 1, by go_num, by omega, Lib.hid (by rw [HS.out]; exact HC2.out), HO2⟩
      case measure => simp [intOf]; omega
    · obtain rfl : n = kk := by omega
      have HT : Hid (xss.take n = xss) := Lib.hid (List.take_of_length_le (by rw [HL.out]; exact Nat.le_refl _))
      rw [HT.out] at HC
      go_wp2
      go_end0
      exact ⟨rfl, HC.out, HO.out⟩
theorem add_is (z : Int) (d : Nat) (hz : z = (d : Int)) (u : Int) (v t : Nat) (hu : u = (v : Int)) (A : Option Addr) (n c : Nat) (xss : List (List Int)) (g : Nat) (w0 w : World) (hx : Bss w0 A n xss) (hb : Below w0.heap.size w0 w) (hg0 : w0.heap.size ≤ g) (hg : w.heap[g]? = some (.cells #[.int .i64 u] 3 (0, 0)))
    (hn : n ≤ 20000000) (hv : v + szW d xss ≤ 1000000000000000000) (hd : d ≤ 1000) (ht : v + szW d xss = t) :
    Calls Try.prog 85 #[.int .i64 z, .slice A n c, .pointer (some ⟨g, 0, none⟩)] w fun e w' => e = .returned (.tuple #[]) ∧ w'.heap[g]? = some (.cells #[.int .i64 (t : Int)] 3 (0, 0)) ∧ Onl g w w' := by
  subst hz hu ht
  exact add_any d A n c xss g v w0 w hx hb hg0 hg hn hv hd
/-- A node's size. -/
def sizeN (lf : Bool) (ks vs : List (List Int)) (nD : Nat) : Nat := 3 + szW 1 ks + (if lf then szW 2 vs else 2 * nD)
set_option maxRecDepth 100000 in
set_option maxHeartbeats 4000000 in
theorem size_any (lf : Bool) (AK : Option Addr) (nK cK : Nat) (AV : Option Addr) (nV cV : Nat) (AD : Option Addr) (nD cD : Nat) (ks vs : List (List Int)) (w : World) (hk : Bss w AK nK ks) (hv : Bss w AV nV vs)
    (bK : nK ≤ 20000000) (bV : nV ≤ 20000000) (bD : nD ≤ 20000000) (sK : szW 1 ks ≤ 100000000000000000) (sV : szW 2 vs ≤ 100000000000000000) :
    Calls Try.prog 37 #[.agg #[.bool lf, .slice AK nK cK, .slice AV nV cV, .slice AD nD cD]] w fun e w' => e = .returned (.int .i64 (sizeN lf ks vs nD : Nat)) ∧ Below w.heap.size w w' := by
  have HK := Lib.hid hk; have HV := Lib.hid hv
  have hb1 := below_alloc w (.cells #[.bool lf, .slice AK nK cK, .slice AV nV cV, .slice AD nD cD] 70)
  have hb2 := below_alloc (w.alloc (.cells #[.bool lf, .slice AK nK cK, .slice AV nV cV, .slice AD nD cD] 70)) (.cells #[.int .i64 3] 3)
  have hs1 : (w.alloc (.cells #[.bool lf, .slice AK nK cK, .slice AV nV cV, .slice AD nD cD] 70)).heap.size = w.heap.size + 1 := by simp
  have HBX := Lib.hid ((hb2.block w.heap.size (by omega)).trans (heap_alloc_new w (.cells #[.bool lf, .slice AK nK cK, .slice AV nV cV, .slice AD nD cD] 70)))
  have hgc := heap_alloc_new (w.alloc (.cells #[.bool lf, .slice AK nK cK, .slice AV nV cV, .slice AD nD cD] 70)) (.cells #[.int .i64 3] 3)
  rw [hs1] at hgc
  have HGC := Lib.hid hgc
  have HB := Lib.hid (hb1.trans (hb2.mono (by omega)))
  obtain ⟨u, HU⟩ : ∃ u : Nat, Hid (3 + szW 1 ks = u) := ⟨_, rfl⟩
  have hu : u ≤ 200000000000000000 := by rw [← HU.out]; omega
  obtain ⟨r, HR⟩ : ∃ r : Nat, Hid (u + szW 2 vs = r) := ⟨_, rfl⟩
  have q1 := rc_cell 1 (.slice AK nK cK) HBX.out rfl
  clear hk hv hb1 hb2 hs1 hgc
  go_enter Try.func37, Try.ntmps37
  go_wp2_with fail
  clear q1
  generalize ((w.alloc (.cells #[.bool lf, .slice AK nK cK, .slice AV nV cV, .slice AD nD cD] 70)).alloc (.cells #[.int .i64 3] 3)) = y at *
  refine (add_is 1 1 rfl 3 3 u rfl AK nK cK ks (w.heap.size + 1) w y HK.out HB.out (Nat.le_succ _) HGC.out bK (by omega) (by omega) HU.out).mono ?_
  rintro e w1 ⟨rfl, hg1, ho1⟩
  have HG1 := Lib.hid hg1
  have HB1 := Lib.hid (HB.out.trans ((ho1.below (Nat.le_of_lt (lt_of_heap HGC.out))).mono (Nat.le_succ _)))
  have HX1 := Lib.hid ((ho1.block w.heap.size (lt_of_heap HBX.out) (by intro e; injection e with e; omega)).trans HBX.out)
  clear hg1 ho1 HGC HBX HB
  have q0 := rc_cell 0 (.bool lf) HX1.out rfl
  have q2 := rc_cell 2 (.slice AV nV cV) HX1.out rfl
  have q3 := rc_cell 3 (.slice AD nD cD) HX1.out rfl
  have p0 := rc_cell 0 (.int .i64 (u : Int)) HG1.out rfl
  have pf := two_frozen (i := 0) HG1.out
  cases lf with
  | true =>
    have HSZ : Hid ((sizeN true ks vs nD : Nat) = r) := Lib.hid (by unfold sizeN; rw [if_pos rfl, HU.out, HR.out])
    go_wp2_with fail
    clear q0 q2 q3 p0 pf
    refine (add_is 2 2 rfl (u : Int) u r rfl AV nV cV vs (w.heap.size + 1) w w1 HV.out HB1.out (Nat.le_succ _) HG1.out bV (by omega) (by omega) HR.out).mono ?_
    rintro e w2 ⟨rfl, hg2, ho2⟩
    have HB2 := Lib.hid (HB1.out.trans ((ho2.below (Nat.le_of_lt (lt_of_heap HG1.out))).mono (Nat.le_succ _)))
    have p1 := rc_cell 0 (.int .i64 (r : Int)) hg2 rfl
    clear hg2 ho2
    go_wp2
    go_ret
    exact ⟨ret_int (by rw [HSZ.out]), HB2.out⟩
  | false =>
    have HSZ : Hid ((sizeN false ks vs nD : Nat) = u + 2 * nD) := Lib.hid (by unfold sizeN; rw [if_neg (by simp), HU.out])
    have HB2 := Lib.hid (HB1.out.trans (((onl_set w1 (w.heap.size + 1) 0 (.int .i64 ((u : Int) + 2 * (nD : Int)))).below (Nat.le_of_lt (lt_of_heap HG1.out))).mono (Nat.le_succ _)))
    have p1 := rc_cell 0 (.int .i64 ((u : Int) + 2 * (nD : Int))) (rc_set 0 (.int .i64 ((u : Int) + 2 * (nD : Int))) HG1.out rfl) rfl
    go_wp2
    go_ret
    exact ⟨ret_int (by rw [HSZ.out]; simp), HB2.out⟩
end Go.Proofs.Ytmjjbfcblmmipaa
namespace Go.Proofs.Ytmjjbfcblmmipaa
set_option linter.unusedVariables false
set_option linter.unusedSimpArgs false
open Go.RowKit

set_option maxHeartbeats 4000000 in
theorem texts_any (A : Option Addr) (n c : Nat) (xss : List (List Int)) (w : World) (hx : Bss w A n xss) (hn : n ≤ 100000) (hl : ∀ xs ∈ xss, xs.length ≤ 140737488355328) :
    Calls Try.prog 102 #[.slice A n c] w fun e w' => ∃ A' c', e = .returned (.slice A' n c') ∧ Prts w' w.heap.size A' n c' xss ∧ Below w.heap.size w w' := by
  obtain ⟨i0, hi, hz0, hz1, hz2⟩ := info_parts info23
  have HX := Lib.hid hx; have HLL := Lib.hid hl
  have HL : Hid (xss.length = n) := Lib.hid hx.1
  clear hx hl
  go_enter Try.func102, Try.ntmps102
  go_wp2
  go_loopw [3, 8] (fun fv iv wr => ∃ (kk c' : Nat) (A' : Option Addr), fv = .slice A' kk c' ∧ iv = .int .i64 kk ∧ kk ≤ n ∧ Hid (Prts wr w.heap.size A' kk c' (xss.take kk)) ∧ Hid (Below w.heap.size w wr)) (fun _ iv _ => n - (intOf iv).toNat)
  case atStart => exact ⟨0, 0, none, rfl, rfl, Nat.zero_le _, Lib.hid Prts.nil_, Lib.hid (Below.refl _ _)⟩
  case round =>
    obtain ⟨kk, c', A', rfl, rfl, hk, HP, HB⟩ := hrel
    by_cases hlt : kk < n
    · obtain ⟨b, off, A1, n1, c1, xs, rfl, hbl, hcl, hxs, hnc, HXK⟩ := (HX.out.keep HB.out).at_ hlt
      have HXS := Lib.hid hxs
      have HNL := Lib.hid hxs.len
      have hn1 : n1 ≤ 140737488355328 := by rw [← HNL.out]; exact HLL.out xs (List.mem_of_getElem? HXK.out)
      have HTK : Hid (xss.take kk ++ [xs] = xss.take (kk + 1)) := Lib.hid (by rw [List.take_add_one, HXK.out]; rfl)
      have z0 : (0 : Int) ≤ (kk : Int) := by omega
      have z1 : (kk : Int) < (n : Int) := by omega
      clear hxs
      go_wp2_with fail
      refine (clone_any A1 n1 c1 xs wr HXS.out hn1).mono ?_
      rintro e w2 ⟨A2, c2, rfl, ho2, hb2⟩
      obtain ⟨vs, hrow, HROW⟩ := HP.out.row (w := w2) (fun e B m d us hh => hh.below hb2 (fun k hk => (hh.lies k hk).2)) (.cells #[.slice A2 n1 c2] 28)
      have HO2 := Lib.hid ho2; have HR := Lib.hid hrow
      have HB2 := Lib.hid (HB.out.trans (hb2.mono HB.out.size))
      have hs2 := HB2.out.size
      have hs1 := HB.out.size
      clear ho2 hb2 hrow HP HB
      go_wp2_with (at_builtin; refine wpList_append_rd rfl _ _ 62 rfl i0 (.slice none 0 0) 24 Try.underlying62 hi hz0 hz1 hz2 rfl rfl HR.out (some ⟨w2.heap.size, 0, none⟩) 1 1 [.slice A2 n1 c2] rfl (rd_oneV w2 _ 28) (one_slice _ _ _) ?c1 ?c2 ?c3 ?_)
      case c1 => unfold maxLen; omega
      case c2 => omega
      case c3 => simp; omega
      intro A4 c4 w4 ho4 hg4
      have hb3 := Lib.hid ((HB2.out.alloc (by omega) (.cells #[.slice A2 n1 c2] 28)).trans (hg4.below (B := w.heap.size) (by simp; omega) (fun k hk => (HR.out.lies k hk).1)))
      have HP4 : Hid (Prts w4 w.heap.size A4 (kk + 1) c4 (xss.take (kk + 1))) := by
        rw [← HTK.out]
        refine HROW.out A2 c2 xs w4 A4 c4 ?_ (fun b hb => (HO2.out.lies b hb).1) HXS.out.2 ?_ hg4
        · rw [HNL.out]; exact HO2.out.mono hs1
        · rw [HNL.out]; exact ho4
      clear ho4 hg4
      go_wp2
      go_roundw
      case rel => exact ⟨kk + 1, c4, A4, rfl, by go_num, by omega, HP4, hb3⟩
      case measure => simp [intOf]; omega
    · obtain rfl : n = kk := by omega
      have HT : Hid (xss.take n = xss) := Lib.hid (List.take_of_length_le (by rw [HL.out]; exact Nat.le_refl _))
      rw [HT.out] at HP
      go_wp2
      go_ret
      exact ⟨A', c', rfl, HP.out, HB.out⟩
end Go.Proofs.Ytmjjbfcblmmipaa
