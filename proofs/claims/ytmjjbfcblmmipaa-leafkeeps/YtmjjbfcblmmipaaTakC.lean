/- leaf's taken: its state, and what a round leaves. -/
import Derived.Test.YtmjjbfcblmmipaaAwkL
import Derived.Deep.CutRange
import Derived.Test.YtmjjbfcblmmipaaJoinN
import Derived.Deep.LoopGhost
namespace Go.Proofs.Ytmjjbfcblmmipaa
set_option linter.unusedVariables false
set_option linter.unusedSimpArgs false
open Go.RowKit
/-- A number of up to two bytes. -/
def nmL : List Int → Nat
  | [] => 0
  | [a] => a.toNat
  | a :: b :: _ => a.toNat * 256 + b.toNat
/-- So many bytes from a place on, or fewer at the end. -/
def txL (P : List Int) (k s : Nat) : List Int := (P.drop k).take s
/-- Of what is left of a page: the next key, what is behind it, the value or the kid there, and what is behind that. -/
def keyO (R : List Int) : List Int := (R.drop 1).take (nmL (R.take 1))
def aftO (R : List Int) : List Int := (R.drop 1).drop (nmL (R.take 1))
def valO (R : List Int) : List Int := ((aftO R).drop 2).take (nmL ((aftO R).take 2))
def kidO (R : List Int) : Int := ((nmL ((aftO R).take 2) : Nat) : Int)
def resO (lf : Bool) (R : List Int) : List Int := if lf then ((aftO R).drop 2).drop (nmL ((aftO R).take 2)) else (aftO R).drop 2
def tkE {α : Type} (f : List Int → α) (lf : Bool) : Nat → List Int → List α
  | 0, _ => []
  | j + 1, R => if R.length = 0 then [] else f R :: tkE f lf j (resO lf R)
theorem tkE_zero {α : Type} (f : List Int → α) (lf : Bool) (R : List Int) : tkE f lf 0 R = [] := rfl
theorem tkE_nil {α : Type} (f : List Int → α) (lf : Bool) (j : Nat) : tkE f lf j [] = [] := by cases j <;> rfl
theorem tkE_succ {α : Type} (f : List Int → α) (lf : Bool) (j : Nat) (R : List Int) (h : 0 < R.length) : tkE f lf (j + 1) R = f R :: tkE f lf j (resO lf R) := by
  show (if R.length = 0 then [] else f R :: tkE f lf j (resO lf R)) = _
  rw [if_neg (by omega)]
theorem tkE_len {α β : Type} (f : List Int → α) (g : List Int → β) (lf : Bool) : ∀ (j : Nat) (R : List Int), (tkE f lf j R).length = (tkE g lf j R).length := by
  intro j
  induction j with
  | zero => intro R; rfl
  | succ j ih =>
    intro R
    by_cases h : 0 < R.length
    · rw [tkE_succ f lf j R h, tkE_succ g lf j R h]; simp [ih]
    · have : R = [] := List.eq_nil_of_length_eq_zero (by omega)
      subst this; rw [tkE_nil, tkE_nil]; rfl
/-- What the whole page says. -/
def lfT (P : List Int) : Bool := nmL (P.take 1) == 1
def nT (P : List Int) : Nat := nmL ((P.drop 1).take 2)
def R0 (P : List Int) : List Int := if lfT P then P.drop 3 else P.drop 5
def ksT (P : List Int) : List (List Int) := tkE keyO (lfT P) (nT P) (R0 P)
def vsT (P : List Int) : List (List Int) := if lfT P then tkE valO true (nT P) (R0 P) else []
def dsT (P : List Int) : List Int := if lfT P then [] else ((nmL ((P.drop 3).take 2) : Nat) : Int) :: tkE kidO false (nT P) (R0 P)
/-- One entry's bytes. -/
def entP (lf : Bool) (ks vs : List (List Int)) (ds : List Int) (j : Nat) : List Int :=
  [((ks.getD j []).length : Int)] ++ ks.getD j [] ++ (if lf then tw (vs.getD j []).length ++ vs.getD j [] else tw (ds.getD (j + 1) 0).toNat)
theorem nm_tw (n : Nat) (X : List Int) : nmL ((tw n ++ X).take 2) = n := by
  simp only [tw, List.cons_append, List.nil_append, List.take_succ_cons, List.take_zero, nmL, Int.toNat_natCast]
  omega
theorem dr_tw (n : Nat) (X : List Int) : (tw n ++ X).drop 2 = X := by simp [tw]
theorem key_ent (k : List Int) (X : List Int) : keyO ([((k.length : Nat) : Int)] ++ k ++ X) = k := by
  simp [keyO, nmL]
theorem aft_ent (k : List Int) (X : List Int) : aftO ([((k.length : Nat) : Int)] ++ k ++ X) = X := by
  simp [aftO, nmL]
theorem entL_at (ks vs : List (List Int)) (ds : List Int) (j : Nat) (X : List Int) :
    keyO (entP true ks vs ds j ++ X) = ks.getD j [] ∧ valO (entP true ks vs ds j ++ X) = vs.getD j [] ∧ resO true (entP true ks vs ds j ++ X) = X := by
  have e : entP true ks vs ds j ++ X = [(((ks.getD j []).length : Nat) : Int)] ++ ks.getD j [] ++ (tw (vs.getD j []).length ++ (vs.getD j [] ++ X)) := by simp [entP]
  rw [e]
  refine ⟨key_ent _ _, ?_, ?_⟩
  · unfold valO; rw [aft_ent, nm_tw, dr_tw]; simp
  · unfold resO; rw [if_pos rfl, aft_ent, nm_tw, dr_tw]; simp
theorem entF_at (ks vs : List (List Int)) (ds : List Int) (j : Nat) (X : List Int) (h0 : 0 ≤ ds.getD (j + 1) 0) :
    keyO (entP false ks vs ds j ++ X) = ks.getD j [] ∧ kidO (entP false ks vs ds j ++ X) = ds.getD (j + 1) 0 ∧ resO false (entP false ks vs ds j ++ X) = X := by
  have e : entP false ks vs ds j ++ X = [(((ks.getD j []).length : Nat) : Int)] ++ ks.getD j [] ++ (tw (ds.getD (j + 1) 0).toNat ++ X) := by simp [entP]
  rw [e]
  refine ⟨key_ent _ _, ?_, ?_⟩
  · unfold kidO; rw [aft_ent, nm_tw]; omega
  · unfold resO; rw [if_neg (by decide), aft_ent, dr_tw]
theorem ent_pos (lf : Bool) (ks vs : List (List Int)) (ds : List Int) (j : Nat) (X : List Int) : 0 < (entP lf ks vs ds j ++ X).length := by simp [entP]
/-- The last i entries, and what is behind them. -/
def sufP (lf : Bool) (ks vs : List (List Int)) (ds : List Int) (Z : List Int) : Nat → List Int
  | 0 => Z
  | i + 1 => entP lf ks vs ds (ks.length - (i + 1)) ++ sufP lf ks vs ds Z i
theorem encP_suf (lf : Bool) (ks vs : List (List Int)) (ds : List Int) (Z : List Int) : ∀ i, i ≤ ks.length → encP lf ks vs ds (ks.length - i) ++ sufP lf ks vs ds Z i = encP lf ks vs ds ks.length ++ Z := by
  intro i
  induction i with
  | zero => intro _; rfl
  | succ i ih =>
    intro hi
    rw [← ih (by omega)]
    obtain ⟨j, hj⟩ : ∃ j, ks.length - i = j + 1 := ⟨ks.length - (i + 1), by omega⟩
    have hj2 : ks.length - (i + 1) = j := by omega
    rw [sufP, hj, hj2, ← List.append_assoc]
    rfl
theorem drop_getD {α : Type} (l : List α) (d : α) (i : Nat) (hi : i + 1 ≤ l.length) : l.drop (l.length - (i + 1)) = l.getD (l.length - (i + 1)) d :: l.drop (l.length - i) := by
  have hlt : l.length - (i + 1) < l.length := by omega
  rw [List.drop_eq_getElem_cons hlt, show l.length - (i + 1) + 1 = l.length - i by omega]
  congr 1
  simp [List.getD, List.getElem?_eq_getElem hlt]
theorem tkL_suf (ks vs : List (List Int)) (ds : List Int) (Z : List Int) (hv : vs.length = ks.length) : ∀ i, i ≤ ks.length →
    tkE keyO true i (sufP true ks vs ds Z i) = ks.drop (ks.length - i) ∧ tkE valO true i (sufP true ks vs ds Z i) = vs.drop (vs.length - i) := by
  intro i
  induction i with
  | zero => intro _; simp [tkE]
  | succ i ih =>
    intro hi
    obtain ⟨h1, h2⟩ := ih (by omega)
    obtain ⟨e1, e2, e3⟩ := entL_at ks vs ds (ks.length - (i + 1)) (sufP true ks vs ds Z i)
    rw [sufP, tkE_succ _ _ _ _ (ent_pos ..), tkE_succ _ _ _ _ (ent_pos ..), e1, e2, e3, h1, h2]
    refine ⟨(drop_getD ks [] i hi).symm, ?_⟩
    rw [drop_getD vs [] i (by omega), hv]
theorem tkF_suf (ks vs : List (List Int)) (ds : List Int) (Z : List Int) (hd : ds.length = ks.length + 1) (h0 : ∀ d ∈ ds, 0 ≤ d) : ∀ i, i ≤ ks.length →
    tkE keyO false i (sufP false ks vs ds Z i) = ks.drop (ks.length - i) ∧ tkE kidO false i (sufP false ks vs ds Z i) = ds.drop (ds.length - i) := by
  intro i
  induction i with
  | zero => intro _; simp [tkE]
  | succ i ih =>
    intro hi
    obtain ⟨h1, h2⟩ := ih (by omega)
    have hlt : ks.length - (i + 1) + 1 < ds.length := by omega
    have hg : 0 ≤ ds.getD (ks.length - (i + 1) + 1) 0 := by
      simp only [List.getD, List.getElem?_eq_getElem hlt, Option.getD_some]
      exact h0 _ (List.getElem_mem hlt)
    obtain ⟨e1, e2, e3⟩ := entF_at ks vs ds (ks.length - (i + 1)) (sufP false ks vs ds Z i) hg
    rw [sufP, tkE_succ _ _ _ _ (ent_pos ..), tkE_succ _ _ _ _ (ent_pos ..), e1, e2, e3, h1, h2]
    refine ⟨(drop_getD ks [] i hi).symm, ?_⟩
    rw [drop_getD ds 0 i (by omega), show ks.length - (i + 1) + 1 = ds.length - (i + 1) by omega]
/-- Of a leaf's page the leaf is taken. -/
theorem take_leaf (ks vs : List (List Int)) (ds Z : List Int) (hv : vs.length = ks.length) :
    lfT (encP true ks vs ds ks.length ++ Z) = true ∧ ksT (encP true ks vs ds ks.length ++ Z) = ks ∧ vsT (encP true ks vs ds ks.length ++ Z) = vs ∧ dsT (encP true ks vs ds ks.length ++ Z) = [] := by
  have e := encP_suf true ks vs ds Z ks.length (Nat.le_refl _)
  rw [Nat.sub_self] at e
  rw [← e]
  have e0 : encP true ks vs ds 0 ++ sufP true ks vs ds Z ks.length = [1] ++ (tw ks.length ++ sufP true ks vs ds Z ks.length) := by simp [encP]
  have hl : lfT (encP true ks vs ds 0 ++ sufP true ks vs ds Z ks.length) = true := by rw [e0]; simp [lfT, nmL]
  have hn : nT (encP true ks vs ds 0 ++ sufP true ks vs ds Z ks.length) = ks.length := by
    rw [e0]; unfold nT
    rw [List.singleton_append, List.drop_succ_cons, List.drop_zero, nm_tw]
  have hR : R0 (encP true ks vs ds 0 ++ sufP true ks vs ds Z ks.length) = sufP true ks vs ds Z ks.length := by
    unfold R0; rw [hl, if_pos rfl, e0]; simp [tw]
  obtain ⟨h1, h2⟩ := tkL_suf ks vs ds Z hv ks.length (Nat.le_refl _)
  refine ⟨hl, ?_, ?_, ?_⟩
  · unfold ksT; rw [hl, hn, hR, h1]; simp
  · unfold vsT; rw [hl, if_pos rfl, hn, hR, h2, hv]; simp
  · unfold dsT; rw [hl, if_pos rfl]
/-- Of a fork's page the fork is taken. -/
theorem take_fork (ks vs : List (List Int)) (ds Z : List Int) (hd : ds.length = ks.length + 1) (h0 : ∀ d ∈ ds, 0 ≤ d) :
    lfT (encP false ks vs ds ks.length ++ Z) = false ∧ ksT (encP false ks vs ds ks.length ++ Z) = ks ∧ vsT (encP false ks vs ds ks.length ++ Z) = [] ∧ dsT (encP false ks vs ds ks.length ++ Z) = ds := by
  have e := encP_suf false ks vs ds Z ks.length (Nat.le_refl _)
  rw [Nat.sub_self] at e
  rw [← e]
  have e0 : encP false ks vs ds 0 ++ sufP false ks vs ds Z ks.length = [2] ++ (tw ks.length ++ (tw (ds.getD 0 0).toNat ++ sufP false ks vs ds Z ks.length)) := by simp [encP]
  have hl : lfT (encP false ks vs ds 0 ++ sufP false ks vs ds Z ks.length) = false := by rw [e0]; simp [lfT, nmL]
  have hn : nT (encP false ks vs ds 0 ++ sufP false ks vs ds Z ks.length) = ks.length := by
    rw [e0]; unfold nT
    rw [List.singleton_append, List.drop_succ_cons, List.drop_zero, nm_tw]
  have hR : R0 (encP false ks vs ds 0 ++ sufP false ks vs ds Z ks.length) = sufP false ks vs ds Z ks.length := by
    unfold R0; rw [hl, if_neg (by decide), e0]; simp [tw]
  obtain ⟨h1, h2⟩ := tkF_suf ks vs ds Z hd h0 ks.length (Nat.le_refl _)
  refine ⟨hl, ?_, ?_, ?_⟩
  · unfold ksT; rw [hl, hn, hR, h1]; simp
  · unfold vsT; rw [hl, if_neg (by decide)]
  · unfold dsT; rw [hl, if_neg (by decide), hn, hR, h2]
    have hlt : 0 < ds.length := by omega
    have hd0 : ds.getD 0 0 = ds[0] := by simp [List.getD, List.getElem?_eq_getElem hlt]
    have hg : 0 ≤ ds.getD 0 0 := by rw [hd0]; exact h0 _ (List.getElem_mem hlt)
    have e3 : (encP false ks vs ds 0 ++ sufP false ks vs ds Z ks.length).drop 3 = tw (ds.getD 0 0).toNat ++ sufP false ks vs ds Z ks.length := by rw [e0]; simp [tw]
    rw [e3, nm_tw, Int.toNat_of_nonneg hg, hd0, hd, show ks.length + 1 - ks.length = 0 + 1 by omega]
    exact (List.drop_eq_getElem_cons hlt).symm
end Go.Proofs.Ytmjjbfcblmmipaa
namespace Go.Proofs.Ytmjjbfcblmmipaa
set_option linter.unusedVariables false
set_option linter.unusedSimpArgs false
open Go.RowKit
theorem slice28_lh (A : Option Addr) (n c lo hi : Nat) (h : lo ≤ hi) (h2 : hi ≤ c) (W : World) :
    (Instr.slice 28 (.slice A n c) (some (.int .i64 (lo : Int))) (some (.int .i64 (hi : Int))) none).run Try.prog W = .ok (.slice (cutA A c lo) (hi - lo) (c - lo)) W := by
  rw [run_slice_lh (P := Try.prog) W 28 A n c elem28 .i64 .i64 (lo : Int) (hi : Int) (by omega) (by omega) (by omega), elem28', Try.sizeOf5]
  simp only [sliced, Result.andThen, Int.toNat_natCast, Nat.mul_one]; rfl
/-- The page's box, the place's box, the page. -/
structure TC (W : World) (g0 g2 : Nat) (A : Option Addr) (c : Nat) (P : List Int) (k : Nat) : Prop where
  box : W.heap[g0]? = some (.cells #[.slice A 512 c] 28 (0, 0))
  at_ : W.heap[g2]? = some (.cells #[.int .i64 (k : Int)] 3 (0, 0))
  pg : Bs W A 512 P
  ne : blk A ≠ some g2
  hc : 512 ≤ c
  hk : k ≤ 512
theorem TC.keep {W W' : World} {g0 g2 c k : Nat} {A : Option Addr} {P : List Int} (h : TC W g0 g2 A c P k) (hb : Below W.heap.size W W') : TC W' g0 g2 A c P k :=
  ⟨(hb.block _ (lt_of_heap h.box)).trans h.box, (hb.block _ (lt_of_heap h.at_)).trans h.at_, h.pg.keep hb, h.ne, h.hc, h.hk⟩
theorem TC.g {W : World} {g0 g2 c k : Nat} {A : Option Addr} {P : List Int} (h : TC W g0 g2 A c P k) : g0 ≠ g2 := by
  intro e; have := h.box; rw [e, h.at_] at this; injection this with this; injection this with _ t; cases t
theorem TC.move {W W' : World} {g0 g2 c k k' : Nat} {A : Option Addr} {P : List Int} (h : TC W g0 g2 A c P k) (ho : Onl g2 W W') (hk : k' ≤ 512) (ha : W'.heap[g2]? = some (.cells #[.int .i64 (k' : Int)] 3 (0, 0))) : TC W' g0 g2 A c P k' :=
  ⟨(ho.block _ (lt_of_heap h.box) (by intro e; injection e with e; exact h.g e)).trans h.box, ha, h.pg.onl ho h.ne, h.ne, h.hc, hk⟩
theorem tx_len {P : List Int} (hP : P.length = 512) (k s : Nat) : (txL P k s).length = min s (512 - k) := by unfold txL; rw [List.length_take, List.length_drop, hP]
theorem tx_ran {P : List Int} (h : Ran P) (k s : Nat) : Ran (txL P k s) := h.sub fun x hx => List.mem_of_mem_drop (List.mem_of_mem_take hx)
set_option maxRecDepth 100000 in
set_option maxHeartbeats 4000000 in
theorem textc_any (A : Option Addr) (c g0 g2 k s m : Nat) (P : List Int) (w : World) (h : TC w g0 g2 A c P k) (hs : s ≤ 65535) (hm : min s (512 - k) = m) :
    Calls Try.prog 126 #[.int .i64 (s : Int), .pointer (some ⟨g0, 0, none⟩), .pointer (some ⟨g2, 0, none⟩)] w fun e w' => ∃ T ct, e = .returned (.slice T m ct) ∧ Own w' w.heap.size 5 T m ct (By (txL P k s)) ∧ TC w' g0 g2 A c P (k + m) ∧ Onl g2 w w' := by
  have hk := h.hk; have hc := h.hc
  obtain ⟨k', hk'⟩ : ∃ k', k + m = k' := ⟨_, rfl⟩
  rw [hk']
  have hkm : k' ≤ 512 := by omega
  have q0 := rc_cell 0 (.slice A 512 c) h.box rfl
  have q2 := rc_cell 0 (.int .i64 (k : Int)) h.at_ rfl
  have f2 := two_frozen (i := 0) h.at_
  have A1 := rc_set (cs' := #[.int .i64 (k' : Int)]) 0 (.int .i64 (k' : Int)) h.at_ rfl
  have o1 := onl_set w g2 0 (.int .i64 (k' : Int))
  have T1 := h.move o1 hkm A1
  have hmin : min (s : Int) (512 - (k : Int)) = (m : Int) := by omega
  have hsum : (k : Int) + (m : Int) = (k' : Int) := by omega
  have hdif : (k' : Int) - (m : Int) = (k : Int) := by omega
  have sl := slice28_lh A 512 c k k' (by omega) (by omega)
  have e1 : k' - k = m := by omega
  rw [e1] at sl
  have HT := Lib.hid T1; have HO := Lib.hid o1
  have HX : Hid (Bs (w.setCell ⟨g2, 0, none⟩ (.int .i64 (k' : Int))) (cutA A c k) m (txL P k s)) := Lib.hid (by
    have := T1.pg.cut (lo := k) (hi := k') (by omega) (by omega) hc
    rw [e1] at this
    have e2 : (P.drop k).take m = txL P k s := by
      unfold txL
      rw [← hm, ← List.take_take, List.take_of_length_le (l := P.drop k) (by rw [List.length_drop, h.pg.len]; omega)]
    rwa [e2] at this)
  have hsz : (w.setCell ⟨g2, 0, none⟩ (.int .i64 (k' : Int))).heap.size = w.heap.size := by simp [World.setCell]
  clear h A1 o1 T1 
  go_enter Try.func126, Try.ntmps126
  go_upto_region 3 with fail
  generalize w.setCell ⟨g2, 0, none⟩ (.int .i64 (k' : Int)) = y at *
  have B1 := rc_cell 0 (.slice A 512 c) HT.out.box rfl
  have C1 := rc_cell 0 (.int .i64 (k' : Int)) HT.out.at_ rfl
  go_wp2_with fail
  refine (clone_any (cutA A c k) m (c - k) (txL P k s) y HX.out (by omega)).mono ?_
  rintro e y2 ⟨T, ct, rfl, ho, hb⟩
  rw [hsz] at ho
  have HO2 := Lib.hid ho; have HT2 := Lib.hid (HT.out.keep hb); have HN := Lib.hid (HO.out.trans (Onl.of_below hb))
  clear ho hb
  go_wp2
  go_ret
  exact ⟨T, ct, rfl, HO2.out, HT2.out, HN.out⟩
theorem or_i64 (x b : Int) (hx : 0 ≤ x) (hx1 : x ≤ 255) (hb : 0 ≤ b) (hb1 : b ≤ 255) : bits .or .i64 (x * 256) b = x * 256 + b := by
  obtain ⟨x, rfl⟩ := Int.eq_ofNat_of_zero_le hx
  obtain ⟨b, rfl⟩ := Int.eq_ofNat_of_zero_le hb
  have e : (2 : Nat) ^ 8 * x + b = 2 ^ 8 * x ||| b := Nat.two_pow_add_eq_or_of_lt (by omega) x
  have e2 : x * 256 ||| b = x * 256 + b := by rw [Nat.mul_comm]; exact e.symm
  have hv : ∀ a : Nat, a < 2 ^ 64 → (BitVec.ofInt 64 (a : Int)).toNat = a := fun a h => by
    rw [BitVec.ofInt_natCast, BitVec.toNat_ofNat]; exact Nat.mod_eq_of_lt h
  have e3 : ((x : Int) * 256) = ((x * 256 : Nat) : Int) := by simp
  rw [e3]
  show IntKind.i64.wrap ((BitVec.ofInt 64 ((x * 256 : Nat) : Int) ||| BitVec.ofInt 64 (b : Int)).toNat : Int) = _
  rw [BitVec.toNat_or, hv _ (by omega), hv _ (by omega), e2, IntWalk.i64_in _ (by omega)]
  simp
theorem nm_step {xs : List Int} {j : Nat} {x : Int} (hl : xs.length ≤ 2) (hr : Ran xs) (h : xs[j]? = some x) : ((nmL (xs.take (j + 1)) : Nat) : Int) = ((nmL (xs.take j) : Nat) : Int) * 256 + x := by
  have hj := (List.getElem?_eq_some_iff.1 h).1
  match xs, hl with
  | [], _ => simp at h
  | [a], _ =>
    have ha := hr a (by simp)
    obtain rfl : j = 0 := by simp at hj; omega
    simp at h; subst h
    simp [nmL]; omega
  | [a, b], _ =>
    have ha := hr a (by simp)
    have hb := hr b (by simp)
    rcases j with _ | _ | j
    · simp at h; subst h
      simp [nmL]; omega
    · simp at h; subst h
      simp [nmL]; omega
    · omega
theorem nm_bd {xs : List Int} (hl : xs.length ≤ 2) (hr : Ran xs) : nmL xs ≤ 65535 := by
  match xs, hl with
  | [], _ => simp [nmL]
  | [a], _ => have ha := hr a (by simp); simp [nmL]; omega
  | [a, b], _ => have ha := hr a (by simp); have hb := hr b (by simp); simp [nmL]; omega
theorem nm_bd1 {xs : List Int} (hl : xs.length ≤ 1) (hr : Ran xs) : nmL xs ≤ 255 := by
  match xs, hl with
  | [], _ => simp [nmL]
  | [a], _ => have ha := hr a (by simp); simp [nmL]; omega
abbrev txF (g0 g2 : Nat) : Value := .func (.func 126) #[] #[.pointer (some ⟨g0, 0, none⟩), .pointer (some ⟨g2, 0, none⟩)]
set_option maxRecDepth 100000 in
set_option maxHeartbeats 4000000 in
theorem numc_any (A : Option Addr) (c g0 g2 g3 k s m v : Nat) (z : Int) (P : List Int) (w : World) (h : TC w g0 g2 A c P k) (hz : z = (s : Int)) (hs : s ≤ 2) (hm : min s (512 - k) = m) (h3 : w.heap[g3]? = some (.cells #[txF g0 g2] 175 (0, 0))) (hv : nmL (txL P k s) = v) :
    Calls Try.prog 127 #[.int .i64 z, .pointer (some ⟨g3, 0, none⟩)] w fun e w' => e = .returned (.int .i64 (v : Int)) ∧ TC w' g0 g2 A c P (k + m) ∧ Onl g2 w w' := by
  subst hz
  have q3 := rc_cell 0 (txF g0 g2) h3 rfl
  have HL : Hid ((txL P k s).length = m) := Lib.hid (by rw [tx_len h.pg.len]; exact hm)
  have hr := tx_ran h.pg.2 k s
  have HR := Lib.hid hr; have HV := Lib.hid hv; have H := Lib.hid h
  have hm2 : m ≤ 2 := by omega
  clear h h3 hr
  go_enter Try.func127, Try.ntmps127
  go_wp2_with fail
  refine (textc_any A c g0 g2 k s m P w H.out (by omega) hm).mono ?_
  rintro e y ⟨T, ct, rfl, ho, ht, hn⟩
  have HX := Lib.hid (ho.bs HR.out); have HT := Lib.hid ht; have HN := Lib.hid hn
  clear ho ht hn q3 hv
  generalize HXS : txL P k s = xs at *
  go_wp2_with fail
  go_loop [4, 11] (fun ov iv => ∃ j : Nat, j ≤ m ∧ iv = .int .i64 (j : Int) ∧ ov = .int .i64 ((nmL (xs.take j) : Nat) : Int)) (fun _ iv => m - (intOf iv).toNat)
  case atStart => exact ⟨0, Nat.zero_le _, rfl, by simp [nmL]⟩
  case round =>
    obtain ⟨j, hj, rfl, rfl⟩ := hrel
    by_cases hlt : j < m
    · obtain ⟨b, off, x, rfl, hbl, x0, x1, hc, HK⟩ := HX.out.at_ hlt
      have HS := Lib.hid (nm_step (by rw [HL.out]; exact hm2) HR.out HK.out)
      have hb1 : nmL (xs.take j) ≤ 255 := nm_bd1 (by rw [List.length_take, HL.out]; omega) (HR.out.sub fun x hx => List.mem_of_mem_take hx)
      generalize nmL (xs.take j) = u at *
      have hor := or_i64 (u : Int) x (by omega) (by omega) x0 x1
      have hw : IntKind.i64.wrap ((u : Int) * 256) = (u : Int) * 256 := IntWalk.i64_in _ (by omega)
      have z0 : (0 : Int) ≤ (j : Int) := by omega
      have z1 : (j : Int) < (m : Int) := by omega
      go_wp2
      go_round
      case rel => exact ⟨j + 1, by omega, by go_num, by rw [HS.out]⟩
      case measure => simp [intOf]; omega
    · obtain rfl : m = j := by omega
      have e : xs.take m = xs := List.take_of_length_le (by rw [HL.out]; exact Nat.le_refl _)
      rw [e, HV.out]
      go_wp2
      go_ret
      exact ⟨rfl, HT.out, HN.out⟩
end Go.Proofs.Ytmjjbfcblmmipaa
namespace Go.Proofs.Ytmjjbfcblmmipaa
set_option linter.unusedVariables false
set_option linter.unusedSimpArgs false
open Go.RowKit
theorem TC.keepB {W W' : World} {g0 g2 c k B : Nat} {A : Option Addr} {P : List Int} (h : TC W g0 g2 A c P k) (hb : Below B W W') (h0 : g0 < B) (h2 : g2 < B) (hA : ∀ b, blk A = some b → b < B) : TC W' g0 g2 A c P k :=
  ⟨(hb.block _ h0).trans h.box, (hb.block _ h2).trans h.at_, h.pg.keepB hb hA, h.ne, h.hc, h.hk⟩
/-- taken's state: the boxes, the page and the place in it, the node so far. -/
structure TN (w : World) (A : Option Addr) (c : Nat) (P : List Int) (gn : Nat) (k : Nat) (lf : Bool) (A1 : Option Addr) (n1 c1 : Nat) (ks : List (List Int)) (A2 : Option Addr) (n2 c2 : Nat) (vs : List (List Int)) (A3 : Option Addr) (n3 c3 : Nat) (ds : List Int) (W : World) : Prop where
  tc : TC W w.heap.size (w.heap.size + 1 + 1) A c P k
  rs : W.heap[w.heap.size + 1]? = some (.cells ndZ 70 (0, 0))
  fn : W.heap[w.heap.size + 1 + 1 + 1]? = some (.cells #[txF w.heap.size (w.heap.size + 1 + 1)] 175 (0, 0))
  nd : W.heap[gn]? = some (.cells #[.bool lf, .slice A1 n1 c1, .slice A2 n2 c2, .slice A3 n3 c3] 70 (0, 0))
  pk : Prts W (w.heap.size + 4) A1 n1 c1 ks
  pv : Prts W (w.heap.size + 4) A2 n2 c2 vs
  od : Own W (w.heap.size + 4) 3 A3 n3 c3 (ds.map (Value.int .i64))
  ap : blk A1 = none ∨ blk A1 ≠ blk A2
  gl : w.heap.size + 4 ≤ gn
  lo : ∀ b, blk A = some b → b < w.heap.size
  hb : Below w.heap.size w W
section
variable {w W W' : World} {A A1 A2 A3 A' : Option Addr} {c gn k k' n1 c1 n2 c2 n3 c3 n' c' : Nat} {P ds ds' : List Int} {lf : Bool} {ks vs xs' : List (List Int)} {us : List Value}
theorem TN.sz (h : TN w A c P gn k lf A1 n1 c1 ks A2 n2 c2 vs A3 n3 c3 ds W) : w.heap.size + 4 ≤ W.heap.size := by
  have := lt_of_heap h.nd; have := h.gl; omega
theorem TN.keep (h : TN w A c P gn k lf A1 n1 c1 ks A2 n2 c2 vs A3 n3 c3 ds W) (hb : Below W.heap.size W W') : TN w A c P gn k lf A1 n1 c1 ks A2 n2 c2 vs A3 n3 c3 ds W' :=
  ⟨h.tc.keep hb, (hb.block _ (lt_of_heap h.rs)).trans h.rs, (hb.block _ (lt_of_heap h.fn)).trans h.fn, (hb.block _ (lt_of_heap h.nd)).trans h.nd, h.pk.keep hb, h.pv.keep hb, h.od.below hb (fun k hk => (h.od.lies k hk).2), h.ap, h.gl, h.lo, h.hb.trans (hb.mono h.hb.size)⟩
theorem TN.move (h : TN w A c P gn k lf A1 n1 c1 ks A2 n2 c2 vs A3 n3 c3 ds W) (t : TC W' w.heap.size (w.heap.size + 1 + 1) A c P k') (ho : Onl (w.heap.size + 1 + 1) W W') : TN w A c P gn k' lf A1 n1 c1 ks A2 n2 c2 vs A3 n3 c3 ds W' := by
  have hs := h.sz; have hg := h.gl
  refine ⟨t, (ho.block _ (lt_of_heap h.rs) (fun e => ?_)).trans h.rs, (ho.block _ (lt_of_heap h.fn) (fun e => ?_)).trans h.fn, (ho.block _ (lt_of_heap h.nd) (fun e => ?_)).trans h.nd, h.pk.onl ho (by omega), h.pv.onl ho (by omega), h.od.onl ho (fun e => ?_), h.ap, h.gl, h.lo, h.hb.trans ((ho.below (by omega)).mono (by omega))⟩
  · injection e with e; omega
  · injection e with e; omega
  · injection e with e; omega
  · have := (h.od.lies _ e).1; omega
/-- What a row of the node's that grows leaves, and the store into the node behind it. -/
theorem TN.grow (h : TN w A c P gn k lf A1 n1 c1 ks A2 n2 c2 vs A3 n3 c3 ds W) {W2 : World} {Ar Ar' : Option Addr} {j : Nat} {x : Value} {cs : Array Value} (hg : Grows W W' Ar Ar') (hl : ∀ b, blk Ar = some b → w.heap.size + 4 ≤ b) (hne : blk Ar ≠ some gn)
    (h2 : W2 = W'.setCell ⟨gn, j, none⟩ x) (hx : (#[.bool lf, .slice A1 n1 c1, .slice A2 n2 c2, .slice A3 n3 c3] : Array Value).setIfInBounds j x = cs) :
    W'.heap[gn]? = some (.cells #[.bool lf, .slice A1 n1 c1, .slice A2 n2 c2, .slice A3 n3 c3] 70 (0, 0)) ∧ Onl gn W' W2 ∧ TC W2 w.heap.size (w.heap.size + 1 + 1) A c P k ∧ W2.heap[w.heap.size + 1]? = some (.cells ndZ 70 (0, 0)) ∧ W2.heap[w.heap.size + 1 + 1 + 1]? = some (.cells #[txF w.heap.size (w.heap.size + 1 + 1)] 175 (0, 0)) ∧
      W2.heap[gn]? = some (.cells cs 70 (0, 0)) ∧ Below w.heap.size w W2 := by
  have hs := h.sz; have hgl := h.gl
  have n1 := (hg.1.block _ (lt_of_heap h.nd) (fun e => hne e.symm)).trans h.nd
  have o : Onl gn W' W2 := by rw [h2]; exact onl_set _ _ _ _
  have B1 : Below (w.heap.size + 4) W W' := hg.below hs hl
  have hs1 := hg.size
  have B2 : Below (w.heap.size + 4) W' W2 := (o.below (by have := lt_of_heap n1; omega)).mono hgl
  have B := B1.trans B2
  refine ⟨n1, o, h.tc.keepB B (by omega) (by omega) (fun b hb => by have := h.lo b hb; omega), (B.block _ (by omega)).trans h.rs, (B.block _ (by omega)).trans h.fn, ?_, h.hb.trans (B.mono (by omega))⟩
  rw [h2]; exact rc_set j x n1 hx
theorem TN.app1 (h : TN w A c P gn k lf A1 n1 c1 ks A2 n2 c2 vs A3 n3 c3 ds W) (ho : Own W (w.heap.size + 4) 28 A1 n1 c1 us) (hg : Grows W W' A1 A') (hp : Prts W' (w.heap.size + 4) A' n' c' xs') :
    W'.heap[gn]? = some (.cells #[.bool lf, .slice A1 n1 c1, .slice A2 n2 c2, .slice A3 n3 c3] 70 (0, 0)) ∧ TN w A c P gn k lf A' n' c' xs' A2 n2 c2 vs A3 n3 c3 ds (W'.setCell ⟨gn, 1, none⟩ (.slice A' n' c')) := by
  obtain ⟨g1, o, t, r, f, n, b⟩ := h.grow (x := .slice A' n' c') (j := 1) hg (fun k hk => (ho.lies k hk).1) (ho.ne_blk h.nd (by decide)) rfl rfl
  exact ⟨g1, t, r, f, n, hp.set o g1 (by decide) (by decide), (h.pv.other hg ho (dist_symm h.ap)).set o g1 (by decide) (by decide), Own.onl (h.od.kept hg.1 (own_apart h.od ho (by decide))) o ((h.od.kept hg.1 (own_apart h.od ho (by decide))).ne_blk g1 (by decide)), grow_ap h.ap hg (fun k hk => (h.pv.lies k hk).2), h.gl, h.lo, b⟩
theorem TN.app2 (h : TN w A c P gn k lf A1 n1 c1 ks A2 n2 c2 vs A3 n3 c3 ds W) (ho : Own W (w.heap.size + 4) 28 A2 n2 c2 us) (hg : Grows W W' A2 A') (hp : Prts W' (w.heap.size + 4) A' n' c' xs') :
    W'.heap[gn]? = some (.cells #[.bool lf, .slice A1 n1 c1, .slice A2 n2 c2, .slice A3 n3 c3] 70 (0, 0)) ∧ TN w A c P gn k lf A1 n1 c1 ks A' n' c' xs' A3 n3 c3 ds (W'.setCell ⟨gn, 2, none⟩ (.slice A' n' c')) := by
  obtain ⟨g1, o, t, r, f, n, b⟩ := h.grow (x := .slice A' n' c') (j := 2) hg (fun k hk => (ho.lies k hk).1) (ho.ne_blk h.nd (by decide)) rfl rfl
  exact ⟨g1, t, r, f, n, (h.pk.other hg ho h.ap).set o g1 (by decide) (by decide), hp.set o g1 (by decide) (by decide), Own.onl (h.od.kept hg.1 (own_apart h.od ho (by decide))) o ((h.od.kept hg.1 (own_apart h.od ho (by decide))).ne_blk g1 (by decide)), dist_symm (grow_ap (dist_symm h.ap) hg (fun k hk => (h.pk.lies k hk).2)), h.gl, h.lo, b⟩
theorem TN.app3 (h : TN w A c P gn k lf A1 n1 c1 ks A2 n2 c2 vs A3 n3 c3 ds W) (hg : Grows W W' A3 A') (hp : Own W' (w.heap.size + 4) 3 A' n' c' (ds'.map (Value.int .i64))) :
    W'.heap[gn]? = some (.cells #[.bool lf, .slice A1 n1 c1, .slice A2 n2 c2, .slice A3 n3 c3] 70 (0, 0)) ∧ TN w A c P gn k lf A1 n1 c1 ks A2 n2 c2 vs A' n' c' ds' (W'.setCell ⟨gn, 3, none⟩ (.slice A' n' c')) := by
  obtain ⟨g1, o, t, r, f, n, b⟩ := h.grow (x := .slice A' n' c') (j := 3) hg (fun k hk => (h.od.lies k hk).1) (h.od.ne_blk h.nd (by decide)) rfl rfl
  exact ⟨g1, t, r, f, n, (h.pk.grown hg h.od (by decide) (by decide)).set o g1 (by decide) (by decide), (h.pv.grown hg h.od (by decide) (by decide)).set o g1 (by decide) (by decide), hp.onl o (hp.ne_blk g1 (by decide)), h.ap, h.gl, h.lo, b⟩
end
theorem drop_min {P : List Int} (hP : P.length = 512) (k s m : Nat) (hm : min s (512 - k) = m) : P.drop (k + m) = P.drop (k + s) := by
  by_cases h : s ≤ 512 - k
  · rw [show m = s by omega]
  · rw [List.drop_eq_nil_of_le (by omega), List.drop_eq_nil_of_le (by omega)]
/-- One round's maths: where the place is then, and what was taken. -/
theorem round_key {P : List Int} (hP : P.length = 512) (k s m : Nat) (hs : nmL (txL P k 1) = s) (hm : min s (512 - (k + 1)) = m) : keyO (P.drop k) = txL P (k + 1) s ∧ aftO (P.drop k) = P.drop (k + 1 + m) := by
  unfold txL at hs
  unfold keyO aftO txL
  rw [hs]
  refine ⟨by rw [List.drop_drop], ?_⟩
  rw [List.drop_drop, List.drop_drop, drop_min hP (k + 1) s m hm, Nat.add_assoc]
theorem round_two {P : List Int} (hP : P.length = 512) (k a d v m : Nat) (ha : aftO (P.drop k) = P.drop a) (hd : min 2 (512 - a) = d) (hv : nmL (txL P a 2) = v) (hm : min v (512 - (a + d)) = m) :
    valO (P.drop k) = txL P (a + d) v ∧ kidO (P.drop k) = (v : Int) ∧ resO true (P.drop k) = P.drop (a + d + m) ∧ resO false (P.drop k) = P.drop (a + d) := by
  unfold txL at hv
  unfold valO kidO resO txL
  rw [ha, hv, List.drop_drop, ← drop_min hP a 2 d hd]
  refine ⟨rfl, rfl, ?_, rfl⟩
  rw [if_pos rfl, List.drop_drop, drop_min hP (a + d) v m hm]
end Go.Proofs.Ytmjjbfcblmmipaa
