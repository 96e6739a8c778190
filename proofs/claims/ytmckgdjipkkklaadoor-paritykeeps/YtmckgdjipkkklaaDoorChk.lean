/- The check bytes by division, with two tables: what they are. No program is named here. -/
import Derived.Test.YtmckgdjipkkklaaDoorRs
namespace Go.Proofs.YtmckgdjipkkklaaDoor
set_option linter.unusedVariables false
set_option linter.unusedSimpArgs false

def lowT : List Nat := [0, 255227968, 510455936, 291145920, 1020853533, 871269725, 582225309, 763524573, 2024662842, 2006687610, 1723930554, 1777823738, 1148525095, 1262707303, 1511647911, 1429181159]
def highT : List Nat := [0, 4031239028, 4253989864, 231303324, 3875630029, 390510777, 445632549, 3938976593, 3540178567, 591726067, 780954991, 3737894427, 872660298, 3292819006, 3381462690, 969594326]
def lowOf (f : Nat) : Nat := lowT.getD (f % 16) 0
def highOf (f : Nat) : Nat := highT.getD (f / 16) 0
def stepW (r x : Nat) : Nat := ((r * 256 % 4294967296) ^^^ lowOf (x ^^^ r / 16777216)) ^^^ highOf (x ^^^ r / 16777216)
def chkF : Nat → List Nat → Nat
  | r, [] => r
  | r, x :: l => chkF (stepW r x) l
def chk (l : List Nat) : Nat := chkF 0 l
/-- A word's bytes, the greatest first. -/
def w4 (r : Nat) : List Nat := [r / 16777216 % 256, r / 65536 % 256, r / 256 % 256, r % 256]
theorem w4_rn (r : Nat) : Rn (w4 r) := by
  unfold w4
  exact Rn.cons (by omega) (Rn.cons (by omega) (Rn.cons (by omega) (Rn.cons (by omega) Rn.nil)))
theorem w4_length (r : Nat) : (w4 r).length = 4 := rfl
theorem w4_len2 (r s : Nat) : (w4 r).length = (w4 s).length := rfl
theorem ev_xl4 (x r s : Nat) : ev x (xl (w4 r) (w4 s)) = ev x (w4 r) ^^^ ev x (w4 s) := ev_xl x _ _ (w4_len2 r s) (w4_rn r) (w4_rn s)
theorem byte_xor (a b n : Nat) : (a ^^^ b) / 2 ^ n % 256 = (a / 2 ^ n % 256) ^^^ (b / 2 ^ n % 256) := by
  rw [Nat.xor_div_two_pow]
  exact Nat.xor_mod_two_pow (n := 8)
theorem w4_xor (a b : Nat) : w4 (a ^^^ b) = xl (w4 a) (w4 b) := by
  have h1 := byte_xor a b 24
  have h2 := byte_xor a b 16
  have h3 := byte_xor a b 8
  have h4 := byte_xor a b 0
  simp only [Nat.reducePow, Nat.div_one] at h1 h2 h3 h4
  simp only [w4, xl]
  rw [h1, h2, h3, h4]
theorem xor_lt32 {a b : Nat} (ha : a < 4294967296) (hb : b < 4294967296) : a ^^^ b < 4294967296 := Nat.xor_lt_two_pow (n := 32) ha hb
theorem lowOf_lt_all : (allB 256 fun f => decide (lowOf f < 4294967296) && decide (highOf f < 4294967296)) = true := by decide +kernel
theorem lowOf_lt {f : Nat} (h : f < 256) : lowOf f < 4294967296 ∧ highOf f < 4294967296 := by
  have := allB_at lowOf_lt_all h
  simpa using this
theorem stepW_lt {r x : Nat} (hr : r < 4294967296) (hx : x < 256) : stepW r x < 4294967296 := by
  have h := lowOf_lt (f := x ^^^ r / 16777216) (xor_lt _ _ hx (by omega))
  exact xor_lt32 (xor_lt32 (by omega) h.1) h.2
theorem chkF_lt : ∀ (l : List Nat) {r : Nat}, r < 4294967296 → Rn l → chkF r l < 4294967296
  | [], _, h, _ => h
  | x :: l, r, h, hl => chkF_lt l (stepW_lt h hl.head) hl.tail
theorem chk_lt {l : List Nat} (hl : Rn l) : chk l < 4294967296 := chkF_lt l (by omega) hl
theorem chkF_append : ∀ (l m : List Nat) (r : Nat), chkF r (l ++ m) = chkF (chkF r l) m
  | [], _, _ => rfl
  | x :: l, m, r => by simp only [List.cons_append, chkF]; exact chkF_append l m _
theorem chk_snoc (l : List Nat) (x : Nat) : chk (l ++ [x]) = stepW (chk l) x := chkF_append l [x] 0

theorem tab_ev_all : (allB 4 fun i => allB 256 fun f => ev (pw i) (w4 (lowOf f ^^^ highOf f)) == mul f (pw (i * 4))) = true := by decide +kernel
theorem tab_ev {i f : Nat} (hi : i < 4) (hf : f < 256) : ev (pw i) (w4 (lowOf f ^^^ highOf f)) = mul f (pw (i * 4)) := by
  simpa using allB_at (allB_at tab_ev_all hi) hf
theorem step_ev {i r x : Nat} (hi : i < 4) (hr : r < 4294967296) (hx : x < 256) :
    ev (pw i) (w4 (stepW r x)) = mul (ev (pw i) (w4 r)) (pw i) ^^^ mul x (pw (i * 4)) := by
  have hf : x ^^^ r / 16777216 < 256 := xor_lt _ _ hx (by omega)
  unfold stepW
  rw [Nat.xor_assoc, w4_xor, ev_xl4, tab_ev hi hf, mul_xor_left _ hx (by omega)]
  have e1 : w4 (r * 256 % 4294967296) = [r / 65536 % 256, r / 256 % 256, r % 256] ++ [0] := by
    simp only [w4, List.cons_append, List.nil_append]
    congr 1
    · omega
    · congr 1
      · omega
      · congr 1
        · omega
        · congr 1; omega
  have e2 : ev (pw i) (w4 r) = mul (r / 16777216) (pw (i * 3)) ^^^ ev (pw i) [r / 65536 % 256, r / 256 % 256, r % 256] := by
    have hm : r / 16777216 % 256 = r / 16777216 := by omega
    have h1 : ev (pw i) (w4 r) = evf (pw i) (r / 16777216) [r / 65536 % 256, r / 256 % 256, r % 256] := by
      unfold ev w4
      simp only [evf]
      rw [mul_zero_left, Nat.zero_xor, hm]
    rw [h1, evf_start i _ _ (by omega) (Rn.cons (by omega) (Rn.cons (by omega) (Rn.cons (by omega) Rn.nil)))]
    rfl
  rw [e1, ev_snoc, Nat.xor_zero, e2]
  have hr3 : Rn [r / 65536 % 256, r / 256 % 256, r % 256] := Rn.cons (by omega) (Rn.cons (by omega) (Rn.cons (by omega) Rn.nil))
  have hlt := ev_lt (pw i) hr3
  generalize ev (pw i) [r / 65536 % 256, r / 256 % 256, r % 256] = E at *
  have hr0 : r / 16777216 < 256 := by omega
  generalize r / 16777216 = r0 at *
  rw [mul_xor_left _ (mul_lt _ hr0) hlt, mul_assoc hr0 (pw_lt _) (pw_lt _), pw_add]
  have e4 : i * 3 + i = i * 4 := by omega
  rw [e4, Nat.xor_comm (mul r0 _) (mul E _), Nat.xor_assoc, Nat.xor_comm (mul r0 _)]
theorem chkF_ev {i : Nat} (hi : i < 4) : ∀ (l : List Nat) (r v : Nat), r < 4294967296 → v < 256 → Rn l → ev (pw i) (w4 r) = mul v (pw (i * 4)) →
    ev (pw i) (w4 (chkF r l)) = mul (evf (pw i) v l) (pw (i * 4))
  | [], _, _, _, _, _, h => h
  | x :: l, r, v, hr, hv, hl, h => by
    simp only [chkF, evf]
    refine chkF_ev hi l _ _ (stepW_lt hr hl.head) (xor_lt _ _ (mul_lt _ hv) hl.head) hl.tail ?_
    rw [step_ev hi hr hl.head, h, mul_xor_left _ (mul_lt _ hv) hl.head, mul_swap _ _ hv]
theorem chk_ev {i : Nat} (hi : i < 4) {l : List Nat} (hl : Rn l) : ev (pw i) (w4 (chk l)) = mul (ev (pw i) l) (pw (i * 4)) := by
  refine chkF_ev hi l 0 0 (by omega) (by omega) hl ?_
  rw [mul_zero_left]
  have : w4 0 = [0, 0, 0, 0] := rfl
  rw [this]
  simp [ev, evf, mul_zero_left]
theorem ev_app {i : Nat} {l c : List Nat} (hl : Rn l) (hc : Rn c) : ev (pw i) (l ++ c) = mul (ev (pw i) l) (pw (i * c.length)) ^^^ ev (pw i) c := by
  rw [ev_append, evf_start i _ _ (ev_lt _ hl) hc]
/-- With its check bytes a list is nought at the four places. -/
theorem chk_good {i : Nat} (hi : i < 4) {l : List Nat} (hl : Rn l) : ev (pw i) (l ++ w4 (chk l)) = 0 := by
  rw [ev_app hl (w4_rn _), chk_ev hi hl, w4_length, Nat.xor_self]
/-- Whatever four bytes make it so are the check bytes. -/
theorem chk_only {l c : List Nat} (hl : Rn l) (hc : Rn c) (h4 : c.length = 4) (h : ∀ i, i < 4 → ev (pw i) c = mul (ev (pw i) l) (pw (i * 4))) : c = w4 (chk l) := by
  have hlen : c.length = (w4 (chk l)).length := h4
  refine xl_zero hlen (told (xl_rn hc (w4_rn _)) (by rw [xl_length _ _ hlen]; omega) ?_ fun i hi => ?_)
  · refine Nat.le_trans (List.length_filter_le _ _) ?_
    rw [xl_length _ _ hlen, h4]; omega
  · rw [ev_xl _ _ _ hlen hc (w4_rn _), h i hi, chk_ev hi hl, Nat.xor_self]
/-- Does a list end with its check bytes? -/
def goodL (l : List Nat) : Bool := decide (4 ≤ l.length) && (w4 (chk (l.take (l.length - 4))) == l.drop (l.length - 4))
theorem goodL_iff {l : List Nat} (hl : Rn l) : goodL l = true ↔ 4 ≤ l.length ∧ ∀ i, i < 4 → ev (pw i) l = 0 := by
  unfold goodL
  simp only [Bool.and_eq_true, decide_eq_true_eq, beq_iff_eq]
  constructor
  · rintro ⟨h4, h⟩
    refine ⟨h4, fun i hi => ?_⟩
    rw [← List.take_append_drop (l.length - 4) l, ← h]
    exact chk_good hi (hl.take _)
  · rintro ⟨h4, h⟩
    refine ⟨h4, (chk_only (hl.take _) (hl.drop _) (by simp; omega) fun i hi => ?_).symm⟩
    have h1 := h i hi
    have hd : (l.drop (l.length - 4)).length = 4 := by simp; omega
    rw [← List.take_append_drop (l.length - 4) l, ev_app (hl.take _) (hl.drop _), hd] at h1
    exact (xor_self_zero h1).symm
theorem goodL_app {l : List Nat} (hl : Rn l) : goodL (l ++ w4 (chk l)) = true :=
  (goodL_iff (hl.append (w4_rn _))).2 ⟨by simp [w4_length], fun i hi => chk_good hi hl⟩
/-- How many places differ. -/
def dif : List Nat → List Nat → Nat
  | a :: l, b :: m => (if a = b then 0 else 1) + dif l m
  | _, _ => 0
theorem dif_self : ∀ l, dif l l = 0
  | [] => rfl
  | a :: l => by simp [dif, dif_self l]
theorem dif_set : ∀ (l m : List Nat) (k x : Nat), dif (l.set k x) m ≤ dif l m + 1
  | [], _, _, _ => by simp
  | _ :: _, [], _, _ => by simp [dif]
  | a :: l, b :: m, 0, x => by simp only [List.set_cons_zero, dif]; split <;> split <;> omega
  | a :: l, b :: m, k + 1, x => by have := dif_set l m k x; simp only [List.set_cons_succ, dif]; omega
theorem cnt_xl : ∀ (l m : List Nat), cnt (xl l m) = dif l m
  | [], [] => rfl
  | [], _ :: _ => rfl
  | _ :: _, [] => rfl
  | a :: l, b :: m => by
    have ih := cnt_xl l m
    unfold cnt at ih ⊢
    simp only [xl, dif]
    by_cases h : a = b
    · subst h
      rw [Nat.xor_self, List.filter_cons_of_neg (by simp), ih]; simp
    · have : a ^^^ b ≠ 0 := fun e => h (xor_self_zero e)
      rw [List.filter_cons_of_pos (by simpa using this), List.length_cons, ih]; simp [h]; omega
/-- A good cell of which up to four bytes were changed is told from a good one. -/
theorem tells {u v : List Nat} (hu : Rn u) (hv : Rn v) (hlen : u.length = v.length) (hl : v.length ≤ 255) (hd : dif u v ≤ 4) (hg : goodL v = true) : goodL u = decide (u = v) := by
  by_cases h : u = v
  · subst h; simp [hg]
  · have : ¬ goodL u = true := fun hgu => by
      have h1 := ((goodL_iff hu).1 hgu).2
      have h2 := ((goodL_iff hv).1 hg).2
      refine h (xl_zero hlen (told (xl_rn hu hv) (by rw [xl_length _ _ hlen]; omega) (by rw [cnt_xl]; exact hd) fun i hi => ?_))
      rw [ev_xl _ _ _ hlen hu hv, h1 i hi, h2 i hi, Nat.xor_self]
    simp [h, this]
/-- Check bytes add up. -/
theorem chk_xl {l m : List Nat} (h : l.length = m.length) (hl : Rn l) (hm : Rn m) : w4 (chk (xl l m)) = xl (w4 (chk l)) (w4 (chk m)) := by
  refine (chk_only (xl_rn hl hm) (xl_rn (w4_rn _) (w4_rn _)) rfl fun i hi => ?_).symm
  rw [ev_xl4, ev_xl _ _ _ h hl hm, chk_ev hi hl, chk_ev hi hm, mul_xor_left _ (ev_lt _ hl) (ev_lt _ hm)]
theorem chkF_zeros : ∀ n, chkF 0 (List.replicate n 0) = 0
  | 0 => rfl
  | n + 1 => by
    rw [List.replicate_succ]
    simp only [chkF]
    have : stepW 0 0 = 0 := by decide
    rw [this]; exact chkF_zeros n
theorem chk_zeros (n : Nat) (l : List Nat) : chk (List.replicate n 0 ++ l) = chk l := by
  unfold chk
  rw [chkF_append, chkF_zeros]
end Go.Proofs.YtmckgdjipkkklaaDoor
