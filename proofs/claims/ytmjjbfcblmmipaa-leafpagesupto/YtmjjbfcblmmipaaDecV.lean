/- leaf.Decode. -/
import Derived.Test.YtmjjbfcblmmipaaTakenW
import Derived.Shelf.Bytes.SlSmallAll
import Derived.Test.YtmjjbfcblmmipaaREncB
namespace Go.Proofs.Ytmjjbfcblmmipaa
set_option linter.unusedVariables false
set_option linter.unusedSimpArgs false
open Go.RowKit
/-- A page that begins with these bytes, as bytes. -/
def pgZ (P : List Int) : List Int := P ++ List.replicate (512 - P.length) 0
theorem pgL_eq (P : List Int) : pgL P = By (pgZ P) := by unfold pgL pgZ; rw [By_append]; simp [By, zer]
theorem pgZ_len (P : List Int) (h : P.length ≤ 512) : (pgZ P).length = 512 := by simp [pgZ]; omega
theorem pgZ_ran {P : List Int} (h : Ran P) : Ran (pgZ P) := h.append (fun x hx => by rw [List.eq_of_mem_replicate hx]; omega)
theorem tw_ran (n : Nat) (h : n ≤ 65535) : Ran (tw n) := by
  intro x hx
  simp only [tw, List.mem_cons, List.not_mem_nil, or_false] at hx
  rcases hx with rfl | rfl <;> omega
theorem getD_all {l : List (List Int)} {Q : List Int → Prop} (h : ∀ x ∈ l, Q x) (h0 : Q []) (j : Nat) : Q (l.getD j []) := by
  by_cases hj : j < l.length
  · rw [show l.getD j [] = l[j] by simp [List.getD, List.getElem?_eq_getElem hj]]; exact h _ (List.getElem_mem hj)
  · rw [show l.getD j [] = [] by simp [List.getD, List.getElem?_eq_none (by omega : l.length ≤ j)]]; exact h0
theorem getD_allI {l : List Int} {Q : Int → Prop} (h : ∀ x ∈ l, Q x) (h0 : Q 0) (j : Nat) : Q (l.getD j 0) := by
  by_cases hj : j < l.length
  · rw [show l.getD j 0 = l[j] by simp [List.getD, List.getElem?_eq_getElem hj]]; exact h _ (List.getElem_mem hj)
  · rw [show l.getD j 0 = 0 by simp [List.getD, List.getElem?_eq_none (by omega : l.length ≤ j)]]; exact h0
theorem enc_ran (lf : Bool) (ks vs : List (List Int)) (ds : List Int) (hn : ks.length ≤ 65535) (hk : ∀ x ∈ ks, Ran x) (hv : ∀ x ∈ vs, Ran x) (lk : ∀ x ∈ ks, x.length ≤ 255) (lv : ∀ x ∈ vs, x.length ≤ 65535) (hd : ∀ d ∈ ds, 0 ≤ d ∧ d ≤ 65535) :
    ∀ j, Ran (encP lf ks vs ds j) := by
  have hdd : ∀ j, Ran (tw (ds.getD j 0).toNat) := fun j => tw_ran _ (by have := getD_allI (Q := fun d => 0 ≤ d ∧ d ≤ 65535) hd (by omega) j; omega)
  intro j
  induction j with
  | zero =>
    rw [encP]
    refine ((?_ : Ran _).append (tw_ran _ hn)).append ?_
    · cases lf <;> (intro x hx; simp at hx; omega)
    · cases lf
      · exact hdd 0
      · exact Ran.nil
  | succ j ih =>
    rw [encP]
    refine ih.append (((?_ : Ran _).append (getD_all (Q := Ran) hk Ran.nil j)).append ?_)
    · intro x hx
      have := getD_all (Q := fun x => x.length ≤ 255) lk (by simp) j
      simp only [List.mem_cons, List.not_mem_nil, or_false] at hx
      subst hx; omega
    · cases lf
      · exact hdd (j + 1)
      · exact (tw_ran _ (getD_all (Q := fun x => x.length ≤ 65535) lv (by simp) j)).append (getD_all (Q := Ran) hv Ran.nil j)
theorem res_le (lf : Bool) (R : List Int) : (resO lf R).length ≤ R.length := by
  unfold resO aftO
  split <;> simp only [List.length_drop] <;> omega
theorem tkE_all {α : Type} (f : List Int → α) (lf : Bool) (Q : α → Prop) (m : Nat) (hf : ∀ R : List Int, R.length ≤ m → Q (f R)) : ∀ (j : Nat) (R : List Int), R.length ≤ m → ∀ x ∈ tkE f lf j R, Q x := by
  intro j
  induction j with
  | zero => intro R _ x hx; simp [tkE] at hx
  | succ j ih =>
    intro R hR x hx
    by_cases h : 0 < R.length
    · rw [tkE_succ f lf j R h] at hx
      rcases List.mem_cons.1 hx with rfl | hx
      · exact hf R hR
      · exact ih _ (Nat.le_trans (res_le lf R) hR) x hx
    · have : R = [] := List.eq_nil_of_length_eq_zero (by omega)
      subst this; rw [tkE_nil] at hx; cases hx
theorem R0_le {P : List Int} (hP : P.length = 512) : (R0 P).length ≤ 512 := by
  unfold R0; split <;> simp only [List.length_drop] <;> omega
theorem ksT_len {P : List Int} (hP : P.length = 512) : ∀ x ∈ ksT P, x.length ≤ 512 := by
  refine tkE_all keyO _ (fun x => x.length ≤ 512) 512 (fun R hR => ?_) _ _ (R0_le hP)
  unfold keyO; simp only [List.length_take, List.length_drop]; omega
theorem vsT_len {P : List Int} (hP : P.length = 512) : ∀ x ∈ vsT P, x.length ≤ 512 := by
  unfold vsT
  split
  · refine tkE_all valO _ (fun x => x.length ≤ 512) 512 (fun R hR => ?_) _ _ (R0_le hP)
    unfold valO aftO; simp only [List.length_take, List.length_drop]; omega
  · intro x hx; cases hx
theorem nm_ran {P : List Int} (h : Ran P) (hl : P.length ≤ 2) : nmL P ≤ 65535 := nm_bd hl h
theorem tkE_sub (lf : Bool) (Q : Int → Prop) (hf : ∀ R : List Int, Ran R → Q (kidO R)) : ∀ (j : Nat) (R : List Int), Ran R → ∀ x ∈ tkE kidO lf j R, Q x := by
  intro j
  induction j with
  | zero => intro R _ x hx; simp [tkE] at hx
  | succ j ih =>
    intro R hR x hx
    by_cases h : 0 < R.length
    · rw [tkE_succ kidO lf j R h] at hx
      rcases List.mem_cons.1 hx with rfl | hx
      · exact hf R hR
      · refine ih _ (hR.sub fun y hy => ?_) x hx
        unfold resO aftO at hy
        split at hy
        · exact List.mem_of_mem_drop (List.mem_of_mem_drop (List.mem_of_mem_drop (List.mem_of_mem_drop hy)))
        · exact List.mem_of_mem_drop (List.mem_of_mem_drop (List.mem_of_mem_drop hy))
    · have : R = [] := List.eq_nil_of_length_eq_zero (by omega)
      subst this; rw [tkE_nil] at hx; cases hx
theorem dsT_bd {P : List Int} (hr : Ran P) : ∀ d ∈ dsT P, 0 ≤ d ∧ d ≤ 65535 := by
  unfold dsT
  split
  · intro x hx; cases hx
  · intro x hx
    rcases List.mem_cons.1 hx with rfl | hx
    · have := nm_ran (P := (P.drop 3).take 2) (hr.sub fun y hy => List.mem_of_mem_drop (List.mem_of_mem_take hy)) (by rw [List.length_take]; omega)
      omega
    · refine tkE_sub false (fun d => 0 ≤ d ∧ d ≤ 65535) (fun R hR => ?_) _ _ (hr.sub fun y hy => ?_) x hx
      · unfold kidO aftO
        have := nm_ran (P := ((((R.drop 1).drop (nmL (R.take 1))).take 2))) (hR.sub fun y hy => List.mem_of_mem_drop (List.mem_of_mem_drop (List.mem_of_mem_take hy))) (by rw [List.length_take]; omega)
        omega
      · unfold R0 at hy; split at hy <;> exact List.mem_of_mem_drop hy
theorem str_inj {xs ys : List Int} (hx : Ran xs) (hy : Ran ys) : ((strOfNums xs).toList == (strOfNums ys).toList) = decide (xs = ys) := by
  have key : ∀ {xs ys : List Int}, Ran xs → Ran ys → xs.map (fun n => UInt8.ofNat n.toNat) = ys.map (fun n => UInt8.ofNat n.toNat) → xs = ys := by
    intro xs
    induction xs with
    | nil => intro ys _ _ h; cases ys with | nil => rfl | cons y ys => simp at h
    | cons x xs ih =>
      intro ys hx hy h
      cases ys with
      | nil => simp at h
      | cons y ys =>
        simp only [List.map_cons, List.cons.injEq] at h
        have h1 := hx x (by simp); have h2 := hy y (by simp)
        have h3 := congrArg UInt8.toNat h.1
        have e1 : (UInt8.ofNat x.toNat).toNat = x.toNat := UInt8.toNat_ofNat_of_lt' (by show x.toNat < 256; omega)
        have e2 : (UInt8.ofNat y.toNat).toNat = y.toNat := UInt8.toNat_ofNat_of_lt' (by show y.toNat < 256; omega)
        rw [e1, e2] at h3
        rw [ih (fun z hz => hx z (by simp [hz])) (fun z hz => hy z (by simp [hz])) h.2, show x = y by omega]
  rw [Lib.strOfNums_toList, Lib.strOfNums_toList, Bool.eq_iff_iff, decide_eq_true_iff, beq_iff_eq]
  exact ⟨fun h => key hx hy h, fun h => by rw [h]⟩
theorem conv_bs (A : Option Addr) (n c : Nat) (xs : List Int) (w : World) (hx : Bs w A n xs) : (convert 28 9 (.slice A n c)).run Try.prog w = .ok (.string (strOfNums xs)) w := by
  rcases Nat.eq_zero_or_pos n with h0 | h0
  · subst h0
    obtain rfl : xs = [] := List.eq_nil_of_length_eq_zero hx.len
    exact run_convert_bytes_zero w 28 5 Try.underlying28 Try.underlying5 A c 9 Try.underlying9
  · obtain ⟨b, o, rfl, _, hc⟩ := hx.1.2 h0
    refine run_convert_bytes_arg (P := Try.prog) w 28 5 Try.underlying28 Try.underlying5 b o n c xs hx.len ?_ 9 Try.underlying9
    intro i hi
    have hl := hx.len
    refine hc i _ ?_
    rw [By, List.getElem?_map, List.getElem?_eq_getElem (by omega : i < xs.length)]
    simp [List.getD, List.getElem?_eq_getElem (by omega : i < xs.length)]
set_option maxHeartbeats 4000000 in
theorem bytesEq_any (A B : Option Addr) (n m c d : Nat) (xs ys : List Int) (v : Bool) (hv : decide (xs = ys) = v) (w : World) (hx : Bs w A n xs) (hy : Bs w B m ys) :
    Calls Try.prog 87 #[.slice A n c, .slice B m d] w fun e w' => e = .returned (.bool v) ∧ w' = w := by
  have h1 := conv_bs A n c xs w hx; have h2 := conv_bs B m d ys w hy
  have HE := Lib.hid ((str_inj hx.2 hy.2).trans hv)
  clear hx hy hv
  generalize strOfNums xs = s1 at *; generalize strOfNums ys = s2 at *
  go_enter Try.func87, Try.ntmps87
  go_wp2
  go_ret
  exact ⟨by rw [HE.out]; rfl, rfl⟩
end Go.Proofs.Ytmjjbfcblmmipaa
namespace Go.Proofs.Ytmjjbfcblmmipaa
set_option linter.unusedVariables false
set_option linter.unusedSimpArgs false
open Go.RowKit
/-- The error of a node's page, and the page. -/
def encC (lf : Bool) (ks vs : List (List Int)) (ds : List Int) : Nat := if chkN lf ks vs ds = 0 then (if 512 < sizeN lf ks vs ds.length then 8 else 0) else chkN lf ks vs ds
def encR (lf : Bool) (ks vs : List (List Int)) (ds : List Int) : List Int := if encC lf ks vs ds = 0 then pgZ (encP lf ks vs ds ks.length) else []
theorem encC_zero {lf : Bool} {ks vs : List (List Int)} {ds : List Int} (h : encC lf ks vs ds = 0) : chkN lf ks vs ds = 0 ∧ sizeN lf ks vs ds.length ≤ 512 := by
  unfold encC at h
  split at h
  · split at h
    · cases h
    · exact ⟨by assumption, by omega⟩
  · rename_i h1; exact absurd h h1
theorem chk_enc_ran {lf : Bool} {ks vs : List (List Int)} {ds : List Int} (hn : ks.length ≤ 65535) (hk : ∀ x ∈ ks, Ran x) (hv : ∀ x ∈ vs, Ran x) (h : chkN lf ks vs ds = 0) (j : Nat) : Ran (encP lf ks vs ds j) := by
  obtain ⟨c1, c2, c3, c4, c5⟩ := chk_ok h
  exact enc_ran lf ks vs ds hn hk hv (fun x hx => Nat.le_trans (anyL_mem c1 x hx) (by omega)) (fun x hx => Nat.le_trans (anyL_mem c2 x hx) (by omega)) (dsB_mem c4) j
theorem encR_ran {lf : Bool} {ks vs : List (List Int)} {ds : List Int} (hn : ks.length ≤ 65535) (hk : ∀ x ∈ ks, Ran x) (hv : ∀ x ∈ vs, Ran x) : Ran (encR lf ks vs ds) := by
  unfold encR
  split
  · rename_i h; exact pgZ_ran (chk_enc_ran hn hk hv (encC_zero h).1 _)
  · exact Ran.nil
theorem small_of_size {lf : Bool} {ks vs : List (List Int)} {n : Nat} (h : sizeN lf ks vs n ≤ 512) : ks.length ≤ 512 := by
  have h1 : ∀ l : List (List Int), l.length ≤ szW 1 l := by intro l; induction l with | nil => simp [szW] | cons x l ih => simp only [szW, List.length_cons]; omega
  have h2 := h1 ks; unfold sizeN at h; omega
theorem encode_any (lf : Bool) (AK : Option Addr) (nK cK : Nat) (AV : Option Addr) (nV cV : Nat) (AD : Option Addr) (nD cD : Nat) (ks vs : List (List Int)) (ds : List Int) (w : World) (hx : Bss w AK nK ks) (hy : Bss w AV nV vs) (hz : Ins w AD nD ds)
    (bK : nK ≤ 1048576) (bV : nV ≤ 1048576) (bD : nD ≤ 1048576) (sK : ∀ xs ∈ ks, xs.length ≤ 1048576) (tK : szW 1 ks ≤ 100000000000000000) (tV : szW 2 vs ≤ 100000000000000000) :
    Calls Try.prog 32 #[.agg (ndV lf AK nK cK AV nV cV AD nD cD)] w fun e w' => ∃ (B : Option Addr) (cB : Nat), e = .returned (.tuple #[.slice B (encR lf ks vs ds).length cB, .int .i64 ((encC lf ks vs ds : Nat) : Int)]) ∧ Own w' w.heap.size 5 B (encR lf ks vs ds).length cB (By (encR lf ks vs ds)) ∧ Below w.heap.size w w' := by
  have hlk := hx.len; have hld := hz.len
  by_cases h0 : chkN lf ks vs ds = 0
  · by_cases hs : sizeN lf ks vs nD ≤ 512
    · have hC : encC lf ks vs ds = 0 := by unfold encC; rw [if_pos h0, if_neg (by rw [hld]; omega)]
      have hR : encR lf ks vs ds = pgZ (encP lf ks vs ds nK) := by unfold encR; rw [if_pos hC, hlk]
      rw [hC, hR]
      cases lf with
      | true =>
        refine (encodeL_any AK nK cK AV nV cV AD nD cD ks vs ds w hx hy hz bK bV bD h0 hs).mono ?_
        rintro e w' ⟨pg, rfl, ho, hb⟩
        rw [pgL_eq] at ho
        have hl : (pgZ (encP true ks vs ds nK)).length = 512 := by have := ho.1; simpa [By] using this
        exact ⟨_, _, by rw [hl]; rfl, by rw [hl]; exact ho, hb⟩
      | false =>
        refine (encodeF_any AK nK cK AV nV cV AD nD cD ks vs ds w hx hy hz bK bV bD h0 hs).mono ?_
        rintro e w' ⟨pg, rfl, ho, hb⟩
        rw [pgL_eq] at ho
        have hl : (pgZ (encP false ks vs ds nK)).length = 512 := by have := ho.1; simpa [By] using this
        exact ⟨_, _, by rw [hl]; rfl, by rw [hl]; exact ho, hb⟩
    · have hC : encC lf ks vs ds = 8 := by unfold encC; rw [if_pos h0, if_pos (by rw [hld]; omega)]
      have hR : encR lf ks vs ds = [] := by unfold encR; rw [if_neg (by rw [hC]; decide)]
      rw [hC, hR]
      refine (encodeFull_any lf AK nK cK AV nV cV AD nD cD ks vs ds w hx hy hz bK bV bD sK tK tV h0 _ rfl (by omega)).mono ?_
      rintro e w' ⟨rfl, hb⟩
      exact ⟨none, 0, rfl, Own.nil_, hb⟩
  · have hC : encC lf ks vs ds = chkN lf ks vs ds := by unfold encC; rw [if_neg h0]
    have hR : encR lf ks vs ds = [] := by unfold encR; rw [if_neg (by rw [hC]; exact h0)]
    rw [hC, hR]
    refine (encodeBad_any lf AK nK cK AV nV cV AD nD cD ks vs ds w hx hy hz bK bV bD sK tK tV _ rfl h0).mono ?_
    rintro e w' ⟨rfl, hb⟩
    exact ⟨none, 0, rfl, Own.nil_, hb⟩
theorem rencode_any (lf : Bool) (AK : Option Addr) (nK cK : Nat) (AV : Option Addr) (nV cV : Nat) (AD : Option Addr) (nD cD : Nat) (ks vs : List (List Int)) (ds : List Int) (w : World) (hx : Bss w AK nK ks) (hy : Bss w AV nV vs) (hz : Ins w AD nD ds)
    (bK : nK ≤ 100000) (bV : nV ≤ 100000) (bD : nD ≤ 100000) (sK : ∀ xs ∈ ks, xs.length ≤ 1048576) (tK : szW 1 ks ≤ 100000000000000000) (tV : szW 2 vs ≤ 100000000000000000) :
    Calls Try.prog 34 #[.agg (ndV lf AK nK cK AV nV cV AD nD cD)] w fun e w' => ∃ (B : Option Addr) (cB : Nat), e = .returned (.tuple #[.slice B (encR lf ks vs ds).length cB, .int .i64 ((encC lf ks vs ds : Nat) : Int)]) ∧ Own w' w.heap.size 5 B (encR lf ks vs ds).length cB (By (encR lf ks vs ds)) ∧ Below w.heap.size w w' := by
  have hlk := hx.len; have hld := hz.len
  by_cases h0 : chkN lf ks vs ds = 0
  · by_cases hs : sizeN lf ks vs nD ≤ 512
    · have hC : encC lf ks vs ds = 0 := by unfold encC; rw [if_pos h0, if_neg (by rw [hld]; omega)]
      have hR : encR lf ks vs ds = pgZ (encP lf ks vs ds nK) := by unfold encR; rw [if_pos hC, hlk]
      rw [hC, hR]
      cases lf with
      | true =>
        refine (rencodeL_any AK nK cK AV nV cV AD nD cD ks vs ds w hx hy hz bK bV bD h0 hs).mono ?_
        rintro e w' ⟨A, c, rfl, ho, hb⟩
        rw [pgL_eq] at ho
        have hl : (pgZ (encP true ks vs ds nK)).length = 512 := by have := ho.1; simpa [By] using this
        exact ⟨_, _, by rw [hl]; rfl, by rw [hl]; exact ho, hb⟩
      | false =>
        refine (rencodeF_any AK nK cK AV nV cV AD nD cD ks vs ds w hx hy hz bK bV bD h0 hs).mono ?_
        rintro e w' ⟨A, c, rfl, ho, hb⟩
        rw [pgL_eq] at ho
        have hl : (pgZ (encP false ks vs ds nK)).length = 512 := by have := ho.1; simpa [By] using this
        exact ⟨_, _, by rw [hl]; rfl, by rw [hl]; exact ho, hb⟩
    · have hC : encC lf ks vs ds = 8 := by unfold encC; rw [if_pos h0, if_pos (by rw [hld]; omega)]
      have hR : encR lf ks vs ds = [] := by unfold encR; rw [if_neg (by rw [hC]; decide)]
      rw [hC, hR]
      refine (rencodeFull_any lf AK nK cK AV nV cV AD nD cD ks vs ds w hx hy hz bK bV bD sK tK tV h0 _ rfl (by omega)).mono ?_
      rintro e w' ⟨rfl, hb⟩
      exact ⟨none, 0, rfl, Own.nil_, hb⟩
  · have hC : encC lf ks vs ds = chkN lf ks vs ds := by unfold encC; rw [if_neg h0]
    have hR : encR lf ks vs ds = [] := by unfold encR; rw [if_neg (by rw [hC]; exact h0)]
    rw [hC, hR]
    refine (rencodeBad_any lf AK nK cK AV nV cV AD nD cD ks vs ds w hx hy hz bK bV bD sK tK tV _ rfl h0).mono ?_
    rintro e w' ⟨rfl, hb⟩
    exact ⟨none, 0, rfl, Own.nil_, hb⟩
theorem taken_any (A : Option Addr) (c : Nat) (P : List Int) (w : World) (hx : Bs w A 512 P) (hc : 512 ≤ c) :
    Calls Try.prog 86 #[.slice A 512 c] w fun e w' => ∃ (AK : Option Addr) (nK cK : Nat) (AV : Option Addr) (nV cV : Nat) (AD : Option Addr) (nD cD : Nat), e = .returned (.agg (ndV (lfT P) AK nK cK AV nV cV AD nD cD)) ∧
      Prts w' w.heap.size AK nK cK (ksT P) ∧ Prts w' w.heap.size AV nV cV (vsT P) ∧ Own w' w.heap.size 3 AD nD cD ((dsT P).map (Value.int .i64)) ∧ nK ≤ 512 ∧ nV ≤ 512 ∧ nD ≤ 513 ∧ Below w.heap.size w w' := by
  cases hl : lfT P with
  | true =>
    refine (takenL_any A c P w hx hc hl).mono ?_
    rintro e w' ⟨A1, n, c1, A2, c2, rfl, p1, p2, hn, hb⟩
    have hd : dsT P = [] := by unfold dsT; rw [hl, if_pos rfl]
    exact ⟨A1, n, c1, A2, n, c2, none, 0, 0, rfl, p1, p2, by rw [hd]; exact Own.nil_, hn, hn, by omega, hb⟩
  | false =>
    refine (takenF_any A c P w hx hc hl).mono ?_
    rintro e w' ⟨A1, n, c1, A3, c3, rfl, p1, p3, hn, hb⟩
    have hv : vsT P = [] := by unfold vsT; rw [hl, if_neg (by decide)]
    exact ⟨A1, n, c1, none, 0, 0, A3, n + 1, c3, rfl, p1, by rw [hv]; exact Prts.nil_, p3, hn, by omega, by omega, hb⟩
/-- Is the page that of a node? -/
def decB (P : List Int) : Prop := encC (lfT P) (ksT P) (vsT P) (dsT P) = 0 ∧ encR (lfT P) (ksT P) (vsT P) (dsT P) = P
end Go.Proofs.Ytmjjbfcblmmipaa
namespace Go.Proofs.Ytmjjbfcblmmipaa
set_option linter.unusedVariables false
set_option linter.unusedSimpArgs false
open Go.RowKit
theorem tz_of {m : Nat} {l : List (List Int)} (d : Nat) (h : ∀ x ∈ l, x.length ≤ 512) (hl : l.length ≤ 512) (hd : d ≤ 2) : szW d l ≤ 100000000000000000 := by
  have := szW_bd d 512 l h
  have h2 : l.length * (d + 512) ≤ 512 * 514 := Nat.mul_le_mul hl (by omega)
  omega
set_option maxRecDepth 100000 in
set_option maxHeartbeats 4000000 in
theorem decodeS_any (A : Option Addr) (n c : Nat) (w : World) (hn : n ≠ 512) (hm : n ≤ maxLen) :
    Calls Try.prog 39 #[.slice A n c] w fun e w' => e = .returned (.tuple #[.agg ndZ, .int .i64 2]) ∧ Below w.heap.size w w' := by
  have hb := below_alloc w (.cells ndZ 70)
  have RS := Lib.hid (heap_alloc_new w (.cells ndZ 70))
  have HB := Lib.hid hb
  have d1 : ((n : Int) != 512) = true := by simp; omega
  have d2 : ¬ (n : Int) = 512 := by omega
  clear hb
  go_enter Try.func39, Try.ntmps39
  go_upto_region 2 with fail
  generalize w.alloc (.cells ndZ 70) = y at *
  have z0 := rc_cell 0 (.bool false) RS.out rfl; have fz0 := two_frozen (i := 0) RS.out
  have z1 := rc_cell 1 (.slice none 0 0) RS.out rfl; have fz1 := two_frozen (i := 1) RS.out
  have z2 := rc_cell 2 (.slice none 0 0) RS.out rfl; have fz2 := two_frozen (i := 2) RS.out
  have z3 := rc_cell 3 (.slice none 0 0) RS.out rfl; have fz3 := two_frozen (i := 3) RS.out
  have HZ := Lib.hid (set4 y w.heap.size (.bool false) (.slice none 0 0) (.slice none 0 0) (.slice none 0 0) RS.out)
  have HBE := Lib.hid (HB.out.trans (HZ.out.2.below (Nat.le_of_lt (lt_of_heap RS.out))))
  go_wp2_with fail
  clear z0 z1 z2 z3 fz0 fz1 fz2 fz3
  generalize ((((y.setCell ⟨w.heap.size, 0, none⟩ (.bool false)).setCell ⟨w.heap.size, 1, none⟩ (.slice none 0 0)).setCell ⟨w.heap.size, 2, none⟩ (.slice none 0 0)).setCell ⟨w.heap.size, 3, none⟩ (.slice none 0 0)) = wz at *
  have e0 := rc_cell 0 (.bool false) HZ.out.1 rfl; have e1 := rc_cell 1 (.slice none 0 0) HZ.out.1 rfl; have e2 := rc_cell 2 (.slice none 0 0) HZ.out.1 rfl; have e3 := rc_cell 3 (.slice none 0 0) HZ.out.1 rfl
  refine bodyPost_ret (v := .tuple #[.agg #[.bool false, .slice none 0 0, .slice none 0 0, .slice none 0 0], .int .i64 2]) (by simp [results, Try.f39, go_sem, Try.isAgg70, Try.sizeOf70, e0, e1, e2, e3]) rfl ⟨rfl, HBE.out⟩
set_option maxRecDepth 100000 in
set_option maxHeartbeats 8000000 in
theorem decodeE_any (A : Option Addr) (c : Nat) (P : List Int) (lf : Bool) (ks vs : List (List Int)) (ds : List Int) (t1 : lfT P = lf) (t2 : ksT P = ks) (t3 : vsT P = vs) (t4 : dsT P = ds) (w : World) (hx : Bs w A 512 P) (hc : 512 ≤ c) (hC : encC lf ks vs ds ≠ 0) :
    Calls Try.prog 39 #[.slice A 512 c] w fun e w' => e = .returned (.tuple #[.agg ndZ, .int .i64 3]) ∧ Below w.heap.size w w' := by
  have hb := below_alloc w (.cells ndZ 70)
  have RS := Lib.hid (heap_alloc_new w (.cells ndZ 70))
  have HB := Lib.hid hb
  have HX := Lib.hid (hx.keep hb); have HP := Lib.hid hx.len
  have bK := ksT_len hx.len; have bV := vsT_len hx.len; have bD := dsT_bd hx.2
  rw [t2] at bK; rw [t3] at bV; rw [t4] at bD
  have BK := Lib.hid bK; have BV := Lib.hid bV; have BD := Lib.hid bD
  have hsz : (w.alloc (.cells ndZ 70)).heap.size = w.heap.size + 1 := by simp
  clear hb hx bK bV bD
  go_enter Try.func39, Try.ntmps39
  go_upto_region 3 with fail
  generalize w.alloc (.cells ndZ 70) = y at *
  go_wp2_with fail
  refine (taken_any A c P y HX.out hc).mono ?_
  rintro e x1 ⟨AK, nK, cK, AV, nV, cV, AD, nD, cD, rfl, p1, p2, p3, hK, hV, hD, hb1⟩
  rw [t2] at p1; rw [t3] at p2; rw [t4] at p3; rw [t1]
  have hba := below_alloc x1 (.cells (ndV lf AK nK cK AV nV cV AD nD cD) 70)
  have ND := Lib.hid (heap_alloc_new x1 (.cells (ndV lf AK nK cK AV nV cV AD nD cD) 70))
  have hbb := hb1.trans (hba.mono hb1.size)
  have PK := Lib.hid ((p1.keep hba).mono (b := w.heap.size) (by omega)); have PV := Lib.hid ((p2.keep hba).mono (b := w.heap.size) (by omega)); have PD := Lib.hid ((p3.below hba (fun k hk => (p3.lies k hk).2)).mono (b := w.heap.size) (by omega))
  have RS1 := Lib.hid ((hbb.block _ (by omega)).trans RS.out); have HX1 := Lib.hid (HX.out.keep hbb); have HB1 := Lib.hid (HB.out.trans (hbb.mono HB.out.size))
  have lK := p1.bss.len; have lV := p2.bss.len; have lD : ds.length = nD := by have := p3.1; simpa using this
  have hs1 := hb1.size
  clear p1 p2 p3 hb1 hba hbb RS HX HB
  go_upto_region 4 with fail
  generalize hgn : x1.heap.size = gn at *
  generalize x1.alloc (.cells (ndV lf AK nK cK AV nV cV AD nD cD) 70) = y1 at *
  have q0 := rc_cell 0 (.bool lf) ND.out rfl; have q1 := rc_cell 1 (.slice AK nK cK) ND.out rfl; have q2 := rc_cell 2 (.slice AV nV cV) ND.out rfl; have q3 := rc_cell 3 (.slice AD nD cD) ND.out rfl
  have HIN : Hid (Ins y1 AD nD ds) := Lib.hid ⟨PD.out.rd, fun d hd => by have := BD.out d hd; omega⟩
  go_wp2_with fail
  clear q0 q1 q2 q3
  refine (encode_any lf AK nK cK AV nV cV AD nD cD ks vs ds y1 PK.out.bss PV.out.bss HIN.out (by omega) (by omega) (by omega) (fun xs hx => Nat.le_trans (BK.out xs hx) (by omega)) (tz_of (m := 0) 1 BK.out (by omega) (by omega)) (tz_of (m := 0) 2 BV.out (by omega) (by omega))).mono ?_
  rintro e y2 ⟨B, cB, rfl, ho, hb2⟩
  have HRR : Hid (Ran (encR lf ks vs ds)) := Lib.hid (encR_ran (by omega) PK.out.bss.ran PV.out.bss.ran)
  clear t1 t2 t3 t4
  generalize encC lf ks vs ds = C at *
  generalize encR lf ks vs ds = R at *
  have HO := Lib.hid (ho.bs HRR.out)
  have ND2 := Lib.hid ((hb2.block _ (lt_of_heap ND.out)).trans ND.out); have RS2 := Lib.hid ((hb2.block _ (lt_of_heap RS1.out)).trans RS1.out); have HX2 := Lib.hid (HX1.out.keep hb2); have HB2 := Lib.hid (HB1.out.trans (hb2.mono HB1.out.size))
  have PK2 := Lib.hid (PK.out.keep hb2); have PV2 := Lib.hid (PV.out.keep hb2); have PD2 := Lib.hid (PD.out.below hb2 (fun k hk => (PD.out.lies k hk).2))
  clear ho hb2 ND RS1 HX1 HB1 PK PV PD HIN BK BV BD
  have d1 : ((C : Int) != 0) = true := by simp; omega
  have d2 : ¬ (C : Int) = 0 := by omega
  go_upto_region 6 with fail
  have z0 := rc_cell 0 (.bool false) RS2.out rfl; have fz0 := two_frozen (i := 0) RS2.out
  have z1 := rc_cell 1 (.slice none 0 0) RS2.out rfl; have fz1 := two_frozen (i := 1) RS2.out
  have z2 := rc_cell 2 (.slice none 0 0) RS2.out rfl; have fz2 := two_frozen (i := 2) RS2.out
  have z3 := rc_cell 3 (.slice none 0 0) RS2.out rfl; have fz3 := two_frozen (i := 3) RS2.out
  have HZ := Lib.hid (set4 y2 w.heap.size (.bool false) (.slice none 0 0) (.slice none 0 0) (.slice none 0 0) RS2.out)
  have HBE := Lib.hid (HB2.out.trans (HZ.out.2.below (Nat.le_of_lt (lt_of_heap RS2.out))))
  go_wp2_with fail
  clear z0 z1 z2 z3 fz0 fz1 fz2 fz3
  generalize ((((y2.setCell ⟨w.heap.size, 0, none⟩ (.bool false)).setCell ⟨w.heap.size, 1, none⟩ (.slice none 0 0)).setCell ⟨w.heap.size, 2, none⟩ (.slice none 0 0)).setCell ⟨w.heap.size, 3, none⟩ (.slice none 0 0)) = wz at *
  have e0 := rc_cell 0 (.bool false) HZ.out.1 rfl; have e1 := rc_cell 1 (.slice none 0 0) HZ.out.1 rfl; have e2 := rc_cell 2 (.slice none 0 0) HZ.out.1 rfl; have e3 := rc_cell 3 (.slice none 0 0) HZ.out.1 rfl
  refine bodyPost_ret (v := .tuple #[.agg #[.bool false, .slice none 0 0, .slice none 0 0, .slice none 0 0], .int .i64 3]) (by simp [results, Try.f39, go_sem, Try.isAgg70, Try.sizeOf70, e0, e1, e2, e3]) rfl ⟨rfl, HBE.out⟩
set_option maxRecDepth 100000 in
set_option maxHeartbeats 8000000 in
theorem decodeN_any (A : Option Addr) (c : Nat) (P : List Int) (lf : Bool) (ks vs : List (List Int)) (ds : List Int) (t1 : lfT P = lf) (t2 : ksT P = ks) (t3 : vsT P = vs) (t4 : dsT P = ds) (w : World) (hx : Bs w A 512 P) (hc : 512 ≤ c) (hC : encC lf ks vs ds = 0) (hR : encR lf ks vs ds ≠ P) :
    Calls Try.prog 39 #[.slice A 512 c] w fun e w' => e = .returned (.tuple #[.agg ndZ, .int .i64 3]) ∧ Below w.heap.size w w' := by
  have hb := below_alloc w (.cells ndZ 70)
  have RS := Lib.hid (heap_alloc_new w (.cells ndZ 70))
  have HB := Lib.hid hb
  have HX := Lib.hid (hx.keep hb); have HP := Lib.hid hx.len
  have bK := ksT_len hx.len; have bV := vsT_len hx.len; have bD := dsT_bd hx.2
  rw [t2] at bK; rw [t3] at bV; rw [t4] at bD
  have BK := Lib.hid bK; have BV := Lib.hid bV; have BD := Lib.hid bD
  have hsz : (w.alloc (.cells ndZ 70)).heap.size = w.heap.size + 1 := by simp
  clear hb hx bK bV bD
  go_enter Try.func39, Try.ntmps39
  go_upto_region 3 with fail
  generalize w.alloc (.cells ndZ 70) = y at *
  go_wp2_with fail
  refine (taken_any A c P y HX.out hc).mono ?_
  rintro e x1 ⟨AK, nK, cK, AV, nV, cV, AD, nD, cD, rfl, p1, p2, p3, hK, hV, hD, hb1⟩
  rw [t2] at p1; rw [t3] at p2; rw [t4] at p3; rw [t1]
  have hba := below_alloc x1 (.cells (ndV lf AK nK cK AV nV cV AD nD cD) 70)
  have ND := Lib.hid (heap_alloc_new x1 (.cells (ndV lf AK nK cK AV nV cV AD nD cD) 70))
  have hbb := hb1.trans (hba.mono hb1.size)
  have PK := Lib.hid ((p1.keep hba).mono (b := w.heap.size) (by omega)); have PV := Lib.hid ((p2.keep hba).mono (b := w.heap.size) (by omega)); have PD := Lib.hid ((p3.below hba (fun k hk => (p3.lies k hk).2)).mono (b := w.heap.size) (by omega))
  have RS1 := Lib.hid ((hbb.block _ (by omega)).trans RS.out); have HX1 := Lib.hid (HX.out.keep hbb); have HB1 := Lib.hid (HB.out.trans (hbb.mono HB.out.size))
  have lK := p1.bss.len; have lV := p2.bss.len; have lD : ds.length = nD := by have := p3.1; simpa using this
  have hs1 := hb1.size
  clear p1 p2 p3 hb1 hba hbb RS HX HB
  go_upto_region 4 with fail
  generalize hgn : x1.heap.size = gn at *
  generalize x1.alloc (.cells (ndV lf AK nK cK AV nV cV AD nD cD) 70) = y1 at *
  have q0 := rc_cell 0 (.bool lf) ND.out rfl; have q1 := rc_cell 1 (.slice AK nK cK) ND.out rfl; have q2 := rc_cell 2 (.slice AV nV cV) ND.out rfl; have q3 := rc_cell 3 (.slice AD nD cD) ND.out rfl
  have HIN : Hid (Ins y1 AD nD ds) := Lib.hid ⟨PD.out.rd, fun d hd => by have := BD.out d hd; omega⟩
  go_wp2_with fail
  clear q0 q1 q2 q3
  refine (encode_any lf AK nK cK AV nV cV AD nD cD ks vs ds y1 PK.out.bss PV.out.bss HIN.out (by omega) (by omega) (by omega) (fun xs hx => Nat.le_trans (BK.out xs hx) (by omega)) (tz_of (m := 0) 1 BK.out (by omega) (by omega)) (tz_of (m := 0) 2 BV.out (by omega) (by omega))).mono ?_
  rintro e y2 ⟨B, cB, rfl, ho, hb2⟩
  have HRR : Hid (Ran (encR lf ks vs ds)) := Lib.hid (encR_ran (by omega) PK.out.bss.ran PV.out.bss.ran)
  clear t1 t2 t3 t4
  generalize encC lf ks vs ds = C at *
  generalize encR lf ks vs ds = R at *
  have HO := Lib.hid (ho.bs HRR.out)
  have ND2 := Lib.hid ((hb2.block _ (lt_of_heap ND.out)).trans ND.out); have RS2 := Lib.hid ((hb2.block _ (lt_of_heap RS1.out)).trans RS1.out); have HX2 := Lib.hid (HX1.out.keep hb2); have HB2 := Lib.hid (HB1.out.trans (hb2.mono HB1.out.size))
  have PK2 := Lib.hid (PK.out.keep hb2); have PV2 := Lib.hid (PV.out.keep hb2); have PD2 := Lib.hid (PD.out.below hb2 (fun k hk => (PD.out.lies k hk).2))
  clear ho hb2 ND RS1 HX1 HB1 PK PV PD HIN BK BV BD
  subst hC
  go_wp2_with fail
  refine (bytesEq_any B A R.length 512 cB c R P false (by simpa using hR) y2 HO.out HX2.out).mono ?_
  rintro e y3 ⟨rfl, rfl⟩
  go_upto_region 6 with fail
  have z0 := rc_cell 0 (.bool false) RS2.out rfl; have fz0 := two_frozen (i := 0) RS2.out
  have z1 := rc_cell 1 (.slice none 0 0) RS2.out rfl; have fz1 := two_frozen (i := 1) RS2.out
  have z2 := rc_cell 2 (.slice none 0 0) RS2.out rfl; have fz2 := two_frozen (i := 2) RS2.out
  have z3 := rc_cell 3 (.slice none 0 0) RS2.out rfl; have fz3 := two_frozen (i := 3) RS2.out
  have HZ := Lib.hid (set4 y3 w.heap.size (.bool false) (.slice none 0 0) (.slice none 0 0) (.slice none 0 0) RS2.out)
  have HBE := Lib.hid (HB2.out.trans (HZ.out.2.below (Nat.le_of_lt (lt_of_heap RS2.out))))
  go_wp2_with fail
  clear z0 z1 z2 z3 fz0 fz1 fz2 fz3
  generalize ((((y3.setCell ⟨w.heap.size, 0, none⟩ (.bool false)).setCell ⟨w.heap.size, 1, none⟩ (.slice none 0 0)).setCell ⟨w.heap.size, 2, none⟩ (.slice none 0 0)).setCell ⟨w.heap.size, 3, none⟩ (.slice none 0 0)) = wz at *
  have e0 := rc_cell 0 (.bool false) HZ.out.1 rfl; have e1 := rc_cell 1 (.slice none 0 0) HZ.out.1 rfl; have e2 := rc_cell 2 (.slice none 0 0) HZ.out.1 rfl; have e3 := rc_cell 3 (.slice none 0 0) HZ.out.1 rfl
  refine bodyPost_ret (v := .tuple #[.agg #[.bool false, .slice none 0 0, .slice none 0 0, .slice none 0 0], .int .i64 3]) (by simp [results, Try.f39, go_sem, Try.isAgg70, Try.sizeOf70, e0, e1, e2, e3]) rfl ⟨rfl, HBE.out⟩
set_option maxRecDepth 100000 in
set_option maxHeartbeats 8000000 in
theorem decodeO_any (A : Option Addr) (c : Nat) (P : List Int) (lf : Bool) (ks vs : List (List Int)) (ds : List Int) (t1 : lfT P = lf) (t2 : ksT P = ks) (t3 : vsT P = vs) (t4 : dsT P = ds) (w : World) (hx : Bs w A 512 P) (hc : 512 ≤ c) (hC : encC lf ks vs ds = 0) (hR : encR lf ks vs ds = P) :
    Calls Try.prog 39 #[.slice A 512 c] w fun e w' => ∃ (AK : Option Addr) (nK cK : Nat) (AV : Option Addr) (nV cV : Nat) (AD : Option Addr) (nD cD : Nat), e = .returned (.tuple #[.agg (ndV lf AK nK cK AV nV cV AD nD cD), .int .i64 0]) ∧ Prts w' w.heap.size AK nK cK ks ∧ Prts w' w.heap.size AV nV cV vs ∧ Own w' w.heap.size 3 AD nD cD (ds.map (Value.int .i64)) ∧ nK ≤ 512 ∧ nV ≤ 512 ∧ nD ≤ 513 ∧ Below w.heap.size w w' := by
  have hb := below_alloc w (.cells ndZ 70)
  have RS := Lib.hid (heap_alloc_new w (.cells ndZ 70))
  have HB := Lib.hid hb
  have HX := Lib.hid (hx.keep hb); have HP := Lib.hid hx.len
  have bK := ksT_len hx.len; have bV := vsT_len hx.len; have bD := dsT_bd hx.2
  rw [t2] at bK; rw [t3] at bV; rw [t4] at bD
  have BK := Lib.hid bK; have BV := Lib.hid bV; have BD := Lib.hid bD
  have hsz : (w.alloc (.cells ndZ 70)).heap.size = w.heap.size + 1 := by simp
  clear hb hx bK bV bD
  go_enter Try.func39, Try.ntmps39
  go_upto_region 3 with fail
  generalize w.alloc (.cells ndZ 70) = y at *
  go_wp2_with fail
  refine (taken_any A c P y HX.out hc).mono ?_
  rintro e x1 ⟨AK, nK, cK, AV, nV, cV, AD, nD, cD, rfl, p1, p2, p3, hK, hV, hD, hb1⟩
  rw [t2] at p1; rw [t3] at p2; rw [t4] at p3; rw [t1]
  have hba := below_alloc x1 (.cells (ndV lf AK nK cK AV nV cV AD nD cD) 70)
  have ND := Lib.hid (heap_alloc_new x1 (.cells (ndV lf AK nK cK AV nV cV AD nD cD) 70))
  have hbb := hb1.trans (hba.mono hb1.size)
  have PK := Lib.hid ((p1.keep hba).mono (b := w.heap.size) (by omega)); have PV := Lib.hid ((p2.keep hba).mono (b := w.heap.size) (by omega)); have PD := Lib.hid ((p3.below hba (fun k hk => (p3.lies k hk).2)).mono (b := w.heap.size) (by omega))
  have RS1 := Lib.hid ((hbb.block _ (by omega)).trans RS.out); have HX1 := Lib.hid (HX.out.keep hbb); have HB1 := Lib.hid (HB.out.trans (hbb.mono HB.out.size))
  have lK := p1.bss.len; have lV := p2.bss.len; have lD : ds.length = nD := by have := p3.1; simpa using this
  have hs1 := hb1.size
  clear p1 p2 p3 hb1 hba hbb RS HX HB
  go_upto_region 4 with fail
  generalize hgn : x1.heap.size = gn at *
  generalize x1.alloc (.cells (ndV lf AK nK cK AV nV cV AD nD cD) 70) = y1 at *
  have q0 := rc_cell 0 (.bool lf) ND.out rfl; have q1 := rc_cell 1 (.slice AK nK cK) ND.out rfl; have q2 := rc_cell 2 (.slice AV nV cV) ND.out rfl; have q3 := rc_cell 3 (.slice AD nD cD) ND.out rfl
  have HIN : Hid (Ins y1 AD nD ds) := Lib.hid ⟨PD.out.rd, fun d hd => by have := BD.out d hd; omega⟩
  go_wp2_with fail
  clear q0 q1 q2 q3
  refine (encode_any lf AK nK cK AV nV cV AD nD cD ks vs ds y1 PK.out.bss PV.out.bss HIN.out (by omega) (by omega) (by omega) (fun xs hx => Nat.le_trans (BK.out xs hx) (by omega)) (tz_of (m := 0) 1 BK.out (by omega) (by omega)) (tz_of (m := 0) 2 BV.out (by omega) (by omega))).mono ?_
  rintro e y2 ⟨B, cB, rfl, ho, hb2⟩
  have HRR : Hid (Ran (encR lf ks vs ds)) := Lib.hid (encR_ran (by omega) PK.out.bss.ran PV.out.bss.ran)
  clear t1 t2 t3 t4
  generalize encC lf ks vs ds = C at *
  generalize encR lf ks vs ds = R at *
  have HO := Lib.hid (ho.bs HRR.out)
  have ND2 := Lib.hid ((hb2.block _ (lt_of_heap ND.out)).trans ND.out); have RS2 := Lib.hid ((hb2.block _ (lt_of_heap RS1.out)).trans RS1.out); have HX2 := Lib.hid (HX1.out.keep hb2); have HB2 := Lib.hid (HB1.out.trans (hb2.mono HB1.out.size))
  have PK2 := Lib.hid (PK.out.keep hb2); have PV2 := Lib.hid (PV.out.keep hb2); have PD2 := Lib.hid (PD.out.below hb2 (fun k hk => (PD.out.lies k hk).2))
  clear ho hb2 ND RS1 HX1 HB1 PK PV PD HIN BK BV BD
  subst hC
  subst hR
  go_wp2_with fail
  refine (bytesEq_any B A R.length 512 cB c R R true (by simp) y2 HO.out HX2.out).mono ?_
  rintro e y3 ⟨rfl, rfl⟩
  have PK := PK2; have PV := PV2; have PD := PD2
  go_upto_region 7 with fail
  have q0 := rc_cell 0 (.bool lf) ND2.out rfl; have q1 := rc_cell 1 (.slice AK nK cK) ND2.out rfl; have q2 := rc_cell 2 (.slice AV nV cV) ND2.out rfl; have q3 := rc_cell 3 (.slice AD nD cD) ND2.out rfl
  have z0 := rc_cell 0 (.bool false) RS2.out rfl; have fz0 := two_frozen (i := 0) RS2.out
  have z1 := rc_cell 1 (.slice none 0 0) RS2.out rfl; have fz1 := two_frozen (i := 1) RS2.out
  have z2 := rc_cell 2 (.slice none 0 0) RS2.out rfl; have fz2 := two_frozen (i := 2) RS2.out
  have z3 := rc_cell 3 (.slice none 0 0) RS2.out rfl; have fz3 := two_frozen (i := 3) RS2.out
  have HZ := Lib.hid (set4 y3 w.heap.size (.bool lf) (.slice AK nK cK) (.slice AV nV cV) (.slice AD nD cD) RS2.out)
  have HBE := Lib.hid (HB2.out.trans (HZ.out.2.below (Nat.le_of_lt (lt_of_heap RS2.out))))
  have P1 := Lib.hid (PK.out.set HZ.out.2 RS2.out (by decide) (by decide))
  have P2 := Lib.hid (PV.out.set HZ.out.2 RS2.out (by decide) (by decide))
  have P3 := Lib.hid (PD.out.onl HZ.out.2 (PD.out.ne_blk RS2.out (by decide)))
  go_wp2_with fail
  clear z0 z1 z2 z3 fz0 fz1 fz2 fz3
  generalize ((((y3.setCell ⟨w.heap.size, 0, none⟩ (.bool lf)).setCell ⟨w.heap.size, 1, none⟩ (.slice AK nK cK)).setCell ⟨w.heap.size, 2, none⟩ (.slice AV nV cV)).setCell ⟨w.heap.size, 3, none⟩ (.slice AD nD cD)) = wz at *
  have e0 := rc_cell 0 (.bool lf) HZ.out.1 rfl; have e1 := rc_cell 1 (.slice AK nK cK) HZ.out.1 rfl; have e2 := rc_cell 2 (.slice AV nV cV) HZ.out.1 rfl; have e3 := rc_cell 3 (.slice AD nD cD) HZ.out.1 rfl
  refine bodyPost_ret (v := .tuple #[.agg #[.bool lf, .slice AK nK cK, .slice AV nV cV, .slice AD nD cD], .int .i64 0]) (by simp [results, Try.f39, go_sem, Try.isAgg70, Try.sizeOf70, e0, e1, e2, e3]) rfl ⟨AK, nK, cK, AV, nV, cV, AD, nD, cD, rfl, P1.out, P2.out, P3.out, hK, hV, hD, HBE.out⟩
end Go.Proofs.Ytmjjbfcblmmipaa
