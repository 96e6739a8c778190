/- What LeafKeeps needs of Encode and Decode (parts of DecM, DecW, DecV, LpgW, LspM: never import it beside them). -/
import Derived.Test.YtmjjbfcblmmipaaTakC
import Derived.Test.YtmjjbfcblmmipaaEnc4W
import Derived.Test.YtmjjbfcblmmipaaAwkL
import Derived.Shelf.Bytes.SlSmallAll
namespace Go.Proofs.Ytmjjbfcblmmipaa
set_option linter.unusedVariables false
set_option linter.unusedSimpArgs false
open Go.RowKit
/-- A page that begins with these bytes, as bytes. -/
def pgZ (P : List Int) : List Int := P ++ List.replicate (512 - P.length) 0
theorem pgL_eq (P : List Int) : pgL P = By (pgZ P) := by unfold pgL pgZ; rw [By_append]; simp [By, zer]
theorem pgZ_len (P : List Int) (h : P.length ≤ 512) : (pgZ P).length = 512 := by simp [pgZ]; omega
theorem pgZ_ran {P : List Int} (h : Ran P) : Ran (pgZ P) := h.append (fun x hx => by rw [List.eq_of_mem_replicate hx]; omega)
theorem tw_ran (n : Nat) (h : n ≤ 65535) : Ran (tw n) := by
  intro x hx
  simp only [tw, List.mem_cons, List.not_mem_nil, or_false] at hx
  rcases hx with rfl | rfl <;> omega
theorem getD_all {l : List (List Int)} {Q : List Int → Prop} (h : ∀ x ∈ l, Q x) (h0 : Q []) (j : Nat) : Q (l.getD j []) := by
  by_cases hj : j < l.length
  · rw [show l.getD j [] = l[j] by simp [List.getD, List.getElem?_eq_getElem hj]]; exact h _ (List.getElem_mem hj)
  · rw [show l.getD j [] = [] by simp [List.getD, List.getElem?_eq_none (by omega : l.length ≤ j)]]; exact h0
theorem getD_allI {l : List Int} {Q : Int → Prop} (h : ∀ x ∈ l, Q x) (h0 : Q 0) (j : Nat) : Q (l.getD j 0) := by
  by_cases hj : j < l.length
  · rw [show l.getD j 0 = l[j] by simp [List.getD, List.getElem?_eq_getElem hj]]; exact h _ (List.getElem_mem hj)
  · rw [show l.getD j 0 = 0 by simp [List.getD, List.getElem?_eq_none (by omega : l.length ≤ j)]]; exact h0
theorem enc_ran (lf : Bool) (ks vs : List (List Int)) (ds : List Int) (hn : ks.length ≤ 65535) (hk : ∀ x ∈ ks, Ran x) (hv : ∀ x ∈ vs, Ran x) (lk : ∀ x ∈ ks, x.length ≤ 255) (lv : ∀ x ∈ vs, x.length ≤ 65535) (hd : ∀ d ∈ ds, 0 ≤ d ∧ d ≤ 65535) :
    ∀ j, Ran (encP lf ks vs ds j) := by
  have hdd : ∀ j, Ran (tw (ds.getD j 0).toNat) := fun j => tw_ran _ (by have := getD_allI (Q := fun d => 0 ≤ d ∧ d ≤ 65535) hd (by omega) j; omega)
  intro j
  induction j with
  | zero =>
    rw [encP]
    refine ((?_ : Ran _).append (tw_ran _ hn)).append ?_
    · cases lf <;> (intro x hx; simp at hx; omega)
    · cases lf
      · exact hdd 0
      · exact Ran.nil
  | succ j ih =>
    rw [encP]
    refine ih.append (((?_ : Ran _).append (getD_all (Q := Ran) hk Ran.nil j)).append ?_)
    · intro x hx
      have := getD_all (Q := fun x => x.length ≤ 255) lk (by simp) j
      simp only [List.mem_cons, List.not_mem_nil, or_false] at hx
      subst hx; omega
    · cases lf
      · exact hdd (j + 1)
      · exact (tw_ran _ (getD_all (Q := fun x => x.length ≤ 65535) lv (by simp) j)).append (getD_all (Q := Ran) hv Ran.nil j)
theorem res_le (lf : Bool) (R : List Int) : (resO lf R).length ≤ R.length := by
  unfold resO aftO
  split <;> simp only [List.length_drop] <;> omega
theorem tkE_all {α : Type} (f : List Int → α) (lf : Bool) (Q : α → Prop) (m : Nat) (hf : ∀ R : List Int, R.length ≤ m → Q (f R)) : ∀ (j : Nat) (R : List Int), R.length ≤ m → ∀ x ∈ tkE f lf j R, Q x := by
  intro j
  induction j with
  | zero => intro R _ x hx; simp [tkE] at hx
  | succ j ih =>
    intro R hR x hx
    by_cases h : 0 < R.length
    · rw [tkE_succ f lf j R h] at hx
      rcases List.mem_cons.1 hx with rfl | hx
      · exact hf R hR
      · exact ih _ (Nat.le_trans (res_le lf R) hR) x hx
    · have : R = [] := List.eq_nil_of_length_eq_zero (by omega)
      subst this; rw [tkE_nil] at hx; cases hx
theorem R0_le {P : List Int} (hP : P.length = 512) : (R0 P).length ≤ 512 := by
  unfold R0; split <;> simp only [List.length_drop] <;> omega
theorem ksT_len {P : List Int} (hP : P.length = 512) : ∀ x ∈ ksT P, x.length ≤ 512 := by
  refine tkE_all keyO _ (fun x => x.length ≤ 512) 512 (fun R hR => ?_) _ _ (R0_le hP)
  unfold keyO; simp only [List.length_take, List.length_drop]; omega
theorem vsT_len {P : List Int} (hP : P.length = 512) : ∀ x ∈ vsT P, x.length ≤ 512 := by
  unfold vsT
  split
  · refine tkE_all valO _ (fun x => x.length ≤ 512) 512 (fun R hR => ?_) _ _ (R0_le hP)
    unfold valO aftO; simp only [List.length_take, List.length_drop]; omega
  · intro x hx; cases hx
theorem nm_ran {P : List Int} (h : Ran P) (hl : P.length ≤ 2) : nmL P ≤ 65535 := nm_bd hl h
theorem tkE_sub (lf : Bool) (Q : Int → Prop) (hf : ∀ R : List Int, Ran R → Q (kidO R)) : ∀ (j : Nat) (R : List Int), Ran R → ∀ x ∈ tkE kidO lf j R, Q x := by
  intro j
  induction j with
  | zero => intro R _ x hx; simp [tkE] at hx
  | succ j ih =>
    intro R hR x hx
    by_cases h : 0 < R.length
    · rw [tkE_succ kidO lf j R h] at hx
      rcases List.mem_cons.1 hx with rfl | hx
      · exact hf R hR
      · refine ih _ (hR.sub fun y hy => ?_) x hx
        unfold resO aftO at hy
        split at hy
        · exact List.mem_of_mem_drop (List.mem_of_mem_drop (List.mem_of_mem_drop (List.mem_of_mem_drop hy)))
        · exact List.mem_of_mem_drop (List.mem_of_mem_drop (List.mem_of_mem_drop hy))
    · have : R = [] := List.eq_nil_of_length_eq_zero (by omega)
      subst this; rw [tkE_nil] at hx; cases hx
theorem dsT_bd {P : List Int} (hr : Ran P) : ∀ d ∈ dsT P, 0 ≤ d ∧ d ≤ 65535 := by
  unfold dsT
  split
  · intro x hx; cases hx
  · intro x hx
    rcases List.mem_cons.1 hx with rfl | hx
    · have := nm_ran (P := (P.drop 3).take 2) (hr.sub fun y hy => List.mem_of_mem_drop (List.mem_of_mem_take hy)) (by rw [List.length_take]; omega)
      omega
    · refine tkE_sub false (fun d => 0 ≤ d ∧ d ≤ 65535) (fun R hR => ?_) _ _ (hr.sub fun y hy => ?_) x hx
      · unfold kidO aftO
        have := nm_ran (P := ((((R.drop 1).drop (nmL (R.take 1))).take 2))) (hR.sub fun y hy => List.mem_of_mem_drop (List.mem_of_mem_drop (List.mem_of_mem_take hy))) (by rw [List.length_take]; omega)
        omega
      · unfold R0 at hy; split at hy <;> exact List.mem_of_mem_drop hy
theorem str_inj {xs ys : List Int} (hx : Ran xs) (hy : Ran ys) : ((strOfNums xs).toList == (strOfNums ys).toList) = decide (xs = ys) := by
  have key : ∀ {xs ys : List Int}, Ran xs → Ran ys → xs.map (fun n => UInt8.ofNat n.toNat) = ys.map (fun n => UInt8.ofNat n.toNat) → xs = ys := by
    intro xs
    induction xs with
    | nil => intro ys _ _ h; cases ys with | nil => rfl | cons y ys => simp at h
    | cons x xs ih =>
      intro ys hx hy h
      cases ys with
      | nil => simp at h
      | cons y ys =>
        simp only [List.map_cons, List.cons.injEq] at h
        have h1 := hx x (by simp); have h2 := hy y (by simp)
        have h3 := congrArg UInt8.toNat h.1
        have e1 : (UInt8.ofNat x.toNat).toNat = x.toNat := UInt8.toNat_ofNat_of_lt' (by show x.toNat < 256; omega)
        have e2 : (UInt8.ofNat y.toNat).toNat = y.toNat := UInt8.toNat_ofNat_of_lt' (by show y.toNat < 256; omega)
        rw [e1, e2] at h3
        rw [ih (fun z hz => hx z (by simp [hz])) (fun z hz => hy z (by simp [hz])) h.2, show x = y by omega]
  rw [Lib.strOfNums_toList, Lib.strOfNums_toList, Bool.eq_iff_iff, decide_eq_true_iff, beq_iff_eq]
  exact ⟨fun h => key hx hy h, fun h => by rw [h]⟩
theorem conv_bs (A : Option Addr) (n c : Nat) (xs : List Int) (w : World) (hx : Bs w A n xs) : (convert 28 9 (.slice A n c)).run Try.prog w = .ok (.string (strOfNums xs)) w := by
  rcases Nat.eq_zero_or_pos n with h0 | h0
  · subst h0
    obtain rfl : xs = [] := List.eq_nil_of_length_eq_zero hx.len
    exact run_convert_bytes_zero w 28 5 Try.underlying28 Try.underlying5 A c 9 Try.underlying9
  · obtain ⟨b, o, rfl, _, hc⟩ := hx.1.2 h0
    refine run_convert_bytes_arg (P := Try.prog) w 28 5 Try.underlying28 Try.underlying5 b o n c xs hx.len ?_ 9 Try.underlying9
    intro i hi
    have hl := hx.len
    refine hc i _ ?_
    rw [By, List.getElem?_map, List.getElem?_eq_getElem (by omega : i < xs.length)]
    simp [List.getD, List.getElem?_eq_getElem (by omega : i < xs.length)]
set_option maxHeartbeats 4000000 in
theorem bytesEq_any (A B : Option Addr) (n m c d : Nat) (xs ys : List Int) (v : Bool) (hv : decide (xs = ys) = v) (w : World) (hx : Bs w A n xs) (hy : Bs w B m ys) :
    Calls Try.prog 87 #[.slice A n c, .slice B m d] w fun e w' => e = .returned (.bool v) ∧ w' = w := by
  have h1 := conv_bs A n c xs w hx; have h2 := conv_bs B m d ys w hy
  have HE := Lib.hid ((str_inj hx.2 hy.2).trans hv)
  clear hx hy hv
  generalize strOfNums xs = s1 at *; generalize strOfNums ys = s2 at *
  go_enter Try.func87, Try.ntmps87
  go_wp2
  go_ret
  exact ⟨by rw [HE.out]; rfl, rfl⟩
/-- The error of a node's page, and the page. -/
def encC (lf : Bool) (ks vs : List (List Int)) (ds : List Int) : Nat := if chkN lf ks vs ds = 0 then (if 512 < sizeN lf ks vs ds.length then 8 else 0) else chkN lf ks vs ds
def encR (lf : Bool) (ks vs : List (List Int)) (ds : List Int) : List Int := if encC lf ks vs ds = 0 then pgZ (encP lf ks vs ds ks.length) else []
theorem encC_zero {lf : Bool} {ks vs : List (List Int)} {ds : List Int} (h : encC lf ks vs ds = 0) : chkN lf ks vs ds = 0 ∧ sizeN lf ks vs ds.length ≤ 512 := by
  unfold encC at h
  split at h
  · split at h
    · cases h
    · exact ⟨by assumption, by omega⟩
  · rename_i h1; exact absurd h h1
theorem chk_enc_ran {lf : Bool} {ks vs : List (List Int)} {ds : List Int} (hn : ks.length ≤ 65535) (hk : ∀ x ∈ ks, Ran x) (hv : ∀ x ∈ vs, Ran x) (h : chkN lf ks vs ds = 0) (j : Nat) : Ran (encP lf ks vs ds j) := by
  obtain ⟨c1, c2, c3, c4, c5⟩ := chk_ok h
  exact enc_ran lf ks vs ds hn hk hv (fun x hx => Nat.le_trans (anyL_mem c1 x hx) (by omega)) (fun x hx => Nat.le_trans (anyL_mem c2 x hx) (by omega)) (dsB_mem c4) j
theorem encR_ran {lf : Bool} {ks vs : List (List Int)} {ds : List Int} (hn : ks.length ≤ 65535) (hk : ∀ x ∈ ks, Ran x) (hv : ∀ x ∈ vs, Ran x) : Ran (encR lf ks vs ds) := by
  unfold encR
  split
  · rename_i h; exact pgZ_ran (chk_enc_ran hn hk hv (encC_zero h).1 _)
  · exact Ran.nil
theorem small_of_size {lf : Bool} {ks vs : List (List Int)} {n : Nat} (h : sizeN lf ks vs n ≤ 512) : ks.length ≤ 512 := by
  have h1 : ∀ l : List (List Int), l.length ≤ szW 1 l := by intro l; induction l with | nil => simp [szW] | cons x l ih => simp only [szW, List.length_cons]; omega
  have h2 := h1 ks; unfold sizeN at h; omega
theorem encode_any (lf : Bool) (AK : Option Addr) (nK cK : Nat) (AV : Option Addr) (nV cV : Nat) (AD : Option Addr) (nD cD : Nat) (ks vs : List (List Int)) (ds : List Int) (w : World) (hx : Bss w AK nK ks) (hy : Bss w AV nV vs) (hz : Ins w AD nD ds)
    (bK : nK ≤ 1048576) (bV : nV ≤ 1048576) (bD : nD ≤ 1048576) (sK : ∀ xs ∈ ks, xs.length ≤ 1048576) (tK : szW 1 ks ≤ 100000000000000000) (tV : szW 2 vs ≤ 100000000000000000) :
    Calls Try.prog 32 #[.agg (ndV lf AK nK cK AV nV cV AD nD cD)] w fun e w' => ∃ (B : Option Addr) (cB : Nat), e = .returned (.tuple #[.slice B (encR lf ks vs ds).length cB, .int .i64 ((encC lf ks vs ds : Nat) : Int)]) ∧ Own w' w.heap.size 5 B (encR lf ks vs ds).length cB (By (encR lf ks vs ds)) ∧ Below w.heap.size w w' := by
  have hlk := hx.len; have hld := hz.len
  by_cases h0 : chkN lf ks vs ds = 0
  · by_cases hs : sizeN lf ks vs nD ≤ 512
    · have hC : encC lf ks vs ds = 0 := by unfold encC; rw [if_pos h0, if_neg (by rw [hld]; omega)]
      have hR : encR lf ks vs ds = pgZ (encP lf ks vs ds nK) := by unfold encR; rw [if_pos hC, hlk]
      rw [hC, hR]
      cases lf with
      | true =>
        refine (encodeL_any AK nK cK AV nV cV AD nD cD ks vs ds w hx hy hz bK bV bD h0 hs).mono ?_
        rintro e w' ⟨pg, rfl, ho, hb⟩
        rw [pgL_eq] at ho
        have hl : (pgZ (encP true ks vs ds nK)).length = 512 := by have := ho.1; simpa [By] using this
        exact ⟨_, _, by rw [hl]; rfl, by rw [hl]; exact ho, hb⟩
      | false =>
        refine (encodeF_any AK nK cK AV nV cV AD nD cD ks vs ds w hx hy hz bK bV bD h0 hs).mono ?_
        rintro e w' ⟨pg, rfl, ho, hb⟩
        rw [pgL_eq] at ho
        have hl : (pgZ (encP false ks vs ds nK)).length = 512 := by have := ho.1; simpa [By] using this
        exact ⟨_, _, by rw [hl]; rfl, by rw [hl]; exact ho, hb⟩
    · have hC : encC lf ks vs ds = 8 := by unfold encC; rw [if_pos h0, if_pos (by rw [hld]; omega)]
      have hR : encR lf ks vs ds = [] := by unfold encR; rw [if_neg (by rw [hC]; decide)]
      rw [hC, hR]
      refine (encodeFull_any lf AK nK cK AV nV cV AD nD cD ks vs ds w hx hy hz bK bV bD sK tK tV h0 _ rfl (by omega)).mono ?_
      rintro e w' ⟨rfl, hb⟩
      exact ⟨none, 0, rfl, Own.nil_, hb⟩
  · have hC : encC lf ks vs ds = chkN lf ks vs ds := by unfold encC; rw [if_neg h0]
    have hR : encR lf ks vs ds = [] := by unfold encR; rw [if_neg (by rw [hC]; exact h0)]
    rw [hC, hR]
    refine (encodeBad_any lf AK nK cK AV nV cV AD nD cD ks vs ds w hx hy hz bK bV bD sK tK tV _ rfl h0).mono ?_
    rintro e w' ⟨rfl, hb⟩
    exact ⟨none, 0, rfl, Own.nil_, hb⟩
theorem tz_of {m : Nat} {l : List (List Int)} (d : Nat) (h : ∀ x ∈ l, x.length ≤ 512) (hl : l.length ≤ 512) (hd : d ≤ 2) : szW d l ≤ 100000000000000000 := by
  have := szW_bd d 512 l h
  have h2 : l.length * (d + 512) ≤ 512 * 514 := Nat.mul_le_mul hl (by omega)
  omega
/-- What is taken of a node's page is the node. -/
theorem back_node {lf : Bool} {ks vs : List (List Int)} {ds : List Int} (h : encC lf ks vs ds = 0) : lfT (encR lf ks vs ds) = lf ∧ ksT (encR lf ks vs ds) = ks ∧ vsT (encR lf ks vs ds) = vs ∧ dsT (encR lf ks vs ds) = ds := by
  obtain ⟨h1, h2⟩ := encC_zero h
  obtain ⟨c1, c2, c3, c4, c5⟩ := chk_ok h1
  unfold encR
  rw [if_pos h]
  unfold pgZ
  unfold badF at c5
  cases lf with
  | true =>
    rw [if_pos rfl, Bool.or_eq_false_iff, decide_eq_false_iff_not, decide_eq_false_iff_not] at c5
    have hd : ds = [] := List.eq_nil_of_length_eq_zero (by omega)
    have := take_leaf ks vs ds (List.replicate (512 - (encP true ks vs ds ks.length).length) 0) (by omega)
    rw [hd] at this ⊢
    exact this
  | false =>
    rw [if_neg (by decide), Bool.or_eq_false_iff, decide_eq_false_iff_not, decide_eq_false_iff_not] at c5
    have hv : vs = [] := List.eq_nil_of_length_eq_zero (by omega)
    have := take_fork ks vs ds (List.replicate (512 - (encP false ks vs ds ks.length).length) 0) (by omega) (fun d hd => (dsB_mem c4 d hd).1)
    rw [hv] at this ⊢
    exact this
theorem encR_len {lf : Bool} {ks vs : List (List Int)} {ds : List Int} (h : encC lf ks vs ds = 0) : (encR lf ks vs ds).length = 512 := by
  obtain ⟨h1, h2⟩ := encC_zero h
  obtain ⟨c1, c2, c3, c4, c5⟩ := chk_ok h1
  unfold encR
  rw [if_pos h]
  refine pgZ_len _ ?_
  unfold badF at c5
  cases lf with
  | true =>
    rw [if_pos rfl, Bool.or_eq_false_iff, decide_eq_false_iff_not, decide_eq_false_iff_not] at c5
    rw [encP_len true ks vs ds (fun _ => by omega) _ (Nat.le_refl _), fr_all ks vs ds.length (by omega)]; exact h2
  | false =>
    rw [if_neg (by decide), Bool.or_eq_false_iff, decide_eq_false_iff_not, decide_eq_false_iff_not] at c5
    rw [encP_len false ks vs ds (fun h => by cases h) _ (Nat.le_refl _), fr_allF ks vs ds.length (by omega)]; exact h2
theorem set4g (W : World) (a : Nat) (v0 v1 v2 v3 z0 z1 z2 z3 : Value) (T : TypeId) (h : W.heap[a]? = some (.cells #[z0, z1, z2, z3] T (0, 0))) :
    ((((W.setCell ⟨a, 0, none⟩ v0).setCell ⟨a, 1, none⟩ v1).setCell ⟨a, 2, none⟩ v2).setCell ⟨a, 3, none⟩ v3).heap[a]? = some (.cells #[v0, v1, v2, v3] T (0, 0)) ∧ Onl a W ((((W.setCell ⟨a, 0, none⟩ v0).setCell ⟨a, 1, none⟩ v1).setCell ⟨a, 2, none⟩ v2).setCell ⟨a, 3, none⟩ v3) := by
  have e0 := rc_set (cs' := #[v0, z1, z2, z3]) 0 v0 h rfl
  have e1 := rc_set (cs' := #[v0, v1, z2, z3]) 1 v1 e0 rfl
  have e2 := rc_set (cs' := #[v0, v1, v2, z3]) 2 v2 e1 rfl
  have e3 := rc_set (cs' := #[v0, v1, v2, v3]) 3 v3 e2 rfl
  exact ⟨e3, (((onl_set _ a 0 _).trans (onl_set _ a 1 _)).trans (onl_set _ a 2 _)).trans (onl_set _ a 3 _)⟩
theorem alloc2 (x : World) (c1 c2 : Array Value) (t : TypeId) :
    ((x.alloc (.cells c1 t)).alloc (.cells c2 t)).heap[x.heap.size]? = some (.cells c1 t (0, 0)) ∧ ((x.alloc (.cells c1 t)).alloc (.cells c2 t)).heap[x.heap.size + 1]? = some (.cells c2 t (0, 0)) ∧ Below x.heap.size x ((x.alloc (.cells c1 t)).alloc (.cells c2 t)) := by
  have b1 := below_alloc x (.cells c1 t)
  have b2 := below_alloc (x.alloc (.cells c1 t)) (.cells c2 t)
  have s1 : (x.alloc (.cells c1 t)).heap.size = x.heap.size + 1 := by simp
  have n1 := heap_alloc_new x (.cells c1 t)
  have n2 := heap_alloc_new (x.alloc (.cells c1 t)) (.cells c2 t)
  rw [s1] at n2
  exact ⟨(b2.block _ (by omega)).trans n1, n2, b1.trans (b2.mono (by omega))⟩
end Go.Proofs.Ytmjjbfcblmmipaa
