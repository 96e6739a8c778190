/- awake of the laws of leaf. -/
import Derived.Test.YtmjjbfcblmmipaaChk2W
import Derived.Laws.CopyOwn
import Derived.Laws.EntriesVeiled
namespace Go.Proofs.Ytmjjbfcblmmipaa
set_option linter.unusedVariables false
set_option linter.unusedSimpArgs false
open Go.RowKit
/-- A page that begins with these bytes; the rest is noughts. -/
def pgL (P : List Int) : List Value := By P ++ zer (512 - P.length)
def pgA (P : List Int) : Array Value := (pgL P).toArray
theorem pgL_len (P : List Int) (h : P.length ≤ 512) : (pgL P).length = 512 := by simp [pgL, By_length, zer]; omega
theorem zer_succ (k : Nat) : zer (k + 1) = .int .u8 0 :: zer k := rfl
theorem pgA_at {P : List Int} {k : Nat} (h : P.length = k) (hk : k < 512) : (pgA P)[k]? = some (.int .u8 0) := by
  unfold pgA pgL
  rw [List.getElem?_toArray, List.getElem?_append_right (by rw [By_length]; omega), By_length, h, Nat.sub_self]
  obtain ⟨j, hj⟩ : ∃ j, 512 - k = j + 1 := ⟨511 - k, by omega⟩
  rw [hj, zer_succ]; rfl
theorem pgA_set {P : List Int} {k : Nat} {y : Int} (h : P.length = k) (hk : k < 512) : (pgA P).setIfInBounds k (.int .u8 y) = pgA (P ++ [y]) := by
  unfold pgA pgL
  rw [List.setIfInBounds_toArray]
  congr 1
  rw [List.set_append_right _ _ (by rw [By_length]; omega), By_length, h, Nat.sub_self, By_append]
  obtain ⟨j, hj⟩ : ∃ j, 512 - k = j + 1 := ⟨511 - k, by omega⟩
  have hj2 : 512 - (P ++ [y]).length = j := by simp; omega
  rw [hj, hj2, zer_succ]
  simp [By]
theorem pgL_splice {P xs : List Int} {k : Nat} (h : P.length = k) (hk : k + xs.length ≤ 512) : splice (pgL P) k (By xs) = pgL (P ++ xs) := by
  unfold splice pgL
  have e1 : (By P ++ zer (512 - P.length)).take k = By P := by rw [List.take_append_of_le_length (by rw [By_length]; omega), List.take_of_length_le (by rw [By_length]; omega)]
  have e2 : (By P ++ zer (512 - P.length)).drop (k + (By xs).length) = zer (512 - (P ++ xs).length) := by
    rw [List.drop_append, List.drop_eq_nil_of_le (by rw [By_length]; omega), By_length, By_length, List.nil_append]
    unfold zer
    rw [List.drop_replicate]
    congr 1
    simp; omega
  rw [e1, e2, By_append, List.append_assoc]
/-- What stands in a page's making: the row, the slice's box, the place's box. -/
structure PG (W : World) (pg g5 g6 : Nat) (P : List Int) : Prop where
  row : W.heap[pg]? = some (.cells (pgA P) 5 (0, 0))
  sl : W.heap[g5]? = some (.cells #[.slice (some ⟨pg, 0, none⟩) 512 512] 28 (0, 0))
  at_ : W.heap[g6]? = some (.cells #[.int .i64 ((P.length : Nat) : Int)] 3 (0, 0))
theorem PG.ne {W : World} {pg g5 g6 : Nat} {P : List Int} (h : PG W pg g5 g6 P) : pg ≠ g5 ∧ pg ≠ g6 ∧ g5 ≠ g6 := by
  refine ⟨fun e => ?_, fun e => ?_, fun e => ?_⟩
  · have := h.row; rw [e, h.sl] at this; injection this with this; injection this with _ t; cases t
  · have := h.row; rw [e, h.at_] at this; injection this with this; injection this with _ t; cases t
  · have := h.sl; rw [e, h.at_] at this; injection this with this; injection this with _ t; cases t
theorem PG.keep {W W' : World} {pg g5 g6 : Nat} {P : List Int} (h : PG W pg g5 g6 P) (hb : Below W.heap.size W W') : PG W' pg g5 g6 P :=
  ⟨(hb.block _ (lt_of_heap h.row)).trans h.row, (hb.block _ (lt_of_heap h.sl)).trans h.sl, (hb.block _ (lt_of_heap h.at_)).trans h.at_⟩
theorem idxPg {P : Program} (W : World) (k : Nat) (hk : k < 512) (pg : Nat) : True := trivial
set_option maxRecDepth 100000 in
set_option maxHeartbeats 4000000 in
theorem one_any (x y : Int) (hy : IntKind.u8.wrap x = y) (pg g5 g6 : Nat) (P : List Int) (w : World) (h : PG w pg g5 g6 P) (hP : P.length < 512) :
    Calls Try.prog 74 #[.int .i64 x, .pointer (some ⟨g5, 0, none⟩), .pointer (some ⟨g6, 0, none⟩)] w fun e w' => e = .returned (.tuple #[]) ∧ PG w' pg g5 g6 (P ++ [y]) ∧ On2 pg g6 w w' := by
  obtain ⟨n1, n2, n3⟩ := h.ne
  obtain ⟨k, HK⟩ : ∃ k : Nat, Hid (P.length = k) := ⟨_, rfl⟩
  have hk : k < 512 := by rw [← HK.out]; exact hP
  have ha := h.at_
  rw [HK.out] at ha
  have q5 := rc_cell 0 (.slice (some ⟨pg, 0, none⟩) 512 512) h.sl rfl
  have q6 := rc_cell 0 (.int .i64 (k : Int)) ha rfl
  have qr := rc_cell k (.int .u8 0) h.row (pgA_at HK.out hk)
  have fr := two_frozen (i := k) h.row
  have R1 := rc_set (cs' := pgA (P ++ [y])) k (.int .u8 y) h.row (pgA_set HK.out hk)
  have o1 := onl_set w pg k (.int .u8 y)
  have S1 := (o1.block g5 (lt_of_heap h.sl) (by intro e; injection e with e; exact n1 e.symm)).trans h.sl
  have A1 := (o1.block g6 (lt_of_heap ha) (by intro e; injection e with e; exact n2 e.symm)).trans ha
  have q7 := rc_cell 0 (.int .i64 (k : Int)) A1 rfl
  have f7 := two_frozen (i := 0) A1
  have A2 := rc_set (cs' := #[.int .i64 ((k : Int) + 1)]) 0 (.int .i64 ((k : Int) + 1)) A1 rfl
  have o2 := onl_set (w.setCell ⟨pg, k, none⟩ (.int .u8 y)) g6 0 (.int .i64 ((k : Int) + 1))
  have R2 := (o2.block pg (lt_of_heap R1) (by intro e; injection e with e; exact n2 e)).trans R1
  have S2 := (o2.block g5 (lt_of_heap S1) (by intro e; injection e with e; exact n3 e)).trans S1
  have HPG : Hid (PG ((w.setCell ⟨pg, k, none⟩ (.int .u8 y)).setCell ⟨g6, 0, none⟩ (.int .i64 ((k : Int) + 1))) pg g5 g6 (P ++ [y])) := Lib.hid ⟨R2, S2, by rw [A2]; simp [HK.out]⟩
  have HO := Lib.hid ((On2.left (g2 := g6) o1).trans (On2.right (g1 := pg) o2))
  have z0 : (0 : Int) ≤ (k : Int) := by omega
  have z1 : (k : Int) < 512 := by omega
  clear h ha R1 o1 S1 A1 A2 o2 R2 S2 n1 n2 n3 hP
  go_enter Try.func74, Try.ntmps74
  go_wp2
  go_end0
  exact ⟨rfl, HPG.out, HO.out⟩
end Go.Proofs.Ytmjjbfcblmmipaa
namespace Go.Proofs.Ytmjjbfcblmmipaa
set_option linter.unusedVariables false
set_option linter.unusedSimpArgs false
open Go.RowKit
theorem u8_is (x y : Int) (h : x % 256 = y) (hy : 0 ≤ y ∧ y ≤ 255) : IntKind.u8.wrap x = y := by
  subst h
  simp [IntKind.wrap, IntKind.signed, IntKind.bits]
theorem On2.pg {W W' : World} {g1 g2 k : Nat} {o : Obj} (h : On2 g1 g2 W W') (hk : W.heap[k]? = some o) (h1 : k ≠ g1) (h2 : k ≠ g2) : W'.heap[k]? = some o :=
  (h.block k (by have := (Array.getElem?_eq_some_iff.1 hk).1; exact this) h1 h2).trans hk
set_option maxRecDepth 100000 in
set_option maxHeartbeats 4000000 in
theorem two_any (n pg g5 g6 g7 : Nat) (P : List Int) (w : World) (hn : n ≤ 65535) (h : PG w pg g5 g6 P) (hP : P.length + 1 < 512) (h7 : w.heap[g7]? = some (.cells #[.func (.func 74) #[] #[.pointer (some ⟨g5, 0, none⟩), .pointer (some ⟨g6, 0, none⟩)]] 125 (0, 0))) (n7 : g7 ≠ pg) (m7 : g7 ≠ g6) :
    Calls Try.prog 75 #[.int .i64 (n : Int), .pointer (some ⟨g7, 0, none⟩)] w fun e w' => e = .returned (.tuple #[]) ∧ PG w' pg g5 g6 (P ++ [((n / 256 : Nat) : Int), ((n % 256 : Nat) : Int)]) ∧ On2 pg g6 w w' := by
  have HP := Lib.hid h; have H7 := Lib.hid h7
  have q7 := rc_cell 0 (.func (.func 74) #[] #[.pointer (some ⟨g5, 0, none⟩), .pointer (some ⟨g6, 0, none⟩)]) h7 rfl
  clear h h7
  go_enter Try.func75, Try.ntmps75
  go_wp2_with fail
  refine (one_any ((n : Int) / 256) ((n / 256 : Nat) : Int) (u8_is _ _ (by omega) (by omega)) pg g5 g6 P w HP.out (by omega)).mono ?_
  rintro e w1 ⟨rfl, hp1, ho1⟩
  have HP1 := Lib.hid hp1; have HO1 := Lib.hid ho1
  have H71 := Lib.hid (ho1.pg H7.out n7 m7)
  have q71 := rc_cell 0 (.func (.func 74) #[] #[.pointer (some ⟨g5, 0, none⟩), .pointer (some ⟨g6, 0, none⟩)]) H71.out rfl
  clear hp1 ho1
  go_wp2_with fail
  refine (one_any (n : Int) ((n % 256 : Nat) : Int) (u8_is _ _ (by omega) (by omega)) pg g5 g6 _ w1 HP1.out (by simp; omega)).mono ?_
  rintro e w2 ⟨rfl, hp2, ho2⟩
  have HP2 := Lib.hid hp2; have HO2 := Lib.hid (HO1.out.trans ho2)
  clear hp2 ho2
  go_wp2
  go_end0
  exact ⟨rfl, by have := HP2.out; rwa [List.append_assoc] at this, HO2.out⟩
theorem elem28 : Try.prog.underlying 28 = some (.slice (Try.prog.elem 28)) := by kernel_rfl
theorem elem28' : Try.prog.elem 28 = 5 := by kernel_rfl
theorem slice28_lo (A : Option Addr) (n c lo : Nat) (h : lo ≤ n) (W : World) :
    (Instr.slice 28 (.slice A n c) (some (.int .i64 (lo : Int))) none none).run Try.prog W = .ok (.slice (cutA A c lo) (n - lo) (c - lo)) W := by
  rw [run_slice_l (P := Try.prog) W 28 A n c elem28 .i64 (lo : Int) (by omega) (by omega), elem28', Try.sizeOf5]
  simp only [sliced, Result.andThen, Int.toNat_natCast, Nat.mul_one]; rfl
/-- copy onto a row: the row alone turns. -/
theorem step_copy_onl {P : Program} {ops : Array Oper} {o : Oper} {a : Act} {w : World} {K : Act → World → Prop} {Q : Exit → Act → World → Prop} {E : Prop} (hgd : o.guard = none) (d s : Operand) (t : TypeId)
    (ho : o.op = .call { callee := .builtin .copy, args := #[d, s], argTypes := #[t, t] }) (el : TypeId) (hu : P.underlying t = some (.slice el)) (hsz : (P.info? el).map (·.size) = some 1)
    (dA sA : Option Addr) (dn dc sn sc : Nat) (hd : a.eval d = .slice dA dn dc) (hs : a.eval s = .slice sA sn sc) (g off : Nat) (cur : List Value) (T : TypeId) (hg : w.heap[g]? = some (.cells cur.toArray T (0, 0)))
    (cs : List Value) (hn : cs.length = Nat.min sn dn) (hfit : off + cs.length ≤ cur.length) (h1 : ∀ v ∈ cs, v.oneCell' = true)
    (hpos : 0 < cs.length → dA = some ⟨g, off, none⟩ ∧ ∃ ad, sA = some ad ∧ ∀ j v, cs[j]? = some v → w.cell? (ad.add j) = some v)
    (h : ∀ w', Hid (w'.heap[g]? = some (.cells (splice cur off cs).toArray T (0, 0))) → Hid (Onl g w w') → K (a.put o.dst (goInt cs.length)) w') :
    if Region.wanted o (yielded ops a.tmps) = true then Oper.wp P o a w K Q else E := by
  have hw : Region.wanted o (yielded ops a.tmps) = true := by simp [Region.wanted, hgd]
  rw [if_pos hw]
  have key : ∃ w', (Builtin.copy_ #[t, t] o.type #[.slice dA dn dc, .slice sA sn sc]).run P w = .ok (goInt cs.length) w' ∧ w'.heap[g]? = some (.cells (splice cur off cs).toArray T (0, 0)) ∧ Onl g w w' := by
    rcases Nat.eq_zero_or_pos cs.length with h0 | h0
    · have e0 : cs = [] := List.eq_nil_of_length_eq_zero h0
      refine ⟨w, ?_, by rw [hg, e0]; simp [splice], Onl.refl _ _⟩
      rw [h0]
      exact run_copy_none (P := P) w t t o.type el dA sA dn dc sn sc hu hsz (by omega)
    · obtain ⟨e1, ad, e2, hc⟩ := hpos h0
      refine ⟨_, by rw [e1, e2]; exact run_copy_row (P := P) w t t o.type el g off dn dc ad sn sc cur.toArray T cs hu hsz hg hn hc (by simpa using hfit) h1, ?_, ?_⟩
      · have := setRow_heap w g _ ((cur.toArray.toList.take off ++ cs ++ cur.toArray.toList.drop (off + cs.length)).toArray) T _ hg
        rw [this]; simp [splice]
      · exact ⟨rfl, rfl, rfl, by simp [World.setRow], fun i _ hne => setRow_other w g i _ (fun e => hne (by rw [e]))⟩
  obtain ⟨w', hr, hh, hon⟩ := key
  unfold Oper.wp
  simp only [execOp, ho, resolve, invoke, builtin, Sem.run_bind, Sem.run_pure, Result.andThen_ok, List.map_toArray, List.map_cons, List.map_nil, hd, hs, hr]
  exact h w' hh hon
set_option maxRecDepth 100000 in
set_option maxHeartbeats 4000000 in
theorem text_any (A : Option Addr) (n c pg g5 g6 : Nat) (P xs : List Int) (w : World) (hx : Bs w A n xs) (h : PG w pg g5 g6 P) (hP : P.length + n ≤ 512) :
    Calls Try.prog 76 #[.slice A n c, .pointer (some ⟨g6, 0, none⟩), .pointer (some ⟨g5, 0, none⟩)] w fun e w' => e = .returned (.tuple #[]) ∧ PG w' pg g5 g6 (P ++ xs) ∧ On2 pg g6 w w' := by
  obtain ⟨n1, n2, n3⟩ := h.ne
  obtain ⟨k, HK⟩ : ∃ k : Nat, Hid (P.length = k) := ⟨_, rfl⟩
  have hk : k + n ≤ 512 := by rw [← HK.out]; exact hP
  have HX := Lib.hid hx; have HXL := Lib.hid hx.len
  have ha := h.at_
  rw [HK.out] at ha
  have HA : Hid ((w.drew).heap[g6]? = some (.cells #[.int .i64 (k : Int)] 3 (0, 0))) := ha
  have HS : Hid ((w.drew).heap[g5]? = some (.cells #[.slice (some ⟨pg, 0, none⟩) 512 512] 28 (0, 0))) := h.sl
  have HR : Hid ((w.drew).heap[pg]? = some (.cells (pgL P).toArray 5 (0, 0))) := h.row
  have HXd : Hid (Bs w.drew A n xs) := hx
  have HD : Hid (On2 pg g6 w w.drew) := Lib.hid (On2.dr ⟨1, rfl⟩)
  have s1 := slice28_lo (some ⟨pg, 0, none⟩) 512 512 k (by omega)
  have z0 : (0 : Int) ≤ (k : Int) := by omega
  have z1 : (k : Int) ≤ 512 := by omega
  have hw1 : IntKind.i64.wrap ((k : Int) + (n : Int)) = (k : Int) + (n : Int) := IntWalk.i64_in _ (by omega)
  clear h ha hx hP
  go_enter Try.func76, Try.ntmps76
  go_wp2_with fail

  refine wp_region_held_drew (S := fun w' => w'.cell? ⟨g5, 0, none⟩ = some (.slice (some ⟨pg, 0, none⟩) 512 512) ∧ True) (by kernel_rfl) ⟨rc_cell 0 _ HS.out rfl, trivial⟩ (fun hH0 => ?_)
  generalize w.drew = yd at *
  refine wpAnyH_take (i := 1) (oi := { dst := some 5, op := Op.load 28 (Operand.tmp 2), type := 28, pos := _, after := #[], guard := none }) (v := ?vt1_1) rfl (by kernel_rfl) (by kernel_rfl) (by kernel_rfl) (fun _ _ _ h => h) (Or.inl ⟨by rfl, ?yt1_1⟩) hH0 ?rt1_1
  case yt1_1 => (intro w hSw; (try dsimp only at hSw); go_simp; try (with_reducible rfl))
  try simp only [Act.put, List.setIfInBounds_toArray, List.set_cons_zero, List.set_cons_succ]
  refine wpAnyH_take (i := 4) (oi := { dst := some 8, op := Op.move (Operand.tmp 0), type := 28, pos := _, after := #[], guard := none }) (v := ?vt1_4) rfl (by kernel_rfl) (by kernel_rfl) (by kernel_rfl) (fun _ _ _ h => h) (Or.inl ⟨by rfl, ?yt1_4⟩) hH0 ?rt1_4
  case yt1_4 => (intro w hSw; (try dsimp only at hSw); go_simp; try (with_reducible rfl))
  try simp only [Act.put, List.setIfInBounds_toArray, List.set_cons_zero, List.set_cons_succ]
  refine wpAnyH_ready (rs := [0, 2]) (by kernel_rfl) (by simp) ?_
  refine (AllReadyH.cons (o := { dst := some 4, op := Op.load 3 (Operand.tmp 1), type := 3, pos := _, after := #[], guard := none }) rfl (fun K hK => ?_) (AllReadyH.cons (o := { dst := some 6, op := Op.load 3 (Operand.tmp 1), type := 3, pos := _, after := #[], guard := none }) rfl (fun K hK => ?_) AllReadyH.nil))
  · have la2 := rc_cell 0 (.int .i64 (k : Int)) HA.out rfl
    go_simp
    refine hK.out _ _ ⟨rc_cell 0 _ HS.out rfl, trivial⟩ (fun hH2 => ?_)
    clear hK K
    try simp only [Act.put, List.setIfInBounds_toArray, List.set_cons_zero, List.set_cons_succ]
    refine wpAnyH_ready (rs := [2]) (by kernel_rfl) (by simp) ?_
    refine (AllReadyH.cons (o := { dst := some 6, op := Op.load 3 (Operand.tmp 1), type := 3, pos := _, after := #[], guard := none }) rfl (fun K hK => ?_) AllReadyH.nil)
    have la4 := rc_cell 0 (.int .i64 (k : Int)) HA.out rfl
    go_simp
    refine hK.out _ _ ⟨rc_cell 0 _ HS.out rfl, trivial⟩ (fun hH4 => ?_)
    clear hK K
    try simp only [Act.put, List.setIfInBounds_toArray, List.set_cons_zero, List.set_cons_succ]
    refine wpAnyH_take (i := 3) (oi := { dst := some 7, op := Op.slice 28 (Operand.tmp 5) (some (Operand.tmp 6)) none none, type := 28, pos := _, after := #[{ on := 1, ground := Ground.data }, { on := 2, ground := Ground.data }], guard := none }) (v := ?vt5_3) rfl (by kernel_rfl) (by kernel_rfl) (by kernel_rfl) (fun _ _ _ h => h) (Or.inl ⟨by rfl, ?yt5_3⟩) hH4 ?rt5_3
    case yt5_3 => (intro w hSw; (try dsimp only at hSw); go_simp; try (with_reducible rfl))
    try simp only [Act.put, List.setIfInBounds_toArray, List.set_cons_zero, List.set_cons_succ]
    refine wpAnyH_ready (rs := [5]) (by kernel_rfl) (by simp) ?_
    refine (AllReadyH.cons (o := { dst := some 9, op := Op.call { callee := Callee.builtin Builtin.copy, args := #[Operand.tmp 7, Operand.tmp 8], argTypes := #[28, 28] }, type := 3, pos := _, after := #[{ on := 3, ground := Ground.data }, { on := 4, ground := Ground.data }], guard := none }) rfl (fun K hK => ?_) AllReadyH.nil)
    refine step_copy_onl rfl (.tmp 7) (.tmp 8) 28 rfl 5 Try.underlying28 size5 (cutA (some ⟨pg, 0, none⟩) 512 k) A (512 - k) (512 - k) n c (by simp [Act.eval, Act.put]) (by simp [Act.eval, Act.put]) pg k (pgL P) 5 HR.out (By xs) (by rw [By_length, HXL.out]; show n = min n (512 - k); omega) (by rw [By_length, HXL.out, pgL_len P (by rw [HK.out]; omega)]; exact hk) (By_one xs) (fun hp => ?_) ?_
    · rw [By_length, HXL.out] at hp
      obtain ⟨b, off, hA, _, hc⟩ := HXd.out.1.2 hp
      refine ⟨by (unfold cutA; rw [if_neg (by omega)]; simp [Addr.add]; omega), _, hA, fun j v hv => ?_⟩
      have := hc j v hv
      rwa [show (⟨b, off, none⟩ : Addr).add j = ⟨b, off + j, none⟩ by unfold Addr.add; split <;> simp_all]
    intro x6 hr6 ho6
    have S6 := Lib.hid ((ho6.out.block g5 (lt_of_heap HS.out) (by intro e; injection e with e; exact n1 e.symm)).trans HS.out)
    have A6 := Lib.hid ((ho6.out.block g6 (lt_of_heap HA.out) (by intro e; injection e with e; exact n2 e.symm)).trans HA.out)
    rw [pgL_splice HK.out (by rw [HXL.out]; exact hk)] at hr6
    rw [By_length, HXL.out]
    have O6 := Lib.hid (HD.out.trans (On2.left (g2 := g6) ho6.out))
    refine hK.out _ _ ⟨rc_cell 0 _ S6.out rfl, trivial⟩ (fun hH6 => ?_)
    clear hK K
    try simp only [Act.put, List.setIfInBounds_toArray, List.set_cons_zero, List.set_cons_succ]
    refine wpAnyH_take (i := 6) (oi := { dst := some 10, op := Op.binOp BinOp.add 3 (Operand.tmp 4) (Operand.tmp 9) 3, type := 3, pos := _, after := #[{ on := 0, ground := Ground.data }, { on := 5, ground := Ground.data }], guard := none }) (v := ?vt7_6) rfl (by kernel_rfl) (by kernel_rfl) (by kernel_rfl) (fun _ _ _ h => h) (Or.inl ⟨by rfl, ?yt7_6⟩) hH6 ?rt7_6
    case yt7_6 => (intro w hSw; (try dsimp only at hSw); go_simp; try (with_reducible rfl))
    try simp only [Act.put, List.setIfInBounds_toArray, List.set_cons_zero, List.set_cons_succ]
    refine wpAnyH_ready (rs := [7]) (by kernel_rfl) (by simp) ?_
    refine (AllReadyH.cons (o := { dst := none, op := Op.store 3 (Operand.tmp 1) (Operand.tmp 10), type := 0, pos := _, after := #[{ on := 6, ground := Ground.data }, { on := 5, ground := Ground.chain }, { on := 0, ground := Ground.phase }, { on := 1, ground := Ground.phase }, { on := 2, ground := Ground.phase }, { on := 3, ground := Ground.phase }, { on := 4, ground := Ground.phase }, { on := 5, ground := Ground.phase }, { on := 6, ground := Ground.phase }], guard := none }) rfl (fun K hK => ?_) AllReadyH.nil)
    have c8 := rc_cell 0 (.int .i64 (k : Int)) A6.out rfl; have f8 := two_frozen (i := 0) A6.out
    have A8 := Lib.hid (rc_set (cs' := #[(.int .i64 ((k : Int) + (n : Int)))]) 0 (.int .i64 ((k : Int) + (n : Int))) A6.out rfl)
    have o8 := onl_set x6 g6 0 (.int .i64 ((k : Int) + (n : Int)))
    have S8 := Lib.hid ((o8.block g5 (lt_of_heap S6.out) (by intro e; injection e with e; exact n3 e)).trans S6.out)
    have R8 := Lib.hid ((o8.block pg (lt_of_heap hr6.out) (by intro e; injection e with e; exact n2 e)).trans hr6.out)
    have O8 := Lib.hid (O6.out.trans (On2.right (g1 := pg) o8))
    clear o8
    go_simp
    refine hK.out _ _ ⟨rc_cell 0 _ S8.out rfl, trivial⟩ (fun hH8 => ?_)
    clear hK K
    try simp only [Act.put, List.setIfInBounds_toArray, List.set_cons_zero, List.set_cons_succ]
    refine wpAnyH_done (by kernel_rfl) ?_ _
    go_wp2
    go_end0
    exact ⟨rfl, ⟨R8.out, S8.out, by have := A8.out; rw [this]; simp [HK.out, HXL.out]⟩, O8.out⟩
  · have la10 := rc_cell 0 (.int .i64 (k : Int)) HA.out rfl
    go_simp
    refine hK.out _ _ ⟨rc_cell 0 _ HS.out rfl, trivial⟩ (fun hH10 => ?_)
    clear hK K
    try simp only [Act.put, List.setIfInBounds_toArray, List.set_cons_zero, List.set_cons_succ]
    refine wpAnyH_take (i := 3) (oi := { dst := some 7, op := Op.slice 28 (Operand.tmp 5) (some (Operand.tmp 6)) none none, type := 28, pos := _, after := #[{ on := 1, ground := Ground.data }, { on := 2, ground := Ground.data }], guard := none }) (v := ?vt11_3) rfl (by kernel_rfl) (by kernel_rfl) (by kernel_rfl) (fun _ _ _ h => h) (Or.inl ⟨by rfl, ?yt11_3⟩) hH10 ?rt11_3
    case yt11_3 => (intro w hSw; (try dsimp only at hSw); go_simp; try (with_reducible rfl))
    try simp only [Act.put, List.setIfInBounds_toArray, List.set_cons_zero, List.set_cons_succ]
    refine wpAnyH_ready (rs := [0, 5]) (by kernel_rfl) (by simp) ?_
    refine (AllReadyH.cons (o := { dst := some 4, op := Op.load 3 (Operand.tmp 1), type := 3, pos := _, after := #[], guard := none }) rfl (fun K hK => ?_) (AllReadyH.cons (o := { dst := some 9, op := Op.call { callee := Callee.builtin Builtin.copy, args := #[Operand.tmp 7, Operand.tmp 8], argTypes := #[28, 28] }, type := 3, pos := _, after := #[{ on := 3, ground := Ground.data }, { on := 4, ground := Ground.data }], guard := none }) rfl (fun K hK => ?_) AllReadyH.nil))
    · have la12 := rc_cell 0 (.int .i64 (k : Int)) HA.out rfl
      go_simp
      refine hK.out _ _ ⟨rc_cell 0 _ HS.out rfl, trivial⟩ (fun hH12 => ?_)
      clear hK K
      try simp only [Act.put, List.setIfInBounds_toArray, List.set_cons_zero, List.set_cons_succ]
      refine wpAnyH_ready (rs := [5]) (by kernel_rfl) (by simp) ?_
      refine (AllReadyH.cons (o := { dst := some 9, op := Op.call { callee := Callee.builtin Builtin.copy, args := #[Operand.tmp 7, Operand.tmp 8], argTypes := #[28, 28] }, type := 3, pos := _, after := #[{ on := 3, ground := Ground.data }, { on := 4, ground := Ground.data }], guard := none }) rfl (fun K hK => ?_) AllReadyH.nil)
      refine step_copy_onl rfl (.tmp 7) (.tmp 8) 28 rfl 5 Try.underlying28 size5 (cutA (some ⟨pg, 0, none⟩) 512 k) A (512 - k) (512 - k) n c (by simp [Act.eval, Act.put]) (by simp [Act.eval, Act.put]) pg k (pgL P) 5 HR.out (By xs) (by rw [By_length, HXL.out]; show n = min n (512 - k); omega) (by rw [By_length, HXL.out, pgL_len P (by rw [HK.out]; omega)]; exact hk) (By_one xs) (fun hp => ?_) ?_
      · rw [By_length, HXL.out] at hp
        obtain ⟨b, off, hA, _, hc⟩ := HXd.out.1.2 hp
        refine ⟨by (unfold cutA; rw [if_neg (by omega)]; simp [Addr.add]; omega), _, hA, fun j v hv => ?_⟩
        have := hc j v hv
        rwa [show (⟨b, off, none⟩ : Addr).add j = ⟨b, off + j, none⟩ by unfold Addr.add; split <;> simp_all]
      intro x14 hr14 ho14
      have S14 := Lib.hid ((ho14.out.block g5 (lt_of_heap HS.out) (by intro e; injection e with e; exact n1 e.symm)).trans HS.out)
      have A14 := Lib.hid ((ho14.out.block g6 (lt_of_heap HA.out) (by intro e; injection e with e; exact n2 e.symm)).trans HA.out)
      rw [pgL_splice HK.out (by rw [HXL.out]; exact hk)] at hr14
      rw [By_length, HXL.out]
      have O14 := Lib.hid (HD.out.trans (On2.left (g2 := g6) ho14.out))
      refine hK.out _ _ ⟨rc_cell 0 _ S14.out rfl, trivial⟩ (fun hH14 => ?_)
      clear hK K
      try simp only [Act.put, List.setIfInBounds_toArray, List.set_cons_zero, List.set_cons_succ]
      refine wpAnyH_take (i := 6) (oi := { dst := some 10, op := Op.binOp BinOp.add 3 (Operand.tmp 4) (Operand.tmp 9) 3, type := 3, pos := _, after := #[{ on := 0, ground := Ground.data }, { on := 5, ground := Ground.data }], guard := none }) (v := ?vt15_6) rfl (by kernel_rfl) (by kernel_rfl) (by kernel_rfl) (fun _ _ _ h => h) (Or.inl ⟨by rfl, ?yt15_6⟩) hH14 ?rt15_6
      case yt15_6 => (intro w hSw; (try dsimp only at hSw); go_simp; try (with_reducible rfl))
      try simp only [Act.put, List.setIfInBounds_toArray, List.set_cons_zero, List.set_cons_succ]
      refine wpAnyH_ready (rs := [7]) (by kernel_rfl) (by simp) ?_
      refine (AllReadyH.cons (o := { dst := none, op := Op.store 3 (Operand.tmp 1) (Operand.tmp 10), type := 0, pos := _, after := #[{ on := 6, ground := Ground.data }, { on := 5, ground := Ground.chain }, { on := 0, ground := Ground.phase }, { on := 1, ground := Ground.phase }, { on := 2, ground := Ground.phase }, { on := 3, ground := Ground.phase }, { on := 4, ground := Ground.phase }, { on := 5, ground := Ground.phase }, { on := 6, ground := Ground.phase }], guard := none }) rfl (fun K hK => ?_) AllReadyH.nil)
      have c16 := rc_cell 0 (.int .i64 (k : Int)) A14.out rfl; have f16 := two_frozen (i := 0) A14.out
      have A16 := Lib.hid (rc_set (cs' := #[(.int .i64 ((k : Int) + (n : Int)))]) 0 (.int .i64 ((k : Int) + (n : Int))) A14.out rfl)
      have o16 := onl_set x14 g6 0 (.int .i64 ((k : Int) + (n : Int)))
      have S16 := Lib.hid ((o16.block g5 (lt_of_heap S14.out) (by intro e; injection e with e; exact n3 e)).trans S14.out)
      have R16 := Lib.hid ((o16.block pg (lt_of_heap hr14.out) (by intro e; injection e with e; exact n2 e)).trans hr14.out)
      have O16 := Lib.hid (O14.out.trans (On2.right (g1 := pg) o16))
      clear o16
      go_simp
      refine hK.out _ _ ⟨rc_cell 0 _ S16.out rfl, trivial⟩ (fun hH16 => ?_)
      clear hK K
      try simp only [Act.put, List.setIfInBounds_toArray, List.set_cons_zero, List.set_cons_succ]
      refine wpAnyH_done (by kernel_rfl) ?_ _
      go_wp2
      go_end0
      exact ⟨rfl, ⟨R16.out, S16.out, by have := A16.out; rw [this]; simp [HK.out, HXL.out]⟩, O16.out⟩
    · refine step_copy_onl rfl (.tmp 7) (.tmp 8) 28 rfl 5 Try.underlying28 size5 (cutA (some ⟨pg, 0, none⟩) 512 k) A (512 - k) (512 - k) n c (by simp [Act.eval, Act.put]) (by simp [Act.eval, Act.put]) pg k (pgL P) 5 HR.out (By xs) (by rw [By_length, HXL.out]; show n = min n (512 - k); omega) (by rw [By_length, HXL.out, pgL_len P (by rw [HK.out]; omega)]; exact hk) (By_one xs) (fun hp => ?_) ?_
      · rw [By_length, HXL.out] at hp
        obtain ⟨b, off, hA, _, hc⟩ := HXd.out.1.2 hp
        refine ⟨by (unfold cutA; rw [if_neg (by omega)]; simp [Addr.add]; omega), _, hA, fun j v hv => ?_⟩
        have := hc j v hv
        rwa [show (⟨b, off, none⟩ : Addr).add j = ⟨b, off + j, none⟩ by unfold Addr.add; split <;> simp_all]
      intro x18 hr18 ho18
      have S18 := Lib.hid ((ho18.out.block g5 (lt_of_heap HS.out) (by intro e; injection e with e; exact n1 e.symm)).trans HS.out)
      have A18 := Lib.hid ((ho18.out.block g6 (lt_of_heap HA.out) (by intro e; injection e with e; exact n2 e.symm)).trans HA.out)
      rw [pgL_splice HK.out (by rw [HXL.out]; exact hk)] at hr18
      rw [By_length, HXL.out]
      have O18 := Lib.hid (HD.out.trans (On2.left (g2 := g6) ho18.out))
      refine hK.out _ _ ⟨rc_cell 0 _ S18.out rfl, trivial⟩ (fun hH18 => ?_)
      clear hK K
      try simp only [Act.put, List.setIfInBounds_toArray, List.set_cons_zero, List.set_cons_succ]
      refine wpAnyH_ready (rs := [0]) (by kernel_rfl) (by simp) ?_
      refine (AllReadyH.cons (o := { dst := some 4, op := Op.load 3 (Operand.tmp 1), type := 3, pos := _, after := #[], guard := none }) rfl (fun K hK => ?_) AllReadyH.nil)
      have la20 := rc_cell 0 (.int .i64 (k : Int)) A18.out rfl
      go_simp
      refine hK.out _ _ ⟨rc_cell 0 _ S18.out rfl, trivial⟩ (fun hH20 => ?_)
      clear hK K
      try simp only [Act.put, List.setIfInBounds_toArray, List.set_cons_zero, List.set_cons_succ]
      refine wpAnyH_take (i := 6) (oi := { dst := some 10, op := Op.binOp BinOp.add 3 (Operand.tmp 4) (Operand.tmp 9) 3, type := 3, pos := _, after := #[{ on := 0, ground := Ground.data }, { on := 5, ground := Ground.data }], guard := none }) (v := ?vt21_6) rfl (by kernel_rfl) (by kernel_rfl) (by kernel_rfl) (fun _ _ _ h => h) (Or.inl ⟨by rfl, ?yt21_6⟩) hH20 ?rt21_6
      case yt21_6 => (intro w hSw; (try dsimp only at hSw); go_simp; try (with_reducible rfl))
      try simp only [Act.put, List.setIfInBounds_toArray, List.set_cons_zero, List.set_cons_succ]
      refine wpAnyH_ready (rs := [7]) (by kernel_rfl) (by simp) ?_
      refine (AllReadyH.cons (o := { dst := none, op := Op.store 3 (Operand.tmp 1) (Operand.tmp 10), type := 0, pos := _, after := #[{ on := 6, ground := Ground.data }, { on := 5, ground := Ground.chain }, { on := 0, ground := Ground.phase }, { on := 1, ground := Ground.phase }, { on := 2, ground := Ground.phase }, { on := 3, ground := Ground.phase }, { on := 4, ground := Ground.phase }, { on := 5, ground := Ground.phase }, { on := 6, ground := Ground.phase }], guard := none }) rfl (fun K hK => ?_) AllReadyH.nil)
      have c22 := rc_cell 0 (.int .i64 (k : Int)) A18.out rfl; have f22 := two_frozen (i := 0) A18.out
      have A22 := Lib.hid (rc_set (cs' := #[(.int .i64 ((k : Int) + (n : Int)))]) 0 (.int .i64 ((k : Int) + (n : Int))) A18.out rfl)
      have o22 := onl_set x18 g6 0 (.int .i64 ((k : Int) + (n : Int)))
      have S22 := Lib.hid ((o22.block g5 (lt_of_heap S18.out) (by intro e; injection e with e; exact n3 e)).trans S18.out)
      have R22 := Lib.hid ((o22.block pg (lt_of_heap hr18.out) (by intro e; injection e with e; exact n2 e)).trans hr18.out)
      have O22 := Lib.hid (O18.out.trans (On2.right (g1 := pg) o22))
      clear o22
      go_simp
      refine hK.out _ _ ⟨rc_cell 0 _ S22.out rfl, trivial⟩ (fun hH22 => ?_)
      clear hK K
      try simp only [Act.put, List.setIfInBounds_toArray, List.set_cons_zero, List.set_cons_succ]
      refine wpAnyH_done (by kernel_rfl) ?_ _
      go_wp2
      go_end0
      exact ⟨rfl, ⟨R22.out, S22.out, by have := A22.out; rw [this]; simp [HK.out, HXL.out]⟩, O22.out⟩
end Go.Proofs.Ytmjjbfcblmmipaa
namespace Go.Proofs.Ytmjjbfcblmmipaa
set_option linter.unusedVariables false
set_option linter.unusedSimpArgs false
open Go.RowKit
/-- A number in two bytes. -/
def tw (n : Nat) : List Int := [((n / 256 : Nat) : Int), ((n % 256 : Nat) : Int)]
/-- A page's bytes, up to so many keys. -/
def encP (lf : Bool) (ks vs : List (List Int)) (ds : List Int) : Nat → List Int
  | 0 => (if lf then [1] else [2]) ++ tw ks.length ++ (if lf then [] else tw (ds.getD 0 0).toNat)
  | j + 1 => encP lf ks vs ds j ++ ([((ks.getD j []).length : Int)] ++ ks.getD j [] ++ (if lf then tw (vs.getD j []).length ++ vs.getD j [] else tw (ds.getD (j + 1) 0).toNat))
theorem tw_len (n : Nat) : (tw n).length = 2 := rfl
theorem getD_of {α : Type} {l : List α} {k : Nat} {x d : α} (h : l[k]? = some x) : l.getD k d = x := by simp [List.getD, h]
theorem encP_len (lf : Bool) (ks vs : List (List Int)) (ds : List Int) (hv : lf = true → vs.length = ks.length) : ∀ j, j ≤ ks.length → (encP lf ks vs ds j).length = frN lf ks vs j := by
  intro j
  induction j with
  | zero => intro _; cases lf <;> simp [encP, frN, sizeN, szW, tw_len]
  | succ j ih =>
    intro hj
    have hk := List.getElem?_eq_getElem (show j < ks.length by omega)
    have ih := ih (by omega)
    cases lf with
    | true =>
      have hv1 := List.getElem?_eq_getElem (show j < vs.length by have := hv rfl; omega)
      rw [fr_leaf ks vs j _ _ hk hv1]
      simp only [encP, if_true, List.length_append, ih, getD_of hk, getD_of hv1, tw_len, List.length_cons, List.length_nil]
      omega
    | false =>
      rw [fr_fork ks vs j _ hk]
      simp only [encP, Bool.false_eq_true, if_false, List.length_append, ih, getD_of hk, tw_len, List.length_cons, List.length_nil]
      omega
theorem fr_mono (lf : Bool) (ks vs : List (List Int)) (j n : Nat) (h : j ≤ n) : frN lf ks vs j ≤ frN lf ks vs n := by
  have h1 : szW 1 (ks.take j) ≤ szW 1 (ks.take n) := by
    have := szW_le 1 (ks.take n) j
    rwa [List.take_take, Nat.min_eq_left h] at this
  have h2 : szW 2 (vs.take j) ≤ szW 2 (vs.take n) := by
    have := szW_le 2 (vs.take n) j
    rwa [List.take_take, Nat.min_eq_left h] at this
  cases lf <;> simp [frN, sizeN] <;> omega
theorem fr_all (ks vs : List (List Int)) (nD : Nat) (h : vs.length = ks.length) : frN true ks vs ks.length = sizeN true ks vs nD := by
  simp [frN, sizeN, List.take_of_length_le, h]
theorem fr_allF (ks vs : List (List Int)) (nD : Nat) (h : nD = ks.length + 1) : frN false ks vs ks.length = sizeN false ks vs nD := by
  simp [frN, sizeN, List.take_of_length_le, h]
theorem kind_any (lf : Bool) (AK : Option Addr) (nK cK : Nat) (AV : Option Addr) (nV cV : Nat) (AD : Option Addr) (nD cD : Nat) (w : World) :
    Calls Try.prog 77 #[.agg (ndV lf AK nK cK AV nV cV AD nD cD)] w fun e w' => e = .returned (.int .i64 (if lf then 1 else 2)) ∧ Below w.heap.size w w' := by
  have hb := Lib.hid (below_alloc w (.cells (ndV lf AK nK cK AV nV cV AD nD cD) 70))
  have q0 := rc_cell 0 (.bool lf) (heap_alloc_new w (.cells (ndV lf AK nK cK AV nV cV AD nD cD) 70)) rfl
  cases lf with
  | true =>
    go_enter Try.func77, Try.ntmps77
    go_wp2
    go_ret
    exact ⟨rfl, hb.out⟩
  | false =>
    go_enter Try.func77, Try.ntmps77
    go_wp2
    go_ret
    exact ⟨rfl, hb.out⟩
abbrev oneF (pg : Nat) : Value := .func (.func 74) #[] #[.pointer (some ⟨pg + 1, 0, none⟩), .pointer (some ⟨pg + 1 + 1, 0, none⟩)]
/-- Encode's state: the node's box, the page that grows, the closure's box. -/
structure ES (w : World) (V : Array Value) (pg : Nat) (P : List Int) (W : World) : Prop where
  nb : W.heap[w.heap.size]? = some (.cells V 70 (0, 0))
  pgs : PG W pg (pg + 1) (pg + 1 + 1) P
  g7 : W.heap[pg + 1 + 1 + 1]? = some (.cells #[oneF pg] 125 (0, 0))
  lt : w.heap.size < pg
  hb : Below w.heap.size w W
theorem ES.keep {w W W' : World} {V : Array Value} {pg : Nat} {P : List Int} (h : ES w V pg P W) (hb : Below W.heap.size W W') : ES w V pg P W' :=
  ⟨(hb.block _ (lt_of_heap h.nb)).trans h.nb, h.pgs.keep hb, (hb.block _ (lt_of_heap h.g7)).trans h.g7, h.lt, h.hb.trans (hb.mono h.hb.size)⟩
theorem ES.on2 {w W W' : World} {V : Array Value} {pg : Nat} {P P' : List Int} (h : ES w V pg P W) (hb : On2 pg (pg + 1 + 1) W W') (hp : PG W' pg (pg + 1) (pg + 1 + 1) P') : ES w V pg P' W' :=
  ⟨hb.pg h.nb (by have := h.lt; omega) (by have := h.lt; omega), hp, hb.pg h.g7 (by omega) (by omega), h.lt, h.hb.trans (hb.below (by have := h.lt; omega) (by have := h.lt; omega) h.hb.size)⟩
theorem alloc4 (x : World) (c1 c2 c3 c4 : Array Value) (t1 t2 t3 t4 : TypeId) :
    ((((x.alloc (.cells c1 t1)).alloc (.cells c2 t2)).alloc (.cells c3 t3)).alloc (.cells c4 t4)).heap[x.heap.size]? = some (.cells c1 t1 (0, 0)) ∧ ((((x.alloc (.cells c1 t1)).alloc (.cells c2 t2)).alloc (.cells c3 t3)).alloc (.cells c4 t4)).heap[x.heap.size + 1]? = some (.cells c2 t2 (0, 0)) ∧
      ((((x.alloc (.cells c1 t1)).alloc (.cells c2 t2)).alloc (.cells c3 t3)).alloc (.cells c4 t4)).heap[x.heap.size + 2]? = some (.cells c3 t3 (0, 0)) ∧ ((((x.alloc (.cells c1 t1)).alloc (.cells c2 t2)).alloc (.cells c3 t3)).alloc (.cells c4 t4)).heap[x.heap.size + 3]? = some (.cells c4 t4 (0, 0)) ∧
      Below x.heap.size x ((((x.alloc (.cells c1 t1)).alloc (.cells c2 t2)).alloc (.cells c3 t3)).alloc (.cells c4 t4)) := by
  have b1 := below_alloc x (.cells c1 t1)
  have b2 := below_alloc (x.alloc (.cells c1 t1)) (.cells c2 t2)
  have b3 := below_alloc ((x.alloc (.cells c1 t1)).alloc (.cells c2 t2)) (.cells c3 t3)
  have b4 := below_alloc (((x.alloc (.cells c1 t1)).alloc (.cells c2 t2)).alloc (.cells c3 t3)) (.cells c4 t4)
  have s1 : (x.alloc (.cells c1 t1)).heap.size = x.heap.size + 1 := by simp
  have s2 : ((x.alloc (.cells c1 t1)).alloc (.cells c2 t2)).heap.size = x.heap.size + 2 := by simp
  have s3 : (((x.alloc (.cells c1 t1)).alloc (.cells c2 t2)).alloc (.cells c3 t3)).heap.size = x.heap.size + 3 := by simp
  have n1 := heap_alloc_new x (.cells c1 t1)
  have n2 := heap_alloc_new (x.alloc (.cells c1 t1)) (.cells c2 t2)
  have n3 := heap_alloc_new ((x.alloc (.cells c1 t1)).alloc (.cells c2 t2)) (.cells c3 t3)
  have n4 := heap_alloc_new (((x.alloc (.cells c1 t1)).alloc (.cells c2 t2)).alloc (.cells c3 t3)) (.cells c4 t4)
  rw [s1] at n2
  rw [s2] at n3
  rw [s3] at n4
  exact ⟨(b4.block _ (by omega)).trans ((b3.block _ (by omega)).trans ((b2.block _ (by omega)).trans n1)), (b4.block _ (by omega)).trans ((b3.block _ (by omega)).trans n2), (b4.block _ (by omega)).trans n3, n4, b1.trans ((b2.mono (by omega)).trans ((b3.mono (by omega)).trans (b4.mono (by omega))))⟩
theorem pgA_nil : pgA [] = zerA 512 := rfl

set_option maxRecDepth 100000 in
set_option maxHeartbeats 16000000 in
theorem encodeL_any (AK : Option Addr) (nK cK : Nat) (AV : Option Addr) (nV cV : Nat) (AD : Option Addr) (nD cD : Nat) (ks vs : List (List Int)) (ds : List Int) (w : World) (hx : Bss w AK nK ks) (hy : Bss w AV nV vs) (hz : Ins w AD nD ds)
    (bK : nK ≤ 1048576) (bV : nV ≤ 1048576) (bD : nD ≤ 1048576) (hc : chkN true ks vs ds = 0) (hs : sizeN true ks vs nD ≤ 512) :
    Calls Try.prog 32 #[.agg (ndV true AK nK cK AV nV cV AD nD cD)] w fun e w' => ∃ pg, e = .returned (.tuple #[.slice (some ⟨pg, 0, none⟩) 512 512, .int .i64 0]) ∧ Own w' w.heap.size 5 (some ⟨pg, 0, none⟩) 512 512 (pgL (encP true ks vs ds nK)) ∧ Below w.heap.size w w' := by
  obtain ⟨i5, hi5, hz5, hsz5, hby5⟩ := info_parts info5
  have mk : ∀ W : World, (Instr.makeSlice 28 (.int .i64 512) (.int .i64 512)).run Try.prog W = .ok (.slice (some ⟨W.heap.size, 0, none⟩) 512 512) (W.alloc (.cells (zerA 512) 5)) := fun W => run_make_bytes 28 5 i5 Try.underlying28 hi5 hz5 hsz5 hby5 512 512 rfl (by omega) W
  obtain ⟨c1, c2, c3, c4, c5⟩ := chk_ok hc
  have HX := Lib.hid hx; have HY := Lib.hid hy; have HZ := Lib.hid hz; have HLK := Lib.hid hx.len; have HLV := Lib.hid hy.len; have HLD := Lib.hid hz.len
  have HM1 := Lib.hid (anyL_mem c1); have HM2 := Lib.hid (anyL_mem c2); have HM3 := Lib.hid (dsB_mem c4)
  have hVK : nV = nK := by rw [HLK.out, HLV.out, HLD.out] at c5; unfold badF at c5; simp at c5; omega
  have HEL := Lib.hid (fun j (hj : j ≤ nK) => encP_len true ks vs ds (fun _ => by rw [HLK.out, HLV.out]; exact hVK) j (by rw [HLK.out]; exact hj))
  have HFA : Hid (frN true ks vs nK ≤ 512) := Lib.hid (by have := fr_all ks vs nD (by rw [HLK.out, HLV.out]; exact hVK); rw [HLK.out] at this; omega)
  have sK : szW 1 ks ≤ 100000000000000000 := by have := szW_bd 1 64 ks HM1.out; have := HLK.out; omega
  have sV : szW 2 vs ≤ 100000000000000000 := by have := szW_bd 2 128 vs HM2.out; have := HLV.out; omega
  have hKs : nK ≤ 512 := by
    have h1 : ∀ l : List (List Int), l.length ≤ szW 1 l := by intro l; induction l with | nil => simp [szW] | cons x l ih => simp only [szW, List.length_cons]; omega
    have h2 := h1 ks; have := HLK.out; unfold sizeN at hs; omega
  obtain ⟨sz, HSZ⟩ : ∃ sz : Nat, Hid (sizeN true ks vs nD = sz) := ⟨_, rfl⟩
  have hs2 : sz ≤ 512 := by rw [← HSZ.out]; exact hs
  have hds : decide ((512 : Int) < (sz : Int)) = false := by simp; omega
  have HVK := Lib.hid hVK; have HCK := Lib.hid hc
  have hgs : (w.alloc (.cells (ndV true AK nK cK AV nV cV AD nD cD) 70)).heap.size = w.heap.size + 1 := by simp
  have HB := Lib.hid (below_alloc w (.cells (ndV true AK nK cK AV nV cV AD nD cD) 70))
  have BX := Lib.hid (heap_alloc_new w (.cells (ndV true AK nK cK AV nV cV AD nD cD) 70))
  have q0 := rc_cell 0 (.bool true) BX.out rfl; have q1 := rc_cell 1 (.slice AK nK cK) BX.out rfl; have q2 := rc_cell 2 (.slice AV nV cV) BX.out rfl; have q3 := rc_cell 3 (.slice AD nD cD) BX.out rfl
  clear hx hy hz c1 c2 c3 c4 c5 hVK hs hc
  go_enter Try.func32, Try.ntmps32
  go_wp2_with fail
  clear q0 q1 q2 q3
  generalize w.alloc (.cells (ndV true AK nK cK AV nV cV AD nD cD) 70) = y at *
  refine (check_any true AK nK cK AV nV cV AD nD cD ks vs ds y (HX.out.keep HB.out) (HY.out.keep HB.out) (HZ.out.keep HB.out) bK bV bD (fun x hx => Nat.le_trans (HM1.out x hx) (by unfold maxLen; omega))).mono ?_
  rintro e x1 ⟨rfl, hb1⟩
  rw [HCK.out]
  have BX1 := Lib.hid ((hb1.block _ (lt_of_heap BX.out)).trans BX.out); have HB1 := Lib.hid (HB.out.trans (hb1.mono HB.out.size)); have hs1 := hb1.size; rw [hgs] at hs1
  clear hb1 BX HB hgs
  have q0 := rc_cell 0 (.bool true) BX1.out rfl; have q1 := rc_cell 1 (.slice AK nK cK) BX1.out rfl; have q2 := rc_cell 2 (.slice AV nV cV) BX1.out rfl; have q3 := rc_cell 3 (.slice AD nD cD) BX1.out rfl
  go_wp2_with fail
  clear q0 q1 q2 q3
  refine (size_any true AK nK cK AV nV cV AD nD cD ks vs x1 (HX.out.keep HB1.out) (HY.out.keep HB1.out) (by omega) (by omega) (by omega) sK sV).mono ?_
  rintro e x2 ⟨rfl, hb2⟩
  rw [HSZ.out]
  have BX2 := Lib.hid ((hb2.block _ (lt_of_heap BX1.out)).trans BX1.out); have HB2 := Lib.hid (HB1.out.trans (hb2.mono HB1.out.size)); have hs3 := hb2.size
  clear hb2 BX1 HB1
  have E0 : Hid (ES w (ndV true AK nK cK AV nV cV AD nD cD) x2.heap.size [] ((((x2.alloc (.cells (zerA 512) 5)).alloc (.cells #[.slice (some ⟨x2.heap.size, 0, none⟩) 512 512] 28)).alloc (.cells #[.int .i64 0] 3)).alloc (.cells #[oneF x2.heap.size] 125))) := Lib.hid (by
      have A4 := alloc4 x2 (zerA 512) #[.slice (some ⟨x2.heap.size, 0, none⟩) 512 512] #[.int .i64 0] #[oneF x2.heap.size] 5 28 3 125
      exact ⟨(A4.2.2.2.2.block _ (lt_of_heap BX2.out)).trans BX2.out, ⟨by rw [pgA_nil]; exact A4.1, A4.2.1, A4.2.2.1⟩, A4.2.2.2.1, by omega, HB2.out.trans (A4.2.2.2.2.mono HB2.out.size)⟩)
  go_upto_region 11 with fail
  generalize ((((x2.alloc (.cells (zerA 512) 5)).alloc (.cells #[.slice (some ⟨x2.heap.size, 0, none⟩) 512 512] 28)).alloc (.cells #[.int .i64 0] 3)).alloc (.cells #[oneF x2.heap.size] 125)) = y2 at *
  generalize x2.heap.size = pg at *
  clear BX2 HB2 hs3 hs1 mk
  have Ed : Hid (ES w (ndV true AK nK cK AV nV cV AD nD cD) pg [] y2.drew) := Lib.hid (E0.out.keep ((Dr.refl y2).one.below _))
  refine wp_region_held_drew (S := fun w' => w'.cell? ⟨w.heap.size, 0, none⟩ = some (.bool true) ∧ w'.cell? ⟨w.heap.size, 1, none⟩ = some (.slice AK nK cK) ∧ w'.cell? ⟨w.heap.size, 2, none⟩ = some (.slice AV nV cV) ∧ w'.cell? ⟨w.heap.size, 3, none⟩ = some (.slice AD nD cD) ∧ w'.cell? ⟨pg + 1 + 1 + 1, 0, none⟩ = some (oneF pg)) (by kernel_rfl) (nd4 Ed.out.nb (rc_cell 0 (oneF pg) Ed.out.g7 rfl)) (fun hH0 => ?_)
  generalize y2.drew = yd at *
  refine wpAnyH_take (i := 0) (oi := { dst := some 24, op := Op.load 125 (Operand.tmp 7), type := 125, pos := _, after := #[], guard := none }) (v := ?vk1_0) rfl (by kernel_rfl) (by kernel_rfl) (by kernel_rfl) (fun _ _ _ h => h) (Or.inl ⟨by rfl, ?yk1_0⟩) hH0 ?rk1_0
  case yk1_0 => (intro w hSw; (try dsimp only at hSw); go_simp; try (with_reducible rfl))
  try simp only [Act.put, List.setIfInBounds_toArray, List.set_cons_zero, List.set_cons_succ]
  refine wpAnyH_take (i := 1) (oi := { dst := some 25, op := Op.load 70 (Operand.tmp 1), type := 70, pos := _, after := #[], guard := none }) (v := ?vk1_1) rfl (by kernel_rfl) (by kernel_rfl) (by kernel_rfl) (fun _ _ _ h => h) (Or.inl ⟨by rfl, ?yk1_1⟩) hH0 ?rk1_1
  case yk1_1 => (intro w hSw; (try dsimp only at hSw); go_simp; try (with_reducible rfl))
  try simp only [Act.put, List.setIfInBounds_toArray, List.set_cons_zero, List.set_cons_succ]
  refine wpAnyH_ready (rs := [2]) (by kernel_rfl) (by simp) ?_
  refine (AllReadyH.cons (o := { dst := some 26, op := Op.call { callee := Callee.value (Operand.func 77), args := #[Operand.tmp 25], argTypes := #[70] }, type := 3, pos := _, after := #[{ on := 1, ground := Ground.data }], guard := none }) rfl (fun K hK => ?_) AllReadyH.nil)
  go_simp
  refine (kind_any true AK nK cK AV nV cV AD nD cD yd).mono ?_
  rintro e x2 ⟨rfl, hb2⟩
  have E2 := Lib.hid (Ed.out.keep hb2)
  clear hb2
  go_wp2_with fail
  refine hK.out _ _ (nd4 E2.out.nb (rc_cell 0 (oneF pg) E2.out.g7 rfl)) (fun hH2 => ?_)
  clear hK K
  try simp only [Act.put, List.setIfInBounds_toArray, List.set_cons_zero, List.set_cons_succ]
  refine wpAnyH_ready (rs := [3]) (by kernel_rfl) (by simp) ?_
  refine (AllReadyH.cons (o := { dst := some 27, op := Op.call { callee := Callee.value (Operand.tmp 24), args := #[Operand.tmp 26], argTypes := #[3] }, type := 0, pos := _, after := #[{ on := 0, ground := Ground.data }, { on := 2, ground := Ground.data }, { on := 2, ground := Ground.chain }], guard := none }) rfl (fun K hK => ?_) AllReadyH.nil)
  go_simp
  refine (one_any 1 1 (u8_is _ _ (by omega) (by omega)) pg (pg + 1) (pg + 1 + 1) [] x2 E2.out.pgs (by simp)).mono ?_
  rintro e x4 ⟨rfl, hp4, ho4⟩
  have E4 := Lib.hid (E2.out.on2 ho4 hp4)
  clear hp4 ho4
  go_wp2_with fail
  refine hK.out _ _ (nd4 E4.out.nb (rc_cell 0 (oneF pg) E4.out.g7 rfl)) (fun hH4 => ?_)
  clear hK K
  try simp only [Act.put, List.setIfInBounds_toArray, List.set_cons_zero, List.set_cons_succ]
  refine wpAnyH_done (by kernel_rfl) ?_ _
  obtain ⟨P1, HP1⟩ : ∃ P1 : List Int, Hid ((([] : List Int) ++ [1]) = P1) := ⟨[1], Lib.hid rfl⟩
  rw [HP1.out] at E4
  have HL1 : Hid (P1.length = 1) := Lib.hid (by rw [← HP1.out]; rfl)
  have q0 := rc_cell 0 (.bool true) E4.out.nb rfl; have q1 := rc_cell 1 (.slice AK nK cK) E4.out.nb rfl; have q2 := rc_cell 2 (.slice AV nV cV) E4.out.nb rfl; have q3 := rc_cell 3 (.slice AD nD cD) E4.out.nb rfl
  go_wp2_with fail
  clear q0 q1 q2 q3
  refine (two_any nK pg (pg + 1) (pg + 1 + 1) (pg + 1 + 1 + 1) P1 x4 (by omega) E4.out.pgs (by rw [HL1.out]; omega) E4.out.g7 (by omega) (by omega)).mono ?_
  rintro e z1 ⟨rfl, hp, ho⟩
  have F1 := Lib.hid (E4.out.on2 ho hp); clear hp ho
  have q0 := rc_cell 0 (.bool true) F1.out.nb rfl; have q1 := rc_cell 1 (.slice AK nK cK) F1.out.nb rfl; have q2 := rc_cell 2 (.slice AV nV cV) F1.out.nb rfl; have q3 := rc_cell 3 (.slice AD nD cD) F1.out.nb rfl
  have HP0 : Hid (P1 ++ [((nK / 256 : Nat) : Int), ((nK % 256 : Nat) : Int)] = encP true ks vs ds 0) := Lib.hid (by rw [← HP1.out, ← HLK.out]; rfl)
  rw [HP0.out] at F1
  go_wp2_with fail
  clear q0 q1 q2 q3
  go_loopw [45] (fun iv wr => ∃ kk : Nat, iv = .int .i64 (kk : Int) ∧ kk ≤ nK ∧ Hid (ES w (ndV true AK nK cK AV nV cV AD nD cD) pg (encP true ks vs ds kk) wr)) (fun iv _ => nK - (intOf iv).toNat)
  case atStart => exact ⟨0, rfl, Nat.zero_le _, F1⟩
  case round =>
    obtain ⟨kk, rfl, hk, HE⟩ := hrel
    by_cases hlt : kk < nK
    · obtain ⟨b, off, A1, n1, c1, xs, hA, hbl, hcl0, hxs, hnc, HXK⟩ := HX.out.at_ hlt
      have HXS := Lib.hid hxs; have HNL := Lib.hid hxs.len; have hn1 : n1 ≤ 64 := by rw [← hxs.len]; exact HM1.out _ (List.mem_of_getElem? HXK.out)
      have z0 : (0 : Int) ≤ (kk : Int) := by omega
      have z1 : (kk : Int) < (nK : Int) := by omega
      obtain ⟨Pk, HPK⟩ : ∃ Pk, Hid (encP true ks vs ds kk = Pk) := ⟨_, rfl⟩
      have hlen := HEL.out kk hk
      have hmono := fr_mono true ks vs (kk + 1) nK hlt
      have hfa := HFA.out
      have hkV : kk < nV := by rw [HVK.out]; exact hlt
      have hcl := (World.cell?_of_block (a := ⟨b, off + kk, none⟩) (HE.out.hb.block b hbl)).trans hcl0
      obtain ⟨b', off', A2, n2, c2, ys, hA2, hbl2, hcl2, hys, hnc2, HYK⟩ := HY.out.at_ hkV
      have HYS := Lib.hid hys; have HNL2 := Lib.hid hys.len; have hn2 : n2 ≤ 128 := by rw [← hys.len]; exact HM2.out _ (List.mem_of_getElem? HYK.out)
      have z2 : (kk : Int) < (nV : Int) := by omega
      have hst := fr_leaf ks vs kk xs ys HXK.out HYK.out
      rw [HNL.out, HNL2.out] at hst
      rw [HPK.out] at hlen
      have hroom : Pk.length + 1 + n1 + 2 + n2 ≤ 512 := by omega
      have HNX : Hid (((Pk ++ [(n1 : Int)]) ++ xs ++ [((n2 / 256 : Nat) : Int), ((n2 % 256 : Nat) : Int)]) ++ ys = encP true ks vs ds (kk + 1)) := Lib.hid (by rw [encP, HPK.out, if_pos rfl, getD_of HXK.out, getD_of HYK.out, HNL.out, HNL2.out]; simp [tw])
      rw [HPK.out] at HE
      subst hA hA2
      clear hxs hys hnc hnc2 hst hlen hmono hfa hkV
      have q7 := rc_cell 0 (oneF pg) HE.out.g7 rfl
      go_wp2_with fail
      clear q7
      refine (one_any (n1 : Int) (n1 : Int) (u8_is _ _ (by omega) (by omega)) pg (pg + 1) (pg + 1 + 1) Pk wr HE.out.pgs (by omega)).mono ?_
      rintro e v1 ⟨rfl, hp, ho⟩
      have G1 := Lib.hid (HE.out.on2 ho hp); clear hp ho
      go_wp2_with fail
      refine (text_any A1 n1 c1 pg (pg + 1) (pg + 1 + 1) (Pk ++ [(n1 : Int)]) xs v1 (HXS.out.keep G1.out.hb) G1.out.pgs (by simp; omega)).mono ?_
      rintro e v2 ⟨rfl, hp, ho⟩
      have G2 := Lib.hid (G1.out.on2 ho hp); clear hp ho
      have q0 := rc_cell 0 (.bool true) G2.out.nb rfl; have q2 := rc_cell 2 (.slice (some ⟨b', off', none⟩) nV cV) G2.out.nb rfl; have q4 := (World.cell?_of_block (a := ⟨b', off' + kk, none⟩) (G2.out.hb.block b' hbl2)).trans hcl2
      go_wp2_with fail
      clear q0 q2 q4
      refine (two_any n2 pg (pg + 1) (pg + 1 + 1) (pg + 1 + 1 + 1) ((Pk ++ [(n1 : Int)]) ++ xs) v2 (by omega) G2.out.pgs (by simp [HNL.out]; omega) G2.out.g7 (by omega) (by omega)).mono ?_
      rintro e v3 ⟨rfl, hp, ho⟩
      have G3 := Lib.hid (G2.out.on2 ho hp); clear hp ho
      have q2 := rc_cell 2 (.slice (some ⟨b', off', none⟩) nV cV) G3.out.nb rfl; have q4 := (World.cell?_of_block (a := ⟨b', off' + kk, none⟩) (G3.out.hb.block b' hbl2)).trans hcl2
      go_wp2_with fail
      clear q2 q4
      refine (text_any A2 n2 c2 pg (pg + 1) (pg + 1 + 1) (((Pk ++ [(n1 : Int)]) ++ xs) ++ [((n2 / 256 : Nat) : Int), ((n2 % 256 : Nat) : Int)]) ys v3 (HYS.out.keep G3.out.hb) G3.out.pgs (by simp [HNL.out]; omega)).mono ?_
      rintro e v4 ⟨rfl, hp, ho⟩
      have G4 := Lib.hid (G3.out.on2 ho hp); clear hp ho
      rw [HNX.out] at G4
      go_wp2
      go_roundw
      case rel => exact ⟨kk + 1, by go_num, by omega, G4⟩
      case measure => simp [intOf]; omega
    · obtain rfl : nK = kk := by omega
      have q5 := rc_cell 0 (.slice (some ⟨pg, 0, none⟩) 512 512) HE.out.pgs.sl rfl
      have HLE : Hid ((encP true ks vs ds nK).length ≤ 512) := Lib.hid (by rw [HEL.out nK (Nat.le_refl _)]; exact HFA.out)
      go_wp2
      go_ret2
      exact ⟨pg, rfl, Own.of_block (by have := HE.out.pgs.row; exact this) (Nat.le_of_lt HE.out.lt) (pgL_len _ HLE.out) (by unfold maxLen; omega), HE.out.hb⟩
end Go.Proofs.Ytmjjbfcblmmipaa
namespace Go.Proofs.Ytmjjbfcblmmipaa
set_option linter.unusedVariables false
set_option linter.unusedSimpArgs false
open Go.RowKit
theorem bss_one {W : World} {A A1 : Option Addr} {n1 c1 : Nat} {xs : List Int} (h1 : Rd W A 1 [.slice A1 n1 c1]) (h2 : Bs W A1 n1 xs) (hc : n1 ≤ c1) : Bss W A 1 [xs] := by
  have hl := h2.len
  refine ⟨rfl, [.slice A1 n1 c1], h1.rdP, fun i v ys hv hy => ?_⟩
  cases i with
  | zero =>
    simp at hv hy
    subst hv hy
    exact ⟨A1, c1, by rw [hl], by rw [hl]; exact h2.bsP, by omega⟩
  | succ i => simp at hv
theorem enc_awake : encP true [[97]] [[1, 2]] [] 1 = [1, 0, 1, 1, 97, 0, 2, 1, 2] := rfl
theorem chk_awake : chkN true [[97]] [[1, 2]] [] = 0 := by decide
theorem slice28_h (A : Option Addr) (n c h : Nat) (hh : h ≤ c) (W : World) :
    (Instr.slice 28 (.slice A n c) none (some (.int .i64 (h : Int))) none).run Try.prog W = .ok (.slice A h c) W := by
  have e0 : A.map (fun x => x.add 0) = A := by
    cases A with
    | none => rfl
    | some a => simp only [Option.map_some, Option.some.injEq]; unfold Addr.add; simp
  rw [run_slice_h (P := Try.prog) W 28 A n c elem28 .i64 h (by omega) (by omega), elem28', Try.sizeOf5]
  simp only [sliced, Result.andThen, Nat.zero_mul, e0, ite_self, Int.toNat_natCast]; rfl
theorem slice28_9 (A : Option Addr) (n c : Nat) (hh : 9 ≤ c) (W : World) :
    (Instr.slice 28 (.slice A n c) none (some (.int .i64 9)) none).run Try.prog W = .ok (.slice A 9 c) W := slice28_h A n c 9 hh W
theorem ran_small (l : List Int) (h : l.all (fun x => decide (0 ≤ x) && decide (x ≤ 255)) = true) : Ran l := by
  intro x hx
  have := List.all_eq_true.1 h x hx
  simpa using this
set_option maxRecDepth 100000 in
set_option maxHeartbeats 4000000 in
theorem awakeL_any (w : World) : Calls Try.prog 30 #[] w fun e w' => e = .returned (.bool true) ∧ Below w.heap.size w w' := by
  have A4 := Lib.hid (alloc4 w #[.int .u8 97] #[.slice (some ⟨w.heap.size, 0, none⟩) 1 1] #[.int .u8 1, .int .u8 2] #[.slice (some ⟨w.heap.size + 1 + 1, 0, none⟩) 2 2] 5 28 5 28)
  have hs4 : ((((w.alloc (.cells #[.int .u8 97] 5)).alloc (.cells #[.slice (some ⟨w.heap.size, 0, none⟩) 1 1] 28)).alloc (.cells #[.int .u8 1, .int .u8 2] 5)).alloc (.cells #[.slice (some ⟨w.heap.size + 1 + 1, 0, none⟩) 2 2] 28)).heap.size = w.heap.size + 4 := by simp
  go_enter Try.func30, Try.ntmps30
  go_wp2_with fail
  generalize ((((w.alloc (.cells #[.int .u8 97] 5)).alloc (.cells #[.slice (some ⟨w.heap.size, 0, none⟩) 1 1] 28)).alloc (.cells #[.int .u8 1, .int .u8 2] 5)).alloc (.cells #[.slice (some ⟨w.heap.size + 1 + 1, 0, none⟩) 2 2] 28)) = y at *
  have HB := Lib.hid A4.out.2.2.2.2
  have r0 : Rd y (some ⟨w.heap.size, 0, none⟩) 1 [.int .u8 97] := Rd.of_block A4.out.1 rfl
  have r1 : Rd y (some ⟨w.heap.size + 1, 0, none⟩) 1 [.slice (some ⟨w.heap.size, 0, none⟩) 1 1] := Rd.of_block A4.out.2.1 rfl
  have r2 : Rd y (some ⟨w.heap.size + 1 + 1, 0, none⟩) 2 [.int .u8 1, .int .u8 2] := Rd.of_block A4.out.2.2.1 rfl
  have r3 : Rd y (some ⟨w.heap.size + 1 + 1 + 1, 0, none⟩) 1 [.slice (some ⟨w.heap.size + 1 + 1, 0, none⟩) 2 2] := Rd.of_block A4.out.2.2.2.1 rfl
  have k1 : Bss y (some ⟨w.heap.size + 1, 0, none⟩) 1 [[97]] := bss_one r1 ⟨r0, ran_small _ rfl⟩ (by omega)
  have k2 : Bss y (some ⟨w.heap.size + 1 + 1 + 1, 0, none⟩) 1 [[1, 2]] := bss_one r3 ⟨r2, ran_small _ rfl⟩ (by omega)
  refine (encodeL_any (some ⟨w.heap.size + 1, 0, none⟩) 1 1 (some ⟨w.heap.size + 1 + 1 + 1, 0, none⟩) 1 1 none 0 0 [[97]] [[1, 2]] [] y k1 k2 ⟨Rd.nil_, fun _ h => by cases h⟩ (by omega) (by omega) (by omega) chk_awake (by decide)).mono ?_
  rintro e x1 ⟨pg, rfl, ho, hb1⟩
  rw [enc_awake] at ho
  have HO := Lib.hid ho
  have HB1 := Lib.hid (HB.out.trans (hb1.mono HB.out.size))
  have sl := slice28_9 (some ⟨pg, 0, none⟩) 512 512 (by omega)
  clear A4 r0 r1 r2 r3 k1 k2 ho hb1 hs4
  go_wp2_with fail
  have hba := below_alloc x1 (.cells #[.int .u8 1, .int .u8 0, .int .u8 1, .int .u8 1, .int .u8 97, .int .u8 0, .int .u8 2, .int .u8 1, .int .u8 2] 5)
  have hcr := heap_alloc_new x1 (.cells #[.int .u8 1, .int .u8 0, .int .u8 1, .int .u8 1, .int .u8 97, .int .u8 0, .int .u8 2, .int .u8 1, .int .u8 2] 5)
  have HB2 := Lib.hid (HB1.out.trans (hba.mono HB1.out.size))
  have hO2 := HO.out.rd.keep hba
  have HP9 : Hid (Bs (x1.alloc (.cells #[.int .u8 1, .int .u8 0, .int .u8 1, .int .u8 1, .int .u8 97, .int .u8 0, .int .u8 2, .int .u8 1, .int .u8 2] 5)) (some ⟨pg, 0, none⟩) 9 [1, 0, 1, 1, 97, 0, 2, 1, 2]) := Lib.hid ⟨⟨rfl, fun _ => by
    obtain ⟨b, off, e1, e2, e3⟩ := hO2.2 (by omega)
    refine ⟨b, off, e1, e2, fun j u hu => e3 j u ?_⟩
    unfold pgL
    rw [List.getElem?_append_left (by have := (List.getElem?_eq_some_iff.1 hu).1; exact this)]
    exact hu⟩, ran_small _ rfl⟩
  have HC9 : Hid (Bs (x1.alloc (.cells #[.int .u8 1, .int .u8 0, .int .u8 1, .int .u8 1, .int .u8 97, .int .u8 0, .int .u8 2, .int .u8 1, .int .u8 2] 5)) (some ⟨x1.heap.size, 0, none⟩) 9 [1, 0, 1, 1, 97, 0, 2, 1, 2]) := Lib.hid ⟨Rd.of_block hcr rfl, ran_small _ rfl⟩
  clear hba hcr hO2 HO
  generalize x1.alloc (.cells #[.int .u8 1, .int .u8 0, .int .u8 1, .int .u8 1, .int .u8 97, .int .u8 0, .int .u8 2, .int .u8 1, .int .u8 2] 5) = x2 at *
  generalize x1.heap.size = gc at *
  refine (equal_is (some ⟨pg, 0, none⟩) (some ⟨gc, 0, none⟩) 9 9 512 9 [1, 0, 1, 1, 97, 0, 2, 1, 2] [1, 0, 1, 1, 97, 0, 2, 1, 2] true (by rfl) x2 HP9.out HC9.out (by unfold maxLen; omega) (by unfold maxLen; omega)).mono ?_
  rintro e x3 ⟨rfl, hd3⟩
  have HB3 := Lib.hid (HB2.out.trans (hd3.below _))
  clear hd3
  go_wp2_with fail
  refine (size_any true none 0 0 none 0 0 none 0 0 [] [] x3 Bss.nil_ Bss.nil_ (by omega) (by omega) (by omega) (by simp [szW]) (by simp [szW])).mono ?_
  rintro e x4 ⟨rfl, hb4⟩
  have HB4 := Lib.hid (HB3.out.trans (hb4.mono HB3.out.size))
  have HS0 : Hid (sizeN true [] [] 0 = 3) := Lib.hid rfl
  rw [HS0.out]
  clear hb4
  go_wp2
  go_ret
  exact ⟨rfl, HB4.out⟩
end Go.Proofs.Ytmjjbfcblmmipaa
