/- leaf.Join of leaves. -/
import Derived.Test.YtmjjbfcblmmipaaOwnN
import Derived.Deep.CutRange
namespace Go.Proofs.Ytmjjbfcblmmipaa
set_option linter.unusedVariables false
set_option linter.unusedSimpArgs false
open Go.RowKit
theorem VD.app {vs us : List Value} (h : VD vs) (k : VD us) (hd : ∀ (i j : Nat) (A : Option Addr) (n c : Nat) (B : Option Addr) (m d : Nat), vs[i]? = some (.slice A n c) → us[j]? = some (.slice B m d) → blk A = none ∨ blk A ≠ blk B) : VD (vs ++ us) := by
  intro i j A n c B m d hi hj hij
  by_cases h1 : i < vs.length
  · rw [List.getElem?_append_left h1] at hi
    by_cases h2 : j < vs.length
    · rw [List.getElem?_append_left h2] at hj
      exact h i j A n c B m d hi hj hij
    · rw [List.getElem?_append_right (by omega)] at hj
      exact hd i _ A n c B m d hi hj
  · rw [List.getElem?_append_right (by omega)] at hi
    by_cases h2 : j < vs.length
    · rw [List.getElem?_append_left h2] at hj
      exact dist_symm (hd j _ B m d A n c hj hi)
    · rw [List.getElem?_append_right (by omega)] at hj
      exact k _ _ A n c B m d hi hj (by omega)
/-- Parts, and others that are newer, in one row. -/
theorem Prts.two {w0 w : World} {base n c m d : Nat} {A B : Option Addr} {xss yss : List (List Int)} (h : Prts w0 base A n c xss) (hb : Below w0.heap.size w0 w) (k : Prts w w0.heap.size B m d yss) (hB : base ≤ w0.heap.size) :
    ∃ vs us, Own w base 28 A n c vs ∧ Rd w B m us ∧ (∀ u ∈ us, u.oneCell' = true) ∧ Hid (∀ (w2 : World) (A' : Option Addr) (c' : Nat), Own w2 base 28 A' (n + m) c' (vs ++ us) → Grows w w2 A A' → Prts w2 base A' (n + m) c' (xss ++ yss)) := by
  obtain ⟨hl, vs, ho0, hd, he0⟩ := h
  have ho := ho0.below hb (fun k hk => (ho0.lies k hk).2)
  have he : ∀ (i : Nat) (v : Value) (xs : List Int), vs[i]? = some v → xss[i]? = some xs → ∃ A' c', v = .slice A' xs.length c' ∧ Own w base 5 A' xs.length c' (By xs) ∧ Ran xs := fun i v xs hv hx => by
    obtain ⟨A', c', e, o, r⟩ := he0 i v xs hv hx
    exact ⟨A', c', e, o.below hb (fun k hk => (o.lies k hk).2), r⟩
  obtain ⟨kl, us, ko, kd, ke⟩ := k
  have hvl := ho.len; have kul := ko.len
  have low : ∀ (i : Nat) (A2 : Option Addr) (n2 c2 : Nat), vs[i]? = some (.slice A2 n2 c2) → ∀ b, blk A2 = some b → b < w0.heap.size := by
    intro i A2 n2 c2 hi b hb2
    have hil := (List.getElem?_eq_some_iff.1 hi).1
    obtain ⟨A3, c3, e3, o3, _⟩ := he0 i _ _ hi (List.getElem?_eq_getElem (show i < xss.length by omega))
    injection e3 with e4 e5 e6
    rw [e4] at hb2
    exact (o3.lies b hb2).2
  refine ⟨vs, us, ho, ko.rd, fun u hu => ?_, ?_⟩
  · obtain ⟨i, hi, rfl⟩ := List.getElem_of_mem hu
    obtain ⟨A2, c2, e, _⟩ := ke i _ _ (List.getElem?_eq_getElem hi) (List.getElem?_eq_getElem (show i < yss.length by omega))
    rw [e]; rfl
  · intro w2 A' c' hn hg
    refine ⟨by simp [hl, kl], _, hn, hd.app kd (fun i j A2 n2 c2 B2 m2 d2 hi hj => ?_), fun i v ys hv hy => ?_⟩
    · cases hA : blk A2 with
      | none => exact .inl rfl
      | some b =>
        right
        intro e
        have h1 := low i A2 n2 c2 hi b hA
        have hjl := (List.getElem?_eq_some_iff.1 hj).1
        obtain ⟨A3, c3, e3, o3, _⟩ := ke j _ _ hj (List.getElem?_eq_getElem (show j < yss.length by omega))
        injection e3 with e4 e5 e6
        rw [e4] at e
        have := (o3.lies b e.symm).1
        omega
    · by_cases hi : i < n
      · rw [List.getElem?_append_left (by omega)] at hv hy
        obtain ⟨A3, c3, e, o3, r3⟩ := he i v ys hv hy
        exact ⟨A3, c3, e, o3.kept hg.1 (own_apart o3 ho (by decide)), r3⟩
      · rw [List.getElem?_append_right (by omega)] at hv hy
        rw [hvl] at hv; rw [hl] at hy
        obtain ⟨A3, c3, e, o3, r3⟩ := ke _ v ys hv hy
        exact ⟨A3, c3, e, (o3.kept hg.1 (own_apart o3 ho (by decide))).mono hB, r3⟩
theorem Prts.other {w w' : World} {base n c n2 c2 : Nat} {A A2 A3 : Option Addr} {xss : List (List Int)} {us : List Value} (h : Prts w base A n c xss) (hg : Grows w w' A2 A3) (ho : Own w base 28 A2 n2 c2 us) (hne : blk A = none ∨ blk A ≠ blk A2) : Prts w' base A n c xss := by
  obtain ⟨hl, vs, ho1, hd, he⟩ := h
  refine ⟨hl, vs, ho1.kept hg.1 hne, hd, fun i v xs hv hx => ?_⟩
  obtain ⟨A', c', e1, o, r⟩ := he i v xs hv hx
  exact ⟨A', c', e1, o.kept hg.1 (own_apart o ho (by decide)), r⟩
/-- Join's state: its result's cell, the leaf that grows, what it has. -/
structure JS (w : World) (A : Option Addr) (n c : Nat) (xs : List (List Int)) (B : Option Addr) (m d : Nat) (ys : List (List Int)) (W : World) : Prop where
  rs : W.heap[w.heap.size]? = some (.cells ndZ 70 (0, 0))
  g3 : W.heap[w.heap.size + 1]? = some (.cells #[.bool true, .slice A n c, .slice B m d, .slice none 0 0] 70 (0, 0))
  pk : Prts W w.heap.size A n c xs
  pv : Prts W w.heap.size B m d ys
  ap : blk A = none ∨ blk A ≠ blk B
  hb : Below w.heap.size w W
section
variable {w W W' : World} {A A' B B' : Option Addr} {n c m d n' c' : Nat} {xs ys xs' : List (List Int)} {vs : List Value}
theorem JS.keep (h : JS w A n c xs B m d ys W) (hb : Below W.heap.size W W') : JS w A n c xs B m d ys W' :=
  ⟨(hb.block _ (lt_of_heap h.rs)).trans h.rs, (hb.block _ (lt_of_heap h.g3)).trans h.g3, h.pk.keep hb, h.pv.keep hb, h.ap, h.hb.trans (hb.mono h.hb.size)⟩
theorem grow_ap (h : blk A = none ∨ blk A ≠ blk B) (hg : Grows W W' A A') (hB : ∀ k, blk B = some k → k < W.heap.size) : blk A' = none ∨ blk A' ≠ blk B := by
  rcases hg.2 with e | ⟨g, e, hg2⟩
  · rw [e]; exact h
  · right; rw [e]; intro e2; have := hB g e2.symm; omega
theorem JS.app1 (h : JS w A n c xs B m d ys W) (ho : Own W w.heap.size 28 A n c vs) (hg : Grows W W' A A') (hp : Prts W' w.heap.size A' n' c' xs') :
    W'.heap[w.heap.size + 1]? = some (.cells #[.bool true, .slice A n c, .slice B m d, .slice none 0 0] 70 (0, 0)) ∧ JS w A' n' c' xs' B m d ys (W'.setCell ⟨w.heap.size + 1, 1, none⟩ (.slice A' n' c')) := by
  have r1 := (hg.1.block _ (lt_of_heap h.rs) (ho.ne_blk h.rs (by decide)).symm).trans h.rs
  have g1 := (hg.1.block _ (lt_of_heap h.g3) (ho.ne_blk h.g3 (by decide)).symm).trans h.g3
  have p2 := h.pv.other hg ho (dist_symm h.ap)
  have hb1 := h.hb.trans (hg.below h.hb.size (fun k hk => (ho.lies k hk).1))
  have on := onl_set W' (w.heap.size + 1) 1 (.slice A' n' c')
  refine ⟨g1, (on.block _ (lt_of_heap r1) (by intro e; injection e with e; omega)).trans r1, rc_set 1 _ g1 rfl, hp.set on g1 (by decide) (by decide), p2.set on g1 (by decide) (by decide), grow_ap h.ap hg (fun k hk => (h.pv.lies k hk).2), hb1.trans ((on.below (Nat.le_of_lt (lt_of_heap g1))).mono (by omega))⟩
theorem JS.app2 (h : JS w A n c xs B m d ys W) (ho : Own W w.heap.size 28 B m d vs) (hg : Grows W W' B B') (hp : Prts W' w.heap.size B' n' c' xs') :
    W'.heap[w.heap.size + 1]? = some (.cells #[.bool true, .slice A n c, .slice B m d, .slice none 0 0] 70 (0, 0)) ∧ JS w A n c xs B' n' c' xs' (W'.setCell ⟨w.heap.size + 1, 2, none⟩ (.slice B' n' c')) := by
  have r1 := (hg.1.block _ (lt_of_heap h.rs) (ho.ne_blk h.rs (by decide)).symm).trans h.rs
  have g1 := (hg.1.block _ (lt_of_heap h.g3) (ho.ne_blk h.g3 (by decide)).symm).trans h.g3
  have p2 := h.pk.other hg ho h.ap
  have hb1 := h.hb.trans (hg.below h.hb.size (fun k hk => (ho.lies k hk).1))
  have on := onl_set W' (w.heap.size + 1) 2 (.slice B' n' c')
  refine ⟨g1, (on.block _ (lt_of_heap r1) (by intro e; injection e with e; omega)).trans r1, rc_set 2 _ g1 rfl, p2.set on g1 (by decide) (by decide), hp.set on g1 (by decide) (by decide), dist_symm (grow_ap (dist_symm h.ap) hg (fun k hk => (h.pk.lies k hk).2)), hb1.trans ((on.below (Nat.le_of_lt (lt_of_heap g1))).mono (by omega))⟩
end
/-- A leaf to be joined. -/
structure Nde where
  A1 : Option Addr
  n1 : Nat
  c1 : Nat
  A2 : Option Addr
  n2 : Nat
  c2 : Nat
  A3 : Option Addr
  n3 : Nat
  c3 : Nat
  ks : List (List Int)
  vs : List (List Int)
/-- The leaf lies there, and reads as its keys and values. -/
structure NdeR (w : World) (g o : Nat) (x : Nde) : Prop where
  c0 : w.cell? ⟨g, o, none⟩ = some (.bool true)
  c1 : w.cell? ⟨g, o + 1, none⟩ = some (.slice x.A1 x.n1 x.c1)
  c2 : w.cell? ⟨g, o + 2, none⟩ = some (.slice x.A2 x.n2 x.c2)
  c3 : w.cell? ⟨g, o + 3, none⟩ = some (.slice x.A3 x.n3 x.c3)
  k : Bss w x.A1 x.n1 x.ks
  v : Bss w x.A2 x.n2 x.vs
  b1 : x.n1 ≤ 100000
  b2 : x.n2 ≤ 100000
  l1 : ∀ t ∈ x.ks, t.length ≤ 140737488355328
  l2 : ∀ t ∈ x.vs, t.length ≤ 140737488355328
def jk (l : List Nde) : List (List Int) := (l.map (·.ks)).flatten
def jv (l : List Nde) : List (List Int) := (l.map (·.vs)).flatten
theorem jk_take {l : List Nde} {k : Nat} {x : Nde} (h : l[k]? = some x) : jk (l.take (k + 1)) = jk (l.take k) ++ x.ks := by
  unfold jk; rw [List.take_add_one, h]; simp
theorem jv_take {l : List Nde} {k : Nat} {x : Nde} (h : l[k]? = some x) : jv (l.take (k + 1)) = jv (l.take k) ++ x.vs := by
  unfold jv; rw [List.take_add_one, h]; simp
set_option maxRecDepth 100000 in
set_option maxHeartbeats 16000000 in
theorem joinN_any (l : List Nde) (gj N cj : Nat) (w : World) (hN : l.length = N) (bN : N ≤ 1000) (hl : ∀ j x, l[j]? = some x → NdeR w gj (j * 4) x) (hgj : gj < w.heap.size) :
    Calls Try.prog 50 #[.slice (some ⟨gj, 0, none⟩) N cj] w fun e w' => ∃ A n c B m d, e = .returned (.agg #[.bool true, .slice A n c, .slice B m d, .slice none 0 0]) ∧ Prts w' w.heap.size A n c (jk l) ∧ Prts w' w.heap.size B m d (jv l) ∧ (blk A = none ∨ blk A ≠ blk B) ∧ Below w.heap.size w w' := by
  obtain ⟨i0, hi, hz0, hz1, hz2⟩ := info_parts info23
  have HLN := Lib.hid hN; have HL := Lib.hid hl
  obtain ⟨oj, HOJ⟩ : ∃ oj : Nat, Hid (oj = 0) := ⟨0, rfl⟩
  have hsz : (w.alloc (.cells ndZ 70)).heap.size = w.heap.size + 1 := by simp
  have J0 : Hid (JS w none 0 0 [] none 0 0 [] ((w.alloc (.cells ndZ 70)).alloc (.cells #[.bool true, .slice none 0 0, .slice none 0 0, .slice none 0 0] 70))) := Lib.hid (by
    have hb1 := below_alloc w (.cells ndZ 70)
    have hb2 := below_alloc (w.alloc (.cells ndZ 70)) (.cells #[.bool true, .slice none 0 0, .slice none 0 0, .slice none 0 0] 70)
    have n2 := heap_alloc_new (w.alloc (.cells ndZ 70)) (.cells #[.bool true, .slice none 0 0, .slice none 0 0, .slice none 0 0] 70)
    rw [hsz] at n2
    exact ⟨(hb2.block _ (by omega)).trans (heap_alloc_new w _), n2, Prts.nil_, Prts.nil_, .inl rfl, hb1.trans (hb2.mono (by omega))⟩)
  clear hN hl
  go_enter Try.func50, Try.ntmps50
  go_wp2_with fail
  generalize (w.alloc (.cells ndZ 70)).alloc (.cells #[.bool true, .slice none 0 0, .slice none 0 0, .slice none 0 0] 70) = y at *
  go_loopw [9] (fun iv wr => ∃ (kk n c m d : Nat) (A B : Option Addr), iv = .int .i64 (kk : Int) ∧ kk ≤ N ∧ n ≤ kk * 100000 ∧ m ≤ kk * 100000 ∧ Hid (JS w A n c (jk (l.take kk)) B m d (jv (l.take kk)) wr)) (fun iv _ => N - (intOf iv).toNat)
  case atStart => exact ⟨0, 0, 0, 0, 0, none, none, rfl, Nat.zero_le _, Nat.le_refl _, Nat.le_refl _, J0⟩
  case round =>
    obtain ⟨kk, n, c, m, d, A, B, rfl, hk, hnn, hmm, HJ⟩ := hrel
    by_cases hlt : kk < N
    · obtain ⟨x, HXK⟩ : ∃ x, Hid (l[kk]? = some x) := ⟨_, List.getElem?_eq_getElem (by rw [HLN.out]; exact hlt)⟩
      have hx := HL.out kk x HXK.out
      have HKS := Lib.hid (jk_take HXK.out); have HVS := Lib.hid (jv_take HXK.out)
      obtain ⟨A1, n1, c1, A2, n2, c2, A3, n3, c3, ks, vs⟩ := x
      have hb := HJ.out.hb
      have p0 := (cell_keep hb hx.c0); have p1 := (cell_keep hb hx.c1); have p2 := (cell_keep hb hx.c2); have p3 := (cell_keep hb hx.c3)
      have HK1 := Lib.hid (hx.k.keep hb); have HV1 := Lib.hid (hx.v.keep hb); have HV := Lib.hid hx.v
      have b1 : n1 ≤ 100000 := hx.b1; have b2 : n2 ≤ 100000 := hx.b2
      have HL1 := Lib.hid hx.l1; have HL2 := Lib.hid hx.l2
      simp only at p0 p1 p2 p3 HKS HVS HL1 HL2 HK1 HV1 HV
      clear hx hb
      have ha := below_alloc wr (.cells #[.bool true, .slice A1 n1 c1, .slice A2 n2 c2, .slice A3 n3 c3] 70)
      have HJ1 := Lib.hid (HJ.out.keep ha)
      have HK2 := Lib.hid (HK1.out.keep ha); have HV2 := Lib.hid (HV1.out.keep ha)
      have NB := Lib.hid (heap_alloc_new wr (.cells #[.bool true, .slice A1 n1 c1, .slice A2 n2 c2, .slice A3 n3 c3] 70))
      have z0 : (0 : Int) ≤ (kk : Int) := by omega
      have z1 : (kk : Int) < (N : Int) := by omega
      have hwz := HJ.out.hb.size
      have hgl := lt_of_heap HJ.out.g3
      clear ha
      go_upto_region 6 with fail

      generalize wr.alloc (.cells #[.bool true, .slice A1 n1 c1, .slice A2 n2 c2, .slice A3 n3 c3] 70) = y1 at *
      go_cut [] from 15 to 29 (fun wx => ∃ (AE : Option Addr) (cE : Nat), Hid (JS w AE (n + n1) cE ((jk (l.take kk)) ++ ks) B m d (jv (l.take kk)) wx) ∧ Hid (wx.heap[wr.heap.size]? = some (.cells #[.bool true, .slice A1 n1 c1, .slice A2 n2 c2, .slice A3 n3 c3] 70 (0, 0))))
      case first =>
        have HJd := Lib.hid (HJ1.out.keep ((Dr.refl y1).one.below _)); have NBd : Hid (y1.drew.heap[wr.heap.size]? = some (.cells #[.bool true, .slice A1 n1 c1, .slice A2 n2 c2, .slice A3 n3 c3] 70 (0, 0))) := NB; have BLd : Hid (Below y1.heap.size y1 y1.drew) := Lib.hid ((Dr.refl y1).one.below _)
        refine wp_region_held_drew (S := fun w' => w'.cell? ⟨wr.heap.size, 1, none⟩ = some (.slice A1 n1 c1) ∧ True) (by kernel_rfl) ⟨rc_cell 1 _ NBd.out rfl, trivial⟩ (fun hH0 => ?_)
        generalize y1.drew = yd at *
        refine wpAnyH_take (i := 0) (oi := { dst := some 15, op := Op.fieldAddr 70 (Operand.tmp 3) 1, type := 0, pos := _, after := #[], guard := none }) (v := ?vj61_0) rfl (by kernel_rfl) (by kernel_rfl) (by kernel_rfl) (fun _ _ _ h => h) (Or.inl ⟨by rfl, ?yj61_0⟩) hH0 ?rj61_0
        case yj61_0 => (intro w hSw; (try dsimp only at hSw); go_simp; try (with_reducible rfl))
        try simp only [Act.put, List.setIfInBounds_toArray, List.set_cons_zero, List.set_cons_succ]
        refine wpAnyH_take (i := 2) (oi := { dst := some 17, op := Op.fieldAddr 70 (Operand.tmp 5) 1, type := 0, pos := _, after := #[], guard := none }) (v := ?vj61_2) rfl (by kernel_rfl) (by kernel_rfl) (by kernel_rfl) (fun _ _ _ h => h) (Or.inl ⟨by rfl, ?yj61_2⟩) hH0 ?rj61_2
        case yj61_2 => (intro w hSw; (try dsimp only at hSw); go_simp; try (with_reducible rfl))
        try simp only [Act.put, List.setIfInBounds_toArray, List.set_cons_zero, List.set_cons_succ]
        refine wpAnyH_take (i := 3) (oi := { dst := some 18, op := Op.load 62 (Operand.tmp 17), type := 62, pos := _, after := #[{ on := 2, ground := Ground.data }], guard := none }) (v := ?vj61_3) rfl (by kernel_rfl) (by kernel_rfl) (by kernel_rfl) (fun _ _ _ h => h) (Or.inl ⟨by rfl, ?yj61_3⟩) hH0 ?rj61_3
        case yj61_3 => (intro w hSw; (try dsimp only at hSw); go_simp; try (with_reducible rfl))
        try simp only [Act.put, List.setIfInBounds_toArray, List.set_cons_zero, List.set_cons_succ]
        refine wpAnyH_ready (rs := [1, 4]) (by kernel_rfl) (by simp) ?_
        refine (AllReadyH.cons (o := { dst := some 16, op := Op.load 62 (Operand.tmp 15), type := 62, pos := _, after := #[{ on := 0, ground := Ground.data }], guard := none }) rfl (fun K hK => ?_) (AllReadyH.cons (o := { dst := some 19, op := Op.call { callee := Callee.value (Operand.func 102), args := #[Operand.tmp 18], argTypes := #[62] }, type := 62, pos := _, after := #[{ on := 3, ground := Ground.data }], guard := none }) rfl (fun K hK => ?_) AllReadyH.nil))
        · have lc2 := rc_cell 1 (.slice A n c) HJd.out.g3 rfl
          go_simp
          refine hK.out _ _ ⟨rc_cell 1 _ NBd.out rfl, trivial⟩ (fun hH2 => ?_)
          clear hK K
          try simp only [Act.put, List.setIfInBounds_toArray, List.set_cons_zero, List.set_cons_succ]
          refine wpAnyH_ready (rs := [4]) (by kernel_rfl) (by simp) ?_
          refine (AllReadyH.cons (o := { dst := some 19, op := Op.call { callee := Callee.value (Operand.func 102), args := #[Operand.tmp 18], argTypes := #[62] }, type := 62, pos := _, after := #[{ on := 3, ground := Ground.data }], guard := none }) rfl (fun K hK => ?_) AllReadyH.nil)
          go_simp
          refine (texts_any A1 n1 c1 ks yd (HK2.out.keep BLd.out) b1 HL1.out).mono ?_
          rintro e x4 ⟨T, ct, rfl, pT, hb4⟩
          obtain ⟨us0, us, ho, hr, h1u, HROW⟩ := Prts.two HJd.out.pk hb4 pT HJd.out.hb.size
          have HJ4 := Lib.hid (HJd.out.keep hb4); have NB4 := Lib.hid ((hb4.block _ (lt_of_heap NBd.out)).trans NBd.out); have BL4 := Lib.hid (BLd.out.trans (hb4.mono BLd.out.size))
          clear pT hb4
          go_wp2_with fail
          refine hK.out _ _ ⟨rc_cell 1 _ NB4.out rfl, trivial⟩ (fun hH4 => ?_)
          clear hK K
          try simp only [Act.put, List.setIfInBounds_toArray, List.set_cons_zero, List.set_cons_succ]
          refine wpAnyH_ready (rs := [5]) (by kernel_rfl) (by simp) ?_
          refine (AllReadyH.cons (o := { dst := some 20, op := Op.call { callee := Callee.builtin Builtin.append, args := #[Operand.tmp 16, Operand.tmp 19], argTypes := #[62, 62] }, type := 62, pos := _, after := #[{ on := 1, ground := Ground.data }, { on := 4, ground := Ground.data }, { on := 4, ground := Ground.chain }], guard := none }) rfl (fun K hK => ?_) AllReadyH.nil)
          refine step_append_rd rfl (.tmp 16) (.tmp 19) 62 rfl i0 (.slice none 0 0) 24 Try.underlying62 hi hz0 hz1 hz2 rfl (by simp [Act.eval, Act.put]) ho T n1 ct us (by simp [Act.eval, Act.put]) hr h1u (by unfold maxLen; omega) (by omega) HJ4.out.hb.size ?_
          intro AE cE x6 oE gE
          have HPE := HROW.out x6 AE cE oE gE
          have HA6 := Lib.hid (HJ4.out.app1 ho gE HPE)
          have NB6 := Lib.hid ((gE.1.block _ (lt_of_heap NB4.out) (ho.ne_blk NB4.out (by decide)).symm).trans NB4.out)
          have gsz := gE.1.size
          clear oE gE HPE HROW ho hr
          refine hK.out _ _ ⟨rc_cell 1 _ NB6.out rfl, trivial⟩ (fun hH6 => ?_)
          clear hK K
          try simp only [Act.put, List.setIfInBounds_toArray, List.set_cons_zero, List.set_cons_succ]
          refine wpAnyH_take (i := 6) (oi := { dst := some 21, op := Op.fieldAddr 70 (Operand.tmp 3) 1, type := 0, pos := _, after := #[{ on := 0, ground := Ground.phase }, { on := 1, ground := Ground.phase }, { on := 2, ground := Ground.phase }, { on := 3, ground := Ground.phase }, { on := 4, ground := Ground.phase }, { on := 5, ground := Ground.phase }], guard := none }) (v := ?vj67_6) rfl (by kernel_rfl) (by kernel_rfl) (by kernel_rfl) (fun _ _ _ h => h) (Or.inl ⟨by rfl, ?yj67_6⟩) hH6 ?rj67_6
          case yj67_6 => (intro w hSw; (try dsimp only at hSw); go_simp; try (with_reducible rfl))
          try simp only [Act.put, List.setIfInBounds_toArray, List.set_cons_zero, List.set_cons_succ]
          refine wpAnyH_ready (rs := [7]) (by kernel_rfl) (by simp) ?_
          refine (AllReadyH.cons (o := { dst := none, op := Op.store 62 (Operand.tmp 21) (Operand.tmp 20), type := 0, pos := _, after := #[{ on := 6, ground := Ground.data }, { on := 5, ground := Ground.data }, { on := 5, ground := Ground.chain }, { on := 0, ground := Ground.phase }, { on := 1, ground := Ground.phase }, { on := 2, ground := Ground.phase }, { on := 3, ground := Ground.phase }, { on := 4, ground := Ground.phase }, { on := 5, ground := Ground.phase }], guard := none }) rfl (fun K hK => ?_) AllReadyH.nil)
          have c8 := rc_cell 1 (.slice A n c) HA6.out.1 rfl; have f8 := two_frozen (i := 1) HA6.out.1
          have HJ8 := Lib.hid HA6.out.2
          have NB8 := Lib.hid (((onl_set x6 (w.heap.size + 1) 1 (.slice AE (n + n1) cE)).block _ (lt_of_heap NB6.out) (by intro e; injection e with e; omega)).trans NB6.out)
          go_simp
          refine hK.out _ _ ⟨rc_cell 1 _ NB8.out rfl, trivial⟩ (fun hH8 => ?_)
          clear hK K
          try simp only [Act.put, List.setIfInBounds_toArray, List.set_cons_zero, List.set_cons_succ]
          clear HA6 c8 f8
          generalize x6.setCell ⟨w.heap.size + 1, 1, none⟩ (.slice AE (n + n1) cE) = s8 at *
          refine wpAnyH_done (by kernel_rfl) ?_ _
          go_wp2_with fail
          go_meet
          case rel => exact ⟨AE, cE, HJ8, NB8⟩
        · go_simp
          refine (texts_any A1 n1 c1 ks yd (HK2.out.keep BLd.out) b1 HL1.out).mono ?_
          rintro e x10 ⟨T, ct, rfl, pT, hb10⟩
          obtain ⟨us0, us, ho, hr, h1u, HROW⟩ := Prts.two HJd.out.pk hb10 pT HJd.out.hb.size
          have HJ10 := Lib.hid (HJd.out.keep hb10); have NB10 := Lib.hid ((hb10.block _ (lt_of_heap NBd.out)).trans NBd.out); have BL10 := Lib.hid (BLd.out.trans (hb10.mono BLd.out.size))
          clear pT hb10
          go_wp2_with fail
          refine hK.out _ _ ⟨rc_cell 1 _ NB10.out rfl, trivial⟩ (fun hH10 => ?_)
          clear hK K
          try simp only [Act.put, List.setIfInBounds_toArray, List.set_cons_zero, List.set_cons_succ]
          refine wpAnyH_ready (rs := [1]) (by kernel_rfl) (by simp) ?_
          refine (AllReadyH.cons (o := { dst := some 16, op := Op.load 62 (Operand.tmp 15), type := 62, pos := _, after := #[{ on := 0, ground := Ground.data }], guard := none }) rfl (fun K hK => ?_) AllReadyH.nil)
          have lc12 := rc_cell 1 (.slice A n c) HJ10.out.g3 rfl
          go_simp
          refine hK.out _ _ ⟨rc_cell 1 _ NB10.out rfl, trivial⟩ (fun hH12 => ?_)
          clear hK K
          try simp only [Act.put, List.setIfInBounds_toArray, List.set_cons_zero, List.set_cons_succ]
          refine wpAnyH_ready (rs := [5]) (by kernel_rfl) (by simp) ?_
          refine (AllReadyH.cons (o := { dst := some 20, op := Op.call { callee := Callee.builtin Builtin.append, args := #[Operand.tmp 16, Operand.tmp 19], argTypes := #[62, 62] }, type := 62, pos := _, after := #[{ on := 1, ground := Ground.data }, { on := 4, ground := Ground.data }, { on := 4, ground := Ground.chain }], guard := none }) rfl (fun K hK => ?_) AllReadyH.nil)
          refine step_append_rd rfl (.tmp 16) (.tmp 19) 62 rfl i0 (.slice none 0 0) 24 Try.underlying62 hi hz0 hz1 hz2 rfl (by simp [Act.eval, Act.put]) ho T n1 ct us (by simp [Act.eval, Act.put]) hr h1u (by unfold maxLen; omega) (by omega) HJ10.out.hb.size ?_
          intro AE cE x14 oE gE
          have HPE := HROW.out x14 AE cE oE gE
          have HA14 := Lib.hid (HJ10.out.app1 ho gE HPE)
          have NB14 := Lib.hid ((gE.1.block _ (lt_of_heap NB10.out) (ho.ne_blk NB10.out (by decide)).symm).trans NB10.out)
          have gsz := gE.1.size
          clear oE gE HPE HROW ho hr
          refine hK.out _ _ ⟨rc_cell 1 _ NB14.out rfl, trivial⟩ (fun hH14 => ?_)
          clear hK K
          try simp only [Act.put, List.setIfInBounds_toArray, List.set_cons_zero, List.set_cons_succ]
          refine wpAnyH_take (i := 6) (oi := { dst := some 21, op := Op.fieldAddr 70 (Operand.tmp 3) 1, type := 0, pos := _, after := #[{ on := 0, ground := Ground.phase }, { on := 1, ground := Ground.phase }, { on := 2, ground := Ground.phase }, { on := 3, ground := Ground.phase }, { on := 4, ground := Ground.phase }, { on := 5, ground := Ground.phase }], guard := none }) (v := ?vj615_6) rfl (by kernel_rfl) (by kernel_rfl) (by kernel_rfl) (fun _ _ _ h => h) (Or.inl ⟨by rfl, ?yj615_6⟩) hH14 ?rj615_6
          case yj615_6 => (intro w hSw; (try dsimp only at hSw); go_simp; try (with_reducible rfl))
          try simp only [Act.put, List.setIfInBounds_toArray, List.set_cons_zero, List.set_cons_succ]
          refine wpAnyH_ready (rs := [7]) (by kernel_rfl) (by simp) ?_
          refine (AllReadyH.cons (o := { dst := none, op := Op.store 62 (Operand.tmp 21) (Operand.tmp 20), type := 0, pos := _, after := #[{ on := 6, ground := Ground.data }, { on := 5, ground := Ground.data }, { on := 5, ground := Ground.chain }, { on := 0, ground := Ground.phase }, { on := 1, ground := Ground.phase }, { on := 2, ground := Ground.phase }, { on := 3, ground := Ground.phase }, { on := 4, ground := Ground.phase }, { on := 5, ground := Ground.phase }], guard := none }) rfl (fun K hK => ?_) AllReadyH.nil)
          have c16 := rc_cell 1 (.slice A n c) HA14.out.1 rfl; have f16 := two_frozen (i := 1) HA14.out.1
          have HJ16 := Lib.hid HA14.out.2
          have NB16 := Lib.hid (((onl_set x14 (w.heap.size + 1) 1 (.slice AE (n + n1) cE)).block _ (lt_of_heap NB14.out) (by intro e; injection e with e; omega)).trans NB14.out)
          go_simp
          refine hK.out _ _ ⟨rc_cell 1 _ NB16.out rfl, trivial⟩ (fun hH16 => ?_)
          clear hK K
          try simp only [Act.put, List.setIfInBounds_toArray, List.set_cons_zero, List.set_cons_succ]
          clear HA14 c16 f16
          generalize x14.setCell ⟨w.heap.size + 1, 1, none⟩ (.slice AE (n + n1) cE) = s16 at *
          refine wpAnyH_done (by kernel_rfl) ?_ _
          go_wp2_with fail
          go_meet
          case rel => exact ⟨AE, cE, HJ16, NB16⟩
      obtain ⟨AX, cX, HJ2, NB2⟩ := hcut
      clear HJ1 NB HK2
      have hwc := HJ2.out.hb.size
      have HV3 := Lib.hid (HV.out.keep HJ2.out.hb)
      go_upto_region 7 with fail
      have HJd := Lib.hid (HJ2.out.keep ((Dr.refl wc).one.below _)); have NBd : Hid (wc.drew.heap[wr.heap.size]? = some (.cells #[.bool true, .slice A1 n1 c1, .slice A2 n2 c2, .slice A3 n3 c3] 70 (0, 0))) := NB2; have BLd : Hid (Below wc.heap.size wc wc.drew) := Lib.hid ((Dr.refl wc).one.below _)
      refine wp_region_held_drew (S := fun w' => w'.cell? ⟨wr.heap.size, 2, none⟩ = some (.slice A2 n2 c2) ∧ True) (by kernel_rfl) ⟨rc_cell 2 _ NBd.out rfl, trivial⟩ (fun hH0 => ?_)
      generalize wc.drew = yd at *
      refine wpAnyH_take (i := 0) (oi := { dst := some 22, op := Op.fieldAddr 70 (Operand.tmp 3) 2, type := 0, pos := _, after := #[], guard := none }) (v := ?vj71_0) rfl (by kernel_rfl) (by kernel_rfl) (by kernel_rfl) (fun _ _ _ h => h) (Or.inl ⟨by rfl, ?yj71_0⟩) hH0 ?rj71_0
      case yj71_0 => (intro w hSw; (try dsimp only at hSw); go_simp; try (with_reducible rfl))
      try simp only [Act.put, List.setIfInBounds_toArray, List.set_cons_zero, List.set_cons_succ]
      refine wpAnyH_take (i := 2) (oi := { dst := some 24, op := Op.fieldAddr 70 (Operand.tmp 5) 2, type := 0, pos := _, after := #[], guard := none }) (v := ?vj71_2) rfl (by kernel_rfl) (by kernel_rfl) (by kernel_rfl) (fun _ _ _ h => h) (Or.inl ⟨by rfl, ?yj71_2⟩) hH0 ?rj71_2
      case yj71_2 => (intro w hSw; (try dsimp only at hSw); go_simp; try (with_reducible rfl))
      try simp only [Act.put, List.setIfInBounds_toArray, List.set_cons_zero, List.set_cons_succ]
      refine wpAnyH_take (i := 3) (oi := { dst := some 25, op := Op.load 62 (Operand.tmp 24), type := 62, pos := _, after := #[{ on := 2, ground := Ground.data }], guard := none }) (v := ?vj71_3) rfl (by kernel_rfl) (by kernel_rfl) (by kernel_rfl) (fun _ _ _ h => h) (Or.inl ⟨by rfl, ?yj71_3⟩) hH0 ?rj71_3
      case yj71_3 => (intro w hSw; (try dsimp only at hSw); go_simp; try (with_reducible rfl))
      try simp only [Act.put, List.setIfInBounds_toArray, List.set_cons_zero, List.set_cons_succ]
      refine wpAnyH_ready (rs := [1, 4]) (by kernel_rfl) (by simp) ?_
      refine (AllReadyH.cons (o := { dst := some 23, op := Op.load 62 (Operand.tmp 22), type := 62, pos := _, after := #[{ on := 0, ground := Ground.data }], guard := none }) rfl (fun K hK => ?_) (AllReadyH.cons (o := { dst := some 26, op := Op.call { callee := Callee.value (Operand.func 102), args := #[Operand.tmp 25], argTypes := #[62] }, type := 62, pos := _, after := #[{ on := 3, ground := Ground.data }], guard := none }) rfl (fun K hK => ?_) AllReadyH.nil))
      · have lc2 := rc_cell 2 (.slice B m d) HJd.out.g3 rfl
        go_simp
        refine hK.out _ _ ⟨rc_cell 2 _ NBd.out rfl, trivial⟩ (fun hH2 => ?_)
        clear hK K
        try simp only [Act.put, List.setIfInBounds_toArray, List.set_cons_zero, List.set_cons_succ]
        refine wpAnyH_ready (rs := [4]) (by kernel_rfl) (by simp) ?_
        refine (AllReadyH.cons (o := { dst := some 26, op := Op.call { callee := Callee.value (Operand.func 102), args := #[Operand.tmp 25], argTypes := #[62] }, type := 62, pos := _, after := #[{ on := 3, ground := Ground.data }], guard := none }) rfl (fun K hK => ?_) AllReadyH.nil)
        go_simp
        refine (texts_any A2 n2 c2 vs yd (HV3.out.keep BLd.out) b2 HL2.out).mono ?_
        rintro e x4 ⟨T, ct, rfl, pT, hb4⟩
        obtain ⟨us0, us, ho, hr, h1u, HROW⟩ := Prts.two HJd.out.pv hb4 pT HJd.out.hb.size
        have HJ4 := Lib.hid (HJd.out.keep hb4); have NB4 := Lib.hid ((hb4.block _ (lt_of_heap NBd.out)).trans NBd.out); have BL4 := Lib.hid (BLd.out.trans (hb4.mono BLd.out.size))
        clear pT hb4
        go_wp2_with fail
        refine hK.out _ _ ⟨rc_cell 2 _ NB4.out rfl, trivial⟩ (fun hH4 => ?_)
        clear hK K
        try simp only [Act.put, List.setIfInBounds_toArray, List.set_cons_zero, List.set_cons_succ]
        refine wpAnyH_ready (rs := [5]) (by kernel_rfl) (by simp) ?_
        refine (AllReadyH.cons (o := { dst := some 27, op := Op.call { callee := Callee.builtin Builtin.append, args := #[Operand.tmp 23, Operand.tmp 26], argTypes := #[62, 62] }, type := 62, pos := _, after := #[{ on := 1, ground := Ground.data }, { on := 4, ground := Ground.data }, { on := 4, ground := Ground.chain }], guard := none }) rfl (fun K hK => ?_) AllReadyH.nil)
        refine step_append_rd rfl (.tmp 23) (.tmp 26) 62 rfl i0 (.slice none 0 0) 24 Try.underlying62 hi hz0 hz1 hz2 rfl (by simp [Act.eval, Act.put]) ho T n2 ct us (by simp [Act.eval, Act.put]) hr h1u (by unfold maxLen; omega) (by omega) HJ4.out.hb.size ?_
        intro AE cE x6 oE gE
        have HPE := HROW.out x6 AE cE oE gE
        have HA6 := Lib.hid (HJ4.out.app2 ho gE HPE)
        have NB6 := Lib.hid ((gE.1.block _ (lt_of_heap NB4.out) (ho.ne_blk NB4.out (by decide)).symm).trans NB4.out)
        have gsz := gE.1.size
        clear oE gE HPE HROW ho hr
        refine hK.out _ _ ⟨rc_cell 2 _ NB6.out rfl, trivial⟩ (fun hH6 => ?_)
        clear hK K
        try simp only [Act.put, List.setIfInBounds_toArray, List.set_cons_zero, List.set_cons_succ]
        refine wpAnyH_take (i := 6) (oi := { dst := some 28, op := Op.fieldAddr 70 (Operand.tmp 3) 2, type := 0, pos := _, after := #[{ on := 0, ground := Ground.phase }, { on := 1, ground := Ground.phase }, { on := 2, ground := Ground.phase }, { on := 3, ground := Ground.phase }, { on := 4, ground := Ground.phase }, { on := 5, ground := Ground.phase }], guard := none }) (v := ?vj77_6) rfl (by kernel_rfl) (by kernel_rfl) (by kernel_rfl) (fun _ _ _ h => h) (Or.inl ⟨by rfl, ?yj77_6⟩) hH6 ?rj77_6
        case yj77_6 => (intro w hSw; (try dsimp only at hSw); go_simp; try (with_reducible rfl))
        try simp only [Act.put, List.setIfInBounds_toArray, List.set_cons_zero, List.set_cons_succ]
        refine wpAnyH_ready (rs := [7]) (by kernel_rfl) (by simp) ?_
        refine (AllReadyH.cons (o := { dst := none, op := Op.store 62 (Operand.tmp 28) (Operand.tmp 27), type := 0, pos := _, after := #[{ on := 6, ground := Ground.data }, { on := 5, ground := Ground.data }, { on := 5, ground := Ground.chain }, { on := 0, ground := Ground.phase }, { on := 1, ground := Ground.phase }, { on := 2, ground := Ground.phase }, { on := 3, ground := Ground.phase }, { on := 4, ground := Ground.phase }, { on := 5, ground := Ground.phase }], guard := none }) rfl (fun K hK => ?_) AllReadyH.nil)
        have c8 := rc_cell 2 (.slice B m d) HA6.out.1 rfl; have f8 := two_frozen (i := 2) HA6.out.1
        have HJ8 := Lib.hid HA6.out.2
        have NB8 := Lib.hid (((onl_set x6 (w.heap.size + 1) 2 (.slice AE (m + n2) cE)).block _ (lt_of_heap NB6.out) (by intro e; injection e with e; omega)).trans NB6.out)
        go_simp
        refine hK.out _ _ ⟨rc_cell 2 _ NB8.out rfl, trivial⟩ (fun hH8 => ?_)
        clear hK K
        try simp only [Act.put, List.setIfInBounds_toArray, List.set_cons_zero, List.set_cons_succ]
        clear HA6 c8 f8
        generalize x6.setCell ⟨w.heap.size + 1, 2, none⟩ (.slice AE (m + n2) cE) = s8 at *
        refine wpAnyH_done (by kernel_rfl) ?_ _
        have HJz := HJ8
        rw [← HKS.out, ← HVS.out] at HJz
        go_wp2
        go_roundw
        case rel => exact ⟨kk + 1, n + n1, cX, m + n2, cE, AX, AE, by go_num, by omega, by omega, by omega, HJz⟩
        case measure => simp [intOf]; omega
      · go_simp
        refine (texts_any A2 n2 c2 vs yd (HV3.out.keep BLd.out) b2 HL2.out).mono ?_
        rintro e x10 ⟨T, ct, rfl, pT, hb10⟩
        obtain ⟨us0, us, ho, hr, h1u, HROW⟩ := Prts.two HJd.out.pv hb10 pT HJd.out.hb.size
        have HJ10 := Lib.hid (HJd.out.keep hb10); have NB10 := Lib.hid ((hb10.block _ (lt_of_heap NBd.out)).trans NBd.out); have BL10 := Lib.hid (BLd.out.trans (hb10.mono BLd.out.size))
        clear pT hb10
        go_wp2_with fail
        refine hK.out _ _ ⟨rc_cell 2 _ NB10.out rfl, trivial⟩ (fun hH10 => ?_)
        clear hK K
        try simp only [Act.put, List.setIfInBounds_toArray, List.set_cons_zero, List.set_cons_succ]
        refine wpAnyH_ready (rs := [1]) (by kernel_rfl) (by simp) ?_
        refine (AllReadyH.cons (o := { dst := some 23, op := Op.load 62 (Operand.tmp 22), type := 62, pos := _, after := #[{ on := 0, ground := Ground.data }], guard := none }) rfl (fun K hK => ?_) AllReadyH.nil)
        have lc12 := rc_cell 2 (.slice B m d) HJ10.out.g3 rfl
        go_simp
        refine hK.out _ _ ⟨rc_cell 2 _ NB10.out rfl, trivial⟩ (fun hH12 => ?_)
        clear hK K
        try simp only [Act.put, List.setIfInBounds_toArray, List.set_cons_zero, List.set_cons_succ]
        refine wpAnyH_ready (rs := [5]) (by kernel_rfl) (by simp) ?_
        refine (AllReadyH.cons (o := { dst := some 27, op := Op.call { callee := Callee.builtin Builtin.append, args := #[Operand.tmp 23, Operand.tmp 26], argTypes := #[62, 62] }, type := 62, pos := _, after := #[{ on := 1, ground := Ground.data }, { on := 4, ground := Ground.data }, { on := 4, ground := Ground.chain }], guard := none }) rfl (fun K hK => ?_) AllReadyH.nil)
        refine step_append_rd rfl (.tmp 23) (.tmp 26) 62 rfl i0 (.slice none 0 0) 24 Try.underlying62 hi hz0 hz1 hz2 rfl (by simp [Act.eval, Act.put]) ho T n2 ct us (by simp [Act.eval, Act.put]) hr h1u (by unfold maxLen; omega) (by omega) HJ10.out.hb.size ?_
        intro AE cE x14 oE gE
        have HPE := HROW.out x14 AE cE oE gE
        have HA14 := Lib.hid (HJ10.out.app2 ho gE HPE)
        have NB14 := Lib.hid ((gE.1.block _ (lt_of_heap NB10.out) (ho.ne_blk NB10.out (by decide)).symm).trans NB10.out)
        have gsz := gE.1.size
        clear oE gE HPE HROW ho hr
        refine hK.out _ _ ⟨rc_cell 2 _ NB14.out rfl, trivial⟩ (fun hH14 => ?_)
        clear hK K
        try simp only [Act.put, List.setIfInBounds_toArray, List.set_cons_zero, List.set_cons_succ]
        refine wpAnyH_take (i := 6) (oi := { dst := some 28, op := Op.fieldAddr 70 (Operand.tmp 3) 2, type := 0, pos := _, after := #[{ on := 0, ground := Ground.phase }, { on := 1, ground := Ground.phase }, { on := 2, ground := Ground.phase }, { on := 3, ground := Ground.phase }, { on := 4, ground := Ground.phase }, { on := 5, ground := Ground.phase }], guard := none }) (v := ?vj715_6) rfl (by kernel_rfl) (by kernel_rfl) (by kernel_rfl) (fun _ _ _ h => h) (Or.inl ⟨by rfl, ?yj715_6⟩) hH14 ?rj715_6
        case yj715_6 => (intro w hSw; (try dsimp only at hSw); go_simp; try (with_reducible rfl))
        try simp only [Act.put, List.setIfInBounds_toArray, List.set_cons_zero, List.set_cons_succ]
        refine wpAnyH_ready (rs := [7]) (by kernel_rfl) (by simp) ?_
        refine (AllReadyH.cons (o := { dst := none, op := Op.store 62 (Operand.tmp 28) (Operand.tmp 27), type := 0, pos := _, after := #[{ on := 6, ground := Ground.data }, { on := 5, ground := Ground.data }, { on := 5, ground := Ground.chain }, { on := 0, ground := Ground.phase }, { on := 1, ground := Ground.phase }, { on := 2, ground := Ground.phase }, { on := 3, ground := Ground.phase }, { on := 4, ground := Ground.phase }, { on := 5, ground := Ground.phase }], guard := none }) rfl (fun K hK => ?_) AllReadyH.nil)
        have c16 := rc_cell 2 (.slice B m d) HA14.out.1 rfl; have f16 := two_frozen (i := 2) HA14.out.1
        have HJ16 := Lib.hid HA14.out.2
        have NB16 := Lib.hid (((onl_set x14 (w.heap.size + 1) 2 (.slice AE (m + n2) cE)).block _ (lt_of_heap NB14.out) (by intro e; injection e with e; omega)).trans NB14.out)
        go_simp
        refine hK.out _ _ ⟨rc_cell 2 _ NB16.out rfl, trivial⟩ (fun hH16 => ?_)
        clear hK K
        try simp only [Act.put, List.setIfInBounds_toArray, List.set_cons_zero, List.set_cons_succ]
        clear HA14 c16 f16
        generalize x14.setCell ⟨w.heap.size + 1, 2, none⟩ (.slice AE (m + n2) cE) = s16 at *
        refine wpAnyH_done (by kernel_rfl) ?_ _
        have HJz := HJ16
        rw [← HKS.out, ← HVS.out] at HJz
        go_wp2
        go_roundw
        case rel => exact ⟨kk + 1, n + n1, cX, m + n2, cE, AX, AE, by go_num, by omega, by omega, by omega, HJz⟩
        case measure => simp [intOf]; omega
    · obtain rfl : N = kk := by omega
      have HTL : Hid (l.take N = l) := Lib.hid (List.take_of_length_le (by rw [HLN.out]; exact Nat.le_refl _))
      rw [HTL.out] at HJ
      have q0 := rc_cell 0 (.bool true) HJ.out.g3 rfl; have q1 := rc_cell 1 (.slice A n c) HJ.out.g3 rfl; have q2 := rc_cell 2 (.slice B m d) HJ.out.g3 rfl; have q3 := rc_cell 3 (.slice none 0 0) HJ.out.g3 rfl
      have z0 := rc_cell 0 (.bool false) HJ.out.rs rfl; have z1 := rc_cell 1 (.slice none 0 0) HJ.out.rs rfl; have z2 := rc_cell 2 (.slice none 0 0) HJ.out.rs rfl; have z3 := rc_cell 3 (.slice none 0 0) HJ.out.rs rfl
      have y0 := two_frozen (i := 0) HJ.out.rs; have y1 := two_frozen (i := 1) HJ.out.rs; have y2 := two_frozen (i := 2) HJ.out.rs; have y3 := two_frozen (i := 3) HJ.out.rs
      have HZ := Lib.hid (set4 wr w.heap.size (.bool true) (.slice A n c) (.slice B m d) (.slice none 0 0) HJ.out.rs)
      have R1 := Lib.hid (HJ.out.pk.set HZ.out.2 HJ.out.rs (by decide) (by decide)); have R2 := Lib.hid (HJ.out.pv.set HZ.out.2 HJ.out.rs (by decide) (by decide))
      have HBE := Lib.hid (HJ.out.hb.trans (HZ.out.2.below (Nat.le_of_lt (lt_of_heap HJ.out.rs))))
      have HAP := Lib.hid HJ.out.ap
      go_wp2_with fail
      clear q0 q1 q2 q3 z0 z1 z2 z3 y0 y1 y2 y3
      generalize ((((wr.setCell ⟨w.heap.size, 0, none⟩ (.bool true)).setCell ⟨w.heap.size, 1, none⟩ (.slice A n c)).setCell ⟨w.heap.size, 2, none⟩ (.slice B m d)).setCell ⟨w.heap.size, 3, none⟩ (.slice none 0 0)) = wz at *
      have e0 := rc_cell 0 (.bool true) HZ.out.1 rfl; have e1 := rc_cell 1 (.slice A n c) HZ.out.1 rfl; have e2 := rc_cell 2 (.slice B m d) HZ.out.1 rfl; have e3 := rc_cell 3 (.slice none 0 0) HZ.out.1 rfl
      refine bodyPost_ret (v := .agg #[.bool true, .slice A n c, .slice B m d, .slice none 0 0]) (by simp [results, Try.f50, go_sem, Try.isAgg70, Try.sizeOf70, e0, e1, e2, e3]) rfl ⟨A, n, c, B, m, d, rfl, R1.out, R2.out, HAP.out, HBE.out⟩
end Go.Proofs.Ytmjjbfcblmmipaa
