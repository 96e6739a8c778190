/- RecLists: the walk. -/
import Derived.Test.YtmjjbfcblmmipaaListsM
import Derived.BigQuiet
namespace Go.Proofs.Ytmjjbfcblmmipaa
set_option linter.unusedVariables false
set_option linter.unusedSimpArgs false
open Go.RowKit

def kn (acc : List Tx) (j : Nat) (t : Tx) : Bool := (acc.take j).contains t
theorem kn_succ {acc : List Tx} {j : Nat} {u : Tx} (h : acc[j]? = some u) (t : Tx) : kn acc (j + 1) t = (kn acc j t || (u == t)) := take_contains h
theorem kn_all {acc : List Tx} {j : Nat} (h : acc.length ≤ j) (t : Tx) : kn acc j t = acc.contains t := by unfold kn; rw [List.take_of_length_le h]
theorem use_has (k : Int) : useT k = hasT k := by
  unfold useT hasT fl
  by_cases h1 : k = 1
  · subst h1; decide
  by_cases h2 : k = 2 ∨ k = 3 ∨ k = 9
  · rcases h2 with rfl | rfl | rfl <;> decide
  by_cases h4 : k = 4
  · subst h4; decide
  by_cases h5 : k = 5 ∨ k = 7 ∨ k = 8
  · rcases h5 with rfl | rfl | rfl <;> decide
  by_cases h6 : k = 6
  · subst h6; decide
  rw [if_neg h1, if_neg h2, if_neg h4, if_neg h5, if_neg h6]
  simp; omega
theorem idx_snoc {el : List Po} {kk : Nat} {x : Rc} {s : Sl} (h : ∀ (j : Nat) (p : Po), el[j]? = some p → p.i = (j : Int)) (hl : el.length = kk) : ∀ (j : Nat) (p : Po), (el ++ [⟨x, s, (kk : Int)⟩])[j]? = some p → p.i = (j : Int) := by
  intro j p hp
  by_cases hj : j < el.length
  · rw [List.getElem?_append_left hj] at hp; exact h j p hp
  · rw [List.getElem?_append_right (by omega)] at hp
    have hj0 : j = el.length := by
      have := (List.getElem?_eq_some_iff.1 hp).1
      simp at this; omega
    subst hj0
    rw [Nat.sub_self] at hp
    have hp' : (⟨x, s, (kk : Int)⟩ : Po) = p := by simpa using hp
    rw [← hp', ← hl]
theorem outS_len (ks : List Int) (f t : Int) (l : List Po) : (outS ks f t l).length ≤ l.length := by unfold outS; rw [List.length_map]; exact List.length_filter_le _ _
theorem rc_one (x : Rc) (s : Sl) : ∀ u ∈ (rcVs x s).toList, u.oneCell' = true := by
  intro u hu
  simp only [rcVs, List.mem_cons, List.not_mem_nil, or_false] at hu
  rcases hu with rfl | rfl | rfl | rfl | rfl | rfl | rfl | rfl | rfl | rfl | rfl <;> rfl
set_option maxRecDepth 100000 in
set_option maxHeartbeats 32000000 in
theorem lists_core (A : Option Addr) (n c : Nat) (l : List (Rc × Sl)) (fr tt : Int) (w : World) (hx : ArgL w A n l) (hn : n ≤ 40) (hf0 : 0 ≤ fr) (hf1 : fr ≤ 18446744073709551615) (ht0 : 0 ≤ tt) (ht1 : tt ≤ 18446744073709551615) :
    Calls Try.prog 5 #[.slice A n c, .int .u64 fr, .int .u64 tt] w fun e w' => e = .returned (.bool true) ∧ Below w.heap.size w w' := by
  obtain ⟨i32, hi32, hy0, hy1, hy2⟩ := info_parts info32
  obtain ⟨i53, hi53, hz0, hz1, hz2⟩ := info_parts info53
  obtain ⟨i24, hi24, hx0, hx1, hx2⟩ := info_parts info24
  have HX := Lib.hid hx; clear hx
  go_enter Try.func5, Try.ntmps5
  go_wp2_with fail
  refine (awake_any _).mono ?_
  rintro e w1 ⟨rfl, hb1⟩
  have HB1 := Lib.hid hb1; clear hb1
  go_wp2_with fail
  go_loopw [7, 8, 9, 32] (fun gv pv tv iv wr => ∃ (kk c7 c8 n9 c9 : Nat) (A7 A8 A9 : Option Addr) (gl : List (Rc × Sl)) (el : List Po), gv = .slice A7 kk c7 ∧ pv = .slice A8 kk c8 ∧ tv = .slice A9 n9 c9 ∧ iv = .int .i64 kk ∧ kk ≤ n ∧ n9 ≤ kk ∧ Hid (n9 = (txL ((l.map (·.1)).take kk)).length) ∧
      Hid (gl.map (·.1) = (l.map (·.1)).take kk) ∧ Hid (el.map (·.x) = (l.map (·.1)).take kk) ∧ Hid (∀ (j : Nat) (p : Po), el[j]? = some p → p.i = (j : Int)) ∧ Hid (LS w gl el (txL ((l.map (·.1)).take kk)) A7 kk c7 A8 kk c8 A9 n9 c9 wr)) (fun _ _ _ iv _ => n - (intOf iv).toNat)
  case atStart => exact ⟨0, 0, 0, 0, 0, none, none, none, [], [], rfl, rfl, rfl, rfl, Nat.zero_le _, Nat.zero_le _, Lib.hid rfl, Lib.hid rfl, Lib.hid rfl, Lib.hid (fun j p h => by simp at h), Lib.hid ⟨RgO.nil_, RpO.nil_, OwnK.nil_, HB1.out⟩⟩
  case round =>
    clear HB1
    obtain ⟨kk, c7, c8, n9, c9, A7, A8, A9, gl, el, rfl, rfl, rfl, rfl, hk, hn9, HN, HGL, HEL, HIX, HL⟩ := hrel
    by_cases hlt : kk < n
    · obtain ⟨bb, off, rfl, hbl, hcell⟩ := HX.out.1.2 (by omega)
      obtain ⟨p, hp⟩ : ∃ p, l[kk]? = some p := ⟨_, List.getElem?_eq_getElem (by have := HX.out.1.1; omega)⟩
      have hc := hcell kk p hp
      have HAw := Lib.hid (HX.out.2 p (List.mem_of_getElem? hp))
      have hpm : (l.map (·.1))[kk]? = some p.1 := by rw [List.getElem?_map, hp]; rfl
      have HST := Lib.hid (txL_snoc hpm)
      have HTK : Hid ((l.map (·.1)).take (kk + 1) = (l.map (·.1)).take kk ++ [p.1]) := Lib.hid (by rw [List.take_add_one, hpm]; rfl)
      clear hcell hp hpm
      obtain ⟨acc, HACC⟩ : ∃ acc, Hid (txL ((l.map (·.1)).take kk) = acc) := ⟨_, rfl⟩
      rw [HACC.out] at HN HL HST
      obtain ⟨⟨k, b, s, q, ws, rs, f, sh, rp, i, nm⟩, ⟨AW, nW, cW, AR, nR, cR, AS, nS, cS, AP, nP, cP⟩⟩ := p
      obtain ⟨S, HSN⟩ : ∃ S, Hid (strOfNums nm = S) := ⟨_, rfl⟩
      have hc' : ∀ j u, (#[.int .i64 k, .int .u64 b, .int .u64 s, .int .u64 q, .slice AW nW cW, .slice AR nR cR, .bool f, .slice AS nS cS, .slice AP nP cP, .int .u64 i, .string S] : Array Value)[j]? = some u → wr.cell? ⟨bb, off + kk * 11 + j, none⟩ = some u := fun j u hu => by
        rw [HL.out.hb.cell (p := ⟨bb, off + kk * 11 + j, none⟩) hbl]
        exact hc j u (by rw [← hu, ← HSN.out]; rfl)
      obtain ⟨c0, c1, c2, c3, c4, c5, c6, c7, c8, c9, c10⟩ := rc11 hc'
      clear hc hc'
      have z0 : (0 : Int) ≤ (kk : Int) := by omega
      have z1 : (kk : Int) < (n : Int) := by omega
      have hba := below_alloc wr (.cells #[.int .i64 k, .int .u64 b, .int .u64 s, .int .u64 q, .slice AW nW cW, .slice AR nR cR, .bool f, .slice AS nS cS, .slice AP nP cP, .int .u64 i, .string S] 30)
      have hys : (wr.alloc (.cells #[.int .i64 k, .int .u64 b, .int .u64 s, .int .u64 q, .slice AW nW cW, .slice AR nR cR, .bool f, .slice AS nS cS, .slice AP nP cP, .int .u64 i, .string S] 30)).heap.size = wr.heap.size + 1 := by simp
      have BX1 := Lib.hid (heap_alloc_new wr (.cells #[.int .i64 k, .int .u64 b, .int .u64 s, .int .u64 q, .slice AW nW cW, .slice AR nR cR, .bool f, .slice AS nS cS, .slice AP nP cP, .int .u64 i, .string S] 30))
      have HL1 := Lib.hid (HL.out.keep hba)
      clear hba HL
      have q0 := rc_cell 0 (.int .i64 k) BX1.out rfl
      have q1 := rc_cell 1 (.int .u64 b) BX1.out rfl
      have q2 := rc_cell 2 (.int .u64 s) BX1.out rfl
      have q3 := rc_cell 3 (.int .u64 q) BX1.out rfl
      have q4 := rc_cell 4 (.slice AW nW cW) BX1.out rfl
      have q5 := rc_cell 5 (.slice AR nR cR) BX1.out rfl
      have q6 := rc_cell 6 (.bool f) BX1.out rfl
      have q7 := rc_cell 7 (.slice AS nS cS) BX1.out rfl
      have q8 := rc_cell 8 (.slice AP nP cP) BX1.out rfl
      have q9 := rc_cell 9 (.int .u64 i) BX1.out rfl
      have q10 := rc_cell 10 (.string S) BX1.out rfl
      go_wp2_with fail
      clear c0 c1 c2 c3 c4 c5 c6 c7 c8 c9 c10
      generalize wr.alloc (.cells #[.int .i64 k, .int .u64 b, .int .u64 s, .int .u64 q, .slice AW nW cW, .slice AR nR cR, .bool f, .slice AS nS cS, .slice AP nP cP, .int .u64 i, .string S] 30) = y1 at *
      clear q0 q1 q2 q3 q4 q5 q6 q7 q8 q9 q10
      have HA1 := Lib.hid (HAw.out.keep HL1.out.hb)
      refine (own_core k b s q f i S AW nW cW AR nR cR AS nS cS AP nP cP ws rs sh rp _ HA1.out.t.ws HA1.out.t.rs HA1.out.t.sh HA1.out.t.rp HA1.out.bW HA1.out.bR HA1.out.bS (Nat.le_trans HA1.out.bP (by show 10000000 ≤ 140737488355328; omega)) (Nat.le_trans HA1.out.tW (by omega)) (Nat.le_trans HA1.out.tR (by omega))).mono ?_
      rintro e w2 ⟨D1, D5, D2, D6, D3, D7, D4, D8, rfl, oW, oR, oS, oP, hb2⟩
      have HO2 : Hid (RcO w2 w.heap.size ⟨k, b, s, q, ws, rs, f, sh, rp, i, nm⟩ ⟨D1, nW, D5, D2, nR, D6, D3, nS, D7, D4, nP, D8⟩) := Lib.hid ⟨oW.mono HL1.out.hb.size, oR.mono HL1.out.hb.size, oS.mono HL1.out.hb.size, oP.mono HL1.out.hb.size, HA1.out.t.rp.2⟩
      have HL2 := Lib.hid (HL1.out.keep hb2)
      have BX2 := Lib.hid ((hb2.block _ (lt_of_heap BX1.out)).trans BX1.out)
      clear oW oR oS oP HL1 BX1
      obtain ⟨hlG, vG, hoG, heG⟩ := HL2.out.g
      have bo2 := below_alloc w2 (.cells #[.int .i64 k, .int .u64 b, .int .u64 s, .int .u64 q, .slice D1 nW D5, .slice D2 nR D6, .bool f, .slice D3 nS D7, .slice D4 nP D8, .int .u64 i, .string S] 32)
      have HN2 := Lib.hid (heap_alloc_new w2 (.cells #[.int .i64 k, .int .u64 b, .int .u64 s, .int .u64 q, .slice D1 nW D5, .slice D2 nR D6, .bool f, .slice D3 nS D7, .slice D4 nP D8, .int .u64 i, .string S] 32))
      have HL3 := Lib.hid (HL2.out.keep bo2)
      have BX3 := Lib.hid ((bo2.block _ (lt_of_heap BX2.out)).trans BX2.out)
      have HO3 := Lib.hid (HO2.out.keep bo2)
      have HG3 := Lib.hid (hoG.keep bo2)
      have HE3 : Hid (∀ (z : Nat) (p : Rc × Sl), gl[z]? = some p → (∀ (j : Nat) (u : Value), (rcVs p.1 p.2)[j]? = some u → vG[z * 11 + j]? = some u) ∧ RcO (w2.alloc (.cells #[.int .i64 k, .int .u64 b, .int .u64 s, .int .u64 q, .slice D1 nW D5, .slice D2 nR D6, .bool f, .slice D3 nS D7, .slice D4 nP D8, .int .u64 i, .string S] 32)) w.heap.size p.1 p.2) := Lib.hid (fun z p hp => ⟨(heG z p hp).1, (heG z p hp).2.keep bo2⟩)
      clear hlG hoG heG bo2 HL2 HA1 BX2 HO2 hb2
      go_wp2_with (at_builtin; refine wpList_append_wide rfl (.tmp 37) (.tmp 40) 49 rfl i32 _ 160 un49 hi32 hy0 hy1 hy2 rfl (by decide) rfl HG3.out w2.heap.size 0 1 1 #[.int .i64 k, .int .u64 b, .int .u64 s, .int .u64 q, .slice D1 nW D5, .slice D2 nR D6, .bool f, .slice D3 nS D7, .slice D4 nP D8, .int .u64 i, .string S].toList rfl rfl (fun j u hu => by rw [Nat.zero_add, cell_of_row _ _ j _ 32 (0, 0) HN2.out]; simpa using hu) (fun u hu => rc_one (⟨k, b, s, q, ws, rs, f, sh, rp, i, nm⟩ : Rc) (⟨D1, nW, D5, D2, nR, D6, D3, nS, D7, D4, nP, D8⟩ : Sl) u (by unfold rcVs; dsimp only; rw [HSN.out]; exact hu)) (by unfold maxLen; omega) (by omega) HL3.out.hb.size ?_; intro A7' c7' w5 ho5 hg5; have ho6 : OwnK 11 w5 w.heap.size 32 A7' (kk + 1) c7' (vG ++ (rcVs ⟨k, b, s, q, ws, rs, f, sh, rp, i, nm⟩ ⟨D1, nW, D5, D2, nR, D6, D3, nS, D7, D4, nP, D8⟩).toList) := (by rw [← HSN.out] at ho5; exact ho5); have HL5 := Lib.hid (LS.growG HL3.out HG3.out HE3.out HO3.out ho6 hg5); have hef : Ef [32] 0 0 (w2.alloc (.cells #[.int .i64 k, .int .u64 b, .int .u64 s, .int .u64 q, .slice D1 nW D5, .slice D2 nR D6, .bool f, .slice D3 nS D7, .slice D4 nP D8, .int .u64 i, .string S] 32)) w5 := Ef.of_grows (g := 0) (ex := [32]) hg5 (HG3.out.mono (Nat.zero_le _)) (Nat.zero_le _) (by simp); have BX5 := Lib.hid (hef.ty _ _ 30 _ BX3.out (by simp)); clear HL3 HG3 HE3 HO3 HN2 BX3 ho5 ho6 hg5 hef; have q0 := rc_cell 0 (.int .i64 k) BX5.out rfl; have q1 := rc_cell 1 (.int .u64 b) BX5.out rfl; have q2 := rc_cell 2 (.int .u64 s) BX5.out rfl; have q3 := rc_cell 3 (.int .u64 q) BX5.out rfl; have q4 := rc_cell 4 (.slice AW nW cW) BX5.out rfl; have q5 := rc_cell 5 (.slice AR nR cR) BX5.out rfl; have q6 := rc_cell 6 (.bool f) BX5.out rfl; have q7 := rc_cell 7 (.slice AS nS cS) BX5.out rfl; have q8 := rc_cell 8 (.slice AP nP cP) BX5.out rfl; have q9 := rc_cell 9 (.int .u64 i) BX5.out rfl; have q10 := rc_cell 10 (.string S) BX5.out rfl)
      clear q0 q1 q2 q3 q4 q5 q6 q7 q8 q9 q10
      have HA5 := Lib.hid (HAw.out.keep HL5.out.hb)
      refine (own_core k b s q f i S AW nW cW AR nR cR AS nS cS AP nP cP ws rs sh rp _ HA5.out.t.ws HA5.out.t.rs HA5.out.t.sh HA5.out.t.rp HA5.out.bW HA5.out.bR HA5.out.bS (Nat.le_trans HA5.out.bP (by show 10000000 ≤ 140737488355328; omega)) (Nat.le_trans HA5.out.tW (by omega)) (Nat.le_trans HA5.out.tR (by omega))).mono ?_
      rintro e w6 ⟨E1, E5, E2, E6, E3, E7, E4, E8, rfl, oW, oR, oS, oP, hb6⟩
      have HO6 : Hid (RcO w6 w.heap.size ⟨k, b, s, q, ws, rs, f, sh, rp, i, nm⟩ ⟨E1, nW, E5, E2, nR, E6, E3, nS, E7, E4, nP, E8⟩) := Lib.hid ⟨oW.mono HL5.out.hb.size, oR.mono HL5.out.hb.size, oS.mono HL5.out.hb.size, oP.mono HL5.out.hb.size, HA5.out.t.rp.2⟩
      have HL6 := Lib.hid (HL5.out.keep hb6)
      have BX6 := Lib.hid ((hb6.block _ (lt_of_heap BX5.out)).trans BX5.out)
      clear oW oR oS oP HL5 BX5
      obtain ⟨hlP, vP, hoP, heP⟩ := HL6.out.p
      have bo6 := below_alloc w6 (.cells #[.int .i64 k, .int .u64 b, .int .u64 s, .int .u64 q, .slice E1 nW E5, .slice E2 nR E6, .bool f, .slice E3 nS E7, .slice E4 nP E8, .int .u64 i, .string S, .int .u64 kk] 53)
      have HN6 := Lib.hid (heap_alloc_new w6 (.cells #[.int .i64 k, .int .u64 b, .int .u64 s, .int .u64 q, .slice E1 nW E5, .slice E2 nR E6, .bool f, .slice E3 nS E7, .slice E4 nP E8, .int .u64 i, .string S, .int .u64 kk] 53))
      have HL7 := Lib.hid (HL6.out.keep bo6)
      have BX7 := Lib.hid ((bo6.block _ (lt_of_heap BX6.out)).trans BX6.out)
      have HO7 := Lib.hid (HO6.out.keep bo6)
      have HG7 := Lib.hid (hoP.keep bo6)
      have HE7 : Hid (∀ (z : Nat) (p : Po), el[z]? = some p → (∀ (j : Nat) (u : Value), (posV p.x p.s p.i)[j]? = some u → vP[z * 12 + j]? = some u) ∧ RcO (w6.alloc (.cells #[.int .i64 k, .int .u64 b, .int .u64 s, .int .u64 q, .slice E1 nW E5, .slice E2 nR E6, .bool f, .slice E3 nS E7, .slice E4 nP E8, .int .u64 i, .string S, .int .u64 kk] 53)) w.heap.size p.x p.s) := Lib.hid (fun z p hp => ⟨(heP z p hp).1, (heP z p hp).2.keep bo6⟩)
      clear hlP hoP heP bo6 HL6 HA5 BX6 HO6 hb6
      go_wp2_with (at_builtin; refine wpList_append_wide rfl (.tmp 42) (.tmp 48) 50 rfl i53 _ 168 un50 hi53 hz0 hz1 hz2 rfl (by decide) rfl HG7.out w6.heap.size 0 1 1 #[.int .i64 k, .int .u64 b, .int .u64 s, .int .u64 q, .slice E1 nW E5, .slice E2 nR E6, .bool f, .slice E3 nS E7, .slice E4 nP E8, .int .u64 i, .string S, .int .u64 kk].toList rfl rfl (fun j u hu => by rw [Nat.zero_add, cell_of_row _ _ j _ 53 (0, 0) HN6.out]; simpa using hu) (fun u hu => posV_one (⟨k, b, s, q, ws, rs, f, sh, rp, i, nm⟩ : Rc) (⟨E1, nW, E5, E2, nR, E6, E3, nS, E7, E4, nP, E8⟩ : Sl) kk u (by rw [← HSN.out] at hu; exact hu)) (by unfold maxLen; omega) (by omega) HL7.out.hb.size ?_; intro A8' c8' w8 ho8 hg8)
      have ho9 : OwnK 12 w8 w.heap.size 53 A8' (kk + 1) c8' (vP ++ (posV ⟨k, b, s, q, ws, rs, f, sh, rp, i, nm⟩ ⟨E1, nW, E5, E2, nR, E6, E3, nS, E7, E4, nP, E8⟩ kk).toList) := by rw [← HSN.out] at ho8; exact ho8
      have HL8 := Lib.hid (LS.growP HL7.out HG7.out HE7.out HO7.out ho9 hg8)
      have hef : Ef [53] 0 0 (w6.alloc (.cells #[.int .i64 k, .int .u64 b, .int .u64 s, .int .u64 q, .slice E1 nW E5, .slice E2 nR E6, .bool f, .slice E3 nS E7, .slice E4 nP E8, .int .u64 i, .string S, .int .u64 kk] 53)) w8 := Ef.of_grows (g := 0) (ex := [53]) hg8 (HG7.out.mono (Nat.zero_le _)) (Nat.zero_le _) (by simp)
      have BX8 := Lib.hid (hef.ty _ _ 30 _ BX7.out (by simp))
      clear HL7 HG7 HE7 HO7 HN6 BX7 ho8 ho9 hg8 hef hys
      generalize wr.heap.size = gx at *
      go_loopw [12, 52] (fun kv jv wx => ∃ j : Nat, kv = .bool (kn acc j (b, s, q)) ∧ jv = .int .i64 j ∧ j ≤ n9 ∧ Hid (LS w (gl ++ [(⟨k, b, s, q, ws, rs, f, sh, rp, i, nm⟩, ⟨D1, nW, D5, D2, nR, D6, D3, nS, D7, D4, nP, D8⟩)]) (el ++ [⟨⟨k, b, s, q, ws, rs, f, sh, rp, i, nm⟩, ⟨E1, nW, E5, E2, nR, E6, E3, nS, E7, E4, nP, E8⟩, (kk : Int)⟩]) acc A7' (kk + 1) c7' A8' (kk + 1) c8' A9 n9 c9 wx) ∧ Hid (wx.heap[gx]? = some (.cells #[.int .i64 k, .int .u64 b, .int .u64 s, .int .u64 q, .slice AW nW cW, .slice AR nR cR, .bool f, .slice AS nS cS, .slice AP nP cP, .int .u64 i, .string S] 30 (0, 0)))) (fun _ jv _ => n9 - (intOf jv).toNat)
      case atStart => exact ⟨0, rfl, rfl, Nat.zero_le _, HL8, BX8⟩
      case round =>
        clear HL8 BX8
        obtain ⟨j, rfl, rfl, hj, HLx, BXx⟩ := hrel
        by_cases hjl : j < n9
        · obtain ⟨g9, hA9, _, hg9, hc9⟩ := HLx.out.t.cells (by omega)
          obtain ⟨o9, HO9⟩ : ∃ o9 : Nat, Hid (o9 = 0) := ⟨0, rfl⟩
          have hA9' : A9 = some ⟨g9, o9, none⟩ := by rw [hA9, HO9.out]
          obtain ⟨u, hu⟩ : ∃ u, acc[j]? = some u := ⟨_, List.getElem?_eq_getElem (by rw [← HN.out]; exact hjl)⟩
          obtain ⟨t0, t1, t2⟩ := txV_at hu
          have HKN := Lib.hid (kn_succ hu (b, s, q))
          obtain ⟨u1, u2, u3⟩ := u
          have e0 : wr.cell? ⟨g9, o9 + j * 3, none⟩ = some (.int .u64 u1) := by rw [HO9.out, Nat.zero_add]; exact hc9 _ _ t0
          have e1 : wr.cell? ⟨g9, o9 + j * 3 + 1, none⟩ = some (.int .u64 u2) := by rw [HO9.out, Nat.zero_add]; exact hc9 _ _ t1
          have e2 : wr.cell? ⟨g9, o9 + j * 3 + 2, none⟩ = some (.int .u64 u3) := by rw [HO9.out, Nat.zero_add]; exact hc9 _ _ t2
          clear hA9 hc9 t0 t1 t2 hu hg9
          subst hA9'
          have j0 : (0 : Int) ≤ (j : Int) := by omega
          have j1 : (j : Int) < (n9 : Int) := by omega
          have hbt := below_alloc wr (.cells #[.int .u64 u1, .int .u64 u2, .int .u64 u3] 24)
          have HLy := Lib.hid (HLx.out.keep hbt)
          have BXy := Lib.hid ((hbt.block _ (lt_of_heap BXx.out)).trans BXx.out)
          have BT := Lib.hid (heap_alloc_new wr (.cells #[.int .u64 u1, .int .u64 u2, .int .u64 u3] 24))
          have p0 := rc_cell 0 (.int .u64 u1) BT.out rfl
          have p1 := rc_cell 1 (.int .u64 u2) BT.out rfl
          have p2 := rc_cell 2 (.int .u64 u3) BT.out rfl
          have q1 := rc_cell 1 (.int .u64 b) BXy.out rfl
          have q2 := rc_cell 2 (.int .u64 s) BXy.out rfl
          have q3 := rc_cell 3 (.int .u64 q) BXy.out rfl
          clear hbt HLx BXx
          by_cases hkn : kn acc j (b, s, q) = true
          · have HK1 : Hid (kn acc (j + 1) (b, s, q) = true) := Lib.hid (by rw [HKN.out, hkn]; rfl)
            go_wp2
            go_roundw
            case rel => exact ⟨j + 1, by rw [HK1.out], by go_num, by omega, HLy, BXy⟩
            case measure => simp [intOf]; omega
          · have hkn' : kn acc j (b, s, q) = false := by simpa using hkn
            clear hkn
            by_cases he1 : u1 = b
            · obtain rfl : b = u1 := he1.symm
              by_cases he2 : u2 = s
              · obtain rfl : s = u2 := he2.symm
                by_cases he3 : u3 = q
                · obtain rfl : q = u3 := he3.symm
                  have HK1 : Hid (kn acc (j + 1) (b, s, q) = true) := Lib.hid (by rw [HKN.out]; simp)
                  clear he1 he2 he3
                  go_wp2
                  go_roundw
                  case rel => exact ⟨j + 1, by rw [HK1.out], by go_num, by omega, HLy, BXy⟩
                  case measure => simp [intOf]; omega
                · clear he1 he2
                  have HK1 : Hid (kn acc (j + 1) (b, s, q) = false) := Lib.hid (by rw [HKN.out, hkn']; simp [he3])
                  have hbeq := beq_eq_false_iff_ne.2 he3
                  go_wp2
                  go_roundw
                  case rel => exact ⟨j + 1, by rw [HK1.out], by go_num, by omega, HLy, BXy⟩
                  case measure => simp [intOf]; omega
              · clear he1
                have HK1 : Hid (kn acc (j + 1) (b, s, q) = false) := Lib.hid (by rw [HKN.out, hkn']; simp [he2])
                have hbeq := beq_eq_false_iff_ne.2 he2
                go_wp2
                go_roundw
                case rel => exact ⟨j + 1, by rw [HK1.out], by go_num, by omega, HLy, BXy⟩
                case measure => simp [intOf]; omega
            · have HK1 : Hid (kn acc (j + 1) (b, s, q) = false) := Lib.hid (by rw [HKN.out, hkn']; simp [he1])
              have hbeq := beq_eq_false_iff_ne.2 he1
              go_wp2
              go_roundw
              case rel => exact ⟨j + 1, by rw [HK1.out], by go_num, by omega, HLy, BXy⟩
              case measure => simp [intOf]; omega
        · have HKA := Lib.hid (kn_all (show acc.length ≤ j by rw [← HN.out]; omega) (b, s, q))
          obtain ⟨wa, HWA⟩ : ∃ wa, wa = wr := ⟨wr, rfl⟩
          subst HWA
          have q0 := rc_cell 0 (.int .i64 k) BXx.out rfl
          have q1 := rc_cell 1 (.int .u64 b) BXx.out rfl
          have q2 := rc_cell 2 (.int .u64 s) BXx.out rfl
          have q3 := rc_cell 3 (.int .u64 q) BXx.out rfl
          by_cases hh : hasT k = true
          · have hu : useT k = true := (use_has k).trans hh
            by_cases hc : acc.contains (b, s, q) = true
            · have hkj : kn acc j (b, s, q) = true := HKA.out.trans hc
              have HAD : Hid (addT acc ⟨k, b, s, q, ws, rs, f, sh, rp, i, nm⟩ = acc) := Lib.hid (by have h1 : acc.contains (txO ⟨k, b, s, q, ws, rs, f, sh, rp, i, nm⟩) = true := hc; unfold addT; rw [h1]; simp)
              clear hc hu
              go_wp2_with (go_at_call 24; refine (hasTxn_any k _).mono ?_; rintro e wz ⟨rfl, rfl⟩)
              clear q0 q1 q2 q3
              go_roundw
              case rel => exact ⟨kk + 1, c7', c8', n9, c9, A7', A8', A9, (gl ++ [(⟨k, b, s, q, ws, rs, f, sh, rp, i, nm⟩, ⟨D1, nW, D5, D2, nR, D6, D3, nS, D7, D4, nP, D8⟩)]), (el ++ [⟨⟨k, b, s, q, ws, rs, f, sh, rp, i, nm⟩, ⟨E1, nW, E5, E2, nR, E6, E3, nS, E7, E4, nP, E8⟩, (kk : Int)⟩]), rfl, rfl, rfl, by go_num, by omega, by omega, Lib.hid (by rw [HST.out, HAD.out]; exact HN.out), Lib.hid (by rw [HTK.out, List.map_append, HGL.out]; rfl), Lib.hid (by rw [HTK.out, List.map_append, HEL.out]; rfl), Lib.hid (idx_snoc HIX.out (by have := congrArg List.length HEL.out; rw [List.length_map, List.length_take, List.length_map] at this; have := HX.out.1.1; omega)), Lib.hid (by rw [HST.out, HAD.out]; exact HLx.out)⟩
              case measure => simp [intOf]; omega
            · have hc' : acc.contains (b, s, q) = false := by simpa using hc
              have hkj : kn acc j (b, s, q) = false := HKA.out.trans hc'
              have HAD : Hid (addT acc ⟨k, b, s, q, ws, rs, f, sh, rp, i, nm⟩ = acc ++ [(b, s, q)]) := Lib.hid (by have h1 : acc.contains (txO ⟨k, b, s, q, ws, rs, f, sh, rp, i, nm⟩) = false := hc'; unfold addT; rw [h1]; simp only [hu, Bool.not_false, Bool.and_self, if_true]; rfl)
              clear hc hc' hu
              go_wp2_with (first | (go_at_call 24; refine (hasTxn_any k _).mono ?_; rintro e wz ⟨rfl, rfl⟩) | (at_builtin; refine wpList_append_wide rfl (.tmp 71) (.tmp 74) 51 rfl i24 _ 24 un51 hi24 hx0 hx1 hx2 rfl (by decide) rfl (HLx.out.t.keep (below_alloc wa (.cells #[.int .u64 b, .int .u64 s, .int .u64 q] 24))) wa.heap.size 0 1 1 [.int .u64 b, .int .u64 s, .int .u64 q] rfl rfl (tx_cells wa (.int .u64 b) (.int .u64 s) (.int .u64 q) 24) (tx_one _ _ _) (by unfold maxLen; omega) (by omega) (Nat.le_trans HLx.out.hb.size (below_alloc wa _).size) ?_; intro A9' c9' w9 ho9 hg9))
              clear q0 q1 q2 q3
              have HL9 := Lib.hid (LS.growT (t := (b, s, q)) (HLx.out.keep (below_alloc wa (.cells #[.int .u64 b, .int .u64 s, .int .u64 q] 24))) ho9 hg9)
              clear ho9 hg9
              go_roundw
              case rel => exact ⟨kk + 1, c7', c8', n9 + 1, c9', A7', A8', A9', (gl ++ [(⟨k, b, s, q, ws, rs, f, sh, rp, i, nm⟩, ⟨D1, nW, D5, D2, nR, D6, D3, nS, D7, D4, nP, D8⟩)]), (el ++ [⟨⟨k, b, s, q, ws, rs, f, sh, rp, i, nm⟩, ⟨E1, nW, E5, E2, nR, E6, E3, nS, E7, E4, nP, E8⟩, (kk : Int)⟩]), rfl, rfl, rfl, by go_num, by omega, by omega, Lib.hid (by rw [HST.out, HAD.out]; rw [List.length_append, ← HN.out]; rfl), Lib.hid (by rw [HTK.out, List.map_append, HGL.out]; rfl), Lib.hid (by rw [HTK.out, List.map_append, HEL.out]; rfl), Lib.hid (idx_snoc HIX.out (by have := congrArg List.length HEL.out; rw [List.length_map, List.length_take, List.length_map] at this; have := HX.out.1.1; omega)), Lib.hid (by rw [HST.out, HAD.out]; exact HL9.out)⟩
              case measure => simp [intOf]; omega
          · have hh' : hasT k = false := by simpa using hh
            have HAD : Hid (addT acc ⟨k, b, s, q, ws, rs, f, sh, rp, i, nm⟩ = acc) := Lib.hid (by have h1 : useT (⟨k, b, s, q, ws, rs, f, sh, rp, i, nm⟩ : Rc).kind = false := (use_has k).trans hh'; unfold addT; rw [h1]; simp)
            clear hh
            go_wp2_with (go_at_call 24; refine (hasTxn_any k _).mono ?_; rintro e wz ⟨rfl, rfl⟩)
            clear q0 q1 q2 q3
            go_roundw
            case rel => exact ⟨kk + 1, c7', c8', n9, c9, A7', A8', A9, (gl ++ [(⟨k, b, s, q, ws, rs, f, sh, rp, i, nm⟩, ⟨D1, nW, D5, D2, nR, D6, D3, nS, D7, D4, nP, D8⟩)]), (el ++ [⟨⟨k, b, s, q, ws, rs, f, sh, rp, i, nm⟩, ⟨E1, nW, E5, E2, nR, E6, E3, nS, E7, E4, nP, E8⟩, (kk : Int)⟩]), rfl, rfl, rfl, by go_num, by omega, by omega, Lib.hid (by rw [HST.out, HAD.out]; exact HN.out), Lib.hid (by rw [HTK.out, List.map_append, HGL.out]; rfl), Lib.hid (by rw [HTK.out, List.map_append, HEL.out]; rfl), Lib.hid (idx_snoc HIX.out (by have := congrArg List.length HEL.out; rw [List.length_map, List.length_take, List.length_map] at this; have := HX.out.1.1; omega)), Lib.hid (by rw [HST.out, HAD.out]; exact HLx.out)⟩
            case measure => simp [intOf]; omega
    · obtain rfl : n = kk := by omega
      clear hlt
      have HTA : Hid ((l.map (·.1)).take n = l.map (·.1)) := Lib.hid (List.take_of_length_le (by rw [List.length_map]; have := HX.out.1.1; omega))
      have HAB : Hid (∀ x ∈ l.map (·.1), ArgB x) := Lib.hid (fun x hx => by obtain ⟨p, hp, rfl⟩ := List.mem_map.1 hx; exact (HX.out.2 p hp).b)
      rw [HTA.out] at HN HGL HEL HL
      obtain ⟨lm, HLM⟩ : ∃ lm, Hid (l.map (·.1) = lm) := ⟨_, rfl⟩
      rw [HLM.out] at HN HGL HEL HL HAB
      have HPB : Hid (∀ p ∈ el, ArgB p.x ∧ 0 ≤ p.i ∧ p.i ≤ 18446744073709551615) := Lib.hid (fun p hp => by
        obtain ⟨j, hj, rfl⟩ := List.mem_iff_getElem.1 hp
        have h1 := HIX.out j _ (List.getElem?_eq_getElem hj)
        have h2 : el.length = n := HL.out.p.1
        refine ⟨HAB.out _ (by rw [← HEL.out]; exact List.mem_map.2 ⟨_, hp, rfl⟩), by omega, by omega⟩)
      have HTC : Hid (Calls Try.prog 25 #[.slice A7 n c7] wr fun e w' => ∃ A' n' c', e = .returned (.slice A' n' c') ∧ n' = (txL lm).length ∧ OwnK 3 w' wr.heap.size 24 A' n' c' (txV (txL lm)) ∧ Below wr.heap.size wr w') := Lib.hid (by
        have h := touched_any A7 n c7 gl wr HL.out.g.rcs (by omega) (fun x hx => by rw [HGL.out] at hx; have := (HAB.out x hx).B; exact ⟨this.boot, this.sess, this.seq⟩)
        rwa [HGL.out] at h)
      obtain ⟨wa, HWA⟩ : ∃ wa, wa = wr := ⟨wr, rfl⟩
      subst HWA
      obtain ⟨acc, HACC⟩ : ∃ acc, Hid (txL lm = acc) := ⟨_, rfl⟩
      rw [HACC.out] at HN HL HTC
      go_wp2_with fail
      refine HTC.out.mono ?_
      rintro e wb ⟨A10, n10, c10, rfl, hn10, ho10, hb10⟩
      obtain rfl : n9 = n10 := HN.out.trans hn10.symm
      have HLb := Lib.hid (HL.out.keep hb10)
      have HT10 := Lib.hid ho10
      have hnn : ((n9 : Int) != (n9 : Int)) = false := by simp
      clear hn10 ho10 hb10 HTC HL
      go_wp2_with fail
      go_loopw [86] (fun iv wx => ∃ j q : Nat, iv = .int .i64 j ∧ j ≤ n9 ∧ wx = wb.drewN q) (fun iv _ => n9 - (intOf iv).toNat)
      case atStart => exact ⟨0, 0, rfl, Nat.zero_le _, rfl⟩
      case round =>
        obtain ⟨j, qn, rfl, hj, rfl⟩ := hrel
        by_cases hjl : j < n9
        · obtain ⟨g9, hA9, _, _, hc9⟩ := HLb.out.t.cells (by omega)
          obtain ⟨g10, hA10, _, _, hc10⟩ := HT10.out.cells (by omega)
          obtain ⟨o9, HO9⟩ : ∃ o9 : Nat, Hid (o9 = 0) := ⟨0, rfl⟩
          obtain ⟨o10, HO10⟩ : ∃ o10 : Nat, Hid (o10 = 0) := ⟨0, rfl⟩
          have hA9' : A9 = some ⟨g9, o9, none⟩ := by rw [hA9, HO9.out]
          have hA10' : A10 = some ⟨g10, o10, none⟩ := by rw [hA10, HO10.out]
          obtain ⟨u, hu⟩ : ∃ u, acc[j]? = some u := ⟨_, List.getElem?_eq_getElem (by rw [← HN.out]; exact hjl)⟩
          obtain ⟨t0, t1, t2⟩ := txV_at hu
          obtain ⟨u1, u2, u3⟩ := u
          have e0 : (wb.drewN qn).cell? ⟨g9, o9 + j * 3, none⟩ = some (.int .u64 u1) := by rw [HO9.out, Nat.zero_add]; exact hc9 _ _ t0
          have e1 : (wb.drewN qn).cell? ⟨g9, o9 + j * 3 + 1, none⟩ = some (.int .u64 u2) := by rw [HO9.out, Nat.zero_add]; exact hc9 _ _ t1
          have e2 : (wb.drewN qn).cell? ⟨g9, o9 + j * 3 + 2, none⟩ = some (.int .u64 u3) := by rw [HO9.out, Nat.zero_add]; exact hc9 _ _ t2
          have f0 : (wb.drewN qn).cell? ⟨g10, o10 + j * 3, none⟩ = some (.int .u64 u1) := by rw [HO10.out, Nat.zero_add]; exact hc10 _ _ t0
          have f1 : (wb.drewN qn).cell? ⟨g10, o10 + j * 3 + 1, none⟩ = some (.int .u64 u2) := by rw [HO10.out, Nat.zero_add]; exact hc10 _ _ t1
          have f2 : (wb.drewN qn).cell? ⟨g10, o10 + j * 3 + 2, none⟩ = some (.int .u64 u3) := by rw [HO10.out, Nat.zero_add]; exact hc10 _ _ t2
          have m0 : wb.cell? ⟨g9, o9 + j * 3, none⟩ = some (.int .u64 u1) := e0
          have m1 : wb.cell? ⟨g9, o9 + j * 3 + 1, none⟩ = some (.int .u64 u2) := e1
          have m2 : wb.cell? ⟨g9, o9 + j * 3 + 2, none⟩ = some (.int .u64 u3) := e2
          have n0 : wb.cell? ⟨g10, o10 + j * 3, none⟩ = some (.int .u64 u1) := f0
          have n1 : wb.cell? ⟨g10, o10 + j * 3 + 1, none⟩ = some (.int .u64 u2) := f1
          have n2 : wb.cell? ⟨g10, o10 + j * 3 + 2, none⟩ = some (.int .u64 u3) := f2
          clear hA9 hA10 hc9 hc10 t0 t1 t2 hu
          subst hA9' hA10'
          have j0 : (0 : Int) ≤ (j : Int) := by omega
          have j1 : (j : Int) < (n9 : Int) := by omega
          go_wp2
          go_quiet (fail)
          go_wp2
          go_roundw
          case rel => exact ⟨j + 1, _, by go_num, by omega, rfl⟩
          case measure => simp [intOf]; omega
        · clear hnn
          have HLc := Lib.hid (HLb.out.keep (Dr.below ((Dr.refl wb).n qn) _))
          generalize wb.drewN qn = wc at *
          clear HT10 HLb
          obtain ⟨ks, HKS⟩ : ∃ ks : List Int, Hid (ks = [2, 5]) := ⟨_, rfl⟩
          have bk := below_alloc wc (.cells #[.int .i64 2, .int .i64 5] 3)
          have hin : Ins (wc.alloc (.cells #[.int .i64 2, .int .i64 5] 3)) (some ⟨wc.heap.size, 0, none⟩) 2 ks := by
            rw [HKS.out]
            exact ⟨Rd.of_block (cs := #[.int .i64 2, .int .i64 5]) (heap_alloc_new wc (.cells #[.int .i64 2, .int .i64 5] 3)) rfl, by intro x hx; simp only [List.mem_cons, List.not_mem_nil, or_false] at hx; omega⟩
          have HIN := Lib.hid hin
          have HLd := Lib.hid (HLc.out.keep bk)
          have HPL := Lib.hid (HLd.out.p.pos HPB.out)
          clear hin bk HLc
          go_wp2_with fail
          refine (between_some A8 (some ⟨wc.heap.size, 0, none⟩) n c8 2 2 ks el fr tt _ HIN.out (by omega) (by omega) HPL.out (by omega) hf0 hf1 ht0 ht1).mono ?_
          generalize wc.alloc (.cells #[.int .i64 2, .int .i64 5] 3) = wd0 at *
          rintro e wd ⟨A11, n11, c11, rfl, hn11, hP11, hb11⟩
          have HN11 := Lib.hid hn11; have HP11 := Lib.hid hP11
          have HLe := Lib.hid (HLd.out.keep hb11)
          have HPL2 := Lib.hid (HPL.out.keep hb11)
          clear hn11 hP11 hb11 HLd HPL HIN
          go_wp2_with fail
          refine (between_all A8 none n c8 0 el fr tt _ HPL2.out (by omega) hf0 hf1 ht0 ht1).mono ?_
          rintro e we ⟨A12, n12, c12, rfl, hn12, hP12, hb12⟩
          have HN12 := Lib.hid hn12; have HP12 := Lib.hid hP12
          have HP11e := Lib.hid (HP11.out.keep hb12)
          have HBe := Lib.hid ((HLe.out.keep hb12).hb)
          have HELL : Hid (el.length = n) := Lib.hid HLe.out.p.1
          have h11 : n11 ≤ n := by have h := outS_len ks fr tt el; rw [HN11.out]; have := HELL.out; omega
          have h12 : n12 ≤ n := by have h := outL_len fr tt el; rw [HN12.out]; have := HELL.out; omega
          clear hn12 hP12 hb12 HLe HPL2 HP11
          go_wp2_with fail
          go_loopw [19, 20, 110] (fun nv mv iv wx => ∃ kk nn mm : Nat, nv = .int .i64 nn ∧ mv = .int .i64 mm ∧ iv = .int .i64 kk ∧ kk ≤ n ∧ nn ≤ kk ∧ mm ≤ kk ∧ Hid (nn = (outS ks fr tt (el.take kk)).length) ∧ Hid (mm = (outL fr tt (el.take kk)).length) ∧ Hid (Below we.heap.size we wx)) (fun _ _ iv _ => n - (intOf iv).toNat)
          case atStart => exact ⟨0, 0, 0, rfl, rfl, rfl, Nat.zero_le _, Nat.le_refl _, Nat.le_refl _, Lib.hid rfl, Lib.hid rfl, Lib.hid (Below.refl _ _)⟩
          case round =>
            obtain ⟨kk, nn, mm, rfl, rfl, rfl, hk, hnk, hmk, HNN, HMM, HBX⟩ := hrel
            by_cases hlt : kk < n
            · obtain ⟨bb, off, rfl, hbl, hcell⟩ := HX.out.1.2 (by omega)
              obtain ⟨p, hp⟩ : ∃ p, l[kk]? = some p := ⟨_, List.getElem?_eq_getElem (by have := HX.out.1.1; omega)⟩
              obtain ⟨e, he⟩ : ∃ e, el[kk]? = some e := ⟨_, List.getElem?_eq_getElem (by rw [HELL.out]; exact hlt)⟩
              have hex : e.x = p.1 := by
                have h1 : (el.map (·.x))[kk]? = some e.x := by rw [List.getElem?_map, he]; rfl
                have h2 : lm[kk]? = some p.1 := by rw [← HLM.out, List.getElem?_map, hp]; rfl
                rw [HEL.out, h2] at h1
                injection h1 with h1
                exact h1.symm
              have hei := HIX.out kk e he
              have hc := hcell kk p hp
              have HBW := Lib.hid (HBe.out.trans (HBX.out.mono HBe.out.size))
              have HAR := Lib.hid ((HX.out.2 p (List.mem_of_getElem? hp)).keep HBW.out)
              have HEE := Lib.hid he
              obtain ⟨ex, es, ei⟩ := e
              have hex' : ex = p.1 := hex
              have hei' : ei = (kk : Int) := hei
              subst hex' hei'
              clear hcell hp he hex hei
              obtain ⟨⟨k, b, s, q, ws, rs, f, sh, rp, i, nm⟩, ⟨AW, nW, cW, AR, nR, cR, AS, nS, cS, AP, nP, cP⟩⟩ := p
              obtain ⟨S, HSN⟩ : ∃ S, Hid (strOfNums nm = S) := ⟨_, rfl⟩
              have hc' : ∀ j u, (#[.int .i64 k, .int .u64 b, .int .u64 s, .int .u64 q, .slice AW nW cW, .slice AR nR cR, .bool f, .slice AS nS cS, .slice AP nP cP, .int .u64 i, .string S] : Array Value)[j]? = some u → wr.cell? ⟨bb, off + kk * 11 + j, none⟩ = some u := fun j u hu => by
                rw [HBW.out.cell (p := ⟨bb, off + kk * 11 + j, none⟩) hbl]
                exact hc j u (by rw [← hu, ← HSN.out]; rfl)
              obtain ⟨c0, c1, c2, c3, c4, c5, c6, c7, c8, c9, c10⟩ := rc11 hc'
              clear hc hc'
              have z0 : (0 : Int) ≤ (kk : Int) := by omega
              have z1 : (kk : Int) < (n : Int) := by omega
              have hba := below_alloc wr (.cells #[.int .i64 k, .int .u64 b, .int .u64 s, .int .u64 q, .slice AW nW cW, .slice AR nR cR, .bool f, .slice AS nS cS, .slice AP nP cP, .int .u64 i, .string S] 30)
              have BX1 := Lib.hid (heap_alloc_new wr (.cells #[.int .i64 k, .int .u64 b, .int .u64 s, .int .u64 q, .slice AW nW cW, .slice AR nR cR, .bool f, .slice AS nS cS, .slice AP nP cP, .int .u64 i, .string S] 30))
              have HB1 := Lib.hid (HBX.out.trans (hba.mono HBX.out.size))
              have HA1 := Lib.hid (HAR.out.keep hba)
              have HW1 := Lib.hid (HBW.out.trans (hba.mono HBW.out.size))
              clear hba HBX HAR HBW
              by_cases h1 : (kk : Int) < fr
              · have d1 : decide ((kk : Int) < fr) = true := by simpa using h1
                have HNO : Hid (betw fr tt ⟨⟨k, b, s, q, ws, rs, f, sh, rp, i, nm⟩, es, (kk : Int)⟩ = false) := Lib.hid (by simp [betw]; omega)
                have HNS : Hid (betwS ks fr tt ⟨⟨k, b, s, q, ws, rs, f, sh, rp, i, nm⟩, es, (kk : Int)⟩ = false) := Lib.hid (by unfold betwS; rw [HNO.out, Bool.and_false])
                go_wp2
                go_roundw
                case rel => exact ⟨kk + 1, nn, mm, rfl, rfl, by go_num, by omega, by omega, by omega, Lib.hid (by rw [outS_no HEE.out HNS.out]; exact HNN.out), Lib.hid (by rw [outL_no HEE.out HNO.out]; exact HMM.out), HB1⟩
                case measure => simp [intOf]; omega
              · have d1 : decide ((kk : Int) < fr) = false := by simpa using h1
                by_cases h2 : tt ≤ (kk : Int)
                · have d2 : decide ((kk : Int) ≥ tt) = true := by simpa using h2
                  have HNO : Hid (betw fr tt ⟨⟨k, b, s, q, ws, rs, f, sh, rp, i, nm⟩, es, (kk : Int)⟩ = false) := Lib.hid (by simp [betw]; omega)
                  have HNS : Hid (betwS ks fr tt ⟨⟨k, b, s, q, ws, rs, f, sh, rp, i, nm⟩, es, (kk : Int)⟩ = false) := Lib.hid (by unfold betwS; rw [HNO.out, Bool.and_false])
                  go_wp2
                  go_roundw
                  case rel => exact ⟨kk + 1, nn, mm, rfl, rfl, by go_num, by omega, by omega, by omega, Lib.hid (by rw [outS_no HEE.out HNS.out]; exact HNN.out), Lib.hid (by rw [outL_no HEE.out HNO.out]; exact HMM.out), HB1⟩
                  case measure => simp [intOf]; omega
                · have d2 : decide ((kk : Int) ≥ tt) = false := by simpa using h2
                  have HYE : Hid (betw fr tt ⟨⟨k, b, s, q, ws, rs, f, sh, rp, i, nm⟩, es, (kk : Int)⟩ = true) := Lib.hid (by simp [betw]; omega)
                  have HAT := Lib.hid (outL_at HEE.out HYE.out)
                  rw [← HMM.out] at HAT
                  obtain ⟨hl12, v12, ho12, he12⟩ := HP12.out.keep (HB1.out)
                  obtain ⟨⟨U1, nW2, U5, U2, nR2, U6, U3, nS2, U7, U4, nP2, U8⟩, mid, hcell2, hO2, _, _⟩ := he12 mm (⟨k, b, s, q, ws, rs, f, sh, rp, i, nm⟩, (kk : Int)) HAT.out
                  have hm12 : mm < n12 := by rw [HN12.out]; exact (List.getElem?_eq_some_iff.1 HAT.out).1
                  obtain ⟨g12, hA12, _, hg12, hc12⟩ := ho12.cells (by omega)
                  obtain ⟨o12, HO12⟩ : ∃ o12 : Nat, Hid (o12 = 0) := ⟨0, rfl⟩
                  have hA12' : A12 = some ⟨g12, o12, none⟩ := by rw [hA12, HO12.out]
                  have hT2 := hO2.rcT HA1.out.B.sh
                  obtain rfl : nW = nW2 := HA1.out.t.ws.1.symm.trans hT2.ws.1
                  obtain rfl : nR = nR2 := HA1.out.t.rs.1.symm.trans hT2.rs.1
                  obtain rfl : nS = nS2 := HA1.out.t.sh.len.symm.trans hT2.sh.len
                  obtain rfl : nP = nP2 := HA1.out.t.rp.len.symm.trans hT2.rp.len
                  have hp' : ∀ j u, (#[.int .i64 k, .int .u64 b, .int .u64 s, .int .u64 q, .slice U1 nW U5, .slice U2 nR U6, .bool f, .slice U3 nS U7, .slice U4 nP U8, .int .u64 i, .string S, .int .u64 kk] : Array Value)[j]? = some u → (wr.alloc (.cells #[.int .i64 k, .int .u64 b, .int .u64 s, .int .u64 q, .slice AW nW cW, .slice AR nR cR, .bool f, .slice AS nS cS, .slice AP nP cP, .int .u64 i, .string S] 30)).cell? ⟨g12, o12 + mm * 12 + j, none⟩ = some u := fun j u hu => by
                    rw [HO12.out, Nat.zero_add]
                    exact hc12 _ _ (hcell2 j u (by rw [← hu, ← HSN.out]; rfl))
                  obtain ⟨a0, a1, a2, a3, a4, a5, a6, a7, a8, a9, a10, a11⟩ := pos12 hp'
                  have HT2 := Lib.hid hT2
                  clear hl12 ho12 he12 hcell2 hO2 hA12 hc12 hp' hT2
                  have y0 : (0 : Int) ≤ (mm : Int) := by omega
                  have y1 : (mm : Int) < (n12 : Int) := by omega
                  have d3 : decide ((mm : Int) ≥ (n12 : Int)) = false := by simp; omega
                  have d4 : decide (n12 ≤ mm) = false := by simp; omega
                  have dz : ((kk : Int) != (kk : Int)) = false := by simp
                  subst hA12'
                  have HMM1 : Hid (mm + 1 = (outL fr tt (el.take (kk + 1))).length) := Lib.hid (by rw [outL_yes HEE.out HYE.out, List.length_append, ← HMM.out]; rfl)
                  by_cases k2 : k = 2
                  · have b2 : (k == 2) = true := by simpa using k2
                    have HYS : Hid (betwS ks fr tt ⟨⟨k, b, s, q, ws, rs, f, sh, rp, i, nm⟩, es, (kk : Int)⟩ = true) := Lib.hid (by unfold betwS; rw [HYE.out, Bool.and_true, HKS.out]; simp [k2])
                    clear k2
                    have HAS := Lib.hid (outS_at HEE.out HYS.out)
                    rw [← HNN.out] at HAS
                    obtain ⟨hl11, v11, ho11, he11⟩ := HP11e.out.keep (HB1.out)
                    obtain ⟨es11, mid11, hcell3, _, _, _⟩ := he11 nn (⟨k, b, s, q, ws, rs, f, sh, rp, i, nm⟩, (kk : Int)) HAS.out
                    have hm11 : nn < n11 := by rw [HN11.out]; exact (List.getElem?_eq_some_iff.1 HAS.out).1
                    obtain ⟨g11, hA11, _, hg11, hc11⟩ := ho11.cells (by omega)
                    obtain ⟨o11, HO11⟩ : ∃ o11 : Nat, Hid (o11 = 0) := ⟨0, rfl⟩
                    have hA11' : A11 = some ⟨g11, o11, none⟩ := by rw [hA11, HO11.out]
                    have w0 : (wr.alloc (.cells #[.int .i64 k, .int .u64 b, .int .u64 s, .int .u64 q, .slice AW nW cW, .slice AR nR cR, .bool f, .slice AS nS cS, .slice AP nP cP, .int .u64 i, .string S] 30)).cell? ⟨g11, o11 + nn * 12 + 11, none⟩ = some (.int .u64 kk) := by rw [HO11.out, Nat.zero_add]; exact hc11 _ _ (hcell3 11 _ rfl)
                    clear hl11 ho11 he11 hcell3 hA11 hc11
                    have y2 : (0 : Int) ≤ (nn : Int) := by omega
                    have y3 : (nn : Int) < (n11 : Int) := by omega
                    have d5 : decide ((nn : Int) ≥ (n11 : Int)) = false := by simp; omega
                    have d6 : decide (n11 ≤ nn) = false := by simp; omega
                    subst hA11'
                    have HNN1 : Hid (nn + 1 = (outS ks fr tt (el.take (kk + 1))).length) := Lib.hid (by rw [outS_yes HEE.out HYS.out, List.length_append, ← HNN.out]; rfl)
                    go_wp2_with fail
                    clear c0 c1 c2 c3 c4 c5 c6 c7 c8 c9 c10
                    generalize hy : wr.alloc (.cells #[.int .i64 k, .int .u64 b, .int .u64 s, .int .u64 q, .slice AW nW cW, .slice AR nR cR, .bool f, .slice AS nS cS, .slice AP nP cP, .int .u64 i, .string S] 30) = y at *
                    clear hy
                    have HBd := Lib.hid (HB1.out.trans ((Dr.refl y).one.below _))
                    have HYd := Lib.hid (HT2.out.keep ((Dr.refl y).one.below _))
                    have HZd := Lib.hid (HA1.out.keep ((Dr.refl y).one.below _))
                    have BXd : Hid (y.drew.heap[wr.heap.size]? = some (.cells #[.int .i64 k, .int .u64 b, .int .u64 s, .int .u64 q, .slice AW nW cW, .slice AR nR cR, .bool f, .slice AS nS cS, .slice AP nP cP, .int .u64 i, .string S] 30 (0, 0))) := BX1
                    have hgd : g12 < y.drew.heap.size := hg12
                    have r0 : y.drew.cell? ⟨g12, o12 + mm * 12, none⟩ = some (.int .i64 k) := a0
                    have r1 : y.drew.cell? ⟨g12, o12 + mm * 12 + 1, none⟩ = some (.int .u64 b) := a1
                    have r2 : y.drew.cell? ⟨g12, o12 + mm * 12 + 2, none⟩ = some (.int .u64 s) := a2
                    have r3 : y.drew.cell? ⟨g12, o12 + mm * 12 + 3, none⟩ = some (.int .u64 q) := a3
                    have r4 : y.drew.cell? ⟨g12, o12 + mm * 12 + 4, none⟩ = some (.slice U1 nW U5) := a4
                    have r5 : y.drew.cell? ⟨g12, o12 + mm * 12 + 5, none⟩ = some (.slice U2 nR U6) := a5
                    have r6 : y.drew.cell? ⟨g12, o12 + mm * 12 + 6, none⟩ = some (.bool f) := a6
                    have r7 : y.drew.cell? ⟨g12, o12 + mm * 12 + 7, none⟩ = some (.slice U3 nS U7) := a7
                    have r8 : y.drew.cell? ⟨g12, o12 + mm * 12 + 8, none⟩ = some (.slice U4 nP U8) := a8
                    have r9 : y.drew.cell? ⟨g12, o12 + mm * 12 + 9, none⟩ = some (.int .u64 i) := a9
                    have r10 : y.drew.cell? ⟨g12, o12 + mm * 12 + 10, none⟩ = some (.string S) := a10
                    have r11 : y.drew.cell? ⟨g12, o12 + mm * 12 + 11, none⟩ = some (.int .u64 kk) := a11
                    have h_0 := rc_cell 0 (.int .i64 k) BXd.out rfl
                    have h_1 := rc_cell 1 (.int .u64 b) BXd.out rfl
                    have h_2 := rc_cell 2 (.int .u64 s) BXd.out rfl
                    have h_3 := rc_cell 3 (.int .u64 q) BXd.out rfl
                    have h_4 := rc_cell 4 (.slice AW nW cW) BXd.out rfl
                    have h_5 := rc_cell 5 (.slice AR nR cR) BXd.out rfl
                    have h_6 := rc_cell 6 (.bool f) BXd.out rfl
                    have h_7 := rc_cell 7 (.slice AS nS cS) BXd.out rfl
                    have h_8 := rc_cell 8 (.slice AP nP cP) BXd.out rfl
                    have h_9 := rc_cell 9 (.int .u64 i) BXd.out rfl
                    have h_10 := rc_cell 10 (.string S) BXd.out rfl
                    have w1 : y.drew.cell? ⟨g11, o11 + nn * 12 + 11, none⟩ = some (.int .u64 kk) := w0
                    have hg11d : g11 < y.drew.heap.size := hg11
                    clear a0 a1 a2 a3 a4 a5 a6 a7 a8 a9 a10 a11
                    have hwk : IntKind.u64.wrap (kk : Int) = (kk : Int) := by simp only [IntKind.wrap, IntKind.bits, IntKind.signed, Bool.false_eq_true, Bool.false_and, if_false]; omega
                    go_region_held3 (fun w' => w'.cell? ⟨g12, o12 + mm * 12, none⟩ = some (.int .i64 k) ∧ w'.cell? ⟨g12, o12 + mm * 12 + 1, none⟩ = some (.int .u64 b) ∧ w'.cell? ⟨g12, o12 + mm * 12 + 2, none⟩ = some (.int .u64 s) ∧ w'.cell? ⟨g12, o12 + mm * 12 + 3, none⟩ = some (.int .u64 q) ∧ w'.cell? ⟨g12, o12 + mm * 12 + 4, none⟩ = some (.slice U1 nW U5) ∧ w'.cell? ⟨g12, o12 + mm * 12 + 5, none⟩ = some (.slice U2 nR U6) ∧ w'.cell? ⟨g12, o12 + mm * 12 + 6, none⟩ = some (.bool f) ∧ w'.cell? ⟨g12, o12 + mm * 12 + 7, none⟩ = some (.slice U3 nS U7) ∧ w'.cell? ⟨g12, o12 + mm * 12 + 8, none⟩ = some (.slice U4 nP U8) ∧ w'.cell? ⟨g12, o12 + mm * 12 + 9, none⟩ = some (.int .u64 i) ∧ w'.cell? ⟨g12, o12 + mm * 12 + 10, none⟩ = some (.string S) ∧ w'.cell? ⟨g12, o12 + mm * 12 + 11, none⟩ = some (.int .u64 kk) ∧ w'.cell? ⟨wr.heap.size, 0, none⟩ = some (.int .i64 k) ∧ w'.cell? ⟨wr.heap.size, 1, none⟩ = some (.int .u64 b) ∧ w'.cell? ⟨wr.heap.size, 2, none⟩ = some (.int .u64 s) ∧ w'.cell? ⟨wr.heap.size, 3, none⟩ = some (.int .u64 q) ∧ w'.cell? ⟨wr.heap.size, 4, none⟩ = some (.slice AW nW cW) ∧ w'.cell? ⟨wr.heap.size, 5, none⟩ = some (.slice AR nR cR) ∧ w'.cell? ⟨wr.heap.size, 6, none⟩ = some (.bool f) ∧ w'.cell? ⟨wr.heap.size, 7, none⟩ = some (.slice AS nS cS) ∧ w'.cell? ⟨wr.heap.size, 8, none⟩ = some (.slice AP nP cP) ∧ w'.cell? ⟨wr.heap.size, 9, none⟩ = some (.int .u64 i) ∧ w'.cell? ⟨wr.heap.size, 10, none⟩ = some (.string S)) (first | exact ⟨t0, t1, t2, t3, t4, t5, t6, t7, t8, t9, t10, t11, x_0, x_1, x_2, x_3, x_4, x_5, x_6, x_7, x_8, x_9, x_10⟩ | exact ⟨s0, s1, s2, s3, s4, s5, s6, s7, s8, s9, s10, s11, v0, v1, v2, v3, v4, v5, v6, v7, v8, v9, v10⟩ | exact ⟨r0, r1, r2, r3, r4, r5, r6, r7, r8, r9, r10, r11, h_0, h_1, h_2, h_3, h_4, h_5, h_6, h_7, h_8, h_9, h_10⟩) (first | (go_at_call 19; refine (told_any k b s q U1 nW U5 U2 nR U6 f U3 nS U7 U4 nP U8 i S _).mono ?_; rintro e x2 ⟨rfl, hb2⟩; have HY2 := Lib.hid (HYd.out.keep hb2); have HZ2 := Lib.hid (HZd.out.keep hb2); have BX2 := Lib.hid ((hb2.block _ (lt_of_heap BXd.out)).trans BXd.out); have HB2 := Lib.hid (HBd.out.trans (hb2.mono HBd.out.size)); have hgg2 := Nat.lt_of_lt_of_le hgd hb2.size; have s0 := (hb2.cell (p := ⟨g12, o12 + mm * 12, none⟩) hgd).trans r0; have s1 := (hb2.cell (p := ⟨g12, o12 + mm * 12 + 1, none⟩) hgd).trans r1; have s2 := (hb2.cell (p := ⟨g12, o12 + mm * 12 + 2, none⟩) hgd).trans r2; have s3 := (hb2.cell (p := ⟨g12, o12 + mm * 12 + 3, none⟩) hgd).trans r3; have s4 := (hb2.cell (p := ⟨g12, o12 + mm * 12 + 4, none⟩) hgd).trans r4; have s5 := (hb2.cell (p := ⟨g12, o12 + mm * 12 + 5, none⟩) hgd).trans r5; have s6 := (hb2.cell (p := ⟨g12, o12 + mm * 12 + 6, none⟩) hgd).trans r6; have s7 := (hb2.cell (p := ⟨g12, o12 + mm * 12 + 7, none⟩) hgd).trans r7; have s8 := (hb2.cell (p := ⟨g12, o12 + mm * 12 + 8, none⟩) hgd).trans r8; have s9 := (hb2.cell (p := ⟨g12, o12 + mm * 12 + 9, none⟩) hgd).trans r9; have s10 := (hb2.cell (p := ⟨g12, o12 + mm * 12 + 10, none⟩) hgd).trans r10; have s11 := (hb2.cell (p := ⟨g12, o12 + mm * 12 + 11, none⟩) hgd).trans r11; have v0 := rc_cell 0 (.int .i64 k) BX2.out rfl; have v1 := rc_cell 1 (.int .u64 b) BX2.out rfl; have v2 := rc_cell 2 (.int .u64 s) BX2.out rfl; have v3 := rc_cell 3 (.int .u64 q) BX2.out rfl; have v4 := rc_cell 4 (.slice AW nW cW) BX2.out rfl; have v5 := rc_cell 5 (.slice AR nR cR) BX2.out rfl; have v6 := rc_cell 6 (.bool f) BX2.out rfl; have v7 := rc_cell 7 (.slice AS nS cS) BX2.out rfl; have v8 := rc_cell 8 (.slice AP nP cP) BX2.out rfl; have v9 := rc_cell 9 (.int .u64 i) BX2.out rfl; have v10 := rc_cell 10 (.string S) BX2.out rfl; have w2 := (hb2.cell (p := ⟨g11, o11 + nn * 12 + 11, none⟩) hg11d).trans w1; have hg112 := Nat.lt_of_lt_of_le hg11d hb2.size; clear hb2) | (go_at_call 18; refine (same_core k b s q f i S U1 AW nW U5 cW U2 AR nR U6 cR U3 AS nS U7 cS U4 AP nP U8 cP ws rs sh rp _ HY2.out.ws HZ2.out.t.ws HY2.out.rs HZ2.out.t.rs HY2.out.sh HZ2.out.t.sh HY2.out.rp HZ2.out.t.rp (Nat.le_trans HZ2.out.bW (by omega)) (Nat.le_trans HZ2.out.bR (by omega)) (Nat.le_trans HZ2.out.bS (by omega)) (Nat.le_trans HZ2.out.bP (by unfold maxLen; omega)) (fun t ht => ⟨Nat.le_trans (trsBd _ _ HZ2.out.tW t ht).1 (by unfold maxLen; omega), Nat.le_trans (trsBd _ _ HZ2.out.tW t ht).2 (by unfold maxLen; omega)⟩) (fun t ht => ⟨Nat.le_trans (trsBd _ _ HZ2.out.tR t ht).1 (by unfold maxLen; omega), Nat.le_trans (trsBd _ _ HZ2.out.tR t ht).2 (by unfold maxLen; omega)⟩)).mono ?_; rintro e x3 ⟨rfl, hb3⟩; have BX3 := Lib.hid ((hb3.block _ (lt_of_heap BX2.out)).trans BX2.out); have HB3 := Lib.hid (HB2.out.trans (hb3.mono HB2.out.size)); have t0 := (hb3.cell (p := ⟨g12, o12 + mm * 12, none⟩) hgg2).trans s0; have t1 := (hb3.cell (p := ⟨g12, o12 + mm * 12 + 1, none⟩) hgg2).trans s1; have t2 := (hb3.cell (p := ⟨g12, o12 + mm * 12 + 2, none⟩) hgg2).trans s2; have t3 := (hb3.cell (p := ⟨g12, o12 + mm * 12 + 3, none⟩) hgg2).trans s3; have t4 := (hb3.cell (p := ⟨g12, o12 + mm * 12 + 4, none⟩) hgg2).trans s4; have t5 := (hb3.cell (p := ⟨g12, o12 + mm * 12 + 5, none⟩) hgg2).trans s5; have t6 := (hb3.cell (p := ⟨g12, o12 + mm * 12 + 6, none⟩) hgg2).trans s6; have t7 := (hb3.cell (p := ⟨g12, o12 + mm * 12 + 7, none⟩) hgg2).trans s7; have t8 := (hb3.cell (p := ⟨g12, o12 + mm * 12 + 8, none⟩) hgg2).trans s8; have t9 := (hb3.cell (p := ⟨g12, o12 + mm * 12 + 9, none⟩) hgg2).trans s9; have t10 := (hb3.cell (p := ⟨g12, o12 + mm * 12 + 10, none⟩) hgg2).trans s10; have t11 := (hb3.cell (p := ⟨g12, o12 + mm * 12 + 11, none⟩) hgg2).trans s11; have x_0 := rc_cell 0 (.int .i64 k) BX3.out rfl; have x_1 := rc_cell 1 (.int .u64 b) BX3.out rfl; have x_2 := rc_cell 2 (.int .u64 s) BX3.out rfl; have x_3 := rc_cell 3 (.int .u64 q) BX3.out rfl; have x_4 := rc_cell 4 (.slice AW nW cW) BX3.out rfl; have x_5 := rc_cell 5 (.slice AR nR cR) BX3.out rfl; have x_6 := rc_cell 6 (.bool f) BX3.out rfl; have x_7 := rc_cell 7 (.slice AS nS cS) BX3.out rfl; have x_8 := rc_cell 8 (.slice AP nP cP) BX3.out rfl; have x_9 := rc_cell 9 (.int .u64 i) BX3.out rfl; have x_10 := rc_cell 10 (.string S) BX3.out rfl; have w3 := (hb3.cell (p := ⟨g11, o11 + nn * 12 + 11, none⟩) hg112).trans w2; clear hb3))
                    clear hwk r0 s0 t0 r1 s1 t1 r2 s2 t2 r3 s3 t3 r4 s4 t4 r5 s5 t5 r6 s6 t6 r7 s7 t7 r8 s8 t8 r9 s9 t9 r10 s10 t10 r11 s11 t11 h_0 v0 h_1 v1 h_2 v2 h_3 v3 h_4 v4 h_5 v5 h_6 v6 h_7 v7 h_8 v8 h_9 v9 h_10 v10
                    go_wp2
                    go_roundw
                    case rel => exact ⟨kk + 1, nn + 1, mm + 1, by go_num, by go_num, by go_num, by omega, by omega, by omega, HNN1, HMM1, HB3⟩
                    case measure => simp [intOf]; omega
                  · have b2 : (k == 2) = false := by simpa using k2
                    by_cases k5 : k = 5
                    · have b5 : (k == 5) = true := by simpa using k5
                      have HYS : Hid (betwS ks fr tt ⟨⟨k, b, s, q, ws, rs, f, sh, rp, i, nm⟩, es, (kk : Int)⟩ = true) := Lib.hid (by unfold betwS; rw [HYE.out, Bool.and_true, HKS.out]; simp [k5])
                      clear k2 k5
                      have HAS := Lib.hid (outS_at HEE.out HYS.out)
                      rw [← HNN.out] at HAS
                      obtain ⟨hl11, v11, ho11, he11⟩ := HP11e.out.keep (HB1.out)
                      obtain ⟨es11, mid11, hcell3, _, _, _⟩ := he11 nn (⟨k, b, s, q, ws, rs, f, sh, rp, i, nm⟩, (kk : Int)) HAS.out
                      have hm11 : nn < n11 := by rw [HN11.out]; exact (List.getElem?_eq_some_iff.1 HAS.out).1
                      obtain ⟨g11, hA11, _, hg11, hc11⟩ := ho11.cells (by omega)
                      obtain ⟨o11, HO11⟩ : ∃ o11 : Nat, Hid (o11 = 0) := ⟨0, rfl⟩
                      have hA11' : A11 = some ⟨g11, o11, none⟩ := by rw [hA11, HO11.out]
                      have w0 : (wr.alloc (.cells #[.int .i64 k, .int .u64 b, .int .u64 s, .int .u64 q, .slice AW nW cW, .slice AR nR cR, .bool f, .slice AS nS cS, .slice AP nP cP, .int .u64 i, .string S] 30)).cell? ⟨g11, o11 + nn * 12 + 11, none⟩ = some (.int .u64 kk) := by rw [HO11.out, Nat.zero_add]; exact hc11 _ _ (hcell3 11 _ rfl)
                      clear hl11 ho11 he11 hcell3 hA11 hc11
                      have y2 : (0 : Int) ≤ (nn : Int) := by omega
                      have y3 : (nn : Int) < (n11 : Int) := by omega
                      have d5 : decide ((nn : Int) ≥ (n11 : Int)) = false := by simp; omega
                      have d6 : decide (n11 ≤ nn) = false := by simp; omega
                      subst hA11'
                      have HNN1 : Hid (nn + 1 = (outS ks fr tt (el.take (kk + 1))).length) := Lib.hid (by rw [outS_yes HEE.out HYS.out, List.length_append, ← HNN.out]; rfl)
                      go_wp2_with fail
                      clear c0 c1 c2 c3 c4 c5 c6 c7 c8 c9 c10
                      generalize hy : wr.alloc (.cells #[.int .i64 k, .int .u64 b, .int .u64 s, .int .u64 q, .slice AW nW cW, .slice AR nR cR, .bool f, .slice AS nS cS, .slice AP nP cP, .int .u64 i, .string S] 30) = y at *
                      clear hy
                      have HBd := Lib.hid (HB1.out.trans ((Dr.refl y).one.below _))
                      have HYd := Lib.hid (HT2.out.keep ((Dr.refl y).one.below _))
                      have HZd := Lib.hid (HA1.out.keep ((Dr.refl y).one.below _))
                      have BXd : Hid (y.drew.heap[wr.heap.size]? = some (.cells #[.int .i64 k, .int .u64 b, .int .u64 s, .int .u64 q, .slice AW nW cW, .slice AR nR cR, .bool f, .slice AS nS cS, .slice AP nP cP, .int .u64 i, .string S] 30 (0, 0))) := BX1
                      have hgd : g12 < y.drew.heap.size := hg12
                      have r0 : y.drew.cell? ⟨g12, o12 + mm * 12, none⟩ = some (.int .i64 k) := a0
                      have r1 : y.drew.cell? ⟨g12, o12 + mm * 12 + 1, none⟩ = some (.int .u64 b) := a1
                      have r2 : y.drew.cell? ⟨g12, o12 + mm * 12 + 2, none⟩ = some (.int .u64 s) := a2
                      have r3 : y.drew.cell? ⟨g12, o12 + mm * 12 + 3, none⟩ = some (.int .u64 q) := a3
                      have r4 : y.drew.cell? ⟨g12, o12 + mm * 12 + 4, none⟩ = some (.slice U1 nW U5) := a4
                      have r5 : y.drew.cell? ⟨g12, o12 + mm * 12 + 5, none⟩ = some (.slice U2 nR U6) := a5
                      have r6 : y.drew.cell? ⟨g12, o12 + mm * 12 + 6, none⟩ = some (.bool f) := a6
                      have r7 : y.drew.cell? ⟨g12, o12 + mm * 12 + 7, none⟩ = some (.slice U3 nS U7) := a7
                      have r8 : y.drew.cell? ⟨g12, o12 + mm * 12 + 8, none⟩ = some (.slice U4 nP U8) := a8
                      have r9 : y.drew.cell? ⟨g12, o12 + mm * 12 + 9, none⟩ = some (.int .u64 i) := a9
                      have r10 : y.drew.cell? ⟨g12, o12 + mm * 12 + 10, none⟩ = some (.string S) := a10
                      have r11 : y.drew.cell? ⟨g12, o12 + mm * 12 + 11, none⟩ = some (.int .u64 kk) := a11
                      have h_0 := rc_cell 0 (.int .i64 k) BXd.out rfl
                      have h_1 := rc_cell 1 (.int .u64 b) BXd.out rfl
                      have h_2 := rc_cell 2 (.int .u64 s) BXd.out rfl
                      have h_3 := rc_cell 3 (.int .u64 q) BXd.out rfl
                      have h_4 := rc_cell 4 (.slice AW nW cW) BXd.out rfl
                      have h_5 := rc_cell 5 (.slice AR nR cR) BXd.out rfl
                      have h_6 := rc_cell 6 (.bool f) BXd.out rfl
                      have h_7 := rc_cell 7 (.slice AS nS cS) BXd.out rfl
                      have h_8 := rc_cell 8 (.slice AP nP cP) BXd.out rfl
                      have h_9 := rc_cell 9 (.int .u64 i) BXd.out rfl
                      have h_10 := rc_cell 10 (.string S) BXd.out rfl
                      have w1 : y.drew.cell? ⟨g11, o11 + nn * 12 + 11, none⟩ = some (.int .u64 kk) := w0
                      have hg11d : g11 < y.drew.heap.size := hg11
                      clear a0 a1 a2 a3 a4 a5 a6 a7 a8 a9 a10 a11
                      have hwk : IntKind.u64.wrap (kk : Int) = (kk : Int) := by simp only [IntKind.wrap, IntKind.bits, IntKind.signed, Bool.false_eq_true, Bool.false_and, if_false]; omega
                      go_region_held3 (fun w' => w'.cell? ⟨g12, o12 + mm * 12, none⟩ = some (.int .i64 k) ∧ w'.cell? ⟨g12, o12 + mm * 12 + 1, none⟩ = some (.int .u64 b) ∧ w'.cell? ⟨g12, o12 + mm * 12 + 2, none⟩ = some (.int .u64 s) ∧ w'.cell? ⟨g12, o12 + mm * 12 + 3, none⟩ = some (.int .u64 q) ∧ w'.cell? ⟨g12, o12 + mm * 12 + 4, none⟩ = some (.slice U1 nW U5) ∧ w'.cell? ⟨g12, o12 + mm * 12 + 5, none⟩ = some (.slice U2 nR U6) ∧ w'.cell? ⟨g12, o12 + mm * 12 + 6, none⟩ = some (.bool f) ∧ w'.cell? ⟨g12, o12 + mm * 12 + 7, none⟩ = some (.slice U3 nS U7) ∧ w'.cell? ⟨g12, o12 + mm * 12 + 8, none⟩ = some (.slice U4 nP U8) ∧ w'.cell? ⟨g12, o12 + mm * 12 + 9, none⟩ = some (.int .u64 i) ∧ w'.cell? ⟨g12, o12 + mm * 12 + 10, none⟩ = some (.string S) ∧ w'.cell? ⟨g12, o12 + mm * 12 + 11, none⟩ = some (.int .u64 kk) ∧ w'.cell? ⟨wr.heap.size, 0, none⟩ = some (.int .i64 k) ∧ w'.cell? ⟨wr.heap.size, 1, none⟩ = some (.int .u64 b) ∧ w'.cell? ⟨wr.heap.size, 2, none⟩ = some (.int .u64 s) ∧ w'.cell? ⟨wr.heap.size, 3, none⟩ = some (.int .u64 q) ∧ w'.cell? ⟨wr.heap.size, 4, none⟩ = some (.slice AW nW cW) ∧ w'.cell? ⟨wr.heap.size, 5, none⟩ = some (.slice AR nR cR) ∧ w'.cell? ⟨wr.heap.size, 6, none⟩ = some (.bool f) ∧ w'.cell? ⟨wr.heap.size, 7, none⟩ = some (.slice AS nS cS) ∧ w'.cell? ⟨wr.heap.size, 8, none⟩ = some (.slice AP nP cP) ∧ w'.cell? ⟨wr.heap.size, 9, none⟩ = some (.int .u64 i) ∧ w'.cell? ⟨wr.heap.size, 10, none⟩ = some (.string S)) (first | exact ⟨t0, t1, t2, t3, t4, t5, t6, t7, t8, t9, t10, t11, x_0, x_1, x_2, x_3, x_4, x_5, x_6, x_7, x_8, x_9, x_10⟩ | exact ⟨s0, s1, s2, s3, s4, s5, s6, s7, s8, s9, s10, s11, v0, v1, v2, v3, v4, v5, v6, v7, v8, v9, v10⟩ | exact ⟨r0, r1, r2, r3, r4, r5, r6, r7, r8, r9, r10, r11, h_0, h_1, h_2, h_3, h_4, h_5, h_6, h_7, h_8, h_9, h_10⟩) (first | (go_at_call 19; refine (told_any k b s q U1 nW U5 U2 nR U6 f U3 nS U7 U4 nP U8 i S _).mono ?_; rintro e x2 ⟨rfl, hb2⟩; have HY2 := Lib.hid (HYd.out.keep hb2); have HZ2 := Lib.hid (HZd.out.keep hb2); have BX2 := Lib.hid ((hb2.block _ (lt_of_heap BXd.out)).trans BXd.out); have HB2 := Lib.hid (HBd.out.trans (hb2.mono HBd.out.size)); have hgg2 := Nat.lt_of_lt_of_le hgd hb2.size; have s0 := (hb2.cell (p := ⟨g12, o12 + mm * 12, none⟩) hgd).trans r0; have s1 := (hb2.cell (p := ⟨g12, o12 + mm * 12 + 1, none⟩) hgd).trans r1; have s2 := (hb2.cell (p := ⟨g12, o12 + mm * 12 + 2, none⟩) hgd).trans r2; have s3 := (hb2.cell (p := ⟨g12, o12 + mm * 12 + 3, none⟩) hgd).trans r3; have s4 := (hb2.cell (p := ⟨g12, o12 + mm * 12 + 4, none⟩) hgd).trans r4; have s5 := (hb2.cell (p := ⟨g12, o12 + mm * 12 + 5, none⟩) hgd).trans r5; have s6 := (hb2.cell (p := ⟨g12, o12 + mm * 12 + 6, none⟩) hgd).trans r6; have s7 := (hb2.cell (p := ⟨g12, o12 + mm * 12 + 7, none⟩) hgd).trans r7; have s8 := (hb2.cell (p := ⟨g12, o12 + mm * 12 + 8, none⟩) hgd).trans r8; have s9 := (hb2.cell (p := ⟨g12, o12 + mm * 12 + 9, none⟩) hgd).trans r9; have s10 := (hb2.cell (p := ⟨g12, o12 + mm * 12 + 10, none⟩) hgd).trans r10; have s11 := (hb2.cell (p := ⟨g12, o12 + mm * 12 + 11, none⟩) hgd).trans r11; have v0 := rc_cell 0 (.int .i64 k) BX2.out rfl; have v1 := rc_cell 1 (.int .u64 b) BX2.out rfl; have v2 := rc_cell 2 (.int .u64 s) BX2.out rfl; have v3 := rc_cell 3 (.int .u64 q) BX2.out rfl; have v4 := rc_cell 4 (.slice AW nW cW) BX2.out rfl; have v5 := rc_cell 5 (.slice AR nR cR) BX2.out rfl; have v6 := rc_cell 6 (.bool f) BX2.out rfl; have v7 := rc_cell 7 (.slice AS nS cS) BX2.out rfl; have v8 := rc_cell 8 (.slice AP nP cP) BX2.out rfl; have v9 := rc_cell 9 (.int .u64 i) BX2.out rfl; have v10 := rc_cell 10 (.string S) BX2.out rfl; have w2 := (hb2.cell (p := ⟨g11, o11 + nn * 12 + 11, none⟩) hg11d).trans w1; have hg112 := Nat.lt_of_lt_of_le hg11d hb2.size; clear hb2) | (go_at_call 18; refine (same_core k b s q f i S U1 AW nW U5 cW U2 AR nR U6 cR U3 AS nS U7 cS U4 AP nP U8 cP ws rs sh rp _ HY2.out.ws HZ2.out.t.ws HY2.out.rs HZ2.out.t.rs HY2.out.sh HZ2.out.t.sh HY2.out.rp HZ2.out.t.rp (Nat.le_trans HZ2.out.bW (by omega)) (Nat.le_trans HZ2.out.bR (by omega)) (Nat.le_trans HZ2.out.bS (by omega)) (Nat.le_trans HZ2.out.bP (by unfold maxLen; omega)) (fun t ht => ⟨Nat.le_trans (trsBd _ _ HZ2.out.tW t ht).1 (by unfold maxLen; omega), Nat.le_trans (trsBd _ _ HZ2.out.tW t ht).2 (by unfold maxLen; omega)⟩) (fun t ht => ⟨Nat.le_trans (trsBd _ _ HZ2.out.tR t ht).1 (by unfold maxLen; omega), Nat.le_trans (trsBd _ _ HZ2.out.tR t ht).2 (by unfold maxLen; omega)⟩)).mono ?_; rintro e x3 ⟨rfl, hb3⟩; have BX3 := Lib.hid ((hb3.block _ (lt_of_heap BX2.out)).trans BX2.out); have HB3 := Lib.hid (HB2.out.trans (hb3.mono HB2.out.size)); have t0 := (hb3.cell (p := ⟨g12, o12 + mm * 12, none⟩) hgg2).trans s0; have t1 := (hb3.cell (p := ⟨g12, o12 + mm * 12 + 1, none⟩) hgg2).trans s1; have t2 := (hb3.cell (p := ⟨g12, o12 + mm * 12 + 2, none⟩) hgg2).trans s2; have t3 := (hb3.cell (p := ⟨g12, o12 + mm * 12 + 3, none⟩) hgg2).trans s3; have t4 := (hb3.cell (p := ⟨g12, o12 + mm * 12 + 4, none⟩) hgg2).trans s4; have t5 := (hb3.cell (p := ⟨g12, o12 + mm * 12 + 5, none⟩) hgg2).trans s5; have t6 := (hb3.cell (p := ⟨g12, o12 + mm * 12 + 6, none⟩) hgg2).trans s6; have t7 := (hb3.cell (p := ⟨g12, o12 + mm * 12 + 7, none⟩) hgg2).trans s7; have t8 := (hb3.cell (p := ⟨g12, o12 + mm * 12 + 8, none⟩) hgg2).trans s8; have t9 := (hb3.cell (p := ⟨g12, o12 + mm * 12 + 9, none⟩) hgg2).trans s9; have t10 := (hb3.cell (p := ⟨g12, o12 + mm * 12 + 10, none⟩) hgg2).trans s10; have t11 := (hb3.cell (p := ⟨g12, o12 + mm * 12 + 11, none⟩) hgg2).trans s11; have x_0 := rc_cell 0 (.int .i64 k) BX3.out rfl; have x_1 := rc_cell 1 (.int .u64 b) BX3.out rfl; have x_2 := rc_cell 2 (.int .u64 s) BX3.out rfl; have x_3 := rc_cell 3 (.int .u64 q) BX3.out rfl; have x_4 := rc_cell 4 (.slice AW nW cW) BX3.out rfl; have x_5 := rc_cell 5 (.slice AR nR cR) BX3.out rfl; have x_6 := rc_cell 6 (.bool f) BX3.out rfl; have x_7 := rc_cell 7 (.slice AS nS cS) BX3.out rfl; have x_8 := rc_cell 8 (.slice AP nP cP) BX3.out rfl; have x_9 := rc_cell 9 (.int .u64 i) BX3.out rfl; have x_10 := rc_cell 10 (.string S) BX3.out rfl; have w3 := (hb3.cell (p := ⟨g11, o11 + nn * 12 + 11, none⟩) hg112).trans w2; clear hb3))
                      clear hwk r0 s0 t0 r1 s1 t1 r2 s2 t2 r3 s3 t3 r4 s4 t4 r5 s5 t5 r6 s6 t6 r7 s7 t7 r8 s8 t8 r9 s9 t9 r10 s10 t10 r11 s11 t11 h_0 v0 h_1 v1 h_2 v2 h_3 v3 h_4 v4 h_5 v5 h_6 v6 h_7 v7 h_8 v8 h_9 v9 h_10 v10
                      go_wp2
                      go_roundw
                      case rel => exact ⟨kk + 1, nn + 1, mm + 1, by go_num, by go_num, by go_num, by omega, by omega, by omega, HNN1, HMM1, HB3⟩
                      case measure => simp [intOf]; omega
                    · have b5 : (k == 5) = false := by simpa using k5
                      have HYS : Hid (betwS ks fr tt ⟨⟨k, b, s, q, ws, rs, f, sh, rp, i, nm⟩, es, (kk : Int)⟩ = false) := Lib.hid (by unfold betwS; rw [HYE.out, Bool.and_true, HKS.out]; simp [k2, k5])
                      clear k2 k5
                      go_wp2_with fail
                      clear c0 c1 c2 c3 c4 c5 c6 c7 c8 c9 c10
                      generalize hy : wr.alloc (.cells #[.int .i64 k, .int .u64 b, .int .u64 s, .int .u64 q, .slice AW nW cW, .slice AR nR cR, .bool f, .slice AS nS cS, .slice AP nP cP, .int .u64 i, .string S] 30) = y at *
                      clear hy
                      have HBd := Lib.hid (HB1.out.trans ((Dr.refl y).one.below _))
                      have HYd := Lib.hid (HT2.out.keep ((Dr.refl y).one.below _))
                      have HZd := Lib.hid (HA1.out.keep ((Dr.refl y).one.below _))
                      have BXd : Hid (y.drew.heap[wr.heap.size]? = some (.cells #[.int .i64 k, .int .u64 b, .int .u64 s, .int .u64 q, .slice AW nW cW, .slice AR nR cR, .bool f, .slice AS nS cS, .slice AP nP cP, .int .u64 i, .string S] 30 (0, 0))) := BX1
                      have hgd : g12 < y.drew.heap.size := hg12
                      have r0 : y.drew.cell? ⟨g12, o12 + mm * 12, none⟩ = some (.int .i64 k) := a0
                      have r1 : y.drew.cell? ⟨g12, o12 + mm * 12 + 1, none⟩ = some (.int .u64 b) := a1
                      have r2 : y.drew.cell? ⟨g12, o12 + mm * 12 + 2, none⟩ = some (.int .u64 s) := a2
                      have r3 : y.drew.cell? ⟨g12, o12 + mm * 12 + 3, none⟩ = some (.int .u64 q) := a3
                      have r4 : y.drew.cell? ⟨g12, o12 + mm * 12 + 4, none⟩ = some (.slice U1 nW U5) := a4
                      have r5 : y.drew.cell? ⟨g12, o12 + mm * 12 + 5, none⟩ = some (.slice U2 nR U6) := a5
                      have r6 : y.drew.cell? ⟨g12, o12 + mm * 12 + 6, none⟩ = some (.bool f) := a6
                      have r7 : y.drew.cell? ⟨g12, o12 + mm * 12 + 7, none⟩ = some (.slice U3 nS U7) := a7
                      have r8 : y.drew.cell? ⟨g12, o12 + mm * 12 + 8, none⟩ = some (.slice U4 nP U8) := a8
                      have r9 : y.drew.cell? ⟨g12, o12 + mm * 12 + 9, none⟩ = some (.int .u64 i) := a9
                      have r10 : y.drew.cell? ⟨g12, o12 + mm * 12 + 10, none⟩ = some (.string S) := a10
                      have r11 : y.drew.cell? ⟨g12, o12 + mm * 12 + 11, none⟩ = some (.int .u64 kk) := a11
                      have h_0 := rc_cell 0 (.int .i64 k) BXd.out rfl
                      have h_1 := rc_cell 1 (.int .u64 b) BXd.out rfl
                      have h_2 := rc_cell 2 (.int .u64 s) BXd.out rfl
                      have h_3 := rc_cell 3 (.int .u64 q) BXd.out rfl
                      have h_4 := rc_cell 4 (.slice AW nW cW) BXd.out rfl
                      have h_5 := rc_cell 5 (.slice AR nR cR) BXd.out rfl
                      have h_6 := rc_cell 6 (.bool f) BXd.out rfl
                      have h_7 := rc_cell 7 (.slice AS nS cS) BXd.out rfl
                      have h_8 := rc_cell 8 (.slice AP nP cP) BXd.out rfl
                      have h_9 := rc_cell 9 (.int .u64 i) BXd.out rfl
                      have h_10 := rc_cell 10 (.string S) BXd.out rfl
                      clear a0 a1 a2 a3 a4 a5 a6 a7 a8 a9 a10 a11
                      have hwk : IntKind.u64.wrap (kk : Int) = (kk : Int) := by simp only [IntKind.wrap, IntKind.bits, IntKind.signed, Bool.false_eq_true, Bool.false_and, if_false]; omega
                      go_region_held3 (fun w' => w'.cell? ⟨g12, o12 + mm * 12, none⟩ = some (.int .i64 k) ∧ w'.cell? ⟨g12, o12 + mm * 12 + 1, none⟩ = some (.int .u64 b) ∧ w'.cell? ⟨g12, o12 + mm * 12 + 2, none⟩ = some (.int .u64 s) ∧ w'.cell? ⟨g12, o12 + mm * 12 + 3, none⟩ = some (.int .u64 q) ∧ w'.cell? ⟨g12, o12 + mm * 12 + 4, none⟩ = some (.slice U1 nW U5) ∧ w'.cell? ⟨g12, o12 + mm * 12 + 5, none⟩ = some (.slice U2 nR U6) ∧ w'.cell? ⟨g12, o12 + mm * 12 + 6, none⟩ = some (.bool f) ∧ w'.cell? ⟨g12, o12 + mm * 12 + 7, none⟩ = some (.slice U3 nS U7) ∧ w'.cell? ⟨g12, o12 + mm * 12 + 8, none⟩ = some (.slice U4 nP U8) ∧ w'.cell? ⟨g12, o12 + mm * 12 + 9, none⟩ = some (.int .u64 i) ∧ w'.cell? ⟨g12, o12 + mm * 12 + 10, none⟩ = some (.string S) ∧ w'.cell? ⟨g12, o12 + mm * 12 + 11, none⟩ = some (.int .u64 kk) ∧ w'.cell? ⟨wr.heap.size, 0, none⟩ = some (.int .i64 k) ∧ w'.cell? ⟨wr.heap.size, 1, none⟩ = some (.int .u64 b) ∧ w'.cell? ⟨wr.heap.size, 2, none⟩ = some (.int .u64 s) ∧ w'.cell? ⟨wr.heap.size, 3, none⟩ = some (.int .u64 q) ∧ w'.cell? ⟨wr.heap.size, 4, none⟩ = some (.slice AW nW cW) ∧ w'.cell? ⟨wr.heap.size, 5, none⟩ = some (.slice AR nR cR) ∧ w'.cell? ⟨wr.heap.size, 6, none⟩ = some (.bool f) ∧ w'.cell? ⟨wr.heap.size, 7, none⟩ = some (.slice AS nS cS) ∧ w'.cell? ⟨wr.heap.size, 8, none⟩ = some (.slice AP nP cP) ∧ w'.cell? ⟨wr.heap.size, 9, none⟩ = some (.int .u64 i) ∧ w'.cell? ⟨wr.heap.size, 10, none⟩ = some (.string S)) (first | exact ⟨t0, t1, t2, t3, t4, t5, t6, t7, t8, t9, t10, t11, x_0, x_1, x_2, x_3, x_4, x_5, x_6, x_7, x_8, x_9, x_10⟩ | exact ⟨s0, s1, s2, s3, s4, s5, s6, s7, s8, s9, s10, s11, v0, v1, v2, v3, v4, v5, v6, v7, v8, v9, v10⟩ | exact ⟨r0, r1, r2, r3, r4, r5, r6, r7, r8, r9, r10, r11, h_0, h_1, h_2, h_3, h_4, h_5, h_6, h_7, h_8, h_9, h_10⟩) (first | (go_at_call 19; refine (told_any k b s q U1 nW U5 U2 nR U6 f U3 nS U7 U4 nP U8 i S _).mono ?_; rintro e x2 ⟨rfl, hb2⟩; have HY2 := Lib.hid (HYd.out.keep hb2); have HZ2 := Lib.hid (HZd.out.keep hb2); have BX2 := Lib.hid ((hb2.block _ (lt_of_heap BXd.out)).trans BXd.out); have HB2 := Lib.hid (HBd.out.trans (hb2.mono HBd.out.size)); have hgg2 := Nat.lt_of_lt_of_le hgd hb2.size; have s0 := (hb2.cell (p := ⟨g12, o12 + mm * 12, none⟩) hgd).trans r0; have s1 := (hb2.cell (p := ⟨g12, o12 + mm * 12 + 1, none⟩) hgd).trans r1; have s2 := (hb2.cell (p := ⟨g12, o12 + mm * 12 + 2, none⟩) hgd).trans r2; have s3 := (hb2.cell (p := ⟨g12, o12 + mm * 12 + 3, none⟩) hgd).trans r3; have s4 := (hb2.cell (p := ⟨g12, o12 + mm * 12 + 4, none⟩) hgd).trans r4; have s5 := (hb2.cell (p := ⟨g12, o12 + mm * 12 + 5, none⟩) hgd).trans r5; have s6 := (hb2.cell (p := ⟨g12, o12 + mm * 12 + 6, none⟩) hgd).trans r6; have s7 := (hb2.cell (p := ⟨g12, o12 + mm * 12 + 7, none⟩) hgd).trans r7; have s8 := (hb2.cell (p := ⟨g12, o12 + mm * 12 + 8, none⟩) hgd).trans r8; have s9 := (hb2.cell (p := ⟨g12, o12 + mm * 12 + 9, none⟩) hgd).trans r9; have s10 := (hb2.cell (p := ⟨g12, o12 + mm * 12 + 10, none⟩) hgd).trans r10; have s11 := (hb2.cell (p := ⟨g12, o12 + mm * 12 + 11, none⟩) hgd).trans r11; have v0 := rc_cell 0 (.int .i64 k) BX2.out rfl; have v1 := rc_cell 1 (.int .u64 b) BX2.out rfl; have v2 := rc_cell 2 (.int .u64 s) BX2.out rfl; have v3 := rc_cell 3 (.int .u64 q) BX2.out rfl; have v4 := rc_cell 4 (.slice AW nW cW) BX2.out rfl; have v5 := rc_cell 5 (.slice AR nR cR) BX2.out rfl; have v6 := rc_cell 6 (.bool f) BX2.out rfl; have v7 := rc_cell 7 (.slice AS nS cS) BX2.out rfl; have v8 := rc_cell 8 (.slice AP nP cP) BX2.out rfl; have v9 := rc_cell 9 (.int .u64 i) BX2.out rfl; have v10 := rc_cell 10 (.string S) BX2.out rfl; clear hb2) | (go_at_call 18; refine (same_core k b s q f i S U1 AW nW U5 cW U2 AR nR U6 cR U3 AS nS U7 cS U4 AP nP U8 cP ws rs sh rp _ HY2.out.ws HZ2.out.t.ws HY2.out.rs HZ2.out.t.rs HY2.out.sh HZ2.out.t.sh HY2.out.rp HZ2.out.t.rp (Nat.le_trans HZ2.out.bW (by omega)) (Nat.le_trans HZ2.out.bR (by omega)) (Nat.le_trans HZ2.out.bS (by omega)) (Nat.le_trans HZ2.out.bP (by unfold maxLen; omega)) (fun t ht => ⟨Nat.le_trans (trsBd _ _ HZ2.out.tW t ht).1 (by unfold maxLen; omega), Nat.le_trans (trsBd _ _ HZ2.out.tW t ht).2 (by unfold maxLen; omega)⟩) (fun t ht => ⟨Nat.le_trans (trsBd _ _ HZ2.out.tR t ht).1 (by unfold maxLen; omega), Nat.le_trans (trsBd _ _ HZ2.out.tR t ht).2 (by unfold maxLen; omega)⟩)).mono ?_; rintro e x3 ⟨rfl, hb3⟩; have BX3 := Lib.hid ((hb3.block _ (lt_of_heap BX2.out)).trans BX2.out); have HB3 := Lib.hid (HB2.out.trans (hb3.mono HB2.out.size)); have t0 := (hb3.cell (p := ⟨g12, o12 + mm * 12, none⟩) hgg2).trans s0; have t1 := (hb3.cell (p := ⟨g12, o12 + mm * 12 + 1, none⟩) hgg2).trans s1; have t2 := (hb3.cell (p := ⟨g12, o12 + mm * 12 + 2, none⟩) hgg2).trans s2; have t3 := (hb3.cell (p := ⟨g12, o12 + mm * 12 + 3, none⟩) hgg2).trans s3; have t4 := (hb3.cell (p := ⟨g12, o12 + mm * 12 + 4, none⟩) hgg2).trans s4; have t5 := (hb3.cell (p := ⟨g12, o12 + mm * 12 + 5, none⟩) hgg2).trans s5; have t6 := (hb3.cell (p := ⟨g12, o12 + mm * 12 + 6, none⟩) hgg2).trans s6; have t7 := (hb3.cell (p := ⟨g12, o12 + mm * 12 + 7, none⟩) hgg2).trans s7; have t8 := (hb3.cell (p := ⟨g12, o12 + mm * 12 + 8, none⟩) hgg2).trans s8; have t9 := (hb3.cell (p := ⟨g12, o12 + mm * 12 + 9, none⟩) hgg2).trans s9; have t10 := (hb3.cell (p := ⟨g12, o12 + mm * 12 + 10, none⟩) hgg2).trans s10; have t11 := (hb3.cell (p := ⟨g12, o12 + mm * 12 + 11, none⟩) hgg2).trans s11; have x_0 := rc_cell 0 (.int .i64 k) BX3.out rfl; have x_1 := rc_cell 1 (.int .u64 b) BX3.out rfl; have x_2 := rc_cell 2 (.int .u64 s) BX3.out rfl; have x_3 := rc_cell 3 (.int .u64 q) BX3.out rfl; have x_4 := rc_cell 4 (.slice AW nW cW) BX3.out rfl; have x_5 := rc_cell 5 (.slice AR nR cR) BX3.out rfl; have x_6 := rc_cell 6 (.bool f) BX3.out rfl; have x_7 := rc_cell 7 (.slice AS nS cS) BX3.out rfl; have x_8 := rc_cell 8 (.slice AP nP cP) BX3.out rfl; have x_9 := rc_cell 9 (.int .u64 i) BX3.out rfl; have x_10 := rc_cell 10 (.string S) BX3.out rfl; clear hb3))
                      clear hwk r0 s0 t0 r1 s1 t1 r2 s2 t2 r3 s3 t3 r4 s4 t4 r5 s5 t5 r6 s6 t6 r7 s7 t7 r8 s8 t8 r9 s9 t9 r10 s10 t10 r11 s11 t11 h_0 v0 h_1 v1 h_2 v2 h_3 v3 h_4 v4 h_5 v5 h_6 v6 h_7 v7 h_8 v8 h_9 v9 h_10 v10
                      go_wp2
                      go_roundw
                      case rel => exact ⟨kk + 1, nn, mm + 1, by go_num, by go_num, by go_num, by omega, by omega, by omega, Lib.hid (by rw [outS_no HEE.out HYS.out]; exact HNN.out), HMM1, HB3⟩
                      case measure => simp [intOf]; omega
            · obtain rfl : n = kk := by omega
              have HTE : Hid (el.take n = el) := Lib.hid (List.take_of_length_le (by rw [HELL.out]; exact Nat.le_refl _))
              rw [HTE.out] at HNN HMM
              obtain rfl : n11 = nn := HN11.out.trans HNN.out.symm
              obtain rfl : n12 = mm := HN12.out.trans HMM.out.symm
              have d1 : ((n11 : Int) == (n11 : Int)) = true := by simp
              have d2 : ((n12 : Int) == (n12 : Int)) = true := by simp
              have HBF := Lib.hid (HBe.out.trans (HBX.out.mono HBe.out.size))
              go_wp2
              go_ret
              exact ⟨rfl, HBF.out⟩
end Go.Proofs.Ytmjjbfcblmmipaa
