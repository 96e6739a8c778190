/- ParityKeeps: the walk. -/
import Derived.Test.YtmckgdjipkkklaaDoorAllW
import Derived.Test.YtmckgdjipkkklaaDoorKeptW
import Derived.Test.YtmckgdjipkkklaaDoorApartW
import Derived.Test.YtmckgdjipkkklaaDoorAwake
namespace Go.Proofs.YtmckgdjipkkklaaDoor
set_option linter.unusedVariables false
set_option linter.unusedSimpArgs false
open Go.RowKit

/-- One whole record, opened. -/
theorem open_one (A : Option Addr) (n c : Nat) (x : List Nat) (w : World) (hx : Bs w A n (il (recL x))) (hn : n ≤ 1000000000000) (hc : n ≤ c) (hxr : Rn x) (hxl : x.length ≤ 1048576) (ht : Tabs w) :
    Calls Tryd.prog 27 #[.slice A n c, .int .i64 0] w fun e w' => ∃ A' c' m nx, e = .returned (.tuple #[.slice A' m c', .int .i64 nx, .int .i64 0]) ∧ Hid (m = x.length) ∧ Own w' w.heap.size 5 A' m c' (By (il x)) ∧ Below w.heap.size w w' := by
  have e := openL_whole [] [] hxr hxl
  refine (open_any A n c 0 _ w hx hn hc (by omega) ht).mono ?_
  intro e' w' h
  rw [nl_il, show recL x = [] ++ (recL x ++ []) by simp, show (0 : Nat) = ([] : List Nat).length by rfl, e] at h
  rcases h with ⟨_, A', c', rfl, ho, hb⟩ | ⟨h, _⟩
  · exact ⟨A', c', _, _, rfl, rfl, ho, hb⟩
  · exact absurd rfl h
/-- All records of one. -/
theorem all_one (A : Option Addr) (n c : Nat) (x : List Nat) (w : World) (hx : Bs w A n (il (recL x))) (hn : n ≤ 1000000000) (hc : n ≤ c) (hxr : Rn x) (hxl : x.length ≤ 1048576) (ht : Tabs w) :
    Calls Tryd.prog 28 #[.slice A n c] w fun e w' => ∃ gv cv m d B nx, e = .returned (.tuple #[.slice (some ⟨gv, 0, none⟩) 1 cv, .int .i64 nx]) ∧ gv < w'.heap.size ∧ w'.cell? ⟨gv, 0, none⟩ = some (.slice B m d) ∧ Hid (m = x.length) ∧ Own w' w.heap.size 5 B m d (By (il x)) ∧ Below w.heap.size w w' := by
  refine (openAll_any A n c _ w hx hn hc ht).mono ?_
  rintro e w' ⟨A', c', k, at', recs, rfl, hk, ha, hp, HC, HE, hb⟩
  have hcat : cat [x] = recL x := by simp [cat]
  have h1 := chain_begin [x] [] (recL x).length (fun y hy => by obtain rfl := List.mem_singleton.1 hy; exact ⟨hxr, hxl⟩)
  have hwh : wh [x] (recL x).length = 1 := by simp [wh]
  rw [hwh] at h1
  simp only [List.nil_append, List.length_nil, Nat.zero_add, List.take_succ_cons, List.take_zero, hcat] at h1
  rw [List.take_of_length_le (Nat.le_refl _)] at h1
  have h2 := HC.out
  rw [nl_il] at h2
  have h3 := HE.out
  rw [nl_il] at h3
  obtain ⟨hr, _⟩ := h2.only h1.1 h3 (by rw [h1.2]; omega)
  subst hr
  obtain rfl : k = 1 := hk
  obtain ⟨hl, vs, hov, hev⟩ := hp
  obtain ⟨gv, capv, hvv, hlo, hlt⟩ := World.ownsRow.form hov (by omega)
  obtain rfl : A' = some ⟨gv, 0, none⟩ := by injection hvv
  have hvl := hov.len
  obtain ⟨v, rfl⟩ : ∃ v, vs = [v] := by
    match vs, hvl with
    | [v], _ => exact ⟨v, rfl⟩
  obtain ⟨B, d, rfl, hoB, hrB⟩ := hev 0 v (il x) rfl rfl
  refine ⟨gv, c', _, d, B, _, rfl, hlt, ?_, il_length x, hoB, hb⟩
  rw [World.ownsRow.cellAt hov 0 (by omega)]; rfl
theorem dist_of {ent : List Tr} (f : Nat → Nat) (hf : ∀ j, f j ≤ f (j + 1)) (h : ∀ (j : Nat) (A : Option Addr) (n c : Nat), ent[j]? = some (A, n, c) → ∀ b, blk A = some b → f j ≤ b ∧ b < f (j + 1)) : Dist ent := by
  have mono : ∀ i d, f i ≤ f (i + d) := by
    intro i d
    induction d with
    | zero => exact Nat.le_refl _
    | succ d ih => exact Nat.le_trans ih (hf (i + d))
  intro i j A n c B m d hi hj hne
  cases hA : blk A with
  | none => exact .inl rfl
  | some b =>
    right
    intro e
    have h1 := h i A n c hi b hA
    have h2 := h j B m d hj b e.symm
    rcases Nat.lt_or_ge i j with hlt | hge
    · have := mono (i + 1) (j - (i + 1))
      rw [show i + 1 + (j - (i + 1)) = j by omega] at this
      omega
    · have := mono (j + 1) (i - (j + 1))
      rw [show j + 1 + (i - (j + 1)) = i by omega] at this
      omega
def six (a b c d e f g : Nat) : Nat → Nat
  | 0 => a | 1 => b | 2 => c | 3 => d | 4 => e | 5 => f | _ => g

set_option maxRecDepth 100000 in
set_option maxHeartbeats 4000000 in
theorem keeps_walk (A : Option Addr) (n c : Nat) (xs : List Int) (w : World) (hx : Bs w A n xs) (hn : n ≤ maxLen) (hc : n ≤ c) (ht : Tabs w) :
    Calls Tryd.prog 9 #[.slice A n c] w fun e w' => e = .returned (.bool true) ∧ Below w.heap.size w w' := by
  go_enter Tryd.func9, Tryd.ntmps9
  go_wp2_with fail
  refine (awake_any _ ht).mono ?_
  rintro e w1 ⟨rfl, hb1⟩
  have hx1 := hx.keep hb1
  have ht1 := ht.below hb1
  have hs1 := hb1.size
  clear hx ht
  go_wp2_with fail
  refine (cut_any A n c 2000 xs _ hx1 hn hc (by omega)).mono ?_
  rintro e w' ⟨n1, rfl, HM, hx2, rfl⟩
  have hn1 : n1 ≤ 2000 := by have := HM.out; omega
  have hnc1 : n1 ≤ c := by have := HM.out; omega
  generalize xs.take 2000 = us at *
  have hrn := nl_rn hx2.2
  have hul := hx2.len
  have HUL := Lib.hid hul; clear hul
  have HIL := Lib.hid (il_nl hx2.2)
  have hur := hx2.2
  clear hx1 HM hn hc
  go_wp2_with fail
  refine (spare_any A n1 c us _ hx2 (by omega)).mono ?_
  rintro e w2 ⟨rfl, hoF, hb2⟩
  have hx3 := hx2.keep hb2
  have ht2 := ht1.below hb2
  have hs2 := hb2.size
  have hxx : Bs w2 (some ⟨w1.heap.size, 0, none⟩) n1 us := by
    have h := (hoF.pre (m := n1) (by omega))
    rw [By_take, show (sp us).take n1 = us by rw [← HUL.out]; exact sp_take us] at h
    exact h.bs hur
  have HRF : Hid (∀ b, blk (some (⟨w1.heap.size, 0, none⟩ : Addr)) = some b → w1.heap.size ≤ b ∧ b < w2.heap.size) := fun b hb => hoF.lies b hb
  clear hx2 ht1
  go_wp2_with fail
  refine (seal_any _ n1 (n1 + 33) us _ hxx (by omega) (by omega) ht2).mono ?_
  rintro e w3 ⟨A3, c3, n3, rfl, hn3, ho3, hb3⟩
  have hn3' : n3 ≤ 1100000 := by rw [hn3]; exact sealedN_le (by omega)
  have HN3 := Lib.hid hn3; clear hn3
  have hs3 := hb3.size
  have ht3 := ht2.below hb3
  have hx4 := hx3.keep hb3
  have hxx3 := hxx.keep hb3
  have hoF3 := K5.below hb3 _ _ _ _ hoF
  have HR3 : Hid (∀ b, blk A3 = some b → w2.heap.size ≤ b ∧ b < w3.heap.size) := fun b hb => ho3.lies b hb
  have ho3' := ho3.mono hs2
  clear hxx hx3 hoF ht2 ho3
  go_wp2_with fail
  refine (seal_any _ n1 (n1 + 33) us _ hxx3 (by omega) (by omega) ht3).mono ?_
  rintro e w4 ⟨A4, c4, n4, rfl, hn4, ho4, hb4⟩
  have hn4' : n4 ≤ 1100000 := by rw [hn4]; exact sealedN_le (by omega)
  have HN4 := Lib.hid hn4; clear hn4
  have hs4 := hb4.size
  have ht4 := ht3.below hb4
  have hx5 := hx4.keep hb4
  have hoF4 := K5.below hb4 _ _ _ _ hoF3
  have ho34 := K5.below hb4 _ _ _ _ ho3'
  have HR4 : Hid (∀ b, blk A4 = some b → w3.heap.size ≤ b ∧ b < w4.heap.size) := fun b hb => ho4.lies b hb
  have ho4' := ho4.mono (Nat.le_trans hs2 hs3)
  have HRR := Lib.hid (il_ran (recL_rn hrn))
  have hb34 := ho34.bs HRR.out
  clear hxx3 hx4 hoF3 ht3 ho3' ho4
  go_wp2_with fail
  refine (spare_any A3 n3 c3 _ _ hb34 (by omega)).mono ?_
  rintro e w5 ⟨rfl, hoS, hb5⟩
  have hs5 := hb5.size
  have ht5 := ht4.below hb5
  have hx6 := hx5.keep hb5
  have hoF5 := K5.below hb5 _ _ _ _ hoF4
  have ho35 := K5.below hb5 _ _ _ _ ho34
  have ho45 := K5.below hb5 _ _ _ _ ho4'
  have HR5 : Hid (∀ b, blk (some (⟨w4.heap.size, 0, none⟩ : Addr)) = some b → w4.heap.size ≤ b ∧ b < w5.heap.size) := fun b hb => hoS.lies b hb
  have hss : Bs w5 (some ⟨w4.heap.size, 0, none⟩) n3 (il (recL (nl us))) := by
    have h := (hoS.pre (m := n3) (by omega))
    have hl : (il (recL (nl us))).length = n3 := hb34.len
    rw [By_take, show (sp (il (recL (nl us)))).take n3 = il (recL (nl us)) by rw [← hl]; exact sp_take _] at h
    exact h.bs HRR.out
  have hoS' := hoS.mono (Nat.le_trans hs2 (Nat.le_trans hs3 hs4))
  have hlu : (nl us).length ≤ 1048576 := by rw [nl_length, HUL.out]; omega
  have HLU := Lib.hid hlu; clear hlu
  clear hb34 hx5 hoF4 ho34 ho4' ht4 hoS
  go_wp2_with fail
  refine (open_one _ n3 (n3 + 33) (nl us) _ hss (by omega) (by omega) hrn HLU.out ht5).mono ?_
  rintro e w6 ⟨A6, c6, n6, nx6, rfl, HN6, ho6, hb6⟩
  have hs6 := hb6.size
  have ht6 := ht5.below hb6
  have hx7 := hx6.keep hb6
  have hss6 := hss.keep hb6
  have hoF6 := K5.below hb6 _ _ _ _ hoF5
  have ho36 := K5.below hb6 _ _ _ _ ho35
  have ho46 := K5.below hb6 _ _ _ _ ho45
  have hoS6 := K5.below hb6 _ _ _ _ hoS'
  have HR6 : Hid (∀ b, blk A6 = some b → w5.heap.size ≤ b ∧ b < w6.heap.size) := fun b hb => ho6.lies b hb
  have ho6' := ho6.mono (Nat.le_trans hs2 (Nat.le_trans hs3 (Nat.le_trans hs4 hs5)))
  rw [HIL.out] at ho6'
  have hn6 : n6 ≤ 2000 := by rw [HN6.out, nl_length, HUL.out]; exact hn1
  clear hss hx6 hoF5 ho35 ho45 hoS' ht5 ho6
  go_wp2_with fail
  refine (all_one _ n3 (n3 + 33) (nl us) _ hss6 (by omega) (by omega) hrn HLU.out ht6).mono ?_
  rintro e w7 ⟨gv, cv, n7, c7, A7, nx7, rfl, hgv, hcv, HN7, ho7, hb7⟩
  have hs7 := hb7.size
  have ht7 := ht6.below hb7
  have hx8 := hx7.keep hb7
  have hss7 := hss6.keep hb7
  have hoF7 := K5.below hb7 _ _ _ _ hoF6
  have ho37 := K5.below hb7 _ _ _ _ ho36
  have ho47 := K5.below hb7 _ _ _ _ ho46
  have hoS7 := K5.below hb7 _ _ _ _ hoS6
  have ho67 := K5.below hb7 _ _ _ _ ho6'
  have HR7 : Hid (∀ b, blk A7 = some b → w6.heap.size ≤ b ∧ b < w7.heap.size) := fun b hb => ho7.lies b hb
  have ho7' := ho7.mono (Nat.le_trans hs2 (Nat.le_trans hs3 (Nat.le_trans hs4 (Nat.le_trans hs5 hs6))))
  rw [HIL.out] at ho7'
  have hn7 : n7 ≤ 2000 := by rw [HN7.out, nl_length, HUL.out]; exact hn1
  clear hss6 hx7 hoF6 ho36 ho46 hoS6 ht6 ho6' ho7
  go_wp2_with fail
  refine (good_any _ n3 (n3 + 33) _ _ hss7 (by unfold maxLen; omega) (by omega) ht7).mono ?_
  rintro e w8 ⟨rfl, hb8⟩
  have hs8 := hb8.size
  have hx9 := hx8.keep hb8
  have hoF8 := K5.below hb8 _ _ _ _ hoF7
  have ho38 := K5.below hb8 _ _ _ _ ho37
  have ho48 := K5.below hb8 _ _ _ _ ho47
  have hoS8 := K5.below hb8 _ _ _ _ hoS7
  have ho68 := K5.below hb8 _ _ _ _ ho67
  have ho78 := K5.below hb8 _ _ _ _ ho7'
  have hcv8 : w8.cell? ⟨gv, 0, none⟩ = some (.slice A7 n7 c7) := (hb8.cell (p := ⟨gv, 0, none⟩) hgv).trans hcv
  have hbw : Below w.heap.size w w8 := hb1.trans ((hb2.trans ((hb3.trans ((hb4.trans ((hb5.trans ((hb6.trans ((hb7.trans (hb8.mono hs7)).mono hs6)).mono hs5)).mono hs4)).mono hs3)).mono hs2)).mono hs1)
  have hbF := hoF8.bs (sp_ran hur)
  have hb3' := ho38.bs HRR.out
  have hbS := hoS8.bs (sp_ran HRR.out)
  have hb6' := ho68.bs hur
  generalize (goodL (nl (il (recL (nl us))))) = gd
  clear hss7 hx8 hoF7 ho37 ho47 hoS7 ho67 ho7' ht7 hcv hb1 hb2 hb3 hb4 hb5 hb6 hb7 hb8
  go_wp2_with fail
  refine (kept_any _ _ n1 _ _ us _ hbF hx9 (by omega)).mono ?_
  rintro e w9 ⟨rfl, hd9⟩
  go_wp2_with fail
  refine (kept_any _ _ n3 _ _ _ _ (hbS.dr hd9) (hb3'.dr hd9) (by omega)).mono ?_
  rintro e w10 ⟨rfl, hd10⟩
  have hd910 := hd9.trans hd10
  go_wp2_with fail
  refine (equal_any _ _ n6 n1 _ _ us us _ (hb6'.dr hd910) (hx9.dr hd910) (by unfold maxLen; omega) (by unfold maxLen; omega)).mono ?_
  rintro e w11 ⟨rfl, hd11⟩
  rw [show (cmpL us us == 0) = true by simp [cmpL_self]]
  have hdd := hd910.trans hd11
  have hcv11 : w11.cell? ⟨gv, 0, none⟩ = some (.slice A7 n7 c7) := (hdd.cell gv 0).trans hcv8
  have hoFx := hoF8.dr hdd
  have ho3x := ho38.dr hdd
  have ho4x := ho48.dr hdd
  have hoSx := hoS8.dr hdd
  have ho6x := ho68.dr hdd
  have ho7x := ho78.dr hdd
  have hbx := hbw.trans (hdd.below _)
  have hsx : w8.heap.size = w11.heap.size := hdd.size.symm
  clear hbF hb3' hbS hb6' hx9 hoF8 ho38 ho48 hoS8 ho68 ho78 hd9 hd10 hd11 hd910 hdd hbw hcv8
  have hba := below_alloc w11 (.cells #[.slice (some ⟨w1.heap.size, 0, none⟩) (n1 + 33) (n1 + 33), .slice A3 n3 c3, .slice A4 n4 c4, .slice (some ⟨w4.heap.size, 0, none⟩) (n3 + 33) (n3 + 33), .slice A6 n6 c6, .slice A7 n7 c7] 28)
  have hbal := hbx.trans (hba.mono (by omega))
  have hHd : HdL (w11.alloc (.cells #[.slice (some ⟨w1.heap.size, 0, none⟩) (n1 + 33) (n1 + 33), .slice A3 n3 c3, .slice A4 n4 c4, .slice (some ⟨w4.heap.size, 0, none⟩) (n3 + 33) (n3 + 33), .slice A6 n6 c6, .slice A7 n7 c7] 28)) w11.heap.size [(some ⟨w1.heap.size, 0, none⟩, n1 + 33, n1 + 33), (A3, n3, c3), (A4, n4, c4), (some ⟨w4.heap.size, 0, none⟩, n3 + 33, n3 + 33), (A6, n6, c6), (A7, n7, c7)] := ⟨_, _, heap_alloc_new w11 _, rfl⟩
  have HDI : Hid (Dist [((some ⟨w1.heap.size, 0, none⟩ : Option Addr), n1 + 33, n1 + 33), (A3, n3, c3), (A4, n4, c4), ((some ⟨w4.heap.size, 0, none⟩ : Option Addr), n3 + 33, n3 + 33), (A6, n6, c6), (A7, n7, c7)]) := by
    refine dist_of (six w1.heap.size w2.heap.size w3.heap.size w4.heap.size w5.heap.size w6.heap.size w7.heap.size) ?_ ?_
    · intro j
      match j with
      | 0 => exact hs2
      | 1 => exact hs3
      | 2 => exact hs4
      | 3 => exact hs5
      | 4 => exact hs6
      | 5 => exact hs7
      | (j + 6) => exact Nat.le_refl _
    · intro j B m d he b hb
      match j, he with
      | 0, he =>
        simp only [List.getElem?_cons_zero, Option.some.injEq, Prod.mk.injEq] at he
        obtain ⟨rfl, rfl, rfl⟩ := he
        exact HRF.out b hb
      | 1, he =>
        simp only [List.getElem?_cons_succ, List.getElem?_cons_zero, Option.some.injEq, Prod.mk.injEq] at he
        obtain ⟨rfl, rfl, rfl⟩ := he
        exact HR3.out b hb
      | 2, he =>
        simp only [List.getElem?_cons_succ, List.getElem?_cons_zero, Option.some.injEq, Prod.mk.injEq] at he
        obtain ⟨rfl, rfl, rfl⟩ := he
        exact HR4.out b hb
      | 3, he =>
        simp only [List.getElem?_cons_succ, List.getElem?_cons_zero, Option.some.injEq, Prod.mk.injEq] at he
        obtain ⟨rfl, rfl, rfl⟩ := he
        exact HR5.out b hb
      | 4, he =>
        simp only [List.getElem?_cons_succ, List.getElem?_cons_zero, Option.some.injEq, Prod.mk.injEq] at he
        obtain ⟨rfl, rfl, rfl⟩ := he
        exact HR6.out b hb
      | 5, he =>
        simp only [List.getElem?_cons_succ, List.getElem?_cons_zero, Option.some.injEq, Prod.mk.injEq] at he
        obtain ⟨rfl, rfl, rfl⟩ := he
        exact HR7.out b hb
      | (j + 6), he => simp at he
  have HOW : Hid (∀ (j : Nat) (B : Option Addr) (m d : Nat), [((some ⟨w1.heap.size, 0, none⟩ : Option Addr), n1 + 33, n1 + 33), (A3, n3, c3), (A4, n4, c4), ((some ⟨w4.heap.size, 0, none⟩ : Option Addr), n3 + 33, n3 + 33), (A6, n6, c6), (A7, n7, c7)][j]? = some (B, m, d) → (∃ ys, Own (w11.alloc (.cells #[.slice (some ⟨w1.heap.size, 0, none⟩) (n1 + 33) (n1 + 33), .slice A3 n3 c3, .slice A4 n4 c4, .slice (some ⟨w4.heap.size, 0, none⟩) (n3 + 33) (n3 + 33), .slice A6 n6 c6, .slice A7 n7 c7] 28)) w1.heap.size 5 B m d (By ys) ∧ Ran ys) ∧ m ≤ 1000000000) := by
    intro j B m d he
    match j, he with
    | 0, he =>
      simp only [List.getElem?_cons_zero, Option.some.injEq, Prod.mk.injEq] at he
      obtain ⟨rfl, rfl, rfl⟩ := he
      exact ⟨⟨_, hoFx.alloc _, sp_ran hur⟩, by omega⟩
    | 1, he =>
      simp only [List.getElem?_cons_succ, List.getElem?_cons_zero, Option.some.injEq, Prod.mk.injEq] at he
      obtain ⟨rfl, rfl, rfl⟩ := he
      exact ⟨⟨_, ho3x.alloc _, HRR.out⟩, by omega⟩
    | 2, he =>
      simp only [List.getElem?_cons_succ, List.getElem?_cons_zero, Option.some.injEq, Prod.mk.injEq] at he
      obtain ⟨rfl, rfl, rfl⟩ := he
      exact ⟨⟨_, ho4x.alloc _, HRR.out⟩, by omega⟩
    | 3, he =>
      simp only [List.getElem?_cons_succ, List.getElem?_cons_zero, Option.some.injEq, Prod.mk.injEq] at he
      obtain ⟨rfl, rfl, rfl⟩ := he
      exact ⟨⟨_, hoSx.alloc _, sp_ran HRR.out⟩, by omega⟩
    | 4, he =>
      simp only [List.getElem?_cons_succ, List.getElem?_cons_zero, Option.some.injEq, Prod.mk.injEq] at he
      obtain ⟨rfl, rfl, rfl⟩ := he
      exact ⟨⟨_, ho6x.alloc _, hur⟩, by omega⟩
    | 5, he =>
      simp only [List.getElem?_cons_succ, List.getElem?_cons_zero, Option.some.injEq, Prod.mk.injEq] at he
      obtain ⟨rfl, rfl, rfl⟩ := he
      exact ⟨⟨_, ho7x.alloc _, hur⟩, by omega⟩
    | (j + 6), he => simp at he
  have hbase : w1.heap.size ≤ (w11.alloc (.cells #[.slice (some ⟨w1.heap.size, 0, none⟩) (n1 + 33) (n1 + 33), .slice A3 n3 c3, .slice A4 n4 c4, .slice (some ⟨w4.heap.size, 0, none⟩) (n3 + 33) (n3 + 33), .slice A6 n6 c6, .slice A7 n7 c7] 28)).heap.size := by simp; omega
  clear hoFx ho3x ho4x hoSx ho6x ho7x HRF HR3 HR4 HR5 HR6 HR7 hbx hba
  go_wp2_with fail
  refine (apart_any w11.heap.size 6 w1.heap.size _ _ hHd rfl (by omega) HOW.out HDI.out hbase).mono ?_
  rintro e w12 ⟨rfl, hb12⟩
  have hbe := hbal.trans (hb12.mono hs1)
  clear HOW HDI hHd hbal hb12 hbase
  go_wp2
  go_ret
  exact ⟨rfl, hbe⟩
end Go.Proofs.YtmckgdjipkkklaaDoor
