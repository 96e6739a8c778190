/- VaultKeeps, walked. -/
import Derived.Test.YtlphlogliphhdaaDoorAwakeW
import Derived.Test.YtlphlogliphhdaaDoorListV
import Derived.Test.YtlphlogliphhdaaDoorOverW
import Derived.Test.YtlphlogliphhdaaDoorKeptW
import Derived.Test.YtlphlogliphhdaaDoorApartW
namespace Go.Proofs.YtlphlogliphhdaaDoor
set_option linter.unusedVariables false
set_option linter.unusedSimpArgs false
open Go.RowKit Go.Maps
open Go.Proofs (encStr)

theorem Own.same {w w' : World} {base n c : Nat} {e : TypeId} {A : Option Addr} {vs : List Value} (h : Own w base e A n c vs) (hk : ∀ k, blk A = some k → w'.heap[k]? = w.heap[k]?) : Own w' base e A n c vs := by
  refine ⟨h.1, ?_⟩
  rcases h.2 with h2 | ⟨g, cap, cur, hvv, hg, hh, r⟩
  · exact .inl h2
  · refine .inr ⟨g, cap, cur, hvv, hg, ?_, r⟩
    have hA : A = some ⟨g, 0, none⟩ := by injection hvv
    rw [hk g (by rw [hA]; rfl)]; exact hh
theorem dist3 {a b : Nat} {A B C : Option Addr} {n1 n2 n3 c1 c2 c3 : Nat} (h1 : ∀ g, blk A = some g → g < a) (h2 : ∀ g, blk B = some g → a ≤ g ∧ g < b) (h3 : ∀ g, blk C = some g → b ≤ g) (hab : a ≤ b) :
    Dist [(A, n1, c1), (B, n2, c2), (C, n3, c3)] := by
  have key : ∀ {X Y : Option Addr} {m : Nat}, (∀ g, blk X = some g → g < m) → (∀ g, blk Y = some g → m ≤ g) → blk X = none ∨ blk X ≠ blk Y := by
    intro X Y m hx hy
    cases hX : blk X with
    | none => exact .inl rfl
    | some g =>
      right
      intro e
      have := hx g hX
      have := hy g e.symm
      omega
  have key2 : ∀ {X Y : Option Addr} {m : Nat}, (∀ g, blk X = some g → m ≤ g) → (∀ g, blk Y = some g → g < m) → blk X = none ∨ blk X ≠ blk Y := by
    intro X Y m hx hy
    cases hX : blk X with
    | none => exact .inl rfl
    | some g =>
      right
      intro e
      have := hx g hX
      have := hy g e.symm
      omega
  intro i j X n d Y m f hi hj hne
  match i, j, hi, hj, hne with
  | 0, 0, _, _, h => exact (h rfl).elim
  | 0, 1, hi, hj, _ => simp at hi hj; obtain ⟨rfl, _, _⟩ := hi; obtain ⟨rfl, _, _⟩ := hj; exact key h1 (fun g hg => (h2 g hg).1)
  | 0, 2, hi, hj, _ => simp at hi hj; obtain ⟨rfl, _, _⟩ := hi; obtain ⟨rfl, _, _⟩ := hj; exact key h1 (fun g hg => by have := h3 g hg; omega)
  | 1, 0, hi, hj, _ => simp at hi hj; obtain ⟨rfl, _, _⟩ := hi; obtain ⟨rfl, _, _⟩ := hj; exact key2 (fun g hg => (h2 g hg).1) h1
  | 1, 1, _, _, h => exact (h rfl).elim
  | 1, 2, hi, hj, _ => simp at hi hj; obtain ⟨rfl, _, _⟩ := hi; obtain ⟨rfl, _, _⟩ := hj; exact key (fun g hg => (h2 g hg).2) h3
  | 2, 0, hi, hj, _ => simp at hi hj; obtain ⟨rfl, _, _⟩ := hi; obtain ⟨rfl, _, _⟩ := hj; exact key2 (fun g hg => by have := h3 g hg; omega) h1
  | 2, 1, hi, hj, _ => simp at hi hj; obtain ⟨rfl, _, _⟩ := hi; obtain ⟨rfl, _, _⟩ := hj; exact key2 h3 (fun g hg => (h2 g hg).2)
  | 2, 2, _, _, h => exact (h rfl).elim
  | (i + 3), _, hi, _, _ => simp at hi
  | _, (j + 3), _, hj, _ => simp at hj

theorem lst_one (S : ByteArray) (xs : List Int) (PF : ByteArray) (h : Lib.hasPrefix S.data.toList PF.data.toList = true) : lst [(S, xs)] PF.data.toList = [S.data.toList] := by
  simp [lst, nam, h]
theorem pfx_nil (l : List UInt8) : Lib.hasPrefix l (⟨#[]⟩ : ByteArray).data.toList = true := by simp [Lib.hasPrefix]

set_option maxRecDepth 100000 in
set_option maxHeartbeats 2000000 in
theorem keeps_walk (A : Option Addr) (n c : Nat) (xs : List Int) (w : World) (hx : Bs w A n xs) (ht : Tz w) :
    Calls Tryd.prog 6 #[.slice A n c] w fun e w' => e = .returned (.bool true) ∧ Below w.heap.size w w' := by
  obtain ⟨S, hS⟩ : ∃ S : ByteArray, S = ⟨#[97]⟩ := ⟨_, rfl⟩
  have HSz : Box (S.size ≤ maxLen) := ⟨by
    have h1 : (⟨#[97]⟩ : ByteArray).size = 1 := rfl
    rw [hS, h1]; unfold maxLen; omega⟩
  have HX := Lib.hid hx
  have HXR := Lib.hid hx.2
  have HXL := Lib.hid hx.len
  go_enter Tryd.func6, Tryd.ntmps6
  go_wp2_with fail
  refine (awake_any w ht).mono ?_
  rintro e w1 ⟨rfl, hb1⟩
  have hx1 := hx.keep hb1
  have HS1 := Lib.hid hb1.size
  clear hx ht
  by_cases hbig : 10000 < n
  · go_wp2
    go_ret
    exact ⟨rfl, hb1⟩
  · have hn : n ≤ 10000 := by omega
    have HB1 := Lib.hid hb1
    have hb2 := below_alloc w1 (.cells #[.map none] 26)
    have hv2 := Vt.new w1 (fun i => w1.heap.size ≤ i ∧ i ≠ w1.heap.size + 1) ⟨Nat.le_refl _, by omega⟩
    have HSA : Hid ((w1.alloc (.cells #[.map none] 26)).heap.size = w1.heap.size + 1) := by show _ = _; simp
    have hx2 := hx1.keep hb2
    clear hb1 hx1 hbig
    go_wp2_with fail
    refine (new_any w1).mono ?_
    rintro e w' ⟨rfl, rfl⟩
    generalize w1.alloc (.cells #[.map none] 26) = w2 at *
    obtain ⟨p, hp⟩ : ∃ p, w1.heap.size = p := ⟨_, rfl⟩
    rw [hp] at hv2 HSA
    have HP := Lib.hid hp
    have HB2 : Hid (Below w1.heap.size w1 w2) := hb2
    rw [hp] at hb2 ⊢
    clear hp hb2
    go_wp2_with fail
    refine (spare_any A n c xs w2 hx2 (by omega)).mono ?_
    rintro e w3 ⟨rfl, hoF, hb3⟩
    have hx3 := hx2.keep hb3
    have hv3 := hv2.below hb3
    obtain ⟨g, hg⟩ : ∃ g, w2.heap.size = g := ⟨_, rfl⟩
    have HG : Hid (g = p + 1) := hg.symm.trans HSA.out
    have HB3 := Lib.hid hb3
    have HG2 := Lib.hid hg
    rw [hg] at hoF hb3 ⊢
    have hgl := (hoF.lies g rfl).2
    have HGL := Lib.hid hgl
    have hxx : Bs w3 (some ⟨g, 0, none⟩) n xs := by
      have h := (hoF.pre (m := n) (by omega))
      rw [By_take, show (sp xs).take n = xs by rw [← HXL.out]; exact sp_take xs] at h
      exact h.bs HXR.out
    have hv3' : Vt w3 (fun i => p ≤ i ∧ i ≠ g) p [] := hv3.imp (fun i _ h => ⟨h.1, by rw [HG.out]; exact h.2⟩)
    clear hx2 hv2 hv3 hg hb3 hgl
    have hnew : ∀ i, w3.heap.size ≤ i → (p ≤ i ∧ i ≠ g) := fun i hi => by have := HGL.out; have := HG.out; omega
    have hput := put_any p [] (fun i => p ≤ i ∧ i ≠ g) S (some ⟨g, 0, none⟩) n (n + 33) p xs w3 hv3' HSz.out hxx (by omega) (by decide) hnew (fun i hi => hi.1)
    clear hnew hv3' hxx
    go_wp2_with fail
    rw [← hS]
    refine hput.mono ?_
    rintro e w4 ⟨k, L', rfl, hR, hv4, hf4, hb4⟩
    obtain ⟨rfl, rfl⟩ := put_first hR
    have HWP : Hid (w.heap.size ≤ p) := by show _ ≤ _; have := HS1.out; have := HP.out; omega
    have HB4 : Hid (Below w.heap.size w w4) := by
      have e1 := HB2.out.mono (show w.heap.size ≤ w1.heap.size from HS1.out)
      have e2 := HB3.out.mono (show w.heap.size ≤ w2.heap.size by have := HSA.out; have := HWP.out; omega)
      exact ((HB1.out.trans e1).trans e2).trans (hb4.mono HWP.out)
    have hoF4 := hoF.vfr hf4 (fun e => absurd (show g = p by injection e) (by have := HG.out; omega))
    have hx4 := HX.out.keep HB4.out
    have hbF4 := hoF4.bs (sp_ran HXR.out)
    have HO4 := Lib.hid hoF4
    have HV4 := Lib.hid hv4
    clear hput hR hf4 hb4 hx3 hoF hoF4 hv4 HB2 HB3
    go_wp2_with fail
    refine (kept_any _ _ n _ _ xs _ hbF4 hx4 (by omega)).mono ?_
    rintro e w5 ⟨rfl, hd5⟩
    have hoF5 := HO4.out.below (hd5.below w4.heap.size) (fun k hk => (HO4.out.lies k hk).2)
    have HV5 : Hid (Vt w5 (fun i => p ≤ i ∧ i ≠ g) p [(S, xs)]) := HV4.out.below (hd5.below _)
    have HB5 : Hid (Below w.heap.size w w5) := HB4.out.trans (hd5.below _)
    clear hbF4 hx4 hd5
    go_wp2_with fail
    refine (over_any g n (n + 33) (n + 33) (n + 33) g (sp xs) w5 hoF5 (sp_ran HXR.out) (by omega) (by omega)).mono ?_
    rintro e w6 ⟨rfl, zs, hoF6, hrz, hon6⟩
    have hv6 : Vt w6 (fun i => p ≤ i ∧ i ≠ g) p [(S, xs)] := HV5.out.onl hon6 (fun h => h.2 rfl)
    have HB6 : Hid (Below w.heap.size w w6) := HB5.out.trans ((hon6.below (by have := (hoF5.lies g rfl).2; omega)).mono (by have := HWP.out; have := HG.out; omega))
    have hv6' : Vt w6 (fun i => p ≤ i ∧ i ≠ g ∧ i < w6.heap.size) p [(S, xs)] := hv6.imp (fun i hi h => ⟨h.1, h.2, hi⟩)
    have HO6 := Lib.hid hoF6
    have HS6g : Hid (g < w6.heap.size) := (hoF6.lies g rfl).2
    have HRZ := Lib.hid hrz
    have hLl : ∀ q ∈ [(S, xs)], (q : ByteArray × List Int).2.length ≤ 140737488355328 := by
      intro q hq
      obtain rfl := List.mem_singleton.1 hq
      show xs.length ≤ _
      rw [HXL.out]; omega
    have HGET : Hid (∀ wk, Vt wk (fun i => p ≤ i ∧ i ≠ g ∧ i < w6.heap.size) p [(S, xs)] → Calls Tryd.prog 14 #[.pointer (some ⟨p, 0, none⟩), .string S] wk fun e w' => ∃ A1 c1, e = .returned (.tuple #[.slice A1 n c1, .int .i64 0]) ∧ Own w' wk.heap.size 5 A1 n c1 (By xs) ∧ Below wk.heap.size wk w') := fun wk hvk => by
      refine (get_any p [(S, xs)] _ S wk hvk HSz.out hLl).mono ?_
      rintro e w' ⟨⟨ys, A1, c1, hm, rfl, ho, hr⟩ | ⟨hno, _⟩, hb⟩
      · have hm2 := List.mem_singleton.1 hm
        injection hm2 with _ hm3
        subst hm3
        rw [HXL.out] at ho ⊢
        exact ⟨A1, c1, rfl, ho, hb⟩
      · exact (hno xs (by simp)).elim
    clear hoF5 HV4 HV5 HB4 HB5 HO4 hoF6 hrz hon6 hv6 hLl
    go_wp2_with fail
    rw [← hS]
    refine (HGET.out w6 hv6').mono ?_
    rintro e w7 ⟨A1, c1, rfl, ho1, hb7⟩
    have hv7 := hv6'.below hb7
    have HV6 := Lib.hid hv6'
    clear hv6'
    go_wp2_with fail
    rw [← hS]
    refine (HGET.out w7 hv7).mono ?_
    rintro e w8 ⟨A2, c2, rfl, ho2, hb8⟩
    have hv8 := hv7.below hb8
    have hlist := list_any p [(S, xs)] _ ⟨#[]⟩ w8 hv8 (by simp)
    rw [lst_one S xs ⟨#[]⟩ (pfx_nil _)] at hlist
    have HV8 := Lib.hid hv8
    have HB78 : Hid (Below w6.heap.size w6 w8) := hb7.trans (hb8.mono hb7.size)
    have HO1 : Hid (Own w8 w6.heap.size 5 A1 n c1 (By xs)) := ho1.below hb8 (fun k hk => (ho1.lies k hk).2)
    have HL1 : Hid (∀ k, blk A1 = some k → w6.heap.size ≤ k ∧ k < w7.heap.size) := fun k hk => ho1.lies k hk
    have HO2 := Lib.hid ho2
    have HL2 : Hid (∀ k, blk A2 = some k → w7.heap.size ≤ k ∧ k < w8.heap.size) := fun k hk => ho2.lies k hk
    have HS7 := Lib.hid hb7.size
    have HS8 := Lib.hid hb8.size
    clear hv7 hv8 ho1 ho2 hb7 hb8
    go_wp2_with fail
    refine hlist.mono ?_
    rintro e w9 ⟨AL, nL, cL, rfl, hnL, hoL, hb9⟩
    obtain rfl : nL = 1 := hnL
    have HB9 : Hid (Below w6.heap.size w6 w9) := HB78.out.trans (hb9.mono HB78.out.size)
    have HB9w : Hid (Below w.heap.size w w9) := HB6.out.trans (HB9.out.mono HB6.out.size)
    have ho19 := HO1.out.below hb9 (fun k hk => (HO1.out.lies k hk).2)
    have ho29 := HO2.out.below hb9 (fun k hk => (HO2.out.lies k hk).2)
    have hoF9 := HO6.out.below HB9.out (fun k hk => (HO6.out.lies k hk).2)
    have HV9 : Hid (Vt w9 _ p _) := HV8.out.below hb9
    have HOL := Lib.hid hoL
    have hx9 := HX.out.keep HB9w.out
    have hb19 := ho19.bs HXR.out
    have HO19 := Lib.hid ho19
    have HO29 := Lib.hid ho29
    have HOF9 := Lib.hid hoF9
    have HS9 := Lib.hid hb9.size
    clear hlist hoL hb9 ho19 ho29 hoF9 HO1 HO2 HV8 HO6 HB78
    go_wp2_with fail
    refine (equal_any _ _ n n _ _ xs xs _ hb19 hx9 (by unfold maxLen; omega) (by unfold maxLen; omega)).mono ?_
    rintro e w10 ⟨rfl, hd10⟩
    rw [show (cmpL xs xs == 0) = true by simp [cmpL_self]]
    have hbd := hd10.below w9.heap.size
    have hba := below_alloc w10 (.cells #[.slice (some ⟨g, 0, none⟩) (n + 33) (n + 33), .slice A1 n c1, .slice A2 n c2] 28)
    have hbb : Below w9.heap.size w9 (w10.alloc (.cells #[.slice (some ⟨g, 0, none⟩) (n + 33) (n + 33), .slice A1 n c1, .slice A2 n c2] 28)) := hbd.trans (hba.mono (Nat.le_of_eq hd10.size.symm))
    have HB11 := Lib.hid hbb
    have hHd : HdL (w10.alloc (.cells #[.slice (some ⟨g, 0, none⟩) (n + 33) (n + 33), .slice A1 n c1, .slice A2 n c2] 28)) w10.heap.size [(some ⟨g, 0, none⟩, n + 33, n + 33), (A1, n, c1), (A2, n, c2)] := ⟨_, _, heap_alloc_new w10 _, rfl⟩
    have o1 := HOF9.out.below hbb (fun k hk => (HOF9.out.lies k hk).2)
    have o2 := HO19.out.below hbb (fun k hk => (HO19.out.lies k hk).2)
    have o3 := HO29.out.below hbb (fun k hk => (HO29.out.lies k hk).2)
    have HDI : Hid (Dist [((some ⟨g, 0, none⟩ : Option Addr), n + 33, n + 33), (A1, n, c1), (A2, n, c2)]) :=
      dist3 (a := w6.heap.size) (b := w7.heap.size) (fun k hk => (show g = k by injection hk) ▸ HS6g.out) HL1.out (fun k hk => (HO29.out.lies k hk).1) HS7.out
    have HOW : Hid (∀ (j : Nat) (B : Option Addr) (m d : Nat), [((some ⟨g, 0, none⟩ : Option Addr), n + 33, n + 33), (A1, n, c1), (A2, n, c2)][j]? = some (B, m, d) → (∃ ys, Own (w10.alloc (.cells #[.slice (some ⟨g, 0, none⟩) (n + 33) (n + 33), .slice A1 n c1, .slice A2 n c2] 28)) g 5 B m d (By ys) ∧ Ran ys) ∧ m ≤ 1000000000) := by
      intro j B m d he
      match j, he with
      | 0, he =>
        simp only [List.getElem?_cons_zero, Option.some.injEq, Prod.mk.injEq] at he
        obtain ⟨rfl, rfl, rfl⟩ := he
        exact ⟨⟨_, o1, HRZ.out⟩, by omega⟩
      | 1, he =>
        simp only [List.getElem?_cons_succ, List.getElem?_cons_zero, Option.some.injEq, Prod.mk.injEq] at he
        obtain ⟨rfl, rfl, rfl⟩ := he
        exact ⟨⟨_, o2.mono (by have := HS6g.out; omega), HXR.out⟩, by omega⟩
      | 2, he =>
        simp only [List.getElem?_cons_succ, List.getElem?_cons_zero, Option.some.injEq, Prod.mk.injEq] at he
        obtain ⟨rfl, rfl, rfl⟩ := he
        exact ⟨⟨_, o3.mono (by have := HS6g.out; have := HS7.out; omega), HXR.out⟩, by omega⟩
      | (j + 3), he => simp at he
    clear o1 o2 o3 hba hbd hbb hb19 hx9
    go_wp2_with fail
    generalize hw11 : w10.alloc (.cells #[.slice (some ⟨g, 0, none⟩) (n + 33) (n + 33), .slice A1 n c1, .slice A2 n c2] 28) = w11 at *
    refine (apart_any w10.heap.size 3 g _ w11 hHd rfl (by omega) HOW.out HDI.out (by have := HB11.out.size; have := HB9.out.size; have := HS6g.out; omega)).mono ?_
    rintro e w12 ⟨rfl, hfr⟩
    have HNE : Hid (∀ i, (i < w6.heap.size ∧ i ≠ g ∨ w8.heap.size ≤ i) → ∀ (j : Nat) (B : Option Addr) (m d : Nat), [((some ⟨g, 0, none⟩ : Option Addr), n + 33, n + 33), (A1, n, c1), (A2, n, c2)][j]? = some (B, m, d) → blk B ≠ some i) := by
      intro i hi j B m d he hb
      have h6 := HS6g.out
      have h7 := HS7.out
      have h8 := HS8.out
      match j, he with
      | 0, he =>
        simp only [List.getElem?_cons_zero, Option.some.injEq, Prod.mk.injEq] at he
        obtain ⟨rfl, rfl, rfl⟩ := he
        have e : g = i := by injection hb
        omega
      | 1, he =>
        simp only [List.getElem?_cons_succ, List.getElem?_cons_zero, Option.some.injEq, Prod.mk.injEq] at he
        obtain ⟨rfl, rfl, rfl⟩ := he
        have := HL1.out i hb
        omega
      | 2, he =>
        simp only [List.getElem?_cons_succ, List.getElem?_cons_zero, Option.some.injEq, Prod.mk.injEq] at he
        obtain ⟨rfl, rfl, rfl⟩ := he
        have := HL2.out i hb
        omega
      | (j + 3), he => simp at he
    have HB12 : Hid (Below w.heap.size w w12) := by
      have h1 := HWP.out
      have h2 := HG.out
      have h3 := HB9w.out.size
      exact (HB9w.out.trans (HB11.out.mono h3)).trans (hfr.b.mono (by omega))
    have hv11 := HV9.out.below HB11.out
    have HV12 : Hid (Vt w12 (fun i => p ≤ i ∧ i ≠ g ∧ i < w6.heap.size) p [(S, xs)]) := hv11.keep (fun i hi h => hfr.o i hi (HNE.out i (.inl ⟨h.2.2, h.2.1⟩)))
    have hoL11 := HOL.out.below HB11.out (fun k hk => (HOL.out.lies k hk).2)
    have hoL12 : Own w12 w8.heap.size 9 AL 1 cL (Sv [S.data.toList]) := hoL11.same (fun k hk => hfr.o k (hoL11.lies k hk).2 (HNE.out k (.inr (hoL11.lies k hk).1)))
    obtain ⟨gl, capl, hvl, hgllo, hgllt⟩ := World.ownsRow.form hoL12 (by omega)
    obtain rfl : AL = some ⟨gl, 0, none⟩ := by injection hvl
    have hcl : w12.cell? ⟨gl, 0, none⟩ = some (encStr S.data.toList) := by rw [World.ownsRow.cellAt hoL12 0 (by omega)]; rfl
    have hfl : w12.frozen? ⟨gl, 0, none⟩ = false := World.ownsRow.frozenAt hoL12 0
    have hon13 := onl_set w12 gl 0 (.string ⟨#[122]⟩)
    have HV13 : Hid (Vt (w12.setCell ⟨gl, 0, none⟩ (.string ⟨#[122]⟩)) (fun i => p ≤ i ∧ i ≠ g ∧ i < w6.heap.size) p [(S, xs)]) := HV12.out.onl hon13 (fun h => by
      have h7 := HS7.out
      have h8 := HS8.out
      omega)
    have HB13 : Hid (Below w.heap.size w (w12.setCell ⟨gl, 0, none⟩ (.string ⟨#[122]⟩))) := by
      have h1 := HB6.out.size
      have h7 := HS7.out
      have h8 := HS8.out
      exact HB12.out.setCell (by show w.heap.size ≤ gl; omega) _
    have hg3 := HGET.out _ HV13.out
    clear hfr hHd hw11 hv11 hoL11 hoL12 hvl HDI HOW HNE HV12 HB12 HB11 HOL HL1 HL2 HV9 HB9 HB9w HO19 HO29 HOF9 hd10
    go_wp2_with fail
    rw [← hS]
    refine hg3.mono ?_
    rintro e w14 ⟨A3, c3, rfl, ho3, hb14⟩
    generalize hw13 : w12.setCell ⟨gl, 0, none⟩ (.string ⟨#[122]⟩) = w13 at *
    have hv14 := HV13.out.below hb14
    have HB14 : Hid (Below w.heap.size w w14) := HB13.out.trans (hb14.mono HB13.out.size)
    have hx14 := HX.out.keep HB14.out
    have hb34 := ho3.bs HXR.out
    have HV14 := Lib.hid hv14
    clear hg3 hw13 hon13 hcl hfl HB13 HV13 ho3 hb14 hv14
    go_wp2_with fail
    refine (equal_any _ _ n n _ _ xs xs _ hb34 hx14 (by unfold maxLen; omega) (by unfold maxLen; omega)).mono ?_
    rintro e w15 ⟨rfl, hd15⟩
    rw [show (cmpL xs xs == 0) = true by simp [cmpL_self]]
    have hlist := list_any p [(S, xs)] _ ⟨#[]⟩ w15 (HV14.out.below (hd15.below _)) (by simp)
    rw [lst_one S xs ⟨#[]⟩ (pfx_nil _)] at hlist
    have HB15 : Hid (Below w.heap.size w w15) := HB14.out.trans (hd15.below _)
    clear hb34 hx14 hd15
    go_wp2_with fail
    refine hlist.mono ?_
    rintro e w16 ⟨AL2, nL, cL2, rfl, hnL, hoL, hb16⟩
    obtain rfl : nL = 1 := hnL
    have HB16 := HB15.out.trans (hb16.mono HB15.out.size)
    obtain ⟨gl2, capl2, hvl, hgllo2, hgllt2⟩ := World.ownsRow.form hoL (by omega)
    obtain rfl : AL2 = some ⟨gl2, 0, none⟩ := by injection hvl
    have hcl2 : w16.cell? ⟨gl2, 0, none⟩ = some (.string S) := by rw [World.ownsRow.cellAt hoL 0 (by omega)]; rfl
    have hse : (S.toList == (⟨#[97]⟩ : ByteArray).toList) = true := by rw [hS]; simp
    have hse2 : (S.toList == [97]) = true := by rw [hS, ByteArray.toList_eq]; rfl
    clear hoL hvl hb16 hlist hS
    go_wp2
    go_ret
    exact ⟨rfl, HB16⟩
end Go.Proofs.YtlphlogliphhdaaDoor
