/- PackKeeps: the walk. -/
import Derived.Test.YtdlbghjclcdfmaaSplit2
import Derived.Test.YtdlbghjclcdfmaaKeptW
import Derived.Test.YtdlbghjclcdfmaaApartW
import Derived.Test.YtdlbghjclcdfmaaAwake
namespace Go.Proofs.Ytdlbghjclcdfmaa
set_option linter.unusedVariables false
set_option linter.unusedSimpArgs false
open Go.RowKit

theorem bsP_of {w : World} {Pd : Nat → Prop} {A : Option Addr} {n : Nat} {xs : List Int} (h : Bs w A n xs) (hP : ∀ b, blk A = some b → Pd b) : BsP w Pd A n xs :=
  ⟨⟨h.1.1, fun hn => by
    obtain ⟨b, off, hA, hb, hc⟩ := h.1.2 hn
    exact ⟨b, off, hA, hP b (by rw [hA]; rfl), hc⟩⟩, h.2⟩
theorem bssP_two {w : World} {Pd : Nat → Prop} {A B : Option Addr} {n c m d : Nat} {xs ys : List Int} (hA : BsP w Pd A n xs) (hc : n ≤ c) (hB : BsP w Pd B m ys) (hd : m ≤ d) (hP : ∀ b, Pd b → b < w.heap.size) :
    BssP (w.alloc (.cells #[.slice A n c, .slice B m d] 23)) (fun b => Pd b ∨ b = w.heap.size) (some ⟨w.heap.size, 0, none⟩) 2 [xs, ys] := by
  have hl := hA.bs.len
  have kl := hB.bs.len
  subst hl; subst kl
  refine ⟨rfl, [.slice A xs.length c, .slice B ys.length d], ⟨rfl, fun _ => ⟨w.heap.size, 0, rfl, .inr rfl, fun j u hu => ?_⟩⟩, fun i v zs hv hy => ?_⟩
  · obtain ⟨b, off, hA, _, hc⟩ := (Rd.of_block (cs := #[.slice A xs.length c, .slice B ys.length d]) (heap_alloc_new w (.cells #[.slice A xs.length c, .slice B ys.length d] 23)) rfl).2 (by omega)
    injection hA with hA; injection hA with h1 h2; subst h1; subst h2
    exact hc j u hu
  · match i, hv, hy with
    | 0, hv, hy =>
      simp only [List.getElem?_cons_zero, Option.some.injEq] at hv hy
      subst hv; subst hy
      exact ⟨A, c, rfl, (hA.keep (fun b hb => (below_alloc w _).block b (hP b hb))).imp (fun b hb => .inl hb), hc⟩
    | 1, hv, hy =>
      simp only [List.getElem?_cons_succ, List.getElem?_cons_zero, Option.some.injEq] at hv hy
      subst hv; subst hy
      exact ⟨B, d, rfl, (hB.keep (fun b hb => (below_alloc w _).block b (hP b hb))).imp (fun b hb => .inl hb), hd⟩
theorem Wtr.onl {w w' : World} {g r : Nat} {A : Option Addr} {n c : Nat} {xs : List Int} (h : Wtr w g A n c xs) (ho : Onl r w w') (h1 : g ≠ r) (h2 : blk A ≠ some r) : Wtr w' g A n c xs :=
  ⟨(ho.block g h.lt (fun e => h1 (by injection e))).trans h.1, h.2.onl ho h2⟩
theorem Wtr.dr {w w' : World} {g : Nat} {A : Option Addr} {n c : Nat} {xs : List Int} (h : Wtr w g A n c xs) (hd : Dr w w') : Wtr w' g A n c xs := by
  obtain ⟨q, rfl⟩ := hd
  exact h
theorem cell_only {w w' : World} {g b i : Nat} (h : Onl g w w') (hb : b < w.heap.size) (hne : b ≠ g) : w'.cell? ⟨b, i, none⟩ = w.cell? ⟨b, i, none⟩ :=
  World.cell?_of_block (a := ⟨b, i, none⟩) (h.block b hb (fun e => hne (by injection e)))
theorem dr_cell {w w' : World} (h : Dr w w') (a : Addr) : w'.cell? a = w.cell? a := by obtain ⟨q, rfl⟩ := h; rfl
theorem dist_of {ent : List Tr} (f : Nat → Nat) (hf : ∀ j, f j ≤ f (j + 1)) (h : ∀ (j : Nat) (A : Option Addr) (n c : Nat), ent[j]? = some (A, n, c) → ∀ b, blk A = some b → f j ≤ b ∧ b < f (j + 1)) : Dist ent := by
  have mono : ∀ i d, f i ≤ f (i + d) := by
    intro i d
    induction d with
    | zero => exact Nat.le_refl _
    | succ d ih => exact Nat.le_trans ih (hf (i + d))
  intro i j A n c B m d hi hj hne
  cases hA : blk A with
  | none => exact .inl rfl
  | some b =>
    right
    intro e
    have h1 := h i A n c hi b hA
    have h2 := h j B m d hj b e.symm
    rcases Nat.lt_or_ge i j with hlt | hge
    · have := mono (i + 1) (j - (i + 1))
      rw [show i + 1 + (j - (i + 1)) = j by omega] at this
      omega
    · have := mono (j + 1) (i - (j + 1))
      rw [show j + 1 + (i - (j + 1)) = i by omega] at this
      omega
def ten (a b c d e f g h i j k : Nat) : Nat → Nat
  | 0 => a | 1 => b | 2 => c | 3 => d | 4 => e | 5 => f | 6 => g | 7 => h | 8 => i | 9 => j | _ => k

set_option maxRecDepth 100000 in
set_option maxHeartbeats 4000000 in
theorem keeps_walk (A B : Option Addr) (n m c d : Nat) (xs ys : List Int) (w : World) (hx : Bs w A n xs) (hy : Bs w B m ys) (hn : n ≤ 1048576) (hm : m ≤ 1048576) :
    Calls Try.prog 8 #[.slice A n c, .slice B m d] w fun e w' => e = .returned (.bool true) ∧ Below w.heap.size w w' := by
  obtain ⟨i0, hi, hz0, hz1, hz2⟩ := info_parts info5
  have HXL := Lib.hid hx.len
  have HYL := Lib.hid hy.len
  have hxr := hx.2
  have hyr := hy.2
  have HTR := Lib.hid (texts_ran [xs, ys] (fun z hz => by
    simp only [List.mem_cons, List.not_mem_nil, or_false] at hz
    rcases hz with rfl | rfl
    · exact hxr
    · exact hyr))
  have HJR := Lib.hid (show Ran (joinL [xs, ys]) from (num_ran _ (by omega)).append HTR.out)
  have HR0 := Lib.hid (show Ran (xs ++ [0]) from hxr.append (fun x hx => by obtain rfl := List.mem_singleton.1 hx; omega))
  have HT1 := Lib.hid (textS_two xs ys (by rw [HXL.out]; omega))
  have HT2 := Lib.hid (textS_one ys (by rw [HYL.out]; omega))
  obtain ⟨q1, hq1⟩ : ∃ q, (num (n : Int)).length = q := ⟨_, rfl⟩
  obtain ⟨q2, hq2⟩ : ∃ q, (num (m : Int)).length = q := ⟨_, rfl⟩
  have h91 : q1 ≤ 9 := by rw [← hq1]; exact num_le _
  have h92 : q2 ≤ 9 := by rw [← hq2]; exact num_le _
  have HQ1 := Lib.hid hq1; clear hq1
  have HQ2 := Lib.hid hq2; clear hq2
  have HTE : Hid (texts [xs, ys] = num (n : Int) ++ xs ++ num (m : Int) ++ ys) := by
    show _ = _
    rw [texts_two, texts_one, HXL.out, HYL.out]; simp
  have htn : (texts [xs, ys]).length ≤ 2097170 := by
    rw [HTE.out]; simp only [List.length_append]; rw [HQ1.out, HQ2.out, HXL.out, HYL.out]; omega
  have htn1 : (texts [ys]).length ≤ 2097170 := by
    rw [texts_one]; simp only [List.length_append, List.length_nil]; rw [HYL.out, HQ2.out]; omega
  have hjn : (joinL [xs, ys]).length ≤ 2097180 := by
    have e : (joinL [xs, ys]).length = (num 2).length + (texts [xs, ys]).length := by simp [joinL]
    have := num_le 2
    omega
  have HTN := Lib.hid htn; have HTN1 := Lib.hid htn1; have HJN := Lib.hid hjn; clear htn htn1 hjn
  go_enter Try.func8, Try.ntmps8
  go_wp2_with fail
  refine (awake_any _).mono ?_
  rintro e w1 ⟨rfl, hb1⟩
  have hs1 := hb1.size
  go_wp2_with fail
  refine (spare_any A n c xs _ (hx.keep hb1) (by omega)).mono ?_
  rintro e w2 ⟨rfl, hoX, hb2⟩
  have hs2 := hb2.size
  have hb02 := hb1.trans (hb2.mono hs1)
  go_wp2_with fail
  refine (spare_any B m d ys _ (hy.keep hb02) (by omega)).mono ?_
  rintro e w3 ⟨rfl, hoY, hb3⟩
  have hs3 := hb3.size
  have HRX : Hid (∀ b, blk (some ⟨w1.heap.size, 0, none⟩ : Option Addr) = some b → w1.heap.size ≤ b ∧ b < w2.heap.size) := fun b hb => hoX.lies b hb
  have HRY : Hid (∀ b, blk (some ⟨w2.heap.size, 0, none⟩ : Option Addr) = some b → w2.heap.size ≤ b ∧ b < w3.heap.size) := fun b hb => hoY.lies b hb
  replace hoX := K5.below hb3 _ _ _ _ hoX
  replace hoY := hoY.mono hs2
  have hb03 := hb02.trans (hb3.mono (Nat.le_trans hs1 hs2))
  have hs03 := hb03.size
  clear hb1 hb2 hb02 hb3
  have HPX : Hid (∀ (W : World), Own W w1.heap.size 5 (some ⟨w1.heap.size, 0, none⟩) (n + 33) (n + 33) (By (sp xs)) → Bs W (some ⟨w1.heap.size, 0, none⟩) n xs) := by
    intro W h
    have h' := h.pre (m := n) (by omega)
    rw [By_take, show (sp xs).take n = xs by rw [← HXL.out]; exact sp_take xs] at h'
    exact h'.bs hxr
  have HPY : Hid (∀ (W : World), Own W w1.heap.size 5 (some ⟨w2.heap.size, 0, none⟩) (m + 33) (m + 33) (By (sp ys)) → Bs W (some ⟨w2.heap.size, 0, none⟩) m ys) := by
    intro W h
    have h' := h.pre (m := m) (by omega)
    rw [By_take, show (sp ys).take m = ys by rw [← HYL.out]; exact sp_take ys] at h'
    exact h'.bs hyr
  have hba := below_alloc w3 (.cells #[.slice none 0 0] 48)
  have hbb := below_alloc (w3.alloc (.cells #[.slice none 0 0] 48)) (.cells #[.slice (some ⟨w1.heap.size, 0, none⟩) n (n + 33), .slice (some ⟨w2.heap.size, 0, none⟩) m (m + 33)] 23)
  have hsa : (w3.alloc (.cells #[.slice none 0 0] 48)).heap.size = w3.heap.size + 1 := by simp
  have hsb : ((w3.alloc (.cells #[.slice none 0 0] 48)).alloc (.cells #[.slice (some ⟨w1.heap.size, 0, none⟩) n (n + 33), .slice (some ⟨w2.heap.size, 0, none⟩) m (m + 33)] 23)).heap.size = w3.heap.size + 2 := by simp
  have hwt0 : Wtr (w3.alloc (.cells #[.slice none 0 0] 48)) w3.heap.size none 0 0 [] := ⟨heap_alloc_new w3 _, Own.nil_⟩
  have hwt : Wtr ((w3.alloc (.cells #[.slice none 0 0] 48)).alloc (.cells #[.slice (some ⟨w1.heap.size, 0, none⟩) n (n + 33), .slice (some ⟨w2.heap.size, 0, none⟩) m (m + 33)] 23)) w3.heap.size none 0 0 [] := hwt0.keep (B := 0) hbb
  have hPX : BsP (w3.alloc (.cells #[.slice none 0 0] 48)) (fun b => b < w3.heap.size) (some ⟨w1.heap.size, 0, none⟩) n xs := bsP_of ((HPX.out _ hoX).keep hba) (fun b hb => by have := (HRX.out b hb).2; omega)
  have hPY : BsP (w3.alloc (.cells #[.slice none 0 0] 48)) (fun b => b < w3.heap.size) (some ⟨w2.heap.size, 0, none⟩) m ys := bsP_of ((HPY.out _ hoY).keep hba) (fun b hb => (HRY.out b hb).2)
  have hbss := bssP_two (c := n + 33) (d := m + 33) hPX (by omega) hPY (by omega) (fun b hb => by rw [hsa]; omega)
  rw [hsa] at hbss
  have hk4 := (K5.below (base := w1.heap.size) hba).trans (K5.below hbb)
  have hb4b : Below w3.heap.size w3 ((w3.alloc (.cells #[.slice none 0 0] 48)).alloc (.cells #[.slice (some ⟨w1.heap.size, 0, none⟩) n (n + 33), .slice (some ⟨w2.heap.size, 0, none⟩) m (m + 33)] 23)) := hba.trans (hbb.mono (by rw [hsa]; omega))
  have HSB := Lib.hid hsb; clear hsa hsb hPX hPY hwt0 hba hbb
  go_wp2_with fail
  refine (wtext_any _ w3.heap.size none (some ⟨w3.heap.size + 1, 0, none⟩) 0 0 2 2 [] [xs, ys] _ hwt hbss (fun b hb => by rw [HSB.out]; omega) (by omega) (fun k hk => by cases hk) (by unfold maxLen; omega) (by have := HTN.out; omega)).mono ?_
  rintro e w4 ⟨AW, nW, cW, rfl, hnW, hwt4, hef4⟩
  rw [List.nil_append] at hnW hwt4
  have hol4 : Onl w3.heap.size ((w3.alloc (.cells #[.slice none 0 0] 48)).alloc (.cells #[.slice (some ⟨w1.heap.size, 0, none⟩) n (n + 33), .slice (some ⟨w2.heap.size, 0, none⟩) m (m + 33)] 23)) w4 := ⟨hef4.os, hef4.tape, hef4.output, hef4.size, fun b hb hne => hef4.block b hb (fun e => hne (by rw [e])) (fun e => by cases e)⟩
  have hkk4 := hk4.trans (K5.onl (base := w1.heap.size) hol4 hwt.1 (by decide))
  have hb4 : Below w3.heap.size w3 w4 := hb4b.trans (hol4.below (by rw [HSB.out]; omega))
  have hs4 : w3.heap.size + 2 ≤ w4.heap.size := by have := hol4.size; rw [HSB.out] at this; exact this
  have hnW' : nW ≤ 2097170 := by rw [hnW]; exact HTN.out
  have HNW := Lib.hid hnW; clear hnW
  have HRW : Hid (∀ b, blk AW = some b → w3.heap.size + 1 ≤ b ∧ b < w4.heap.size) := hwt4.behind
  replace hoX := hkk4 _ _ _ _ hoX
  replace hoY := hkk4 _ _ _ _ hoY
  have hb04 := hb03.trans (hb4.mono hs03)
  clear hk4 hkk4 hb4b hbss hwt hol4 hef4 hb03 hb4 hs03
  go_wp2_with fail
  refine (wbytes_any _ w3.heap.size AW nW cW _ hwt4 HTR.out (by omega)).mono ?_
  rintro e w5 ⟨A5, c5, rfl, ho5, hb5⟩
  have hs5 := hb5.size
  have HR5 : Hid (∀ b, blk A5 = some b → w4.heap.size ≤ b ∧ b < w5.heap.size) := fun b hb => ho5.lies b hb
  replace ho5 := ho5.mono (b := w1.heap.size) (by omega)
  replace hoX := K5.below hb5 _ _ _ _ hoX
  replace hoY := K5.below hb5 _ _ _ _ hoY
  have hwt5 := hwt4.keep (B := 0) hb5
  have hb05 := hb04.trans (hb5.mono (by omega))
  clear hwt4 hb5 hb04
  go_wp2_with fail
  refine (wbytes_any _ w3.heap.size AW nW cW _ hwt5 HTR.out (by omega)).mono ?_
  rintro e w6 ⟨A6, c6, rfl, ho6, hb6⟩
  have hs6 := hb6.size
  have HR6 : Hid (∀ b, blk A6 = some b → w5.heap.size ≤ b ∧ b < w6.heap.size) := fun b hb => ho6.lies b hb
  replace ho6 := ho6.mono (b := w1.heap.size) (by omega)
  replace hoX := K5.below hb6 _ _ _ _ hoX
  replace hoY := K5.below hb6 _ _ _ _ hoY
  replace ho5 := K5.below hb6 _ _ _ _ ho5
  have hwt6 := hwt5.keep (B := 0) hb6
  have hb06 := hb05.trans (hb6.mono (by omega))
  clear hwt5 hb6 hb05
  have hba := below_alloc w6 (.cells #[.slice (some ⟨w1.heap.size, 0, none⟩) n (n + 33), .slice (some ⟨w2.heap.size, 0, none⟩) m (m + 33)] 23)
  have hsa : (w6.alloc (.cells #[.slice (some ⟨w1.heap.size, 0, none⟩) n (n + 33), .slice (some ⟨w2.heap.size, 0, none⟩) m (m + 33)] 23)).heap.size = w6.heap.size + 1 := by simp
  have hPX : BsP w6 (fun b => b < w6.heap.size) (some ⟨w1.heap.size, 0, none⟩) n xs := (HPX.out _ hoX).bsP
  have hPY : BsP w6 (fun b => b < w6.heap.size) (some ⟨w2.heap.size, 0, none⟩) m ys := (HPY.out _ hoY).bsP
  have hbss : Bss (w6.alloc (.cells #[.slice (some ⟨w1.heap.size, 0, none⟩) n (n + 33), .slice (some ⟨w2.heap.size, 0, none⟩) m (m + 33)] 23)) (some ⟨w6.heap.size, 0, none⟩) 2 [xs, ys] := (bssP_two (c := n + 33) (d := m + 33) hPX (by omega) hPY (by omega) (fun b hb => hb)).imp (fun b hb => by rw [hsa]; rcases hb with hb | hb <;> omega)
  replace hoX := K5.below hba _ _ _ _ hoX
  replace hoY := K5.below hba _ _ _ _ hoY
  replace ho5 := K5.below hba _ _ _ _ ho5
  replace ho6 := K5.below hba _ _ _ _ ho6
  have hwt6a := hwt6.keep (B := 0) hba
  have hb06a := hb06.trans (hba.mono (by omega))
  have HSA := Lib.hid hsa
  clear hsa hPX hPY hwt6 hb06 hba
  go_wp2_with fail
  refine (join_any _ 2 2 [xs, ys] _ hbss (by unfold maxLen; omega) (by have := HJN.out; omega)).mono ?_
  rintro e w7 ⟨A7, n7, c7, rfl, hn7, ho7, hb7⟩
  have hs7 : w6.heap.size + 1 ≤ w7.heap.size := by have := hb7.size; rw [HSA.out] at this; exact this
  have hn7' : n7 ≤ 2097180 := by rw [hn7]; exact HJN.out
  have HR7 : Hid (∀ b, blk A7 = some b → w6.heap.size ≤ b ∧ b < w7.heap.size) := fun b hb => by have := ho7.lies b hb; rw [HSA.out] at this; omega
  have hlt7 : ∀ k, blk A7 = some k → k < w7.heap.size := fun k hk => (ho7.lies k hk).2
  have hcap7 := ho7.cap
  replace ho7 := ho7.mono (b := w1.heap.size) (by rw [HSA.out]; omega)
  replace hoX := K5.below hb7 _ _ _ _ hoX
  replace hoY := K5.below hb7 _ _ _ _ hoY
  replace ho5 := K5.below hb7 _ _ _ _ ho5
  replace ho6 := K5.below hb7 _ _ _ _ ho6
  have hwt7 := hwt6a.keep (B := 0) hb7
  have hb07 := hb06a.trans (hb7.mono (by rw [HSA.out]; omega))
  have HN7 := Lib.hid hn7
  clear hn7 hbss hwt6a hb06a hb7
  go_wp2_with fail
  refine (split_two A7 n7 c7 xs ys _ (ho7.bs HJR.out) hcap7 hlt7 (by omega) (by rw [HXL.out]; omega) (by rw [HYL.out]; omega)).mono ?_
  rintro e w8 ⟨gv, cv, A8, n8, c8, A9, n9, c9, mid, rfl, hgv, hcv0, hcv1, HN8, HN9, ho8, ho9, HR8, HR9, hmid1, hmid2, hb8⟩
  have hs8 := hb8.size
  have hn8 : n8 ≤ 1048576 := by rw [HN8.out, HXL.out]; exact hn
  have hn9 : n9 ≤ 1048576 := by rw [HN9.out, HYL.out]; exact hm
  replace ho8 := ho8.mono (b := w1.heap.size) (by omega)
  replace ho9 := ho9.mono (b := w1.heap.size) (by omega)
  replace hoX := K5.below hb8 _ _ _ _ hoX
  replace hoY := K5.below hb8 _ _ _ _ hoY
  replace ho5 := K5.below hb8 _ _ _ _ ho5
  replace ho6 := K5.below hb8 _ _ _ _ ho6
  replace ho7 := K5.below hb8 _ _ _ _ ho7
  have hwt8 := hwt7.keep (B := 0) hb8
  have hb08 := hb07.trans (hb8.mono (by omega))
  clear hlt7 hcap7 hwt7 hb07 hb8
  go_wp2_with fail
  refine (read_any A5 nW c5 _ _ (ho5.bs HTR.out) (by omega)).mono ?_
  rintro e w9 ⟨gr, rfl, hrd9, hgr, hb9⟩
  have hs9 := hb9.size
  have hgr9 := hrd9.lt
  replace hoX := K5.below hb9 _ _ _ _ hoX
  replace hoY := K5.below hb9 _ _ _ _ hoY
  replace ho5 := K5.below hb9 _ _ _ _ ho5
  replace ho6 := K5.below hb9 _ _ _ _ ho6
  replace ho7 := K5.below hb9 _ _ _ _ ho7
  replace ho8 := K5.below hb9 _ _ _ _ ho8
  replace ho9 := K5.below hb9 _ _ _ _ ho9
  have hwt9 := hwt8.keep (B := 0) hb9
  have hb09 := hb08.trans (hb9.mono (by omega))
  replace hcv0 := (hb9.cell (p := ⟨gv, 0, none⟩) hgv).trans hcv0
  replace hcv1 := (hb9.cell (p := ⟨gv, 1, none⟩) hgv).trans hcv1
  clear hwt8 hb08 hb9
  go_wp2_with fail
  refine (rtext_any _ gr _ 0 hrd9 (by have := HTN.out; omega)).mono ?_
  rw [HT1.out]
  rintro e w10 ⟨A10, c10, n10, rfl, hn10, ho10, hr10, hrd10, hl10⟩
  have hs10 := hl10.size
  have hk10 := hrd9.k5 (base := w1.heap.size) hl10
  have HN10 := Lib.hid (show n10 = xs.length from hn10)
  have hn10' : n10 ≤ 1048576 := by rw [HN10.out, HXL.out]; exact hn
  have HR10 : Hid (∀ b, blk A10 = some b → w9.heap.size ≤ b ∧ b < w10.heap.size) := fun b hb => ho10.lies b hb
  replace ho10 := ho10.mono (b := w1.heap.size) (by omega)
  replace hoX := hk10 _ _ _ _ hoX
  replace hoY := hk10 _ _ _ _ hoY
  replace ho5 := hk10 _ _ _ _ ho5
  replace ho6 := hk10 _ _ _ _ ho6
  replace ho7 := hk10 _ _ _ _ ho7
  replace ho8 := hk10 _ _ _ _ ho8
  replace ho9 := hk10 _ _ _ _ ho9
  have hwt10 := hwt9.onl hl10 (by omega) (fun e => by have := (HRW.out _ e).2; omega)
  have hb010 := hb09.trans ((hl10.below (by omega)).mono (by omega))
  replace hcv0 := (cell_only (i := 0) hl10 (by omega) (by omega)).trans hcv0
  replace hcv1 := (cell_only (i := 1) hl10 (by omega) (by omega)).trans hcv1
  have hrd10' : Rdr w10 gr (texts [ys]) 0 := hrd10
  clear hn10 hwt9 hb09 hrd9 hl10 hk10 hr10 hrd10
  go_wp2_with fail
  refine (rtext_any _ gr _ 0 hrd10' (by have := HTN1.out; omega)).mono ?_
  rw [HT2.out]
  rintro e w11 ⟨A11, c11, n11, rfl, hn11, ho11, hr11, hrd11, hl11⟩
  have hs11 := hl11.size
  have hk11 := hrd10'.k5 (base := w1.heap.size) hl11
  have HN11 := Lib.hid (show n11 = ys.length from hn11)
  have hn11' : n11 ≤ 1048576 := by rw [HN11.out, HYL.out]; exact hm
  have HR11 : Hid (∀ b, blk A11 = some b → w10.heap.size ≤ b ∧ b < w11.heap.size) := fun b hb => ho11.lies b hb
  replace ho11 : Own w11 w1.heap.size 5 A11 n11 c11 (By ys) := ho11.mono (b := w1.heap.size) (by omega)
  replace hoX := hk11 _ _ _ _ hoX
  replace hoY := hk11 _ _ _ _ hoY
  replace ho5 := hk11 _ _ _ _ ho5
  replace ho6 := hk11 _ _ _ _ ho6
  replace ho7 := hk11 _ _ _ _ ho7
  replace ho8 := hk11 _ _ _ _ ho8
  replace ho9 := hk11 _ _ _ _ ho9
  replace ho10 := hk11 _ _ _ _ ho10
  have hwt11 := hwt10.onl hl11 (by omega) (fun e => by have := (HRW.out _ e).2; omega)
  have hb011 := hb010.trans ((hl11.below (by omega)).mono (by omega))
  replace hcv0 := (cell_only (i := 0) hl11 (by omega) (by omega)).trans hcv0
  replace hcv1 := (cell_only (i := 1) hl11 (by omega) (by omega)).trans hcv1
  clear hn11 hwt10 hb010 hrd10' hl11 hk11 hr11 hrd11
  have hbx11 := HPX.out _ hoX
  go_wp2_with fail
  refine (after_any _ n (n + 33) xs _ hbx11 (by omega)).mono ?_
  rintro e w12 ⟨A12, c12, rfl, ho12, hb12⟩
  have hs12 := hb12.size
  have HR12 : Hid (∀ b, blk A12 = some b → w11.heap.size ≤ b ∧ b < w12.heap.size) := fun b hb => ho12.lies b hb
  replace ho12 := ho12.mono (b := w1.heap.size) (by omega)
  replace hoX := K5.below hb12 _ _ _ _ hoX
  replace hoY := K5.below hb12 _ _ _ _ hoY
  replace ho5 := K5.below hb12 _ _ _ _ ho5
  replace ho6 := K5.below hb12 _ _ _ _ ho6
  replace ho7 := K5.below hb12 _ _ _ _ ho7
  replace ho8 := K5.below hb12 _ _ _ _ ho8
  replace ho9 := K5.below hb12 _ _ _ _ ho9
  replace ho10 := K5.below hb12 _ _ _ _ ho10
  replace ho11 := K5.below hb12 _ _ _ _ ho11
  have hwt12 := hwt11.keep (B := 0) hb12
  have hb012 := hb011.trans (hb12.mono (by omega))
  replace hcv0 := (hb12.cell (p := ⟨gv, 0, none⟩) (show gv < w11.heap.size by omega)).trans hcv0
  replace hcv1 := (hb12.cell (p := ⟨gv, 1, none⟩) (show gv < w11.heap.size by omega)).trans hcv1
  clear hbx11 hwt11 hb011 hb12
  have hbX := hoX.bs (sp_ran hxr)
  have hbY := hoY.bs (sp_ran hyr)
  have hx12 := hx.keep hb012
  have hy12 := hy.keep hb012
  have hb10 := ho10.bs hxr
  have hb11 := ho11.bs hyr
  go_wp2_with fail
  refine (kept_any _ _ n _ _ xs _ hbX hx12 (by omega)).mono ?_
  rintro e w13 ⟨rfl, hd13⟩
  go_wp2_with fail
  refine (kept_any _ _ m _ _ ys _ (hbY.dr hd13) (hy12.dr hd13) (by omega)).mono ?_
  rintro e w14 ⟨rfl, hd14⟩
  replace hd14 := hd13.trans hd14
  go_wp2_with fail
  refine (equal_any _ _ n10 n _ _ xs xs _ (hb10.dr hd14) (hx12.dr hd14) (by unfold maxLen; omega) (by unfold maxLen; omega)).mono ?_
  rintro e w15 ⟨rfl, hd15⟩
  rw [show (cmpL xs xs == 0) = true by simp [cmpL_self]]
  replace hd15 := hd14.trans hd15
  go_wp2_with fail
  refine (equal_any _ _ n11 m _ _ ys ys _ (hb11.dr hd15) (hy12.dr hd15) (by unfold maxLen; omega) (by unfold maxLen; omega)).mono ?_
  rintro e w16 ⟨rfl, hd16⟩
  rw [show (cmpL ys ys == 0) = true by simp [cmpL_self]]
  replace hd16 := hd15.trans hd16
  replace hcv0 := (dr_cell hd16 ⟨gv, 0, none⟩).trans hcv0
  replace hcv1 := (dr_cell hd16 ⟨gv, 1, none⟩).trans hcv1
  replace hoX := hoX.dr hd16
  replace hoY := hoY.dr hd16
  replace ho5 := ho5.dr hd16
  replace ho6 := ho6.dr hd16
  replace ho7 := ho7.dr hd16
  replace ho8 := ho8.dr hd16
  replace ho9 := ho9.dr hd16
  replace ho10 := ho10.dr hd16
  replace ho11 := ho11.dr hd16
  replace ho12 := ho12.dr hd16
  have hwt16 := hwt12.dr hd16
  have hb016 := hb012.trans (hd16.below _)
  have hs16 : w12.heap.size = w16.heap.size := hd16.size.symm
  clear hwt12 hb012 hbX hbY hx12 hy12 hb10 hb11 hd13 hd14 hd15 hd16
  have HDI : Hid (Dist [((some ⟨w1.heap.size, 0, none⟩ : Option Addr), n + 33, n + 33), ((some ⟨w2.heap.size, 0, none⟩ : Option Addr), m + 33, m + 33), (A5, nW, c5), (A6, nW, c6), (A7, n7, c7), (A8, n8, c8), (A9, n9, c9), (A10, n10, c10), (A11, n11, c11), (A12, n + 1, c12)]) := by
    refine dist_of (ten w1.heap.size w2.heap.size w4.heap.size w5.heap.size w6.heap.size w7.heap.size mid w8.heap.size w10.heap.size w11.heap.size w12.heap.size) ?_ ?_
    · intro j
      match j with
      | 0 => simp only [ten]; omega
      | 1 => simp only [ten]; omega
      | 2 => simp only [ten]; omega
      | 3 => simp only [ten]; omega
      | 4 => simp only [ten]; omega
      | 5 => simp only [ten]; omega
      | 6 => simp only [ten]; omega
      | 7 => simp only [ten]; omega
      | 8 => simp only [ten]; omega
      | 9 => simp only [ten]; omega
      | (j + 10) => exact Nat.le_refl _
    · intro j B' m' d' he b hb
      match j, he with
      | 0, he =>
        simp only [List.getElem?_cons_zero, Option.some.injEq, Prod.mk.injEq] at he
        obtain ⟨rfl, rfl, rfl⟩ := he
        have := HRX.out b hb
        simp only [ten]; omega
      | 1, he =>
        simp only [List.getElem?_cons_succ, List.getElem?_cons_zero, Option.some.injEq, Prod.mk.injEq] at he
        obtain ⟨rfl, rfl, rfl⟩ := he
        have := HRY.out b hb
        simp only [ten]; omega
      | 2, he =>
        simp only [List.getElem?_cons_succ, List.getElem?_cons_zero, Option.some.injEq, Prod.mk.injEq] at he
        obtain ⟨rfl, rfl, rfl⟩ := he
        have := HR5.out b hb
        simp only [ten]; omega
      | 3, he =>
        simp only [List.getElem?_cons_succ, List.getElem?_cons_zero, Option.some.injEq, Prod.mk.injEq] at he
        obtain ⟨rfl, rfl, rfl⟩ := he
        have := HR6.out b hb
        simp only [ten]; omega
      | 4, he =>
        simp only [List.getElem?_cons_succ, List.getElem?_cons_zero, Option.some.injEq, Prod.mk.injEq] at he
        obtain ⟨rfl, rfl, rfl⟩ := he
        have := HR7.out b hb
        simp only [ten]; omega
      | 5, he =>
        simp only [List.getElem?_cons_succ, List.getElem?_cons_zero, Option.some.injEq, Prod.mk.injEq] at he
        obtain ⟨rfl, rfl, rfl⟩ := he
        have := HR8.out b hb
        simp only [ten]; omega
      | 6, he =>
        simp only [List.getElem?_cons_succ, List.getElem?_cons_zero, Option.some.injEq, Prod.mk.injEq] at he
        obtain ⟨rfl, rfl, rfl⟩ := he
        have := HR9.out b hb
        simp only [ten]; omega
      | 7, he =>
        simp only [List.getElem?_cons_succ, List.getElem?_cons_zero, Option.some.injEq, Prod.mk.injEq] at he
        obtain ⟨rfl, rfl, rfl⟩ := he
        have := HR10.out b hb
        simp only [ten]; omega
      | 8, he =>
        simp only [List.getElem?_cons_succ, List.getElem?_cons_zero, Option.some.injEq, Prod.mk.injEq] at he
        obtain ⟨rfl, rfl, rfl⟩ := he
        have := HR11.out b hb
        simp only [ten]; omega
      | 9, he =>
        simp only [List.getElem?_cons_succ, List.getElem?_cons_zero, Option.some.injEq, Prod.mk.injEq] at he
        obtain ⟨rfl, rfl, rfl⟩ := he
        have := HR12.out b hb
        simp only [ten]; omega
      | (j + 10), he => simp at he
  have HNL : Hid (∀ (j : Nat) (B' : Option Addr) (m' d' : Nat), [((some ⟨w1.heap.size, 0, none⟩ : Option Addr), n + 33, n + 33), ((some ⟨w2.heap.size, 0, none⟩ : Option Addr), m + 33, m + 33), (A5, nW, c5), (A6, nW, c6), (A7, n7, c7), (A8, n8, c8), (A9, n9, c9), (A10, n10, c10), (A11, n11, c11), (A12, n + 1, c12)][j]? = some (B', m', d') → ∀ b, blk B' = some b → w1.heap.size ≤ b ∧ (b < w3.heap.size ∨ w4.heap.size ≤ b)) := by
    intro j B' m' d' he b hb
    match j, he with
    | 0, he =>
      simp only [List.getElem?_cons_zero, Option.some.injEq, Prod.mk.injEq] at he
      obtain ⟨rfl, rfl, rfl⟩ := he
      have := HRX.out b hb
      omega
    | 1, he =>
      simp only [List.getElem?_cons_succ, List.getElem?_cons_zero, Option.some.injEq, Prod.mk.injEq] at he
      obtain ⟨rfl, rfl, rfl⟩ := he
      have := HRY.out b hb
      omega
    | 2, he =>
      simp only [List.getElem?_cons_succ, List.getElem?_cons_zero, Option.some.injEq, Prod.mk.injEq] at he
      obtain ⟨rfl, rfl, rfl⟩ := he
      have := HR5.out b hb
      omega
    | 3, he =>
      simp only [List.getElem?_cons_succ, List.getElem?_cons_zero, Option.some.injEq, Prod.mk.injEq] at he
      obtain ⟨rfl, rfl, rfl⟩ := he
      have := HR6.out b hb
      omega
    | 4, he =>
      simp only [List.getElem?_cons_succ, List.getElem?_cons_zero, Option.some.injEq, Prod.mk.injEq] at he
      obtain ⟨rfl, rfl, rfl⟩ := he
      have := HR7.out b hb
      omega
    | 5, he =>
      simp only [List.getElem?_cons_succ, List.getElem?_cons_zero, Option.some.injEq, Prod.mk.injEq] at he
      obtain ⟨rfl, rfl, rfl⟩ := he
      have := HR8.out b hb
      omega
    | 6, he =>
      simp only [List.getElem?_cons_succ, List.getElem?_cons_zero, Option.some.injEq, Prod.mk.injEq] at he
      obtain ⟨rfl, rfl, rfl⟩ := he
      have := HR9.out b hb
      omega
    | 7, he =>
      simp only [List.getElem?_cons_succ, List.getElem?_cons_zero, Option.some.injEq, Prod.mk.injEq] at he
      obtain ⟨rfl, rfl, rfl⟩ := he
      have := HR10.out b hb
      omega
    | 8, he =>
      simp only [List.getElem?_cons_succ, List.getElem?_cons_zero, Option.some.injEq, Prod.mk.injEq] at he
      obtain ⟨rfl, rfl, rfl⟩ := he
      have := HR11.out b hb
      omega
    | 9, he =>
      simp only [List.getElem?_cons_succ, List.getElem?_cons_zero, Option.some.injEq, Prod.mk.injEq] at he
      obtain ⟨rfl, rfl, rfl⟩ := he
      have := HR12.out b hb
      omega
    | (j + 10), he => simp at he
  have HOW : Hid (∀ (W : World), Dr (w16.alloc (.cells #[.slice (some ⟨w1.heap.size, 0, none⟩) (n + 33) (n + 33), .slice (some ⟨w2.heap.size, 0, none⟩) (m + 33) (m + 33), .slice A5 (nW) (c5), .slice A6 (nW) (c6), .slice A7 (n7) (c7), .slice A8 (n8) (c8), .slice A9 (n9) (c9), .slice A10 (n10) (c10), .slice A11 (n11) (c11), .slice A12 (n + 1) (c12)] 23)) W → ∀ (j : Nat) (B' : Option Addr) (m' d' : Nat), [((some ⟨w1.heap.size, 0, none⟩ : Option Addr), n + 33, n + 33), ((some ⟨w2.heap.size, 0, none⟩ : Option Addr), m + 33, m + 33), (A5, nW, c5), (A6, nW, c6), (A7, n7, c7), (A8, n8, c8), (A9, n9, c9), (A10, n10, c10), (A11, n11, c11), (A12, n + 1, c12)][j]? = some (B', m', d') → (∃ zs, Own W w1.heap.size 5 B' m' d' (By zs) ∧ Ran zs) ∧ m' ≤ 1000000000) := by
    intro W hW j B' m' d' he
    match j, he with
    | 0, he =>
      simp only [List.getElem?_cons_zero, Option.some.injEq, Prod.mk.injEq] at he
      obtain ⟨rfl, rfl, rfl⟩ := he
      exact ⟨⟨_, (hoX.alloc _).dr hW, sp_ran hxr⟩, by omega⟩
    | 1, he =>
      simp only [List.getElem?_cons_succ, List.getElem?_cons_zero, Option.some.injEq, Prod.mk.injEq] at he
      obtain ⟨rfl, rfl, rfl⟩ := he
      exact ⟨⟨_, (hoY.alloc _).dr hW, sp_ran hyr⟩, by omega⟩
    | 2, he =>
      simp only [List.getElem?_cons_succ, List.getElem?_cons_zero, Option.some.injEq, Prod.mk.injEq] at he
      obtain ⟨rfl, rfl, rfl⟩ := he
      exact ⟨⟨_, (ho5.alloc _).dr hW, HTR.out⟩, by omega⟩
    | 3, he =>
      simp only [List.getElem?_cons_succ, List.getElem?_cons_zero, Option.some.injEq, Prod.mk.injEq] at he
      obtain ⟨rfl, rfl, rfl⟩ := he
      exact ⟨⟨_, (ho6.alloc _).dr hW, HTR.out⟩, by omega⟩
    | 4, he =>
      simp only [List.getElem?_cons_succ, List.getElem?_cons_zero, Option.some.injEq, Prod.mk.injEq] at he
      obtain ⟨rfl, rfl, rfl⟩ := he
      exact ⟨⟨_, (ho7.alloc _).dr hW, HJR.out⟩, by omega⟩
    | 5, he =>
      simp only [List.getElem?_cons_succ, List.getElem?_cons_zero, Option.some.injEq, Prod.mk.injEq] at he
      obtain ⟨rfl, rfl, rfl⟩ := he
      exact ⟨⟨_, (ho8.alloc _).dr hW, hxr⟩, by omega⟩
    | 6, he =>
      simp only [List.getElem?_cons_succ, List.getElem?_cons_zero, Option.some.injEq, Prod.mk.injEq] at he
      obtain ⟨rfl, rfl, rfl⟩ := he
      exact ⟨⟨_, (ho9.alloc _).dr hW, hyr⟩, by omega⟩
    | 7, he =>
      simp only [List.getElem?_cons_succ, List.getElem?_cons_zero, Option.some.injEq, Prod.mk.injEq] at he
      obtain ⟨rfl, rfl, rfl⟩ := he
      exact ⟨⟨_, (ho10.alloc _).dr hW, hxr⟩, by omega⟩
    | 8, he =>
      simp only [List.getElem?_cons_succ, List.getElem?_cons_zero, Option.some.injEq, Prod.mk.injEq] at he
      obtain ⟨rfl, rfl, rfl⟩ := he
      exact ⟨⟨_, (ho11.alloc _).dr hW, hyr⟩, by omega⟩
    | 9, he =>
      simp only [List.getElem?_cons_succ, List.getElem?_cons_zero, Option.some.injEq, Prod.mk.injEq] at he
      obtain ⟨rfl, rfl, rfl⟩ := he
      exact ⟨⟨_, (ho12.alloc _).dr hW, HR0.out⟩, by omega⟩
    | (j + 10), he => simp at he
  have HHD : Hid (∀ (W : World), Dr (w16.alloc (.cells #[.slice (some ⟨w1.heap.size, 0, none⟩) (n + 33) (n + 33), .slice (some ⟨w2.heap.size, 0, none⟩) (m + 33) (m + 33), .slice A5 (nW) (c5), .slice A6 (nW) (c6), .slice A7 (n7) (c7), .slice A8 (n8) (c8), .slice A9 (n9) (c9), .slice A10 (n10) (c10), .slice A11 (n11) (c11), .slice A12 (n + 1) (c12)] 23)) W → HdL W w16.heap.size [((some ⟨w1.heap.size, 0, none⟩ : Option Addr), n + 33, n + 33), ((some ⟨w2.heap.size, 0, none⟩ : Option Addr), m + 33, m + 33), (A5, nW, c5), (A6, nW, c6), (A7, n7, c7), (A8, n8, c8), (A9, n9, c9), (A10, n10, c10), (A11, n11, c11), (A12, n + 1, c12)]) := fun W hW => HdL.dr ⟨_, _, heap_alloc_new w16 _, rfl⟩ hW
  have HAP : Hid (∀ (W : World), Dr (w16.alloc (.cells #[.slice (some ⟨w1.heap.size, 0, none⟩) (n + 33) (n + 33), .slice (some ⟨w2.heap.size, 0, none⟩) (m + 33) (m + 33), .slice A5 (nW) (c5), .slice A6 (nW) (c6), .slice A7 (n7) (c7), .slice A8 (n8) (c8), .slice A9 (n9) (c9), .slice A10 (n10) (c10), .slice A11 (n11) (c11), .slice A12 (n + 1) (c12)] 23)) W → Calls Try.prog 43 #[.slice (some ⟨w16.heap.size, 0, none⟩) 10 10] W fun e w' => e = .returned (.bool true) ∧ Wtr w' w3.heap.size AW nW cW (texts [xs, ys]) ∧ Below w.heap.size w w' ∧ w4.heap.size ≤ w'.heap.size) := by
    intro W hW
    have hWs : W.heap.size = w16.heap.size + 1 := by rw [hW.size]; simp
    refine (apart_any w16.heap.size 10 w1.heap.size _ W (HHD.out W hW) rfl (by omega) (HOW.out W hW) HDI.out (by rw [hWs]; omega)).mono ?_
    rintro e w' ⟨rfl, hoth⟩
    have hbW : Below w.heap.size w W := (hb016.trans ((below_alloc w16 _).mono (by omega))).trans (hW.below _)
    have hwW : Wtr W w3.heap.size AW nW cW (texts [xs, ys]) := (hwt16.keep (B := 0) (below_alloc w16 _)).dr hW
    have hsz := hoth.size
    refine ⟨rfl, ⟨?_, ?_⟩, ?_, by omega⟩
    · refine (hoth.block w3.heap.size (by omega) (fun j B' m' d' he e => ?_)).trans hwW.1
      have := HNL.out j B' m' d' he _ e
      omega
    · refine ⟨hwW.2.1, ?_⟩
      rcases hwW.2.2 with h2 | ⟨g, cap, cur, hv, hg, hh, hrest⟩
      · exact .inl h2
      · refine .inr ⟨g, cap, cur, hv, hg, ?_, hrest⟩
        have hAW : AW = some ⟨g, 0, none⟩ := by injection hv
        have hrg := HRW.out g (by rw [hAW]; rfl)
        refine (hoth.block g (by omega) (fun j B' m' d' he e => ?_)).trans hh
        have := HNL.out j B' m' d' he _ e
        omega
    · exact hbW.trans (hoth.below (by omega) (fun j B' m' d' he b hb => by have := (HNL.out j B' m' d' he b hb).1; omega))
  have hcd0 : w16.drew.cell? ⟨gv, 0, none⟩ = some (.slice A8 n8 c8) := hcv0
  have hcd1 : w16.drew.cell? ⟨gv, 1, none⟩ = some (.slice A9 n9 c9) := hcv1
  clear hoX hoY ho5 ho6 ho7 ho8 ho9 ho10 ho11 ho12 HDI HNL HOW HHD HRX HRY HR5 HR6 HR7 HR8 HR9 HR10 HR11 HR12 hwt16 hb016 HRW
  go_wp2
  go_region_with (go_at_call 43; refine (HAP.out _ (by first | exact ⟨1, rfl⟩ | exact ⟨0, rfl⟩ | exact ⟨2, rfl⟩)).mono ?_; rintro e w17 ⟨rfl, hwt17, hb017, hs17⟩)
  all_goals
    have hs017 := hb017.size
    go_wp2_with fail
    refine (wbytes_any _ w3.heap.size AW nW cW _ hwt17 HTR.out (by omega)).mono ?_
    rintro e w18 ⟨A18, c18, rfl, ho18, hb18⟩
    have hs18 := hb18.size
    have HL18 := Lib.hid (fun k hk => (ho18.lies k hk).2)
    have hb018 := hb017.trans (hb18.mono (by omega))
    have hs018 := hb018.size
    have hbs18 := ho18.bs HTR.out
    clear hwt17 ho18 hb18
    go_wp2_with fail
    refine (rnumber_len (n : Int) q1 HQ1.out _ (by omega) (by omega)).mono ?_
    rintro e w19 ⟨A19, c19, rfl, ho19, hb19⟩
    have hs19 := hb19.size
    have hx19 := (hx.keep (hb018.trans (hb19.mono hs018))).1
    go_wp2_with (at_builtin; refine wpList_append_rd rfl _ _ 23 rfl i0 (.int .u8 0) 1 Try.underlying23 hi hz0 hz1 hz2 rfl rfl ho19 A n c (By xs) rfl hx19 (By_one _) ?c1 ?c2 ?c3 ?_)
    case c1 => unfold maxLen; omega
    case c2 => omega
    case c3 => exact hs19
    intro A20 c20 w20 ho20 hg20
    rw [← By_append] at ho20
    have hb20 := hb19.trans (hg20.below hs19 (fun k hk => (ho19.lies k hk).1))
    have hs20 := hb20.size
    clear ho19 hb19 hg20 hx19 hs19
    go_wp2_with fail
    refine (rnumber_len (m : Int) q2 HQ2.out _ (by omega) (by omega)).mono ?_
    rintro e w21 ⟨A21, c21, rfl, ho21, hb21⟩
    have hs21 := hb21.size
    have ho20' := K5.below hb21 _ _ _ _ ho20
    have hr21 := ho21.rd
    have hb21' := hb20.trans (hb21.mono hs20)
    have hs21' := hb21'.size
    clear ho20 hb20 hb21 ho21
    go_wp2_with (at_builtin; refine wpList_append_rd rfl _ _ 23 rfl i0 (.int .u8 0) 1 Try.underlying23 hi hz0 hz1 hz2 rfl rfl ho20' A21 q2 c21 (By (num (m : Int))) rfl hr21 (By_one _) ?e1 ?e2 ?e3 ?_)
    case e1 => unfold maxLen; omega
    case e2 => omega
    case e3 => exact hs21'
    intro A22 c22 w22 ho22 hg22
    rw [← By_append] at ho22
    have hb22 := hb21'.trans (hg22.below hs21' (fun k hk => (ho20'.lies k hk).1))
    have hs22 := hb22.size
    have hy22 := (hy.keep (hb018.trans (hb22.mono hs018))).1
    clear ho20' hb21' hg22 hr21 hs21'
    go_wp2_with (at_builtin; refine wpList_append_rd rfl _ _ 23 rfl i0 (.int .u8 0) 1 Try.underlying23 hi hz0 hz1 hz2 rfl rfl ho22 B m d (By ys) rfl hy22 (By_one _) ?f1 ?f2 ?f3 ?_)
    case f1 => unfold maxLen; omega
    case f2 => omega
    case f3 => exact hs22
    intro A23 c23 w23 ho23 hg23
    rw [← By_append, ← List.append_assoc (num (n : Int)) xs, ← HTE.out] at ho23
    have hb23 := hb22.trans (hg23.below hs22 (fun k hk => (ho22.lies k hk).1))
    have hbs23 := ho23.bs HTR.out
    have hbs18' := hbs18.keepB hb23 HL18.out
    have hbe := hb018.trans (hb23.mono hs018)
    clear ho22 hb22 hg23 hy22 ho23 hbs18 hb018 hb23
    go_wp2_with fail
    refine (equal_any _ _ nW (q1 + n + q2 + m) _ _ _ _ _ hbs18' hbs23 (by unfold maxLen; omega) (by unfold maxLen; omega)).mono ?_
    rintro e w24 ⟨rfl, hd24⟩
    rw [show (cmpL (texts [xs, ys]) (texts [xs, ys]) == 0) = true by simp [cmpL_self]]
    have hbf := hbe.trans (hd24.below _)
    clear hbe hd24 hbs18' hbs23
    go_wp2
    go_ret
    exact ⟨rfl, hbf⟩
end Go.Proofs.Ytdlbghjclcdfmaa
