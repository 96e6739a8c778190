/- ParityChecks: the walk. -/
import Derived.Test.YtmckgdjipkkklaaDoorSls
import Derived.Test.YtmckgdjipkkklaaDoorRCheckW
import Derived.Deep.RegionHeld3
namespace Go.Proofs.YtmckgdjipkkklaaDoor
set_option linter.unusedVariables false
set_option linter.unusedSimpArgs false
open Go.RowKit

theorem elem27 : Tryd.prog.underlying 27 = some (.slice (Tryd.prog.elem 27)) := by kernel_rfl
theorem elem27' : Tryd.prog.elem 27 = 28 := by kernel_rfl
theorem slice27 (B : Option Addr) (n c : Nat) (h1 : 8 ≤ c) (N : Nat) (hN : N = 8) (W : World) :
    (Instr.slice 27 (.slice B n c) none (some (.int .i64 8)) none).run Tryd.prog W = .ok (.slice B N c) W := by
  subst hN
  rw [run_slice_h (P := Tryd.prog) W 27 B n c elem27 .i64 8 (by omega) (by omega), elem27', Tryd.sizeOf28]
  simp only [sliced, Result.andThen, Nat.zero_mul, add_zero', ite_self]; rfl
theorem cut_is (A : Option Addr) (n c : Nat) (k : Nat) (xs us : List Int) (hus : xs.take k = us) (w : World) (hx : Bs w A n xs) (hn : n ≤ maxLen) (hc : n ≤ c) (hk : k ≤ 9223372036854775807) :
    Calls Tryd.prog 16 #[.slice A n c, .int .i64 (k : Int)] w fun e w' => e = .returned (.slice A us.length c) ∧ w = w' := by
  refine (cut_any A n c k xs w hx hn hc hk).mono ?_
  rintro e w' ⟨m, rfl, _, hb, rfl⟩
  have := hb.len
  rw [hus] at this
  rw [this]; exact ⟨rfl, rfl⟩
theorem Bss.short {w : World} {A : Option Addr} {n m : Nat} {xss : List (List Int)} (h : Bss w A n xss) (hm : m ≤ n) : Bss w A m (xss.take m) := by
  obtain ⟨hl, vs, hr, he⟩ := h
  refine ⟨by rw [List.length_take, hl]; omega, vs.take m, ⟨by rw [List.length_take, hr.1]; omega, fun h0 => ?_⟩, fun i v xs hv hx => ?_⟩
  · obtain ⟨b, off, hA, hb, hc⟩ := hr.2 (by omega)
    refine ⟨b, off, hA, hb, fun j u hu => hc j u ?_⟩
    rw [List.getElem?_take] at hu
    split at hu
    · exact hu
    · cases hu
  · rw [List.getElem?_take] at hv hx
    split at hv
    · rename_i hi
      rw [if_pos hi] at hx
      exact he i v xs hv hx
    · cases hv

set_option maxRecDepth 100000 in
set_option maxHeartbeats 4000000 in
theorem checks_walk (P : Option Addr) (n c : Nat) (xss : List (List Int)) (w : World) (hx : Bss w P n xss) (hn : n ≤ maxLen) (hc : n ≤ c) (hxm : ∀ xs ∈ xss, xs.length ≤ maxLen) (ht : Tabs w) :
    Calls Tryd.prog 5 #[.slice P n c] w fun e w' => e = .returned (.bool true) ∧ Below w.heap.size w w' := by
  obtain ⟨i0, hi, hz0, hz1, hz2⟩ := info_parts info5
  obtain ⟨i8, hi8, hy0, hy1, hy2⟩ := info_parts info28
  go_enter Tryd.func5, Tryd.ntmps5
  go_wp2_with fail
  refine (awake_any _ ht).mono ?_
  rintro e w1 ⟨rfl, hb1⟩
  have hx1 := hx.keep hb1
  have ht1 := ht.below hb1
  have hs1 := hb1.size
  clear hx ht
  have HXX := Lib.hid hxm; clear hxm
  by_cases hl8 : 8 < n
  · obtain ⟨L, hL⟩ : ∃ L : Nat, L = 8 := ⟨_, rfl⟩
    have hsl8 := slice27 P n c (by omega) L hL
    have hL8 : L ≤ 8 := by omega
    have hl := hx1.short (m := L) (by omega)
    have HSM : Hid (∀ xs ∈ xss.take L, xs.length ≤ maxLen) := fun xs h => HXX.out xs (List.mem_of_mem_take h)
    clear hL hx1
    generalize xss.take L = XX at *
    have hd8 : decide ((8 : Int) < (n : Int)) = true := by simp; omega
    have HLL := Lib.hid hl.len
    obtain ⟨XS, hXS⟩ : ∃ XS, XS = XX.map (fun t => t.take 200) := ⟨_, rfl⟩
    have HXS := Lib.hid hXS
    have HXL := Lib.hid (show XS.length = L by rw [hXS, List.length_map]; exact hl.len)
    have HXM : Hid (∀ xs ∈ XS, xs.length ≤ 1048576) := by
      intro xs h
      rw [hXS] at h
      obtain ⟨t, _, rfl⟩ := List.mem_map.1 h
      rw [List.length_take]; omega
    have HXN : Hid (∀ xs ∈ XS, xs.length ≤ maxLen) := fun xs h => Nat.le_trans (HXM.out xs h) (by unfold maxLen; omega)
    have HTS : Hid (∀ (k : Nat) (ts : List Int) (A2 : Option Addr) (n2 c2 : Nat) (w3 : World), k < L → Below w1.heap.size w1 w3 → XX[k]? = some ts → Bs w1 A2 n2 ts → Bs w3 A2 n2 ts) := fun k ts A2 n2 c2 w3 _ hb _ h => h.keep hb
    clear hXS
    go_wp2
    clear hd8 hsl8
    go_loopw [3, 4, 18] (fun va vs i wr => ∃ (k nA cA cS : Nat) (A1 S : Option Addr), i = .int .i64 k ∧ k ≤ L ∧ va = .slice A1 nA cA ∧ vs = .slice S k cS ∧ nA ≤ 200 * k ∧ Own wr w1.heap.size 5 A1 nA cA (By (XS.take k).flatten) ∧ Sls wr w1.heap.size S k cS (XS.take k) ∧ Below w1.heap.size w1 wr) (fun _ _ i _ => L - (intOf i).toNat)
    case atStart => exact ⟨0, 0, 0, 0, none, none, rfl, Nat.zero_le _, rfl, rfl, Nat.zero_le _, Own.nil_, Sls.nil_, Below.refl _ _⟩
    case round =>
      obtain ⟨k, nA, cA, cS, A1, S, rfl, hk, rfl, rfl, hnA, hoA, hsl, hbr⟩ := hrel
      have hsr := hbr.size
      by_cases hlt : k < L
      · obtain ⟨b, off, A2, n2, c2, ts, rfl, hbk, hcell, hts, hnc2, HT⟩ := hl.at_ hlt
        have hcell' : wr.cell? ⟨b, off + k, none⟩ = some (.slice A2 n2 c2) := (hbr.cell (p := ⟨b, off + k, none⟩) hbk).trans hcell
        have hts' := hts.keep hbr
        have hn2m : n2 ≤ maxLen := by rw [← hts.len]; exact HSM.out _ (List.mem_of_getElem? HT.out)
        obtain ⟨us, hus⟩ : ∃ us, ts.take 200 = us := ⟨_, rfl⟩
        have hul : us.length ≤ 200 := by rw [← hus, List.length_take]; omega
        have HTK : Hid (XS.take (k + 1) = XS.take k ++ [us]) := by
          have hxk : XS[k]? = some us := by rw [HXS.out, List.getElem?_map, HT.out, ← hus]; rfl
          obtain ⟨hk', e⟩ := List.getElem?_eq_some_iff.1 hxk
          show _ = _
          rw [List.take_succ_eq_append_getElem hk', e]
        have hbp : BsP wr (· < w1.heap.size) A2 us.length us := by
          have h1 : Bs w1 A2 us.length us := by
            rw [← hus, List.length_take, hts.len]
            have := hts.first (m := min 200 n2) (by omega)
            rwa [show ts.take (min 200 n2) = ts.take 200 by rw [← hts.len, List.take_eq_take_iff]; omega] at this
          exact BsP.keep h1.bsP (fun b hb => hbr.block b hb)
        have huc : us.length ≤ c2 := by rw [← hus, List.length_take, hts.len]; omega
        have HUS := Lib.hid hus
        have HTK2 := Lib.hid hts
        clear hus hts hcell
        go_wp2_with fail
        refine (cut_is A2 n2 c2 200 ts us HUS.out _ hts' hn2m hnc2 (by omega)).mono ?_
        rintro e w' ⟨rfl, rfl⟩
        obtain ⟨vs, hrow, HROW⟩ := hsl.row (.cells #[.slice A2 us.length c2] 28)
        go_wp2_with (at_builtin; refine wpList_append_rd rfl _ _ 27 rfl i8 (.slice none 0 0) 24 Tryd.underlying27 hi8 hy0 hy1 hy2 rfl rfl hrow (some ⟨wr.heap.size, 0, none⟩) 1 1 [.slice A2 us.length c2] rfl (rd_oneV wr _ 28) (one_slice _ _ _) ?c1 ?c2 ?c3 ?_)
        case c1 => unfold maxLen; omega
        case c2 => omega
        case c3 => simp; omega
        intro S3 cS3 w3 ho3 hg3
        have hb3 : Below w1.heap.size wr w3 := ((below_alloc wr _).mono hsr).trans (hg3.below (by simp; omega) (fun k hk => (hrow.lies k hk).1))
        have hsl3 := HROW.out A2 c2 us w3 S3 cS3 hbp huc ho3 hb3
        have hoA3 : Own w3 w1.heap.size 5 A1 nA cA (By (XS.take k).flatten) := (hoA.alloc (.cells #[.slice A2 us.length c2] 28)).kept hg3.1 (own_apart (hoA.alloc _) hrow (by decide))
        have hbr3 := hbr.trans hb3
        have hsr3 := hbr3.size
        have hx3 : Bs w3 A2 us.length us := (hbp.keep (fun b hb => hb3.block b hb)).bs
        have hts3 : Bs w3 A2 n2 ts := HTK2.out.keep hbr3
        clear hrow HROW ho3 hg3 hsl hoA hbp hbr hb3 hts'
        go_wp2_with fail
        refine (cut_is A2 n2 c2 200 ts us HUS.out _ hts3 hn2m hnc2 (by omega)).mono ?_
        rintro e w' ⟨rfl, rfl⟩
        go_wp2_with (at_builtin; refine wpList_append_rd rfl _ _ 28 rfl i0 (.int .u8 0) 1 Tryd.underlying28 hi hz0 hz1 hz2 rfl rfl hoA3 A2 us.length c2 (By us) rfl hx3.1 (By_one _) ?d1 ?d2 ?d3 ?_)
        case d1 => unfold maxLen; omega
        case d2 => omega
        case d3 => exact hsr3
        intro A4 c4 v4 ho4 hg4
        have hb4 : Below w1.heap.size w3 v4 := hg4.below hsr3 (fun k hk => (hoA3.lies k hk).1)
        have hsl4 := hsl3.kept hoA3 hg4.1 hb4
        have hbr4 := hbr3.trans hb4
        have HOA4 : Hid (Own v4 w1.heap.size 5 A4 (nA + us.length) c4 (By (XS.take (k + 1)).flatten)) := by
          show Own _ _ _ _ _ _ _
          rw [HTK.out, List.flatten_append, By_append]
          simpa using ho4
        have HSL4 : Hid (Sls v4 w1.heap.size S3 (k + 1) cS3 (XS.take (k + 1))) := by
          show Sls _ _ _ _ _ _
          rw [HTK.out]; exact hsl4
        clear ho4 hg4 hsl4 hsl3 hoA3 hx3 hts3 hbr3 hb4
        go_wp2
        go_roundw
        case rel => exact ⟨k + 1, nA + us.length, c4, cS3, A4, S3, by go_num, by omega, rfl, rfl, by omega, HOA4.out, HSL4.out, hbr4⟩
        case measure => simp [intOf]; omega
      · have hke : XS.take k = XS := List.take_of_length_le (by rw [HXL.out]; omega)
        rw [hke] at hoA hsl
        obtain rfl : L = k := by omega
        have hbs := hsl.bss hsr
        have htr := ht1.below hbr
        have hbw := hb1.trans (hbr.mono hs1)
        have hsw := hbw.size
        have hRan : Ran XS.flatten := flat_ran hbs.ran
        clear hke hlt hl hsl
        generalize hwB : wr = wB at *
        clear hwB
        go_wp2_with fail
        refine (copies_any S L cS XS _ hbs (by omega) HXM.out).mono ?_
        rintro e w3 ⟨P3, c3, rfl, hp3, hb3⟩
        have hq3 := hp3.bss
        have hoA3 : Own w3 w1.heap.size 5 A1 nA cA (By XS.flatten) := hoA.below hb3 (fun k hk => (hoA.lies k hk).2)
        have ht3 := htr.below hb3
        have hbw3 := hbw.trans (hb3.mono hsw)
        have hsw3 := hbw3.size
        have hs13 : w1.heap.size ≤ w3.heap.size := Nat.le_trans hsr hb3.size
        clear hp3 hbs hoA htr hbw hb3 hbr hsr
        go_wp2_with fail
        refine (check_any P3 L c3 XS _ hq3 (by unfold maxLen; omega) HXN.out ht3).mono ?_
        rintro e w5 ⟨b0, b1, b2, b3, rfl, H4, l4', hb5⟩
        have hoA5 : Own w5 w1.heap.size 5 A1 nA cA (By XS.flatten) := hoA3.below hb5 (fun k hk => (hoA3.lies k hk).2)
        have ht5 := ht3.below hb5
        have hbw5 := hbw3.trans (hb5.mono hsw3)
        have hsw5 := hbw5.size
        have hs15 : w1.heap.size ≤ w5.heap.size := Nat.le_trans hs13 hb5.size
        clear hq3 hoA3 ht3 hbw3 hb5 hsw3
        unfold a4
        have hbB := below_alloc w5 (.cells #[.int .u8 (b0 : Int), .int .u8 (b1 : Int), .int .u8 (b2 : Int), .int .u8 (b3 : Int)] 30)
        have hr6 := rd_four w5 b0 b1 b2 b3
        have hs6 : w5.heap.size < (w5.alloc (.cells #[.int .u8 (b0 : Int), .int .u8 (b1 : Int), .int .u8 (b2 : Int), .int .u8 (b3 : Int)] 30)).heap.size := by simp
        have hsl30 := sliceArr30 w5.heap.size
        go_wp2
        generalize w5.alloc (.cells #[.int .u8 (b0 : Int), .int .u8 (b1 : Int), .int .u8 (b2 : Int), .int .u8 (b3 : Int)] 30) = w6 at *
        have hoA6 : Own w6 w1.heap.size 5 A1 nA cA (By XS.flatten) := hoA5.below hbB (fun k hk => (hoA5.lies k hk).2)
        have hx6 := hoA6.bs hRan
        have ht6 := ht5.below hbB
        have hbw6 := hbw5.trans (hbB.mono hsw5)
        have hsw6 := hbw6.size
        have hc1 : nA + 4 ≤ maxLen := by unfold maxLen; omega
        have hc2 : (nA + 4) * 1 ≤ 140737488355328 := by omega
        generalize hg5 : w5.heap.size = g at *
        clear hg5 hoA5 ht5 hbw5 hsw5 hbB
        go_region_law (first | (refine step_append_rd rfl (.tmp 36) (.tmp 37) 28 rfl i0 (.int .u8 0) 1 Tryd.underlying28 hi hz0 hz1 hz2 rfl (by simp [Act.eval, Act.put]) ho7 (some ⟨g, 0, none⟩) 4 4 (By [(b0 : Int), (b1 : Int), (b2 : Int), (b3 : Int)]) (by simp [Act.eval, Act.put]) hr7 (By_one _) hc1 hc2 hc7 ?_; intro A8 c8 w8 ho8 hg8) | (go_simp; go_at_call 19; refine (copy_any A1 nA cA XS.flatten _ (hx6.dr (Dr.refl _).one) (by omega)).mono ?_; rintro e w7 ⟨A7, c7, rfl, ho7, hb7⟩; have hr7 := hr6.keep (below_undrew hb7); have hc7 : w6.heap.size ≤ w7.heap.size := hb7.size))
        have hb67 := below_undrew hb7
        have hb68 : Below w6.heap.size w6 w8 := hb67.trans (hg8.below hc7 (fun k hk => (ho7.lies k hk).1))
        rw [← By_append] at ho8
        have hran8 : Ran (XS.flatten ++ [(b0 : Int), (b1 : Int), (b2 : Int), (b3 : Int)]) := hRan.append (ran_of (by simp; omega))
        have HW8 : Hid (nl (XS.flatten ++ [(b0 : Int), (b1 : Int), (b2 : Int), (b3 : Int)]) = nl XS.flatten ++ w4 (chk (nl XS.flatten))) := by
          show _ = _
          rw [H4.out, nl_append]; simp [nl]
        have hwb8 := ho8.bs hran8
        have hcap8 := ho8.cap
        have hx8 := hx6.keep hb68
        have ht8 := ht6.below hb68
        have hbw8 := hbw6.trans (hb68.mono hsw6)
        have hsw8 := hbw8.size
        have hf8 := four_cells (hr6.keep hb68)
        have hglt : g < w8.heap.size := Nat.lt_of_lt_of_le hs6 hb68.size
        have HG8 := Lib.hid (show goodL (nl (XS.flatten ++ [(b0 : Int), (b1 : Int), (b2 : Int), (b3 : Int)])) = true by rw [HW8.out]; exact goodL_app (nl_rn hRan))
        generalize XS.flatten ++ [(b0 : Int), (b1 : Int), (b2 : Int), (b3 : Int)] = zs at *
        generalize XS.flatten = fs at *
        clear hb67 hb68 ho8 hg8 hx6 ht6 hbw6 hr6 hr7 ho7 hb7 hc7 hsl30 hoA6 HW8
        obtain ⟨f0, f1, f2, f3⟩ := hf8
        have HK : Hid (∀ (w9 : World) (i : Nat), Below w8.heap.size w8 w9 → w9.cell? ⟨g, i, none⟩ = w8.cell? ⟨g, i, none⟩) := fun w9 i h => h.cell (p := ⟨g, i, none⟩) hglt
        have f0d : w8.drew.cell? ⟨g, 0, none⟩ = some (.int .u8 (b0 : Int)) := f0
        have f1d : w8.drew.cell? ⟨g, 1, none⟩ = some (.int .u8 (b1 : Int)) := f1
        have f2d : w8.drew.cell? ⟨g, 2, none⟩ = some (.int .u8 (b2 : Int)) := f2
        have f3d : w8.drew.cell? ⟨g, 3, none⟩ = some (.int .u8 (b3 : Int)) := f3
        have hmx : nA + 4 ≤ maxLen := hc1
        have hx8d := hx8.dr (Dr.refl w8).one
        go_wp2
        go_region_held3 (fun w' => w'.cell? ⟨g, 0, none⟩ = some (.int .u8 (b0 : Int)) ∧ w'.cell? ⟨g, 1, none⟩ = some (.int .u8 (b1 : Int)) ∧ w'.cell? ⟨g, 2, none⟩ = some (.int .u8 (b2 : Int)) ∧ w'.cell? ⟨g, 3, none⟩ = some (.int .u8 (b3 : Int))) (first | exact ⟨f0, f1, f2, f3⟩ | exact ⟨f0d, f1d, f2d, f3d⟩ | exact ⟨k0, k1, k2, k3⟩ | exact ⟨m0, m1, m2, m3⟩ | exact ⟨n0, n1, n2', n3⟩)
          (first
            | (go_at_call 20; refine (rcheck_any A1 nA cA fs _ hx8d (by omega)).mono ?_; rintro e w9 ⟨c0, c1, c2', c3', rfl, H9, l9, hb9'⟩; have hb9 := below_undrew hb9'; have k0 := (HK.out w9 0 hb9).trans f0; have k1 := (HK.out w9 1 hb9).trans f1; have k2 := (HK.out w9 2 hb9).trans f2; have k3 := (HK.out w9 3 hb9).trans f3; have he := fun W => eql30 l4' l9 W; have het : eq4 [b0, b1, b2, b3] [c0, c1, c2', c3'] = true := (by rw [← H4.out, ← H9.out]; exact eq4_self _); unfold a4)
            | (go_at_call 21; refine (rgood_any A8 (nA + 4) c8 zs _ (hwb8.keep hb9) hmx).mono ?_; rintro e w10 ⟨rfl, hd10⟩; have hb10 := hb9.trans (hd10.below _); have m0 := (HK.out w10 0 hb10).trans f0; have m1 := (HK.out w10 1 hb10).trans f1; have m2 := (HK.out w10 2 hb10).trans f2; have m3 := (HK.out w10 3 hb10).trans f3; rw [HG8.out])
            | (go_at_call 22; refine (good_any A8 (nA + 4) c8 zs _ (hwb8.keep hb10) hmx hcap8 (ht8.below hb10)).mono ?_; rintro e w11 ⟨rfl, hb11'⟩; have hb11 := hb10.trans (hb11'.mono hb10.size); have n0 := (HK.out w11 0 hb11).trans f0; have n1 := (HK.out w11 1 hb11).trans f1; have n2' := (HK.out w11 2 hb11).trans f2; have n3 := (HK.out w11 3 hb11).trans f3; rw [HG8.out]))
        all_goals
          go_wp2
          go_ret
          exact ⟨by simp, hbw8.trans (hb11.mono hsw8)⟩

  · obtain ⟨L, hL⟩ : ∃ L : Nat, L = n := ⟨_, rfl⟩
    subst hL
    have hL8 : L ≤ 8 := by omega
    have hl := hx1
    have HSM := HXX
    clear hx1
    generalize xss = XX at *
    have hd8 : decide ((8 : Int) < (L : Int)) = false := by simp; omega
    unfold maxLen at hn
    have HLL := Lib.hid hl.len
    obtain ⟨XS, hXS⟩ : ∃ XS, XS = XX.map (fun t => t.take 200) := ⟨_, rfl⟩
    have HXS := Lib.hid hXS
    have HXL := Lib.hid (show XS.length = L by rw [hXS, List.length_map]; exact hl.len)
    have HXM : Hid (∀ xs ∈ XS, xs.length ≤ 1048576) := by
      intro xs h
      rw [hXS] at h
      obtain ⟨t, _, rfl⟩ := List.mem_map.1 h
      rw [List.length_take]; omega
    have HXN : Hid (∀ xs ∈ XS, xs.length ≤ maxLen) := fun xs h => Nat.le_trans (HXM.out xs h) (by unfold maxLen; omega)
    have HTS : Hid (∀ (k : Nat) (ts : List Int) (A2 : Option Addr) (n2 c2 : Nat) (w3 : World), k < L → Below w1.heap.size w1 w3 → XX[k]? = some ts → Bs w1 A2 n2 ts → Bs w3 A2 n2 ts) := fun k ts A2 n2 c2 w3 _ hb _ h => h.keep hb
    clear hXS
    go_wp2
    clear hd8
    go_loopw [3, 4, 18] (fun va vs i wr => ∃ (k nA cA cS : Nat) (A1 S : Option Addr), i = .int .i64 k ∧ k ≤ L ∧ va = .slice A1 nA cA ∧ vs = .slice S k cS ∧ nA ≤ 200 * k ∧ Own wr w1.heap.size 5 A1 nA cA (By (XS.take k).flatten) ∧ Sls wr w1.heap.size S k cS (XS.take k) ∧ Below w1.heap.size w1 wr) (fun _ _ i _ => L - (intOf i).toNat)
    case atStart => exact ⟨0, 0, 0, 0, none, none, rfl, Nat.zero_le _, rfl, rfl, Nat.zero_le _, Own.nil_, Sls.nil_, Below.refl _ _⟩
    case round =>
      obtain ⟨k, nA, cA, cS, A1, S, rfl, hk, rfl, rfl, hnA, hoA, hsl, hbr⟩ := hrel
      have hsr := hbr.size
      by_cases hlt : k < L
      · obtain ⟨b, off, A2, n2, c2, ts, rfl, hbk, hcell, hts, hnc2, HT⟩ := hl.at_ hlt
        have hcell' : wr.cell? ⟨b, off + k, none⟩ = some (.slice A2 n2 c2) := (hbr.cell (p := ⟨b, off + k, none⟩) hbk).trans hcell
        have hts' := hts.keep hbr
        have hn2m : n2 ≤ maxLen := by rw [← hts.len]; exact HSM.out _ (List.mem_of_getElem? HT.out)
        obtain ⟨us, hus⟩ : ∃ us, ts.take 200 = us := ⟨_, rfl⟩
        have hul : us.length ≤ 200 := by rw [← hus, List.length_take]; omega
        have HTK : Hid (XS.take (k + 1) = XS.take k ++ [us]) := by
          have hxk : XS[k]? = some us := by rw [HXS.out, List.getElem?_map, HT.out, ← hus]; rfl
          obtain ⟨hk', e⟩ := List.getElem?_eq_some_iff.1 hxk
          show _ = _
          rw [List.take_succ_eq_append_getElem hk', e]
        have hbp : BsP wr (· < w1.heap.size) A2 us.length us := by
          have h1 : Bs w1 A2 us.length us := by
            rw [← hus, List.length_take, hts.len]
            have := hts.first (m := min 200 n2) (by omega)
            rwa [show ts.take (min 200 n2) = ts.take 200 by rw [← hts.len, List.take_eq_take_iff]; omega] at this
          exact BsP.keep h1.bsP (fun b hb => hbr.block b hb)
        have huc : us.length ≤ c2 := by rw [← hus, List.length_take, hts.len]; omega
        have HUS := Lib.hid hus
        have HTK2 := Lib.hid hts
        clear hus hts hcell
        go_wp2_with fail
        refine (cut_is A2 n2 c2 200 ts us HUS.out _ hts' hn2m hnc2 (by omega)).mono ?_
        rintro e w' ⟨rfl, rfl⟩
        obtain ⟨vs, hrow, HROW⟩ := hsl.row (.cells #[.slice A2 us.length c2] 28)
        go_wp2_with (at_builtin; refine wpList_append_rd rfl _ _ 27 rfl i8 (.slice none 0 0) 24 Tryd.underlying27 hi8 hy0 hy1 hy2 rfl rfl hrow (some ⟨wr.heap.size, 0, none⟩) 1 1 [.slice A2 us.length c2] rfl (rd_oneV wr _ 28) (one_slice _ _ _) ?c1 ?c2 ?c3 ?_)
        case c1 => unfold maxLen; omega
        case c2 => omega
        case c3 => simp; omega
        intro S3 cS3 w3 ho3 hg3
        have hb3 : Below w1.heap.size wr w3 := ((below_alloc wr _).mono hsr).trans (hg3.below (by simp; omega) (fun k hk => (hrow.lies k hk).1))
        have hsl3 := HROW.out A2 c2 us w3 S3 cS3 hbp huc ho3 hb3
        have hoA3 : Own w3 w1.heap.size 5 A1 nA cA (By (XS.take k).flatten) := (hoA.alloc (.cells #[.slice A2 us.length c2] 28)).kept hg3.1 (own_apart (hoA.alloc _) hrow (by decide))
        have hbr3 := hbr.trans hb3
        have hsr3 := hbr3.size
        have hx3 : Bs w3 A2 us.length us := (hbp.keep (fun b hb => hb3.block b hb)).bs
        have hts3 : Bs w3 A2 n2 ts := HTK2.out.keep hbr3
        clear hrow HROW ho3 hg3 hsl hoA hbp hbr hb3 hts'
        go_wp2_with fail
        refine (cut_is A2 n2 c2 200 ts us HUS.out _ hts3 hn2m hnc2 (by omega)).mono ?_
        rintro e w' ⟨rfl, rfl⟩
        go_wp2_with (at_builtin; refine wpList_append_rd rfl _ _ 28 rfl i0 (.int .u8 0) 1 Tryd.underlying28 hi hz0 hz1 hz2 rfl rfl hoA3 A2 us.length c2 (By us) rfl hx3.1 (By_one _) ?d1 ?d2 ?d3 ?_)
        case d1 => unfold maxLen; omega
        case d2 => omega
        case d3 => exact hsr3
        intro A4 c4 v4 ho4 hg4
        have hb4 : Below w1.heap.size w3 v4 := hg4.below hsr3 (fun k hk => (hoA3.lies k hk).1)
        have hsl4 := hsl3.kept hoA3 hg4.1 hb4
        have hbr4 := hbr3.trans hb4
        have HOA4 : Hid (Own v4 w1.heap.size 5 A4 (nA + us.length) c4 (By (XS.take (k + 1)).flatten)) := by
          show Own _ _ _ _ _ _ _
          rw [HTK.out, List.flatten_append, By_append]
          simpa using ho4
        have HSL4 : Hid (Sls v4 w1.heap.size S3 (k + 1) cS3 (XS.take (k + 1))) := by
          show Sls _ _ _ _ _ _
          rw [HTK.out]; exact hsl4
        clear ho4 hg4 hsl4 hsl3 hoA3 hx3 hts3 hbr3 hb4
        go_wp2
        go_roundw
        case rel => exact ⟨k + 1, nA + us.length, c4, cS3, A4, S3, by go_num, by omega, rfl, rfl, by omega, HOA4.out, HSL4.out, hbr4⟩
        case measure => simp [intOf]; omega
      · have hke : XS.take k = XS := List.take_of_length_le (by rw [HXL.out]; omega)
        rw [hke] at hoA hsl
        obtain rfl : L = k := by omega
        have hbs := hsl.bss hsr
        have htr := ht1.below hbr
        have hbw := hb1.trans (hbr.mono hs1)
        have hsw := hbw.size
        have hRan : Ran XS.flatten := flat_ran hbs.ran
        clear hke hlt hl hsl
        generalize hwB : wr = wB at *
        clear hwB
        go_wp2_with fail
        refine (copies_any S L cS XS _ hbs (by omega) HXM.out).mono ?_
        rintro e w3 ⟨P3, c3, rfl, hp3, hb3⟩
        have hq3 := hp3.bss
        have hoA3 : Own w3 w1.heap.size 5 A1 nA cA (By XS.flatten) := hoA.below hb3 (fun k hk => (hoA.lies k hk).2)
        have ht3 := htr.below hb3
        have hbw3 := hbw.trans (hb3.mono hsw)
        have hsw3 := hbw3.size
        have hs13 : w1.heap.size ≤ w3.heap.size := Nat.le_trans hsr hb3.size
        clear hp3 hbs hoA htr hbw hb3 hbr hsr
        go_wp2_with fail
        refine (check_any P3 L c3 XS _ hq3 (by unfold maxLen; omega) HXN.out ht3).mono ?_
        rintro e w5 ⟨b0, b1, b2, b3, rfl, H4, l4', hb5⟩
        have hoA5 : Own w5 w1.heap.size 5 A1 nA cA (By XS.flatten) := hoA3.below hb5 (fun k hk => (hoA3.lies k hk).2)
        have ht5 := ht3.below hb5
        have hbw5 := hbw3.trans (hb5.mono hsw3)
        have hsw5 := hbw5.size
        have hs15 : w1.heap.size ≤ w5.heap.size := Nat.le_trans hs13 hb5.size
        clear hq3 hoA3 ht3 hbw3 hb5 hsw3
        unfold a4
        have hbB := below_alloc w5 (.cells #[.int .u8 (b0 : Int), .int .u8 (b1 : Int), .int .u8 (b2 : Int), .int .u8 (b3 : Int)] 30)
        have hr6 := rd_four w5 b0 b1 b2 b3
        have hs6 : w5.heap.size < (w5.alloc (.cells #[.int .u8 (b0 : Int), .int .u8 (b1 : Int), .int .u8 (b2 : Int), .int .u8 (b3 : Int)] 30)).heap.size := by simp
        have hsl30 := sliceArr30 w5.heap.size
        go_wp2
        generalize w5.alloc (.cells #[.int .u8 (b0 : Int), .int .u8 (b1 : Int), .int .u8 (b2 : Int), .int .u8 (b3 : Int)] 30) = w6 at *
        have hoA6 : Own w6 w1.heap.size 5 A1 nA cA (By XS.flatten) := hoA5.below hbB (fun k hk => (hoA5.lies k hk).2)
        have hx6 := hoA6.bs hRan
        have ht6 := ht5.below hbB
        have hbw6 := hbw5.trans (hbB.mono hsw5)
        have hsw6 := hbw6.size
        have hc1 : nA + 4 ≤ maxLen := by unfold maxLen; omega
        have hc2 : (nA + 4) * 1 ≤ 140737488355328 := by omega
        generalize hg5 : w5.heap.size = g at *
        clear hg5 hoA5 ht5 hbw5 hsw5 hbB
        go_region_law (first | (refine step_append_rd rfl (.tmp 36) (.tmp 37) 28 rfl i0 (.int .u8 0) 1 Tryd.underlying28 hi hz0 hz1 hz2 rfl (by simp [Act.eval, Act.put]) ho7 (some ⟨g, 0, none⟩) 4 4 (By [(b0 : Int), (b1 : Int), (b2 : Int), (b3 : Int)]) (by simp [Act.eval, Act.put]) hr7 (By_one _) hc1 hc2 hc7 ?_; intro A8 c8 w8 ho8 hg8) | (go_simp; go_at_call 19; refine (copy_any A1 nA cA XS.flatten _ (hx6.dr (Dr.refl _).one) (by omega)).mono ?_; rintro e w7 ⟨A7, c7, rfl, ho7, hb7⟩; have hr7 := hr6.keep (below_undrew hb7); have hc7 : w6.heap.size ≤ w7.heap.size := hb7.size))
        have hb67 := below_undrew hb7
        have hb68 : Below w6.heap.size w6 w8 := hb67.trans (hg8.below hc7 (fun k hk => (ho7.lies k hk).1))
        rw [← By_append] at ho8
        have hran8 : Ran (XS.flatten ++ [(b0 : Int), (b1 : Int), (b2 : Int), (b3 : Int)]) := hRan.append (ran_of (by simp; omega))
        have HW8 : Hid (nl (XS.flatten ++ [(b0 : Int), (b1 : Int), (b2 : Int), (b3 : Int)]) = nl XS.flatten ++ w4 (chk (nl XS.flatten))) := by
          show _ = _
          rw [H4.out, nl_append]; simp [nl]
        have hwb8 := ho8.bs hran8
        have hcap8 := ho8.cap
        have hx8 := hx6.keep hb68
        have ht8 := ht6.below hb68
        have hbw8 := hbw6.trans (hb68.mono hsw6)
        have hsw8 := hbw8.size
        have hf8 := four_cells (hr6.keep hb68)
        have hglt : g < w8.heap.size := Nat.lt_of_lt_of_le hs6 hb68.size
        have HG8 := Lib.hid (show goodL (nl (XS.flatten ++ [(b0 : Int), (b1 : Int), (b2 : Int), (b3 : Int)])) = true by rw [HW8.out]; exact goodL_app (nl_rn hRan))
        generalize XS.flatten ++ [(b0 : Int), (b1 : Int), (b2 : Int), (b3 : Int)] = zs at *
        generalize XS.flatten = fs at *
        clear hb67 hb68 ho8 hg8 hx6 ht6 hbw6 hr6 hr7 ho7 hb7 hc7 hsl30 hoA6 HW8
        obtain ⟨f0, f1, f2, f3⟩ := hf8
        have HK : Hid (∀ (w9 : World) (i : Nat), Below w8.heap.size w8 w9 → w9.cell? ⟨g, i, none⟩ = w8.cell? ⟨g, i, none⟩) := fun w9 i h => h.cell (p := ⟨g, i, none⟩) hglt
        have f0d : w8.drew.cell? ⟨g, 0, none⟩ = some (.int .u8 (b0 : Int)) := f0
        have f1d : w8.drew.cell? ⟨g, 1, none⟩ = some (.int .u8 (b1 : Int)) := f1
        have f2d : w8.drew.cell? ⟨g, 2, none⟩ = some (.int .u8 (b2 : Int)) := f2
        have f3d : w8.drew.cell? ⟨g, 3, none⟩ = some (.int .u8 (b3 : Int)) := f3
        have hmx : nA + 4 ≤ maxLen := hc1
        have hx8d := hx8.dr (Dr.refl w8).one
        go_wp2
        go_region_held3 (fun w' => w'.cell? ⟨g, 0, none⟩ = some (.int .u8 (b0 : Int)) ∧ w'.cell? ⟨g, 1, none⟩ = some (.int .u8 (b1 : Int)) ∧ w'.cell? ⟨g, 2, none⟩ = some (.int .u8 (b2 : Int)) ∧ w'.cell? ⟨g, 3, none⟩ = some (.int .u8 (b3 : Int))) (first | exact ⟨f0, f1, f2, f3⟩ | exact ⟨f0d, f1d, f2d, f3d⟩ | exact ⟨k0, k1, k2, k3⟩ | exact ⟨m0, m1, m2, m3⟩ | exact ⟨n0, n1, n2', n3⟩)
          (first
            | (go_at_call 20; refine (rcheck_any A1 nA cA fs _ hx8d (by omega)).mono ?_; rintro e w9 ⟨c0, c1, c2', c3', rfl, H9, l9, hb9'⟩; have hb9 := below_undrew hb9'; have k0 := (HK.out w9 0 hb9).trans f0; have k1 := (HK.out w9 1 hb9).trans f1; have k2 := (HK.out w9 2 hb9).trans f2; have k3 := (HK.out w9 3 hb9).trans f3; have he := fun W => eql30 l4' l9 W; have het : eq4 [b0, b1, b2, b3] [c0, c1, c2', c3'] = true := (by rw [← H4.out, ← H9.out]; exact eq4_self _); unfold a4)
            | (go_at_call 21; refine (rgood_any A8 (nA + 4) c8 zs _ (hwb8.keep hb9) hmx).mono ?_; rintro e w10 ⟨rfl, hd10⟩; have hb10 := hb9.trans (hd10.below _); have m0 := (HK.out w10 0 hb10).trans f0; have m1 := (HK.out w10 1 hb10).trans f1; have m2 := (HK.out w10 2 hb10).trans f2; have m3 := (HK.out w10 3 hb10).trans f3; rw [HG8.out])
            | (go_at_call 22; refine (good_any A8 (nA + 4) c8 zs _ (hwb8.keep hb10) hmx hcap8 (ht8.below hb10)).mono ?_; rintro e w11 ⟨rfl, hb11'⟩; have hb11 := hb10.trans (hb11'.mono hb10.size); have n0 := (HK.out w11 0 hb11).trans f0; have n1 := (HK.out w11 1 hb11).trans f1; have n2' := (HK.out w11 2 hb11).trans f2; have n3 := (HK.out w11 3 hb11).trans f3; rw [HG8.out]))
        all_goals
          go_wp2
          go_ret
          exact ⟨by simp, hbw8.trans (hb11.mono hsw8)⟩

end Go.Proofs.YtmckgdjipkkklaaDoor
