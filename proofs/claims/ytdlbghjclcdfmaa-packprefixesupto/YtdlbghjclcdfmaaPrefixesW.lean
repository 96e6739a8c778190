/- PackPrefixes: the walk. -/
import Derived.Test.YtdlbghjclcdfmaaAwake
import Derived.Test.YtdlbghjclcdfmaaRefSplit
import Derived.Test.YtdlbghjclcdfmaaPre
namespace Go.Proofs.Ytdlbghjclcdfmaa
set_option linter.unusedVariables false
set_option linter.unusedSimpArgs false
open Go.RowKit

theorem elem36 : Try.prog.underlying 36 = some (.slice (Try.prog.elem 36)) := by kernel_rfl
theorem elem36' : Try.prog.elem 36 = 23 := by kernel_rfl
theorem headA (A : Option Addr) (c : Nat) : (if c = 0 then A else A.map (fun x => x.add (0 * 1))) = A := by
  split
  · rfl
  · cases A with
    | none => rfl
    | some a => simp only [Option.map_some, Option.some.injEq]; unfold Addr.add; simp
theorem slice36 (A : Option Addr) (n c : Nat) (h : 20 < n) (h1 : n ≤ c) (W : World) :
    (Instr.slice 36 (.slice A n c) none (some (.int .i64 20)) none).run Try.prog W = .ok (.slice A 20 c) W := by
  rw [run_slice_h (P := Try.prog) W 36 A n c elem36 .i64 20 (by omega) (by omega), elem36', Try.sizeOf23]
  simp only [sliced, Result.andThen]
  rw [headA]; rfl
theorem slice23h (A : Option Addr) (n c hi : Nat) (h : hi ≤ c) (W : World) :
    (Instr.slice 23 (.slice A n c) none (some (.int .i64 (hi : Int))) none).run Try.prog W = .ok (.slice A hi c) W := by
  rw [run_slice_h (P := Try.prog) W 23 A n c elem23 .i64 (hi : Int) (by omega) (by omega), elem23', Try.sizeOf5]
  simp only [sliced, Result.andThen, Int.toNat_natCast]
  rw [headA]; rfl
theorem Bs.short {w : World} {A : Option Addr} {n m : Nat} {xs : List Int} (h : Bs w A n xs) (hm : m ≤ n) : Bs w A m (xs.take m) :=
  ⟨by unfold By; rw [List.map_take]; exact h.1.short hm, h.2.sub fun x hx => List.mem_of_mem_take hx⟩
theorem Bss.short {w : World} {A : Option Addr} {n m : Nat} {xss : List (List Int)} (h : Bss w A n xss) (hm : m ≤ n) : Bss w A m (xss.take m) := by
  obtain ⟨hl, vs, hr, he⟩ := h
  refine ⟨by rw [List.length_take]; omega, vs.take m, Rd.short (w := w) hr hm, fun i v xs hv hx => ?_⟩
  have hi : i < m := by
    have := (List.getElem?_eq_some_iff.1 hv).1
    rw [List.length_take] at this; omega
  rw [List.getElem?_take, if_pos hi] at hv hx
  exact he i v xs hv hx
def cut100 (xss : List (List Int)) : List (List Int) := xss.map (·.take 100)
theorem cut100_small (xss : List (List Int)) : ∀ t ∈ cut100 xss, t.length ≤ 100 := by
  intro t ht
  obtain ⟨x, _, rfl⟩ := List.mem_map.1 ht
  exact List.length_take_le _ _
theorem cut100_snoc {xss : List (List Int)} {k : Nat} {xs : List Int} (h : xss[k]? = some xs) : cut100 (xss.take (k + 1)) = cut100 (xss.take k) ++ [xs.take 100] := by
  obtain ⟨hk, rfl⟩ := List.getElem?_eq_some_iff.1 h
  rw [List.take_succ_eq_append_getElem hk]
  simp only [cut100, List.map_append, List.map_cons, List.map_nil]
theorem texts_small : ∀ xss : List (List Int), (∀ t ∈ xss, t.length ≤ 100) → (texts xss).length ≤ 109 * xss.length
  | [], _ => by simp [texts]
  | x :: r, h => by
    have ih := texts_small r (fun t ht => h t (by simp [ht]))
    have e : texts (x :: r) = num x.length ++ (x ++ texts r) := by simp [texts]
    have h1 := h x (by simp)
    have h2 := num_le (x.length : Int)
    rw [e]; simp only [List.length_append, List.length_cons]; omega

set_option maxRecDepth 100000 in
set_option maxHeartbeats 2000000 in
theorem pre_short (L B : Option Addr) (n m c d : Nat) (yss : List (List Int)) (xs : List Int) (w : World) (hl0 : Bss w L n yss) (hx : Bs w B m xs) (hnc : n ≤ c) (hm : m ≤ 1048576) (h20 : n ≤ 20) :
    Calls Try.prog 9 #[.slice L n c, .slice B m d] w fun e w' => e = .returned (.bool true) ∧ Below w.heap.size w w' := by
  obtain ⟨i0, hi, hz0, hz1, hz2⟩ := info_parts info23
  obtain ⟨j0, hj, hy0, hy1, hy2⟩ := info_parts info5
  have hl := hl0
  generalize hys : yss = xss at *
  clear hys
  have HXL := Lib.hid hx.len
  have HXR := Lib.hid hx.2
  have hln : n ≤ 20 := by omega
  have HLL := Lib.hid hl.len
  go_enter Try.func9, Try.ntmps9
  go_wp2_with fail
  refine (awake_any _).mono ?_
  rintro e w1 ⟨rfl, hb1⟩
  have hl1 := Bss.keep hl hb1; have hx1 := hx.keep hb1
  have hsz1 := hb1.size
  clear hl hx hl0
  go_wp2
  go_loopw [5, 23] (fun o i wr => ∃ (k c' : Nat) (A' : Option Addr), o = .slice A' k c' ∧ i = .int .i64 k ∧ k ≤ n ∧ RPrts wr w1.heap.size A' k c' (cut100 (xss.take k)) ∧ Below w1.heap.size w1 wr) (fun _ i _ => n - (intOf i).toNat)
  case atStart => exact ⟨0, 0, none, rfl, rfl, Nat.zero_le _, RPrts.nil_, Below.refl _ _⟩
  case round =>
    obtain ⟨k, c', A', rfl, rfl, hk, hp, hb⟩ := hrel
    have hsz := hb.size
    by_cases hlt : k < n
    · obtain ⟨b, off, A2, n2, c2, ts, rfl, hbk, hcell, hts, hn2, HT⟩ := hl1.at_ hlt
      have hcell' : wr.cell? ⟨b, off + k, none⟩ = some (.slice A2 n2 c2) := (hb.cell (p := ⟨b, off + k, none⟩) hbk).trans hcell
      have HSN := Lib.hid (cut100_snoc HT.out)
      have HTL := Lib.hid hts.len
      by_cases h100 : 100 < n2
      · have hsl := slice23h A2 n2 c2 100 (by omega)
        have hsl' : ∀ W, (Instr.slice 23 (.slice A2 n2 c2) none (some (.int .i64 100)) none).run Try.prog W = .ok (.slice A2 100 c2) W := hsl
        have hel : BsP wr (· < w1.heap.size) A2 100 (ts.take 100) := (Bs.bsP (hts.short (m := 100) (by omega))).keep (fun b hb' => hb.block b hb')
        have HLN2 := Lib.hid (show (ts.take 100).length = 100 by rw [List.length_take, HTL.out]; omega)
        clear hsl hts hcell
        obtain ⟨vs, hrow, HROW⟩ := hp.row (.cells #[.slice A2 100 c2] 23) hsz
        clear hp
        go_wp2_with (at_builtin; refine wpList_append_rd rfl _ _ 36 rfl i0 (.slice none 0 0) 24 Try.underlying36 hi hz0 hz1 hz2 rfl rfl hrow (some ⟨wr.heap.size, 0, none⟩) 1 1 [.slice A2 100 c2] rfl (rd_oneV wr _ 23) (one_slice _ _ _) ?c1 ?c2 ?c3 ?_)
        case c1 => unfold maxLen; omega
        case c2 => omega
        case c3 => simp; omega
        intro A4 c4 w4 ho4 hg4
        have hb4 := (hb.alloc hsz (.cells #[.slice A2 100 c2] 23)).trans (hg4.below (B := w1.heap.size) (by simp; omega) (fun k hk => (hrow.lies k hk).1))
        have HP : Hid (RPrts w4 w1.heap.size A4 (k + 1) c4 (cut100 (xss.take k) ++ [ts.take 100])) := by
          refine HROW.out A2 c2 (ts.take 100) w4 A4 c4 ?_ ?_ ?_ hg4
          · rw [HLN2.out]; exact hel
          · rw [HLN2.out]; omega
          · rw [HLN2.out]; exact ho4
        clear hrow HROW ho4 hg4 hb hel hcell'
        go_wp2
        go_roundw
        case rel => exact ⟨k + 1, c4, A4, rfl, by go_num, by omega, by rw [HSN.out]; exact HP.out, hb4⟩
        case measure => simp [intOf]; omega
      · have hel : BsP wr (· < w1.heap.size) A2 n2 (ts.take 100) := by
          rw [List.take_of_length_le (by rw [HTL.out]; omega)]
          exact (Bs.bsP hts).keep (fun b hb' => hb.block b hb')
        have HLN2 := Lib.hid (show (ts.take 100).length = n2 by rw [List.length_take, HTL.out]; omega)
        clear hts hcell
        obtain ⟨vs, hrow, HROW⟩ := hp.row (.cells #[.slice A2 n2 c2] 23) hsz
        clear hp
        go_wp2_with (at_builtin; refine wpList_append_rd rfl _ _ 36 rfl i0 (.slice none 0 0) 24 Try.underlying36 hi hz0 hz1 hz2 rfl rfl hrow (some ⟨wr.heap.size, 0, none⟩) 1 1 [.slice A2 n2 c2] rfl (rd_oneV wr _ 23) (one_slice _ _ _) ?c1 ?c2 ?c3 ?_)
        case c1 => unfold maxLen; omega
        case c2 => omega
        case c3 => simp; omega
        intro A4 c4 w4 ho4 hg4
        have hb4 := (hb.alloc hsz (.cells #[.slice A2 n2 c2] 23)).trans (hg4.below (B := w1.heap.size) (by simp; omega) (fun k hk => (hrow.lies k hk).1))
        have HP : Hid (RPrts w4 w1.heap.size A4 (k + 1) c4 (cut100 (xss.take k) ++ [ts.take 100])) := by
          refine HROW.out A2 c2 (ts.take 100) w4 A4 c4 ?_ ?_ ?_ hg4
          · rw [HLN2.out]; exact hel
          · rw [HLN2.out]; omega
          · rw [HLN2.out]; exact ho4
        clear hrow HROW ho4 hg4 hb hel hcell'
        go_wp2
        go_roundw
        case rel => exact ⟨k + 1, c4, A4, rfl, by go_num, by omega, by rw [HSN.out]; exact HP.out, hb4⟩
        case measure => simp [intOf]; omega
    · have hkl : n ≤ k := by omega
      have hke : xss.take k = xss := List.take_of_length_le (by rw [HLL.out]; omega)
      rw [hke] at hp
      clear hke hlt hl1
      have HP1 := Lib.hid hp.1
      have hsmall := cut100_small xss
      have hx2 := hx1.keep hb
      have hb2 := hb1.trans (hb.mono hsz1)
      have hbs := hp.bss hsz
      clear hx1 hb hb1 hsz1 hp
      generalize cut100 xss = zss at *
      have hjl : (joinL zss).length ≤ 2189 := by
        have h1 := texts_small zss hsmall
        have h2 := num_le (zss.length : Int)
        have h3 := HP1.out
        simp only [joinL, List.length_append]; omega
      have hbig1 : (zss.length : Int) ≤ 18446744073709551615 := by have := HP1.out; omega
      have hbig2 : ∀ t ∈ zss, (t.length : Int) ≤ 18446744073709551615 := fun t ht => by have := hsmall t ht; omega
      have HJR := Lib.hid (joinL_ran hbs)
      have HPRE := Lib.hid (fun i hi => splitL_pre zss hbig1 hbig2 i hi)
      have HALL := Lib.hid (splitL_join zss hbig1 hbig2)
      have HMORE := Lib.hid (fun h => splitL_behind zss xs h hbig1 hbig2)
      clear hbig1 hbig2 hsmall
      obtain ⟨jn, hjn⟩ : ∃ jn, (joinL zss).length = jn := ⟨_, rfl⟩
      rw [hjn] at hjl
      have HJN := Lib.hid hjn; clear hjn
      go_wp2_with fail
      refine (join_any A' k c' zss _ hbs (by unfold maxLen; omega) (by rw [HJN.out]; omega)).mono ?_
      rintro e w3 ⟨A3, n3, c3, rfl, hn3, ho3, hb3'⟩
      have hn3' : n3 = jn := hn3.trans HJN.out
      clear hn3
      subst hn3'
      have hx3 := hx2.keep hb3'
      have hsz2 := hb2.size
      have hb3 := hb2.trans (hb3'.mono hsz2)
      have hj3 := ho3.bs HJR.out
      have hcap := ho3.cap
      have hlies : ∀ k, blk A3 = some k → k < w3.heap.size := fun k hk => (ho3.lies k hk).2
      clear hx2 hb2 hb3' hbs ho3
      go_wp2
      go_loopw [41] (fun i wr => ∃ (k : Nat), i = .int .i64 k ∧ k ≤ n3 ∧ Below w3.heap.size w3 wr) (fun i _ => n3 - (intOf i).toNat)
      case atStart => exact ⟨0, rfl, Nat.zero_le _, Below.refl _ _⟩
      case round =>
        obtain ⟨k2, rfl, hk2, hbr⟩ := hrel
        have hszr := hbr.size
        by_cases hlt2 : k2 < n3
        · have hsl := slice23h A3 n3 c3 k2 (by omega)
          have hjk : Bs wr A3 k2 ((joinL zss).take k2) := (hj3.short hk2).keep hbr
          have HSP := Lib.hid (HPRE.out k2 (by rw [HJN.out]; exact hlt2))
          go_wp2_with fail
          refine (split_any A3 k2 c3 _ _ hjk (by omega) (fun k hk => by have := hlies k hk; omega) (by omega)).mono ?_
          rw [HSP.out]
          rintro e w4 ⟨A4, n4, c4, rfl, hn4, hp4, hb4⟩
          have hn4' : n4 = 0 := hn4
          clear hn4
          subst hn4'
          have hb5 := hbr.trans (hb4.mono hszr)
          clear hb4 hbr hp4 hjk
          go_wp2
          go_roundw
          case rel => exact ⟨k2 + 1, by go_num, by omega, hb5⟩
          case measure => simp [intOf]; omega
        · have hj4 := hj3.keep hbr; have hx4 := hx3.keep hbr
          have hsz3 := hb3.size
          have hb4 := hb3.trans (hbr.mono hsz3)
          clear hj3 hx3 hb3 hbr HPRE hlies
          go_wp2_with fail
          refine (copy_any A3 n3 c3 _ _ hj4 (by omega)).mono ?_
          rintro e w5 ⟨A5, c5, rfl, ho5, hb5'⟩
          have hx5 := hx4.keep hb5'
          have hsz4 := hb4.size
          have hb5 := hb4.trans (hb5'.mono hsz4)
          have hsz5 := hb5'.size
          clear hj4 hx4 hb4
          go_wp2_with (at_builtin; refine wpList_append_rd rfl _ _ 23 rfl j0 (.int .u8 0) 1 Try.underlying23 hj hy0 hy1 hy2 rfl rfl ho5 B m d (By xs) rfl hx5.1 (By_one _) ?c1 ?c2 ?c3 ?_)
          case c1 => unfold maxLen; omega
          case c2 => omega
          case c3 => omega
          intro A6 c6 w6 ho6 hg6
          rw [← By_append] at ho6
          have hb6 := hb5.trans (hg6.below (B := w.heap.size) (by omega) (fun k hk => by have := (ho5.lies k hk).1; omega))
          have hy6 := ho6.bs (HJR.out.append HXR.out)
          have hcap6 := ho6.cap
          have hlies6 : ∀ k, blk A6 = some k → k < w6.heap.size := fun k hk => (ho6.lies k hk).2
          have hsz6 := hb6.size
          clear ho5 ho6 hg6 hb5 hb5' hx5
          by_cases hm0 : m = 0
          · have hxn : xs = [] := List.eq_nil_of_length_eq_zero (by rw [HXL.out]; exact hm0)
            have HSP := Lib.hid (show splitL (joinL zss ++ xs) = (zss, 0) by rw [hxn, List.append_nil]; exact HALL.out)
            have hm0' : ((m : Int) == 0) = true := by simp [hm0]
            have hm1 : ¬ 0 < m := by omega
            clear hxn hm0
            go_wp2_with fail
            refine (split_any A6 (n3 + m) c6 _ _ hy6 hcap6 hlies6 (by omega)).mono ?_
            rw [HSP.out]
            rintro e w7 ⟨A7, n7, c7, rfl, hn7, hp7, hb7'⟩
            have hb7 := hb6.trans (hb7'.mono hsz6)
            clear hn7 hp7 hb7' hy6 hb6
            go_wp2
            go_ret
            exact ⟨rfl, hb7⟩
          · have hxn : xs ≠ [] := by intro e; have := HXL.out; rw [e] at this; simp at this; omega
            have HSP := Lib.hid (HMORE.out hxn)
            have hm1 : 0 < m := by omega
            clear hxn hm0
            go_wp2_with fail
            refine (split_any A6 (n3 + m) c6 _ _ hy6 hcap6 hlies6 (by omega)).mono ?_
            rw [HSP.out]
            rintro e w7 ⟨A7, n7, c7, rfl, hn7, hp7, hb7'⟩
            have hn7' : n7 = 0 := hn7
            clear hn7
            subst hn7'
            have hb7 := hb6.trans (hb7'.mono hsz6)
            clear hp7 hb7' hy6 hb6
            go_wp2
            go_ret
            exact ⟨rfl, hb7⟩
set_option maxRecDepth 100000 in
set_option maxHeartbeats 2000000 in
theorem pre_long (L B : Option Addr) (n m c d : Nat) (yss : List (List Int)) (xs : List Int) (w : World) (hl0 : Bss w L n yss) (hx : Bs w B m xs) (hnc : n ≤ c) (hm : m ≤ 1048576) (h20 : 20 < n) :
    Calls Try.prog 9 #[.slice L n c, .slice B m d] w fun e w' => e = .returned (.bool true) ∧ Below w.heap.size w w' := by
  obtain ⟨i0, hi, hz0, hz1, hz2⟩ := info_parts info23
  obtain ⟨j0, hj, hy0, hy1, hy2⟩ := info_parts info5
  have hl := Bss.short hl0 (m := 20) (by omega)
  have hs20 := slice36 L n c h20 hnc
  have hd20 : decide (20 < n) = true := by simpa using h20
  have hd20i : decide ((20 : Int) < (n : Int)) = true := by simp; omega
  generalize hys : yss.take 20 = xss at *
  clear hys
  have HXL := Lib.hid hx.len
  have HXR := Lib.hid hx.2
  have hln : 20 ≤ 20 := by omega
  have HLL := Lib.hid hl.len
  go_enter Try.func9, Try.ntmps9
  go_wp2_with fail
  refine (awake_any _).mono ?_
  rintro e w1 ⟨rfl, hb1⟩
  have hl1 := Bss.keep hl hb1; have hx1 := hx.keep hb1
  have hsz1 := hb1.size
  clear hl hx hl0
  go_wp2
  go_loopw [5, 23] (fun o i wr => ∃ (k c' : Nat) (A' : Option Addr), o = .slice A' k c' ∧ i = .int .i64 k ∧ k ≤ 20 ∧ RPrts wr w1.heap.size A' k c' (cut100 (xss.take k)) ∧ Below w1.heap.size w1 wr) (fun _ i _ => 20 - (intOf i).toNat)
  case atStart => exact ⟨0, 0, none, rfl, rfl, Nat.zero_le _, RPrts.nil_, Below.refl _ _⟩
  case round =>
    obtain ⟨k, c', A', rfl, rfl, hk, hp, hb⟩ := hrel
    have hsz := hb.size
    by_cases hlt : k < 20
    · obtain ⟨b, off, A2, n2, c2, ts, rfl, hbk, hcell, hts, hn2, HT⟩ := hl1.at_ hlt
      have hcell' : wr.cell? ⟨b, off + k, none⟩ = some (.slice A2 n2 c2) := (hb.cell (p := ⟨b, off + k, none⟩) hbk).trans hcell
      have HSN := Lib.hid (cut100_snoc HT.out)
      have HTL := Lib.hid hts.len
      by_cases h100 : 100 < n2
      · have hsl := slice23h A2 n2 c2 100 (by omega)
        have hsl' : ∀ W, (Instr.slice 23 (.slice A2 n2 c2) none (some (.int .i64 100)) none).run Try.prog W = .ok (.slice A2 100 c2) W := hsl
        have hel : BsP wr (· < w1.heap.size) A2 100 (ts.take 100) := (Bs.bsP (hts.short (m := 100) (by omega))).keep (fun b hb' => hb.block b hb')
        have HLN2 := Lib.hid (show (ts.take 100).length = 100 by rw [List.length_take, HTL.out]; omega)
        clear hsl hts hcell
        obtain ⟨vs, hrow, HROW⟩ := hp.row (.cells #[.slice A2 100 c2] 23) hsz
        clear hp
        go_wp2_with (at_builtin; refine wpList_append_rd rfl _ _ 36 rfl i0 (.slice none 0 0) 24 Try.underlying36 hi hz0 hz1 hz2 rfl rfl hrow (some ⟨wr.heap.size, 0, none⟩) 1 1 [.slice A2 100 c2] rfl (rd_oneV wr _ 23) (one_slice _ _ _) ?c1 ?c2 ?c3 ?_)
        case c1 => unfold maxLen; omega
        case c2 => omega
        case c3 => simp; omega
        intro A4 c4 w4 ho4 hg4
        have hb4 := (hb.alloc hsz (.cells #[.slice A2 100 c2] 23)).trans (hg4.below (B := w1.heap.size) (by simp; omega) (fun k hk => (hrow.lies k hk).1))
        have HP : Hid (RPrts w4 w1.heap.size A4 (k + 1) c4 (cut100 (xss.take k) ++ [ts.take 100])) := by
          refine HROW.out A2 c2 (ts.take 100) w4 A4 c4 ?_ ?_ ?_ hg4
          · rw [HLN2.out]; exact hel
          · rw [HLN2.out]; omega
          · rw [HLN2.out]; exact ho4
        clear hrow HROW ho4 hg4 hb hel hcell'
        go_wp2
        go_roundw
        case rel => exact ⟨k + 1, c4, A4, rfl, by go_num, by omega, by rw [HSN.out]; exact HP.out, hb4⟩
        case measure => simp [intOf]; omega
      · have hel : BsP wr (· < w1.heap.size) A2 n2 (ts.take 100) := by
          rw [List.take_of_length_le (by rw [HTL.out]; omega)]
          exact (Bs.bsP hts).keep (fun b hb' => hb.block b hb')
        have HLN2 := Lib.hid (show (ts.take 100).length = n2 by rw [List.length_take, HTL.out]; omega)
        clear hts hcell
        obtain ⟨vs, hrow, HROW⟩ := hp.row (.cells #[.slice A2 n2 c2] 23) hsz
        clear hp
        go_wp2_with (at_builtin; refine wpList_append_rd rfl _ _ 36 rfl i0 (.slice none 0 0) 24 Try.underlying36 hi hz0 hz1 hz2 rfl rfl hrow (some ⟨wr.heap.size, 0, none⟩) 1 1 [.slice A2 n2 c2] rfl (rd_oneV wr _ 23) (one_slice _ _ _) ?c1 ?c2 ?c3 ?_)
        case c1 => unfold maxLen; omega
        case c2 => omega
        case c3 => simp; omega
        intro A4 c4 w4 ho4 hg4
        have hb4 := (hb.alloc hsz (.cells #[.slice A2 n2 c2] 23)).trans (hg4.below (B := w1.heap.size) (by simp; omega) (fun k hk => (hrow.lies k hk).1))
        have HP : Hid (RPrts w4 w1.heap.size A4 (k + 1) c4 (cut100 (xss.take k) ++ [ts.take 100])) := by
          refine HROW.out A2 c2 (ts.take 100) w4 A4 c4 ?_ ?_ ?_ hg4
          · rw [HLN2.out]; exact hel
          · rw [HLN2.out]; omega
          · rw [HLN2.out]; exact ho4
        clear hrow HROW ho4 hg4 hb hel hcell'
        go_wp2
        go_roundw
        case rel => exact ⟨k + 1, c4, A4, rfl, by go_num, by omega, by rw [HSN.out]; exact HP.out, hb4⟩
        case measure => simp [intOf]; omega
    · have hkl : 20 ≤ k := by omega
      have hke : xss.take k = xss := List.take_of_length_le (by rw [HLL.out]; omega)
      rw [hke] at hp
      clear hke hlt hl1
      have HP1 := Lib.hid hp.1
      have hsmall := cut100_small xss
      have hx2 := hx1.keep hb
      have hb2 := hb1.trans (hb.mono hsz1)
      have hbs := hp.bss hsz
      clear hx1 hb hb1 hsz1 hp
      generalize cut100 xss = zss at *
      have hjl : (joinL zss).length ≤ 2189 := by
        have h1 := texts_small zss hsmall
        have h2 := num_le (zss.length : Int)
        have h3 := HP1.out
        simp only [joinL, List.length_append]; omega
      have hbig1 : (zss.length : Int) ≤ 18446744073709551615 := by have := HP1.out; omega
      have hbig2 : ∀ t ∈ zss, (t.length : Int) ≤ 18446744073709551615 := fun t ht => by have := hsmall t ht; omega
      have HJR := Lib.hid (joinL_ran hbs)
      have HPRE := Lib.hid (fun i hi => splitL_pre zss hbig1 hbig2 i hi)
      have HALL := Lib.hid (splitL_join zss hbig1 hbig2)
      have HMORE := Lib.hid (fun h => splitL_behind zss xs h hbig1 hbig2)
      clear hbig1 hbig2 hsmall
      obtain ⟨jn, hjn⟩ : ∃ jn, (joinL zss).length = jn := ⟨_, rfl⟩
      rw [hjn] at hjl
      have HJN := Lib.hid hjn; clear hjn
      go_wp2_with fail
      refine (join_any A' k c' zss _ hbs (by unfold maxLen; omega) (by rw [HJN.out]; omega)).mono ?_
      rintro e w3 ⟨A3, n3, c3, rfl, hn3, ho3, hb3'⟩
      have hn3' : n3 = jn := hn3.trans HJN.out
      clear hn3
      subst hn3'
      have hx3 := hx2.keep hb3'
      have hsz2 := hb2.size
      have hb3 := hb2.trans (hb3'.mono hsz2)
      have hj3 := ho3.bs HJR.out
      have hcap := ho3.cap
      have hlies : ∀ k, blk A3 = some k → k < w3.heap.size := fun k hk => (ho3.lies k hk).2
      clear hx2 hb2 hb3' hbs ho3
      go_wp2
      go_loopw [41] (fun i wr => ∃ (k : Nat), i = .int .i64 k ∧ k ≤ n3 ∧ Below w3.heap.size w3 wr) (fun i _ => n3 - (intOf i).toNat)
      case atStart => exact ⟨0, rfl, Nat.zero_le _, Below.refl _ _⟩
      case round =>
        obtain ⟨k2, rfl, hk2, hbr⟩ := hrel
        have hszr := hbr.size
        by_cases hlt2 : k2 < n3
        · have hsl := slice23h A3 n3 c3 k2 (by omega)
          have hjk : Bs wr A3 k2 ((joinL zss).take k2) := (hj3.short hk2).keep hbr
          have HSP := Lib.hid (HPRE.out k2 (by rw [HJN.out]; exact hlt2))
          go_wp2_with fail
          refine (split_any A3 k2 c3 _ _ hjk (by omega) (fun k hk => by have := hlies k hk; omega) (by omega)).mono ?_
          rw [HSP.out]
          rintro e w4 ⟨A4, n4, c4, rfl, hn4, hp4, hb4⟩
          have hn4' : n4 = 0 := hn4
          clear hn4
          subst hn4'
          have hb5 := hbr.trans (hb4.mono hszr)
          clear hb4 hbr hp4 hjk
          go_wp2
          go_roundw
          case rel => exact ⟨k2 + 1, by go_num, by omega, hb5⟩
          case measure => simp [intOf]; omega
        · have hj4 := hj3.keep hbr; have hx4 := hx3.keep hbr
          have hsz3 := hb3.size
          have hb4 := hb3.trans (hbr.mono hsz3)
          clear hj3 hx3 hb3 hbr HPRE hlies
          go_wp2_with fail
          refine (copy_any A3 n3 c3 _ _ hj4 (by omega)).mono ?_
          rintro e w5 ⟨A5, c5, rfl, ho5, hb5'⟩
          have hx5 := hx4.keep hb5'
          have hsz4 := hb4.size
          have hb5 := hb4.trans (hb5'.mono hsz4)
          have hsz5 := hb5'.size
          clear hj4 hx4 hb4
          go_wp2_with (at_builtin; refine wpList_append_rd rfl _ _ 23 rfl j0 (.int .u8 0) 1 Try.underlying23 hj hy0 hy1 hy2 rfl rfl ho5 B m d (By xs) rfl hx5.1 (By_one _) ?c1 ?c2 ?c3 ?_)
          case c1 => unfold maxLen; omega
          case c2 => omega
          case c3 => omega
          intro A6 c6 w6 ho6 hg6
          rw [← By_append] at ho6
          have hb6 := hb5.trans (hg6.below (B := w.heap.size) (by omega) (fun k hk => by have := (ho5.lies k hk).1; omega))
          have hy6 := ho6.bs (HJR.out.append HXR.out)
          have hcap6 := ho6.cap
          have hlies6 : ∀ k, blk A6 = some k → k < w6.heap.size := fun k hk => (ho6.lies k hk).2
          have hsz6 := hb6.size
          clear ho5 ho6 hg6 hb5 hb5' hx5
          by_cases hm0 : m = 0
          · have hxn : xs = [] := List.eq_nil_of_length_eq_zero (by rw [HXL.out]; exact hm0)
            have HSP := Lib.hid (show splitL (joinL zss ++ xs) = (zss, 0) by rw [hxn, List.append_nil]; exact HALL.out)
            have hm0' : ((m : Int) == 0) = true := by simp [hm0]
            have hm1 : ¬ 0 < m := by omega
            clear hxn hm0
            go_wp2_with fail
            refine (split_any A6 (n3 + m) c6 _ _ hy6 hcap6 hlies6 (by omega)).mono ?_
            rw [HSP.out]
            rintro e w7 ⟨A7, n7, c7, rfl, hn7, hp7, hb7'⟩
            have hb7 := hb6.trans (hb7'.mono hsz6)
            clear hn7 hp7 hb7' hy6 hb6
            go_wp2
            go_ret
            exact ⟨rfl, hb7⟩
          · have hxn : xs ≠ [] := by intro e; have := HXL.out; rw [e] at this; simp at this; omega
            have HSP := Lib.hid (HMORE.out hxn)
            have hm1 : 0 < m := by omega
            clear hxn hm0
            go_wp2_with fail
            refine (split_any A6 (n3 + m) c6 _ _ hy6 hcap6 hlies6 (by omega)).mono ?_
            rw [HSP.out]
            rintro e w7 ⟨A7, n7, c7, rfl, hn7, hp7, hb7'⟩
            have hn7' : n7 = 0 := hn7
            clear hn7
            subst hn7'
            have hb7 := hb6.trans (hb7'.mono hsz6)
            clear hp7 hb7' hy6 hb6
            go_wp2
            go_ret
            exact ⟨rfl, hb7⟩
theorem pre_walk (L B : Option Addr) (n m c d : Nat) (yss : List (List Int)) (xs : List Int) (w : World) (hl0 : Bss w L n yss) (hx : Bs w B m xs) (hnc : n ≤ c) (hm : m ≤ 1048576) :
    Calls Try.prog 9 #[.slice L n c, .slice B m d] w fun e w' => e = .returned (.bool true) ∧ Below w.heap.size w w' := by
  by_cases h : n ≤ 20
  · exact pre_short L B n m c d yss xs w hl0 hx hnc hm h
  · exact pre_long L B n m c d yss xs w hl0 hx hnc hm (by omega)
end Go.Proofs.Ytdlbghjclcdfmaa
