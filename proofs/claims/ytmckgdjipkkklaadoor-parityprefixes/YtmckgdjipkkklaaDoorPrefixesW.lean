/- ParityPrefixes: the walk. -/
import Derived.Test.YtmckgdjipkkklaaDoorAllW
import Derived.Test.YtmckgdjipkkklaaDoorChecksCut
namespace Go.Proofs.YtmckgdjipkkklaaDoor
set_option linter.unusedVariables false
set_option linter.unusedSimpArgs false
open Go.RowKit

theorem info3 : (Tryd.prog.info? 3).map (fun i => (i.zero, i.size, i.bytes)) = some (some (.int .i64 0), 1, 8) := by kernel_rfl
/-- The ends of the first records, as values. -/
def enV (X : List (List Nat)) (k : Nat) : List Value := (List.range k).map fun i => .int .i64 ((cat (X.take (i + 1))).length : Nat)
theorem enV_succ (X : List (List Nat)) (k : Nat) : enV X (k + 1) = enV X k ++ [.int .i64 ((cat (X.take (k + 1))).length : Nat)] := by simp [enV, List.range_succ]
theorem enV_at (X : List (List Nat)) {k j : Nat} (h : j < k) : (enV X k)[j]? = some (.int .i64 ((cat (X.take (j + 1))).length : Nat)) := by
  unfold enV
  rw [List.getElem?_map, List.getElem?_range h]; rfl
theorem rd_oneI (w : World) (v : Int) : Rd (w.alloc (.cells #[.int .i64 v] 3)) (some ⟨w.heap.size, 0, none⟩) 1 [.int .i64 v] := Rd.of_block (cs := #[.int .i64 v]) (heap_alloc_new w _) rfl
theorem one_int (v : Int) : ∀ u ∈ [Value.int .i64 v], u.oneCell' = true := by
  intro u hu
  have : u = .int .i64 v := by simpa using hu
  subst this; rfl
theorem sealed600 {n : Nat} (h : n ≤ 600) : sealedN n ≤ 620 := by unfold sealedN; omega

set_option maxRecDepth 100000 in
set_option maxHeartbeats 4000000 in
theorem prefixes_walk (P : Option Addr) (n c : Nat) (xss : List (List Int)) (q : Int) (w : World) (hx : Bss w P n xss) (hn : n ≤ maxLen) (hxm : ∀ xs ∈ xss, xs.length ≤ maxLen) (ht : Tabs w) :
    Calls Tryd.prog 8 #[.slice P n c, .int .i64 q] w fun e w' => e = .returned (.bool true) ∧ Below w.heap.size w w' := by
  obtain ⟨i0, hi, hz0, hz1, hz2⟩ := info_parts info5
  obtain ⟨i3, hi3, hy0, hy1, hy2⟩ := info_parts info3
  go_enter Tryd.func8, Tryd.ntmps8
  go_wp2_with fail
  refine (awake_any _ ht).mono ?_
  rintro e w1 ⟨rfl, hb1⟩
  have hl := hx.keep hb1
  have ht1 := ht.below hb1
  have hs1 := hb1.size
  clear hx ht
  have HSM := Lib.hid hxm; clear hxm
  unfold maxLen at hn
  obtain ⟨X, hX⟩ : ∃ X, X = (xss.map (fun t => nl (t.take 600))).take 5 := ⟨_, rfl⟩
  obtain ⟨K, hK⟩ : ∃ K, K = min n 5 := ⟨_, rfl⟩
  have HXK := Lib.hid (show X.length = K by rw [hX, List.length_take, List.length_map, hl.len, hK]; omega)
  have HXX : Hid (∀ x ∈ X, Rn x ∧ x.length ≤ 1048576) := by
    intro x h
    rw [hX] at h
    obtain ⟨t, ht, rfl⟩ := List.mem_map.1 (List.mem_of_mem_take h)
    refine ⟨nl_rn (Ran.sub (hl.ran t ht) fun y hy => List.mem_of_mem_take hy), ?_⟩
    rw [nl_length, List.length_take]; omega
  have HX := Lib.hid hX; clear hX
  have hKn : K ≤ n := by omega
  have hK5 : K ≤ 5 := by omega
  have hKK : ∀ k, k ≤ K → (k < K ↔ (k < n ∧ k < 5)) := fun k hk => by omega
  have HKK := Lib.hid hKK; clear hKK hK
  go_wp2
  go_loopw [5, 6, 7] (fun va ve i wr => ∃ (k nA cA cE : Nat) (A1 E : Option Addr), i = .int .i64 k ∧ k ≤ K ∧ va = .slice A1 nA cA ∧ ve = .slice E k cE ∧ nA ≤ 620 * k ∧ Hid (nA = (cat (X.take k)).length) ∧ Own wr w1.heap.size 5 A1 nA cA (By (il (cat (X.take k)))) ∧ Own wr w1.heap.size 3 E k cE (enV X k) ∧ Below w1.heap.size w1 wr) (fun _ _ i _ => K - (intOf i).toNat)
  case atStart => exact ⟨0, 0, 0, 0, none, none, rfl, Nat.zero_le _, rfl, rfl, Nat.zero_le _, by show (0 : Nat) = _; simp [cat], by simpa [cat, il, By] using Own.nil_, by simpa [enV] using Own.nil_, Below.refl _ _⟩
  case round =>
    obtain ⟨k, nA, cA, cE, A1, E, rfl, hk, rfl, rfl, hnA, HNA, hoA, hoE, hbr⟩ := hrel
    have hsr := hbr.size
    by_cases hlt : k < K
    · obtain ⟨hkn, hk5⟩ := (HKK.out k hk).1 hlt
      obtain ⟨b, off, A2, n2, c2, ts, rfl, hbk, hcell, hts, hnc2, HT⟩ := hl.at_ hkn
      have hcell' : wr.cell? ⟨b, off + k, none⟩ = some (.slice A2 n2 c2) := (hbr.cell (p := ⟨b, off + k, none⟩) hbk).trans hcell
      have hts' := hts.keep hbr
      have hn2m : n2 ≤ maxLen := by rw [← hts.len]; exact HSM.out _ (List.mem_of_getElem? HT.out)
      obtain ⟨us, hus⟩ : ∃ us, ts.take 600 = us := ⟨_, rfl⟩
      have hul : us.length ≤ 600 := by rw [← hus, List.length_take]; omega
      have HTK : Hid (X.take (k + 1) = X.take k ++ [nl us]) := by
        have hxk : X[k]? = some (nl us) := by rw [HX.out, List.getElem?_take, if_pos hk5, List.getElem?_map, HT.out, ← hus]; rfl
        obtain ⟨hk', e⟩ := List.getElem?_eq_some_iff.1 hxk
        show _ = _
        rw [List.take_succ_eq_append_getElem hk', e]
      have hbu : Bs wr A2 us.length us := by
        rw [← hus, List.length_take, hts.len]
        have := hts'.first (m := min 600 n2) (by omega)
        rwa [show ts.take (min 600 n2) = ts.take 600 by rw [← hts.len, List.take_eq_take_iff]; omega] at this
      have huc : us.length ≤ c2 := by rw [← hus, List.length_take, hts.len]; omega
      have htr := ht1.below hbr
      have HUS := Lib.hid hus; clear hus hts hcell
      go_wp2_with fail
      refine (cut_is A2 n2 c2 600 ts us HUS.out _ hts' hn2m hnc2 (by omega)).mono ?_
      rintro e w' ⟨rfl, rfl⟩
      go_wp2_with fail
      refine (seal_any A2 us.length c2 us _ hbu huc (by omega) htr).mono ?_
      rintro e w3 ⟨A3, c3, n3, rfl, hn3, ho3, hb3⟩
      have hn3' : n3 ≤ 620 := by rw [hn3]; exact sealed600 hul
      have hoA3 : Own w3 w1.heap.size 5 A1 nA cA (By (il (cat (X.take k)))) := hoA.below hb3 (fun k hk => (hoA.lies k hk).2)
      have hoE3 : Own w3 w1.heap.size 3 E k cE (enV X k) := hoE.below hb3 (fun k hk => (hoE.lies k hk).2)
      have hbr3 := hbr.trans (hb3.mono hsr)
      have hsr3 := hbr3.size
      have hrd3 := ho3.rd
      have HN3 := Lib.hid (show n3 = (recL (nl us)).length by rw [hn3, recL_length, nl_length])
      clear hoA hoE hb3 hbr hn3 ho3 hts' hbu
      go_wp2_with (at_builtin; refine wpList_append_rd rfl _ _ 28 rfl i0 (.int .u8 0) 1 Tryd.underlying28 hi hz0 hz1 hz2 rfl rfl hoA3 A3 n3 c3 (By (il (recL (nl us)))) rfl hrd3 (By_one _) ?c1 ?c2 ?c3 ?_)
      case c1 => unfold maxLen; omega
      case c2 => omega
      case c3 => exact hsr3
      intro A4 c4 v4 ho4 hg4
      have hb4 : Below w1.heap.size w3 v4 := hg4.below hsr3 (fun k hk => (hoA3.lies k hk).1)
      have hoE4 : Own v4 w1.heap.size 3 E k cE (enV X k) := hoE3.kept hg4.1 (own_apart hoE3 hoA3 (by decide))
      have hbr4 := hbr3.trans hb4
      have hsr4 := hbr4.size
      have HNA4 := Lib.hid (show nA + n3 = (cat (X.take (k + 1))).length by rw [HTK.out, cat_snoc, List.length_append, HNA.out, HN3.out])
      have hoA4 : Own v4 w1.heap.size 5 A4 (nA + n3) c4 (By (il (cat (X.take (k + 1))))) := by rw [HTK.out, cat_snoc, il_append, By_append]; exact ho4
      clear ho4 hg4 hoA3 hoE3 hrd3 hbr3 hb4
      obtain ⟨nB, hnB⟩ : ∃ z, nA + n3 = z := ⟨_, rfl⟩
      rw [hnB] at HNA4 hoA4 ⊢
      have hnB' : nB ≤ 620 * (k + 1) := by omega
      clear hnB
      have hoE5 := hoE4.alloc (.cells #[.int .i64 (nB : Int)] 3)
      go_wp2_with (at_builtin; refine wpList_append_rd rfl _ _ 55 rfl i3 (.int .i64 0) 8 Tryd.underlying55 hi3 hy0 hy1 hy2 rfl rfl hoE5 (some ⟨v4.heap.size, 0, none⟩) 1 1 [.int .i64 (nB : Int)] rfl (rd_oneI v4 _) (one_int _) ?d1 ?d2 ?d3 ?_)
      case d1 => unfold maxLen; omega
      case d2 => omega
      case d3 => simp; omega
      intro E6 cE6 w6 ho6 hg6
      have hb6 : Below w1.heap.size v4 w6 := ((below_alloc v4 _).mono hsr4).trans (hg6.below (by simp; omega) (fun k hk => (hoE5.lies k hk).1))
      have hoA6 : Own w6 w1.heap.size 5 A4 nB c4 (By (il (cat (X.take (k + 1))))) := (hoA4.alloc _).kept hg6.1 (own_apart (hoA4.alloc _) hoE5 (by decide))
      have hbr6 := hbr4.trans hb6
      have HOE6 : Hid (Own w6 w1.heap.size 3 E6 (k + 1) cE6 (enV X (k + 1))) := by
        show Own _ _ _ _ _ _ _
        rw [enV_succ, ← HNA4.out]; exact ho6
      clear ho6 hg6 hoE5 hoE4 hoA4 hbr4 hb6
      go_wp2
      go_roundw
      case rel => exact ⟨k + 1, nB, c4, cE6, A4, E6, by go_num, by omega, rfl, rfl, hnB', HNA4, hoA6, HOE6.out, hbr6⟩
      case measure => simp [intOf]; omega
    · obtain rfl : K = k := by omega
      have hke : X.take K = X := List.take_of_length_le (by rw [HXK.out]; exact Nat.le_refl _)
      rw [hke] at HNA hoA
      have HIR := Lib.hid (il_ran (show Rn (cat X) by
        intro z hz
        obtain ⟨l, hl', hzl⟩ := List.mem_flatten.1 hz
        obtain ⟨x, hx', rfl⟩ := List.mem_map.1 hl'
        exact recL_rn (HXX.out x hx').1 z hzl))
      have hnot : ¬ (K < n ∧ K < 5) := fun h => hlt ((HKK.out K (Nat.le_refl _)).2 h)
      have htB := ht1.below hbr
      have hbwB := hb1.trans (hbr.mono hs1)
      have hsB := hbwB.size
      clear hke hlt hl hbr
      generalize hwB : wr = wB at *
      clear hwB
      have hexit : (decide (K < n) = false) ∨ (decide (K < n) = true ∧ decide ((K : Int) < 5) = false) := by
        by_cases h : K < n
        · right; constructor
          · simp; omega
          · simp; omega
        · left; simp; omega
      have hq : (q < 0 ∨ (nA : Int) < q) ∨ (0 ≤ q ∧ q ≤ (nA : Int)) := by omega
      rcases hexit with hx1 | ⟨hx1, hx2⟩
      · rcases hq with hq | hq
        · rcases hq with hq | hq
          · obtain ⟨M, hM⟩ : ∃ M : Nat, M = nA := ⟨_, rfl⟩
            have hMA : M ≤ nA := by omega
            have hslM : ∀ W, (Instr.slice 28 (.slice A1 nA cA) none (some (.int .i64 (nA : Int))) none).run Tryd.prog W = .ok (.slice A1 M cA) W := fun W => by have := slice_h28 A1 nA cA M (by have := hoA.cap; omega) W; rwa [show ((M : Nat) : Int) = (nA : Int) by omega] at this
            have hq1 : decide (q < 0) = true := by simpa using hq
            clear hM hq hnot
            have hbS : Bs wB A1 M (il ((cat X).take M)) := by
              rw [il_take]; exact (hoA.bs HIR.out).first (m := M) (by omega)
            have HNL : Hid (nl (il ((cat X).take M)) = (cat X).take M) := nl_il _
            have hcapA := hoA.cap
            go_wp2_with fail
            refine (openAll_any A1 M cA _ _ hbS (by omega) (by omega) htB).mono ?_
            rintro e w5 ⟨R5, c5, kk, at5, recs, rfl, hkk, hat, hp5, HC5, HE5, hb5⟩
            rw [HNL.out] at HC5 HE5 hat
            have HB := Lib.hid (chain_begin X [] M HXX.out)
            have HB1 := Lib.hid (show Chain ((cat X).take M) 0 (X.take (wh X M)) (cat (X.take (wh X M))).length by have := HB.out.1; simpa using this)
            have HB2 := Lib.hid (show (openL ((cat X).take M) (cat (X.take (wh X M))).length).1 = 5 by have := HB.out.2; simpa using this)
            have huni := HC5.out.only HB1.out HE5.out (by rw [HB2.out]; omega)
            have hwl := wh_le X M
            have hkk2 : kk = wh X M := by rw [hkk, huni.1, List.length_take]; omega
            have hat2 : at5 = (cat (X.take (wh X M))).length := huni.2
            have HWI := Lib.hid (fun i hi => wh_iff X M i hi)
            generalize hWH : wh X M = WH at *
            have HWH := Lib.hid hWH; clear hWH
            subst hkk2
            have hkK : kk ≤ K := by rw [← HXK.out]; exact hwl
            have HAT := Lib.hid hat2; clear hat2
            have hoE5 : Own w5 w1.heap.size 3 E K cE (enV X K) := hoE.below hb5 (fun k hk => (hoE.lies k hk).2)
            have hbS5 := hbS.keep hb5
            have ht5 := htB.below hb5
            have hbw5 := hbwB.trans (hb5.mono hsB)
            have hs5 := hbw5.size
            have hatM : at5 ≤ M := by rw [List.length_take] at hat; omega
            clear hkk huni HC5 HE5 HB HB1 hp5 hoE hoA hbS hb5 hbwB htB hat
            go_wp2
            go_loopw [13, 69] (fun vw vi wr => ∃ (j wz q : Nat), vi = .int .i64 j ∧ vw = .int .i64 wz ∧ j ≤ K ∧ wz ≤ kk ∧ wz ≤ j ∧ (wz = kk ∨ wz = j) ∧ wr = w5.drewN q) (fun _ vi _ => K - (intOf vi).toNat)
            case atStart => exact ⟨0, 0, 0, rfl, rfl, Nat.zero_le _, Nat.zero_le _, Nat.le_refl _, .inr rfl, rfl⟩
            case round =>
              obtain ⟨j, wz, q, rfl, rfl, hjK, hwk, hwj, hwo, rfl⟩ := hrel
              by_cases hlt : j < K
              · obtain ⟨b, off, u, rfl, hblt, hcu, HU⟩ := hoE5.rd.at_ hlt
                obtain ⟨ev', hev⟩ : ∃ z : Nat, z = (cat (X.take (j + 1))).length := ⟨_, rfl⟩
                have hu : u = .int .i64 (ev' : Int) := by
                  have := HU.out
                  rw [enV_at X hlt] at this
                  injection this with this
                  rw [← this, hev]
                subst hu
                have hcu' : (w5.drewN q).cell? ⟨b, off + j, none⟩ = some (.int .i64 (ev' : Int)) := hcu
                have hiff : ev' ≤ M ↔ j < kk := by rw [hev]; exact HWI.out j (by rw [HXK.out]; exact hlt)
                by_cases hle : ev' ≤ M
                · have hj2 := hiff.1 hle
                  clear hiff hev
                  go_wp2
                  go_roundw
                  case rel => exact ⟨j + 1, wz + 1, q, by go_num, by go_num, by omega, by omega, by omega, by omega, rfl⟩
                  case measure => simp [intOf]; omega
                · have hj2 : ¬ j < kk := fun h => hle (hiff.2 h)
                  clear hiff hev
                  go_wp2
                  go_roundw
                  case rel => exact ⟨j + 1, wz, q, by go_num, rfl, by omega, by omega, by omega, by omega, rfl⟩
                  case measure => simp [intOf]; omega
              · obtain rfl : wz = kk := by omega
                have hx6 : Bs (w5.drewN q) A1 M (il ((cat X).take M)) := hbS5.dr ((Dr.refl _).n q)
                have ht6 := ht5.dr ((Dr.refl _).n q)
                have HR5 : Hid ((openL (nl (il ((cat X).take M))) at5).1 = 5) := by
                  show _ = _
                  rw [HNL.out, HAT.out]; exact HB2.out
                by_cases hw0 : wz = 0
                · subst hw0
                  have hat0 : at5 = 0 := by rw [HAT.out]; rfl
                  subst hat0
                  clear hwo
                  go_wp2_with fail
                  refine (open_any A1 M cA 0 _ _ hx6 (by omega) (by omega) (by omega) ht6).mono ?_
                  rintro e w7 (⟨hr0, _⟩ | ⟨hr0, rfl, hb7⟩)
                  · rw [HR5.out] at hr0; omega
                  · rw [HR5.out]
                    go_wp2
                    go_ret
                    exact ⟨rfl, (below_n hbw5 q).trans (hb7.mono hs5)⟩
                · obtain ⟨wy, rfl⟩ : ∃ y, wz = y + 1 := ⟨wz - 1, by omega⟩
                  have hwyK : wy < K := by rw [← HXK.out]; omega
                  obtain ⟨b, off, u, rfl, hblt, hcu, HU⟩ := hoE5.rd.at_ hwyK
                  have hu : u = .int .i64 (at5 : Int) := by
                    have := HU.out
                    rw [enV_at X hwyK] at this
                    injection this with this
                    rw [← this, HAT.out]
                  subst hu
                  have hcu' : (w5.drewN q).cell? ⟨b, off + wy, none⟩ = some (.int .i64 (at5 : Int)) := hcu
                  clear hwo hw0
                  go_wp2_with fail
                  refine (open_any A1 M cA at5 _ _ hx6 (by omega) (by omega) hatM ht6).mono ?_
                  rintro e w7 (⟨hr0, _⟩ | ⟨hr0, rfl, hb7⟩)
                  · rw [HR5.out] at hr0; omega
                  · rw [HR5.out]
                    go_wp2
                    go_ret
                    exact ⟨rfl, (below_n hbw5 q).trans (hb7.mono hs5)⟩
          · obtain ⟨M, hM⟩ : ∃ M : Nat, M = nA := ⟨_, rfl⟩
            have hMA : M ≤ nA := by omega
            have hslM : ∀ W, (Instr.slice 28 (.slice A1 nA cA) none (some (.int .i64 (nA : Int))) none).run Tryd.prog W = .ok (.slice A1 M cA) W := fun W => by have := slice_h28 A1 nA cA M (by have := hoA.cap; omega) W; rwa [show ((M : Nat) : Int) = (nA : Int) by omega] at this
            have hq1 : decide (q < 0) = false := by simp; omega
            have hq2 : decide ((nA : Int) < q) = true := by simpa using hq
            clear hM hq hnot
            have hbS : Bs wB A1 M (il ((cat X).take M)) := by
              rw [il_take]; exact (hoA.bs HIR.out).first (m := M) (by omega)
            have HNL : Hid (nl (il ((cat X).take M)) = (cat X).take M) := nl_il _
            have hcapA := hoA.cap
            go_wp2_with fail
            refine (openAll_any A1 M cA _ _ hbS (by omega) (by omega) htB).mono ?_
            rintro e w5 ⟨R5, c5, kk, at5, recs, rfl, hkk, hat, hp5, HC5, HE5, hb5⟩
            rw [HNL.out] at HC5 HE5 hat
            have HB := Lib.hid (chain_begin X [] M HXX.out)
            have HB1 := Lib.hid (show Chain ((cat X).take M) 0 (X.take (wh X M)) (cat (X.take (wh X M))).length by have := HB.out.1; simpa using this)
            have HB2 := Lib.hid (show (openL ((cat X).take M) (cat (X.take (wh X M))).length).1 = 5 by have := HB.out.2; simpa using this)
            have huni := HC5.out.only HB1.out HE5.out (by rw [HB2.out]; omega)
            have hwl := wh_le X M
            have hkk2 : kk = wh X M := by rw [hkk, huni.1, List.length_take]; omega
            have hat2 : at5 = (cat (X.take (wh X M))).length := huni.2
            have HWI := Lib.hid (fun i hi => wh_iff X M i hi)
            generalize hWH : wh X M = WH at *
            have HWH := Lib.hid hWH; clear hWH
            subst hkk2
            have hkK : kk ≤ K := by rw [← HXK.out]; exact hwl
            have HAT := Lib.hid hat2; clear hat2
            have hoE5 : Own w5 w1.heap.size 3 E K cE (enV X K) := hoE.below hb5 (fun k hk => (hoE.lies k hk).2)
            have hbS5 := hbS.keep hb5
            have ht5 := htB.below hb5
            have hbw5 := hbwB.trans (hb5.mono hsB)
            have hs5 := hbw5.size
            have hatM : at5 ≤ M := by rw [List.length_take] at hat; omega
            clear hkk huni HC5 HE5 HB HB1 hp5 hoE hoA hbS hb5 hbwB htB hat
            go_wp2
            go_loopw [13, 69] (fun vw vi wr => ∃ (j wz q : Nat), vi = .int .i64 j ∧ vw = .int .i64 wz ∧ j ≤ K ∧ wz ≤ kk ∧ wz ≤ j ∧ (wz = kk ∨ wz = j) ∧ wr = w5.drewN q) (fun _ vi _ => K - (intOf vi).toNat)
            case atStart => exact ⟨0, 0, 0, rfl, rfl, Nat.zero_le _, Nat.zero_le _, Nat.le_refl _, .inr rfl, rfl⟩
            case round =>
              obtain ⟨j, wz, q, rfl, rfl, hjK, hwk, hwj, hwo, rfl⟩ := hrel
              by_cases hlt : j < K
              · obtain ⟨b, off, u, rfl, hblt, hcu, HU⟩ := hoE5.rd.at_ hlt
                obtain ⟨ev', hev⟩ : ∃ z : Nat, z = (cat (X.take (j + 1))).length := ⟨_, rfl⟩
                have hu : u = .int .i64 (ev' : Int) := by
                  have := HU.out
                  rw [enV_at X hlt] at this
                  injection this with this
                  rw [← this, hev]
                subst hu
                have hcu' : (w5.drewN q).cell? ⟨b, off + j, none⟩ = some (.int .i64 (ev' : Int)) := hcu
                have hiff : ev' ≤ M ↔ j < kk := by rw [hev]; exact HWI.out j (by rw [HXK.out]; exact hlt)
                by_cases hle : ev' ≤ M
                · have hj2 := hiff.1 hle
                  clear hiff hev
                  go_wp2
                  go_roundw
                  case rel => exact ⟨j + 1, wz + 1, q, by go_num, by go_num, by omega, by omega, by omega, by omega, rfl⟩
                  case measure => simp [intOf]; omega
                · have hj2 : ¬ j < kk := fun h => hle (hiff.2 h)
                  clear hiff hev
                  go_wp2
                  go_roundw
                  case rel => exact ⟨j + 1, wz, q, by go_num, rfl, by omega, by omega, by omega, by omega, rfl⟩
                  case measure => simp [intOf]; omega
              · obtain rfl : wz = kk := by omega
                have hx6 : Bs (w5.drewN q) A1 M (il ((cat X).take M)) := hbS5.dr ((Dr.refl _).n q)
                have ht6 := ht5.dr ((Dr.refl _).n q)
                have HR5 : Hid ((openL (nl (il ((cat X).take M))) at5).1 = 5) := by
                  show _ = _
                  rw [HNL.out, HAT.out]; exact HB2.out
                by_cases hw0 : wz = 0
                · subst hw0
                  have hat0 : at5 = 0 := by rw [HAT.out]; rfl
                  subst hat0
                  clear hwo
                  go_wp2_with fail
                  refine (open_any A1 M cA 0 _ _ hx6 (by omega) (by omega) (by omega) ht6).mono ?_
                  rintro e w7 (⟨hr0, _⟩ | ⟨hr0, rfl, hb7⟩)
                  · rw [HR5.out] at hr0; omega
                  · rw [HR5.out]
                    go_wp2
                    go_ret
                    exact ⟨rfl, (below_n hbw5 q).trans (hb7.mono hs5)⟩
                · obtain ⟨wy, rfl⟩ : ∃ y, wz = y + 1 := ⟨wz - 1, by omega⟩
                  have hwyK : wy < K := by rw [← HXK.out]; omega
                  obtain ⟨b, off, u, rfl, hblt, hcu, HU⟩ := hoE5.rd.at_ hwyK
                  have hu : u = .int .i64 (at5 : Int) := by
                    have := HU.out
                    rw [enV_at X hwyK] at this
                    injection this with this
                    rw [← this, HAT.out]
                  subst hu
                  have hcu' : (w5.drewN q).cell? ⟨b, off + wy, none⟩ = some (.int .i64 (at5 : Int)) := hcu
                  clear hwo hw0
                  go_wp2_with fail
                  refine (open_any A1 M cA at5 _ _ hx6 (by omega) (by omega) hatM ht6).mono ?_
                  rintro e w7 (⟨hr0, _⟩ | ⟨hr0, rfl, hb7⟩)
                  · rw [HR5.out] at hr0; omega
                  · rw [HR5.out]
                    go_wp2
                    go_ret
                    exact ⟨rfl, (below_n hbw5 q).trans (hb7.mono hs5)⟩
        · obtain ⟨D, rfl⟩ : ∃ D : Nat, q = (D : Int) := ⟨q.toNat, by omega⟩
          have hDA : D ≤ nA := by omega
          obtain ⟨M, hM⟩ : ∃ M : Nat, M = nA - D := ⟨_, rfl⟩
          have hMA : M ≤ nA := by omega
          have hslM : ∀ W, (Instr.slice 28 (.slice A1 nA cA) none (some (.int .i64 ((nA : Int) - (D : Int)))) none).run Tryd.prog W = .ok (.slice A1 M cA) W := fun W => by have := slice_h28 A1 nA cA M (by have := hoA.cap; omega) W; rwa [show ((M : Nat) : Int) = (nA : Int) - (D : Int) by omega] at this
          have hq1 : decide ((D : Int) < 0) = false := by simp
          have hq2 : decide ((nA : Int) < (D : Int)) = false := by simp; omega
          clear hM hq hnot
          have hbS : Bs wB A1 M (il ((cat X).take M)) := by
            rw [il_take]; exact (hoA.bs HIR.out).first (m := M) (by omega)
          have HNL : Hid (nl (il ((cat X).take M)) = (cat X).take M) := nl_il _
          have hcapA := hoA.cap
          go_wp2_with fail
          refine (openAll_any A1 M cA _ _ hbS (by omega) (by omega) htB).mono ?_
          rintro e w5 ⟨R5, c5, kk, at5, recs, rfl, hkk, hat, hp5, HC5, HE5, hb5⟩
          rw [HNL.out] at HC5 HE5 hat
          have HB := Lib.hid (chain_begin X [] M HXX.out)
          have HB1 := Lib.hid (show Chain ((cat X).take M) 0 (X.take (wh X M)) (cat (X.take (wh X M))).length by have := HB.out.1; simpa using this)
          have HB2 := Lib.hid (show (openL ((cat X).take M) (cat (X.take (wh X M))).length).1 = 5 by have := HB.out.2; simpa using this)
          have huni := HC5.out.only HB1.out HE5.out (by rw [HB2.out]; omega)
          have hwl := wh_le X M
          have hkk2 : kk = wh X M := by rw [hkk, huni.1, List.length_take]; omega
          have hat2 : at5 = (cat (X.take (wh X M))).length := huni.2
          have HWI := Lib.hid (fun i hi => wh_iff X M i hi)
          generalize hWH : wh X M = WH at *
          have HWH := Lib.hid hWH; clear hWH
          subst hkk2
          have hkK : kk ≤ K := by rw [← HXK.out]; exact hwl
          have HAT := Lib.hid hat2; clear hat2
          have hoE5 : Own w5 w1.heap.size 3 E K cE (enV X K) := hoE.below hb5 (fun k hk => (hoE.lies k hk).2)
          have hbS5 := hbS.keep hb5
          have ht5 := htB.below hb5
          have hbw5 := hbwB.trans (hb5.mono hsB)
          have hs5 := hbw5.size
          have hatM : at5 ≤ M := by rw [List.length_take] at hat; omega
          clear hkk huni HC5 HE5 HB HB1 hp5 hoE hoA hbS hb5 hbwB htB hat
          go_wp2
          go_loopw [13, 69] (fun vw vi wr => ∃ (j wz q : Nat), vi = .int .i64 j ∧ vw = .int .i64 wz ∧ j ≤ K ∧ wz ≤ kk ∧ wz ≤ j ∧ (wz = kk ∨ wz = j) ∧ wr = w5.drewN q) (fun _ vi _ => K - (intOf vi).toNat)
          case atStart => exact ⟨0, 0, 0, rfl, rfl, Nat.zero_le _, Nat.zero_le _, Nat.le_refl _, .inr rfl, rfl⟩
          case round =>
            obtain ⟨j, wz, q, rfl, rfl, hjK, hwk, hwj, hwo, rfl⟩ := hrel
            by_cases hlt : j < K
            · obtain ⟨b, off, u, rfl, hblt, hcu, HU⟩ := hoE5.rd.at_ hlt
              obtain ⟨ev', hev⟩ : ∃ z : Nat, z = (cat (X.take (j + 1))).length := ⟨_, rfl⟩
              have hu : u = .int .i64 (ev' : Int) := by
                have := HU.out
                rw [enV_at X hlt] at this
                injection this with this
                rw [← this, hev]
              subst hu
              have hcu' : (w5.drewN q).cell? ⟨b, off + j, none⟩ = some (.int .i64 (ev' : Int)) := hcu
              have hiff : ev' ≤ M ↔ j < kk := by rw [hev]; exact HWI.out j (by rw [HXK.out]; exact hlt)
              by_cases hle : ev' ≤ M
              · have hj2 := hiff.1 hle
                clear hiff hev
                go_wp2
                go_roundw
                case rel => exact ⟨j + 1, wz + 1, q, by go_num, by go_num, by omega, by omega, by omega, by omega, rfl⟩
                case measure => simp [intOf]; omega
              · have hj2 : ¬ j < kk := fun h => hle (hiff.2 h)
                clear hiff hev
                go_wp2
                go_roundw
                case rel => exact ⟨j + 1, wz, q, by go_num, rfl, by omega, by omega, by omega, by omega, rfl⟩
                case measure => simp [intOf]; omega
            · obtain rfl : wz = kk := by omega
              have hx6 : Bs (w5.drewN q) A1 M (il ((cat X).take M)) := hbS5.dr ((Dr.refl _).n q)
              have ht6 := ht5.dr ((Dr.refl _).n q)
              have HR5 : Hid ((openL (nl (il ((cat X).take M))) at5).1 = 5) := by
                show _ = _
                rw [HNL.out, HAT.out]; exact HB2.out
              by_cases hw0 : wz = 0
              · subst hw0
                have hat0 : at5 = 0 := by rw [HAT.out]; rfl
                subst hat0
                clear hwo
                go_wp2_with fail
                refine (open_any A1 M cA 0 _ _ hx6 (by omega) (by omega) (by omega) ht6).mono ?_
                rintro e w7 (⟨hr0, _⟩ | ⟨hr0, rfl, hb7⟩)
                · rw [HR5.out] at hr0; omega
                · rw [HR5.out]
                  go_wp2
                  go_ret
                  exact ⟨rfl, (below_n hbw5 q).trans (hb7.mono hs5)⟩
              · obtain ⟨wy, rfl⟩ : ∃ y, wz = y + 1 := ⟨wz - 1, by omega⟩
                have hwyK : wy < K := by rw [← HXK.out]; omega
                obtain ⟨b, off, u, rfl, hblt, hcu, HU⟩ := hoE5.rd.at_ hwyK
                have hu : u = .int .i64 (at5 : Int) := by
                  have := HU.out
                  rw [enV_at X hwyK] at this
                  injection this with this
                  rw [← this, HAT.out]
                subst hu
                have hcu' : (w5.drewN q).cell? ⟨b, off + wy, none⟩ = some (.int .i64 (at5 : Int)) := hcu
                clear hwo hw0
                go_wp2_with fail
                refine (open_any A1 M cA at5 _ _ hx6 (by omega) (by omega) hatM ht6).mono ?_
                rintro e w7 (⟨hr0, _⟩ | ⟨hr0, rfl, hb7⟩)
                · rw [HR5.out] at hr0; omega
                · rw [HR5.out]
                  go_wp2
                  go_ret
                  exact ⟨rfl, (below_n hbw5 q).trans (hb7.mono hs5)⟩
      · rcases hq with hq | hq
        · rcases hq with hq | hq
          · obtain ⟨M, hM⟩ : ∃ M : Nat, M = nA := ⟨_, rfl⟩
            have hMA : M ≤ nA := by omega
            have hslM : ∀ W, (Instr.slice 28 (.slice A1 nA cA) none (some (.int .i64 (nA : Int))) none).run Tryd.prog W = .ok (.slice A1 M cA) W := fun W => by have := slice_h28 A1 nA cA M (by have := hoA.cap; omega) W; rwa [show ((M : Nat) : Int) = (nA : Int) by omega] at this
            have hq1 : decide (q < 0) = true := by simpa using hq
            clear hM hq hnot
            have hbS : Bs wB A1 M (il ((cat X).take M)) := by
              rw [il_take]; exact (hoA.bs HIR.out).first (m := M) (by omega)
            have HNL : Hid (nl (il ((cat X).take M)) = (cat X).take M) := nl_il _
            have hcapA := hoA.cap
            go_wp2_with fail
            refine (openAll_any A1 M cA _ _ hbS (by omega) (by omega) htB).mono ?_
            rintro e w5 ⟨R5, c5, kk, at5, recs, rfl, hkk, hat, hp5, HC5, HE5, hb5⟩
            rw [HNL.out] at HC5 HE5 hat
            have HB := Lib.hid (chain_begin X [] M HXX.out)
            have HB1 := Lib.hid (show Chain ((cat X).take M) 0 (X.take (wh X M)) (cat (X.take (wh X M))).length by have := HB.out.1; simpa using this)
            have HB2 := Lib.hid (show (openL ((cat X).take M) (cat (X.take (wh X M))).length).1 = 5 by have := HB.out.2; simpa using this)
            have huni := HC5.out.only HB1.out HE5.out (by rw [HB2.out]; omega)
            have hwl := wh_le X M
            have hkk2 : kk = wh X M := by rw [hkk, huni.1, List.length_take]; omega
            have hat2 : at5 = (cat (X.take (wh X M))).length := huni.2
            have HWI := Lib.hid (fun i hi => wh_iff X M i hi)
            generalize hWH : wh X M = WH at *
            have HWH := Lib.hid hWH; clear hWH
            subst hkk2
            have hkK : kk ≤ K := by rw [← HXK.out]; exact hwl
            have HAT := Lib.hid hat2; clear hat2
            have hoE5 : Own w5 w1.heap.size 3 E K cE (enV X K) := hoE.below hb5 (fun k hk => (hoE.lies k hk).2)
            have hbS5 := hbS.keep hb5
            have ht5 := htB.below hb5
            have hbw5 := hbwB.trans (hb5.mono hsB)
            have hs5 := hbw5.size
            have hatM : at5 ≤ M := by rw [List.length_take] at hat; omega
            clear hkk huni HC5 HE5 HB HB1 hp5 hoE hoA hbS hb5 hbwB htB hat
            go_wp2
            go_loopw [13, 69] (fun vw vi wr => ∃ (j wz q : Nat), vi = .int .i64 j ∧ vw = .int .i64 wz ∧ j ≤ K ∧ wz ≤ kk ∧ wz ≤ j ∧ (wz = kk ∨ wz = j) ∧ wr = w5.drewN q) (fun _ vi _ => K - (intOf vi).toNat)
            case atStart => exact ⟨0, 0, 0, rfl, rfl, Nat.zero_le _, Nat.zero_le _, Nat.le_refl _, .inr rfl, rfl⟩
            case round =>
              obtain ⟨j, wz, q, rfl, rfl, hjK, hwk, hwj, hwo, rfl⟩ := hrel
              by_cases hlt : j < K
              · obtain ⟨b, off, u, rfl, hblt, hcu, HU⟩ := hoE5.rd.at_ hlt
                obtain ⟨ev', hev⟩ : ∃ z : Nat, z = (cat (X.take (j + 1))).length := ⟨_, rfl⟩
                have hu : u = .int .i64 (ev' : Int) := by
                  have := HU.out
                  rw [enV_at X hlt] at this
                  injection this with this
                  rw [← this, hev]
                subst hu
                have hcu' : (w5.drewN q).cell? ⟨b, off + j, none⟩ = some (.int .i64 (ev' : Int)) := hcu
                have hiff : ev' ≤ M ↔ j < kk := by rw [hev]; exact HWI.out j (by rw [HXK.out]; exact hlt)
                by_cases hle : ev' ≤ M
                · have hj2 := hiff.1 hle
                  clear hiff hev
                  go_wp2
                  go_roundw
                  case rel => exact ⟨j + 1, wz + 1, q, by go_num, by go_num, by omega, by omega, by omega, by omega, rfl⟩
                  case measure => simp [intOf]; omega
                · have hj2 : ¬ j < kk := fun h => hle (hiff.2 h)
                  clear hiff hev
                  go_wp2
                  go_roundw
                  case rel => exact ⟨j + 1, wz, q, by go_num, rfl, by omega, by omega, by omega, by omega, rfl⟩
                  case measure => simp [intOf]; omega
              · obtain rfl : wz = kk := by omega
                have hx6 : Bs (w5.drewN q) A1 M (il ((cat X).take M)) := hbS5.dr ((Dr.refl _).n q)
                have ht6 := ht5.dr ((Dr.refl _).n q)
                have HR5 : Hid ((openL (nl (il ((cat X).take M))) at5).1 = 5) := by
                  show _ = _
                  rw [HNL.out, HAT.out]; exact HB2.out
                by_cases hw0 : wz = 0
                · subst hw0
                  have hat0 : at5 = 0 := by rw [HAT.out]; rfl
                  subst hat0
                  clear hwo
                  go_wp2_with fail
                  refine (open_any A1 M cA 0 _ _ hx6 (by omega) (by omega) (by omega) ht6).mono ?_
                  rintro e w7 (⟨hr0, _⟩ | ⟨hr0, rfl, hb7⟩)
                  · rw [HR5.out] at hr0; omega
                  · rw [HR5.out]
                    go_wp2
                    go_ret
                    exact ⟨rfl, (below_n hbw5 q).trans (hb7.mono hs5)⟩
                · obtain ⟨wy, rfl⟩ : ∃ y, wz = y + 1 := ⟨wz - 1, by omega⟩
                  have hwyK : wy < K := by rw [← HXK.out]; omega
                  obtain ⟨b, off, u, rfl, hblt, hcu, HU⟩ := hoE5.rd.at_ hwyK
                  have hu : u = .int .i64 (at5 : Int) := by
                    have := HU.out
                    rw [enV_at X hwyK] at this
                    injection this with this
                    rw [← this, HAT.out]
                  subst hu
                  have hcu' : (w5.drewN q).cell? ⟨b, off + wy, none⟩ = some (.int .i64 (at5 : Int)) := hcu
                  clear hwo hw0
                  go_wp2_with fail
                  refine (open_any A1 M cA at5 _ _ hx6 (by omega) (by omega) hatM ht6).mono ?_
                  rintro e w7 (⟨hr0, _⟩ | ⟨hr0, rfl, hb7⟩)
                  · rw [HR5.out] at hr0; omega
                  · rw [HR5.out]
                    go_wp2
                    go_ret
                    exact ⟨rfl, (below_n hbw5 q).trans (hb7.mono hs5)⟩
          · obtain ⟨M, hM⟩ : ∃ M : Nat, M = nA := ⟨_, rfl⟩
            have hMA : M ≤ nA := by omega
            have hslM : ∀ W, (Instr.slice 28 (.slice A1 nA cA) none (some (.int .i64 (nA : Int))) none).run Tryd.prog W = .ok (.slice A1 M cA) W := fun W => by have := slice_h28 A1 nA cA M (by have := hoA.cap; omega) W; rwa [show ((M : Nat) : Int) = (nA : Int) by omega] at this
            have hq1 : decide (q < 0) = false := by simp; omega
            have hq2 : decide ((nA : Int) < q) = true := by simpa using hq
            clear hM hq hnot
            have hbS : Bs wB A1 M (il ((cat X).take M)) := by
              rw [il_take]; exact (hoA.bs HIR.out).first (m := M) (by omega)
            have HNL : Hid (nl (il ((cat X).take M)) = (cat X).take M) := nl_il _
            have hcapA := hoA.cap
            go_wp2_with fail
            refine (openAll_any A1 M cA _ _ hbS (by omega) (by omega) htB).mono ?_
            rintro e w5 ⟨R5, c5, kk, at5, recs, rfl, hkk, hat, hp5, HC5, HE5, hb5⟩
            rw [HNL.out] at HC5 HE5 hat
            have HB := Lib.hid (chain_begin X [] M HXX.out)
            have HB1 := Lib.hid (show Chain ((cat X).take M) 0 (X.take (wh X M)) (cat (X.take (wh X M))).length by have := HB.out.1; simpa using this)
            have HB2 := Lib.hid (show (openL ((cat X).take M) (cat (X.take (wh X M))).length).1 = 5 by have := HB.out.2; simpa using this)
            have huni := HC5.out.only HB1.out HE5.out (by rw [HB2.out]; omega)
            have hwl := wh_le X M
            have hkk2 : kk = wh X M := by rw [hkk, huni.1, List.length_take]; omega
            have hat2 : at5 = (cat (X.take (wh X M))).length := huni.2
            have HWI := Lib.hid (fun i hi => wh_iff X M i hi)
            generalize hWH : wh X M = WH at *
            have HWH := Lib.hid hWH; clear hWH
            subst hkk2
            have hkK : kk ≤ K := by rw [← HXK.out]; exact hwl
            have HAT := Lib.hid hat2; clear hat2
            have hoE5 : Own w5 w1.heap.size 3 E K cE (enV X K) := hoE.below hb5 (fun k hk => (hoE.lies k hk).2)
            have hbS5 := hbS.keep hb5
            have ht5 := htB.below hb5
            have hbw5 := hbwB.trans (hb5.mono hsB)
            have hs5 := hbw5.size
            have hatM : at5 ≤ M := by rw [List.length_take] at hat; omega
            clear hkk huni HC5 HE5 HB HB1 hp5 hoE hoA hbS hb5 hbwB htB hat
            go_wp2
            go_loopw [13, 69] (fun vw vi wr => ∃ (j wz q : Nat), vi = .int .i64 j ∧ vw = .int .i64 wz ∧ j ≤ K ∧ wz ≤ kk ∧ wz ≤ j ∧ (wz = kk ∨ wz = j) ∧ wr = w5.drewN q) (fun _ vi _ => K - (intOf vi).toNat)
            case atStart => exact ⟨0, 0, 0, rfl, rfl, Nat.zero_le _, Nat.zero_le _, Nat.le_refl _, .inr rfl, rfl⟩
            case round =>
              obtain ⟨j, wz, q, rfl, rfl, hjK, hwk, hwj, hwo, rfl⟩ := hrel
              by_cases hlt : j < K
              · obtain ⟨b, off, u, rfl, hblt, hcu, HU⟩ := hoE5.rd.at_ hlt
                obtain ⟨ev', hev⟩ : ∃ z : Nat, z = (cat (X.take (j + 1))).length := ⟨_, rfl⟩
                have hu : u = .int .i64 (ev' : Int) := by
                  have := HU.out
                  rw [enV_at X hlt] at this
                  injection this with this
                  rw [← this, hev]
                subst hu
                have hcu' : (w5.drewN q).cell? ⟨b, off + j, none⟩ = some (.int .i64 (ev' : Int)) := hcu
                have hiff : ev' ≤ M ↔ j < kk := by rw [hev]; exact HWI.out j (by rw [HXK.out]; exact hlt)
                by_cases hle : ev' ≤ M
                · have hj2 := hiff.1 hle
                  clear hiff hev
                  go_wp2
                  go_roundw
                  case rel => exact ⟨j + 1, wz + 1, q, by go_num, by go_num, by omega, by omega, by omega, by omega, rfl⟩
                  case measure => simp [intOf]; omega
                · have hj2 : ¬ j < kk := fun h => hle (hiff.2 h)
                  clear hiff hev
                  go_wp2
                  go_roundw
                  case rel => exact ⟨j + 1, wz, q, by go_num, rfl, by omega, by omega, by omega, by omega, rfl⟩
                  case measure => simp [intOf]; omega
              · obtain rfl : wz = kk := by omega
                have hx6 : Bs (w5.drewN q) A1 M (il ((cat X).take M)) := hbS5.dr ((Dr.refl _).n q)
                have ht6 := ht5.dr ((Dr.refl _).n q)
                have HR5 : Hid ((openL (nl (il ((cat X).take M))) at5).1 = 5) := by
                  show _ = _
                  rw [HNL.out, HAT.out]; exact HB2.out
                by_cases hw0 : wz = 0
                · subst hw0
                  have hat0 : at5 = 0 := by rw [HAT.out]; rfl
                  subst hat0
                  clear hwo
                  go_wp2_with fail
                  refine (open_any A1 M cA 0 _ _ hx6 (by omega) (by omega) (by omega) ht6).mono ?_
                  rintro e w7 (⟨hr0, _⟩ | ⟨hr0, rfl, hb7⟩)
                  · rw [HR5.out] at hr0; omega
                  · rw [HR5.out]
                    go_wp2
                    go_ret
                    exact ⟨rfl, (below_n hbw5 q).trans (hb7.mono hs5)⟩
                · obtain ⟨wy, rfl⟩ : ∃ y, wz = y + 1 := ⟨wz - 1, by omega⟩
                  have hwyK : wy < K := by rw [← HXK.out]; omega
                  obtain ⟨b, off, u, rfl, hblt, hcu, HU⟩ := hoE5.rd.at_ hwyK
                  have hu : u = .int .i64 (at5 : Int) := by
                    have := HU.out
                    rw [enV_at X hwyK] at this
                    injection this with this
                    rw [← this, HAT.out]
                  subst hu
                  have hcu' : (w5.drewN q).cell? ⟨b, off + wy, none⟩ = some (.int .i64 (at5 : Int)) := hcu
                  clear hwo hw0
                  go_wp2_with fail
                  refine (open_any A1 M cA at5 _ _ hx6 (by omega) (by omega) hatM ht6).mono ?_
                  rintro e w7 (⟨hr0, _⟩ | ⟨hr0, rfl, hb7⟩)
                  · rw [HR5.out] at hr0; omega
                  · rw [HR5.out]
                    go_wp2
                    go_ret
                    exact ⟨rfl, (below_n hbw5 q).trans (hb7.mono hs5)⟩
        · obtain ⟨D, rfl⟩ : ∃ D : Nat, q = (D : Int) := ⟨q.toNat, by omega⟩
          have hDA : D ≤ nA := by omega
          obtain ⟨M, hM⟩ : ∃ M : Nat, M = nA - D := ⟨_, rfl⟩
          have hMA : M ≤ nA := by omega
          have hslM : ∀ W, (Instr.slice 28 (.slice A1 nA cA) none (some (.int .i64 ((nA : Int) - (D : Int)))) none).run Tryd.prog W = .ok (.slice A1 M cA) W := fun W => by have := slice_h28 A1 nA cA M (by have := hoA.cap; omega) W; rwa [show ((M : Nat) : Int) = (nA : Int) - (D : Int) by omega] at this
          have hq1 : decide ((D : Int) < 0) = false := by simp
          have hq2 : decide ((nA : Int) < (D : Int)) = false := by simp; omega
          clear hM hq hnot
          have hbS : Bs wB A1 M (il ((cat X).take M)) := by
            rw [il_take]; exact (hoA.bs HIR.out).first (m := M) (by omega)
          have HNL : Hid (nl (il ((cat X).take M)) = (cat X).take M) := nl_il _
          have hcapA := hoA.cap
          go_wp2_with fail
          refine (openAll_any A1 M cA _ _ hbS (by omega) (by omega) htB).mono ?_
          rintro e w5 ⟨R5, c5, kk, at5, recs, rfl, hkk, hat, hp5, HC5, HE5, hb5⟩
          rw [HNL.out] at HC5 HE5 hat
          have HB := Lib.hid (chain_begin X [] M HXX.out)
          have HB1 := Lib.hid (show Chain ((cat X).take M) 0 (X.take (wh X M)) (cat (X.take (wh X M))).length by have := HB.out.1; simpa using this)
          have HB2 := Lib.hid (show (openL ((cat X).take M) (cat (X.take (wh X M))).length).1 = 5 by have := HB.out.2; simpa using this)
          have huni := HC5.out.only HB1.out HE5.out (by rw [HB2.out]; omega)
          have hwl := wh_le X M
          have hkk2 : kk = wh X M := by rw [hkk, huni.1, List.length_take]; omega
          have hat2 : at5 = (cat (X.take (wh X M))).length := huni.2
          have HWI := Lib.hid (fun i hi => wh_iff X M i hi)
          generalize hWH : wh X M = WH at *
          have HWH := Lib.hid hWH; clear hWH
          subst hkk2
          have hkK : kk ≤ K := by rw [← HXK.out]; exact hwl
          have HAT := Lib.hid hat2; clear hat2
          have hoE5 : Own w5 w1.heap.size 3 E K cE (enV X K) := hoE.below hb5 (fun k hk => (hoE.lies k hk).2)
          have hbS5 := hbS.keep hb5
          have ht5 := htB.below hb5
          have hbw5 := hbwB.trans (hb5.mono hsB)
          have hs5 := hbw5.size
          have hatM : at5 ≤ M := by rw [List.length_take] at hat; omega
          clear hkk huni HC5 HE5 HB HB1 hp5 hoE hoA hbS hb5 hbwB htB hat
          go_wp2
          go_loopw [13, 69] (fun vw vi wr => ∃ (j wz q : Nat), vi = .int .i64 j ∧ vw = .int .i64 wz ∧ j ≤ K ∧ wz ≤ kk ∧ wz ≤ j ∧ (wz = kk ∨ wz = j) ∧ wr = w5.drewN q) (fun _ vi _ => K - (intOf vi).toNat)
          case atStart => exact ⟨0, 0, 0, rfl, rfl, Nat.zero_le _, Nat.zero_le _, Nat.le_refl _, .inr rfl, rfl⟩
          case round =>
            obtain ⟨j, wz, q, rfl, rfl, hjK, hwk, hwj, hwo, rfl⟩ := hrel
            by_cases hlt : j < K
            · obtain ⟨b, off, u, rfl, hblt, hcu, HU⟩ := hoE5.rd.at_ hlt
              obtain ⟨ev', hev⟩ : ∃ z : Nat, z = (cat (X.take (j + 1))).length := ⟨_, rfl⟩
              have hu : u = .int .i64 (ev' : Int) := by
                have := HU.out
                rw [enV_at X hlt] at this
                injection this with this
                rw [← this, hev]
              subst hu
              have hcu' : (w5.drewN q).cell? ⟨b, off + j, none⟩ = some (.int .i64 (ev' : Int)) := hcu
              have hiff : ev' ≤ M ↔ j < kk := by rw [hev]; exact HWI.out j (by rw [HXK.out]; exact hlt)
              by_cases hle : ev' ≤ M
              · have hj2 := hiff.1 hle
                clear hiff hev
                go_wp2
                go_roundw
                case rel => exact ⟨j + 1, wz + 1, q, by go_num, by go_num, by omega, by omega, by omega, by omega, rfl⟩
                case measure => simp [intOf]; omega
              · have hj2 : ¬ j < kk := fun h => hle (hiff.2 h)
                clear hiff hev
                go_wp2
                go_roundw
                case rel => exact ⟨j + 1, wz, q, by go_num, rfl, by omega, by omega, by omega, by omega, rfl⟩
                case measure => simp [intOf]; omega
            · obtain rfl : wz = kk := by omega
              have hx6 : Bs (w5.drewN q) A1 M (il ((cat X).take M)) := hbS5.dr ((Dr.refl _).n q)
              have ht6 := ht5.dr ((Dr.refl _).n q)
              have HR5 : Hid ((openL (nl (il ((cat X).take M))) at5).1 = 5) := by
                show _ = _
                rw [HNL.out, HAT.out]; exact HB2.out
              by_cases hw0 : wz = 0
              · subst hw0
                have hat0 : at5 = 0 := by rw [HAT.out]; rfl
                subst hat0
                clear hwo
                go_wp2_with fail
                refine (open_any A1 M cA 0 _ _ hx6 (by omega) (by omega) (by omega) ht6).mono ?_
                rintro e w7 (⟨hr0, _⟩ | ⟨hr0, rfl, hb7⟩)
                · rw [HR5.out] at hr0; omega
                · rw [HR5.out]
                  go_wp2
                  go_ret
                  exact ⟨rfl, (below_n hbw5 q).trans (hb7.mono hs5)⟩
              · obtain ⟨wy, rfl⟩ : ∃ y, wz = y + 1 := ⟨wz - 1, by omega⟩
                have hwyK : wy < K := by rw [← HXK.out]; omega
                obtain ⟨b, off, u, rfl, hblt, hcu, HU⟩ := hoE5.rd.at_ hwyK
                have hu : u = .int .i64 (at5 : Int) := by
                  have := HU.out
                  rw [enV_at X hwyK] at this
                  injection this with this
                  rw [← this, HAT.out]
                subst hu
                have hcu' : (w5.drewN q).cell? ⟨b, off + wy, none⟩ = some (.int .i64 (at5 : Int)) := hcu
                clear hwo hw0
                go_wp2_with fail
                refine (open_any A1 M cA at5 _ _ hx6 (by omega) (by omega) hatM ht6).mono ?_
                rintro e w7 (⟨hr0, _⟩ | ⟨hr0, rfl, hb7⟩)
                · rw [HR5.out] at hr0; omega
                · rw [HR5.out]
                  go_wp2
                  go_ret
                  exact ⟨rfl, (below_n hbw5 q).trans (hb7.mono hs5)⟩
end Go.Proofs.YtmckgdjipkkklaaDoor
