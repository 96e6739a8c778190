/- The reference's Next. -/
import Derived.Test.YtdlbghjclcdfmaaDoorNextW
import Derived.BigRegion
namespace Go.Proofs.YtdlbghjclcdfmaaDoor
set_option linter.unusedVariables false
set_option linter.unusedSimpArgs false
open Go.RowKit

theorem stem_of {u v : List Int} (hv : v.all dgt = true) (hu : ∀ c, u.getLast? = some c → dgt c = false) : stem (u ++ v) = u ∧ trun (u ++ v) = v := by
  have ht : trun (u ++ v) = v := by
    unfold trun
    rw [List.reverse_append, tw_append_stop (fun d hd => hu d (by rw [← List.head?_reverse]; exact hd)) (by rw [List.all_reverse]; exact hv), List.reverse_reverse]
  have h := stem_run (u ++ v)
  rw [ht] at h
  exact ⟨List.append_cancel_right h, ht⟩
theorem stem_at {l : List Int} {b : Nat} {x : Int} (hx : l[b]? = some x) (hd : dgt x = false) (hv : (l.drop (b + 1)).all dgt = true) : stem l = l.take (b + 1) ∧ trun l = l.drop (b + 1) := by
  have h := stem_of (u := l.take (b + 1)) hv (fun c hc => by
    rw [List.take_add_one, hx] at hc
    simp only [Option.toList_some, List.getLast?_append, List.getLast?_singleton, Option.some_or] at hc
    injection hc with hc
    rw [← hc]; exact hd)
  rwa [List.take_append_drop] at h
/-- The last places of the row: all nines so far. -/
theorem row_next {l : List Int} {k i m : Nat} (hl : l.length = k) (hm : m < k) (hx : l[m]? = some 57) (hd : l.drop (m + 1) = List.replicate i 57) : l.drop m = List.replicate (i + 1) 57 := by
  obtain ⟨h, e⟩ := List.getElem?_eq_some_iff.1 hx
  rw [List.drop_eq_getElem_cons h, e, hd, List.replicate_succ]

set_option maxRecDepth 100000 in
set_option maxHeartbeats 4000000 in
theorem rnext_any (l : List Int) (w : World) (hr : Ran l) (hn : l.length ≤ 140737488355328) :
    Calls Tryd.prog 12 #[.string (strOfNums l)] w fun e w' => e = .returned (.string (strOfNums (nxt l))) ∧ Below w.heap.size w w' := by
  have HV := Lib.hid (fun W => rvalid_any l W hr hn)
  by_cases hv : vld l = true
  rotate_left
  · have hv : vld l = false := by simpa using hv
    have e1 : nxt l = [] := by simp [nxt, hv]
    have e0 : strOfNums [] = ⟨#[]⟩ := rfl
    rw [e1, e0]
    rw [hv] at HV
    generalize strOfNums l = S at *
    clear e1 e0 hv
    go_enter Tryd.func12, Tryd.ntmps12
    go_wp2_with fail
    refine (HV.out _).mono ?_
    rintro e w1 ⟨rfl, rfl⟩
    go_wp2
    go_ret
    exact ⟨rfl, Below.refl _ _⟩
  rw [hv] at HV
  have hl16 := vld_len hv
  obtain ⟨c0, r0, hl0, hlt0⟩ := vld_ne hv
  have hnd0 : dgt c0 = false := by
    simp only [lt, decide_eq_true_eq] at hlt0
    simp [dgt]; omega
  have hl00 : l[0]? = some c0 := by rw [hl0]; rfl
  have HL0 := Lib.hid hl00
  have hnpos : 0 < l.length := by rw [hl0]; simp
  clear hl0 hlt0 hl00
  have HNX := Lib.hid (show nxt l = if vld (cand l) = true then cand l else [] by simp [nxt, hv])
  have HNS : Hid (vld (cand l) = true → strOfNums (nxt l) = strOfNums (cand l)) := fun h => by rw [HNX.out, if_pos h]
  have HNF : Hid (vld (cand l) = false → strOfNums (nxt l) = ⟨#[]⟩) := fun h => by rw [HNX.out, if_neg (by rw [h]; simp)]; rfl
  have hcr := cand_ran hr
  have hcl := cand_len l
  have HVC := Lib.hid (fun W => rvalid_any (cand l) W hcr (by omega))
  have HCA := Lib.hid (show cand l = if trun l = [] then l ++ [45, 50] else stem l ++ one (trun l) from rfl)
  have hsz : (strOfNums l).size = l.length := strOfNums_size l
  have HIX := Lib.hid (fun (i : Nat) (x : Int) (hx : l[i]? = some x) (h0 : 0 ≤ x) (h1 : x ≤ 255) (W : World) => str_index (P := Tryd.prog) 9 Tryd.underlying9 l i x hx h0 h1 W)
  have HFR := Lib.hid (fun (k : Nat) (hk : k ≤ l.length) (W : World) => str_from (P := Tryd.prog) 9 Tryd.underlying9 l k hk W)
  have HTO := Lib.hid (fun (k : Nat) (hk : k ≤ l.length) (W : World) => str_to (P := Tryd.prog) 9 Tryd.underlying9 l k hk W)
  have HRR := Lib.hid hr; clear hr
  have HEM : Hid (strOfNums l ++ ⟨#[45, 50]⟩ = strOfNums (l ++ [45, 50])) := by
    show _ = _
    rw [← str_app]; rfl
  generalize strOfNums (nxt l) = NS at *
  generalize strOfNums l = S at *
  obtain ⟨n, hln⟩ : ∃ n, l.length = n := ⟨_, rfl⟩
  rw [hln] at hsz hn hl16 hnpos hcl
  have HL := Lib.hid hln; clear hln HNX hcr hv
  -- what is left once the candidate is made
  go_enter Tryd.func12, Tryd.ntmps12
  go_wp2_with fail
  refine (HV.out _).mono ?_
  rintro e w1 ⟨rfl, rfl⟩
  go_wp2
  go_loopw [3] (fun av wr => ∃ (b : Nat), av = .int .i64 ((b : Int) + 1) ∧ b < n ∧ Hid ((l.drop (b + 1)).all dgt = true) ∧ wr = w) (fun av _ => (intOf av).toNat)
  case atStart => exact ⟨n - 1, by congr 1; omega, by omega, by show _ = _; rw [List.drop_of_length_le (by rw [HL.out]; omega)]; rfl, rfl⟩
  case round =>
    obtain ⟨b, rfl, hbn, HD, rfl⟩ := hrel
    have hbl : b < l.length := by rw [HL.out]; exact hbn
    have hx := HRR.out l[b] (List.getElem_mem hbl)
    have HX := Lib.hid (List.getElem?_eq_getElem hbl)
    have j0 := HIX.out b l[b] HX.out hx.1 hx.2
    generalize l[b] = x at *
    obtain ⟨hx0, hx1⟩ := hx
    by_cases g : dg x = true
    · obtain ⟨b', hb'⟩ : ∃ b', b = b' + 1 := ⟨b - 1, by
        rcases Nat.eq_zero_or_pos b with h | h
        · exfalso
          subst h
          have h1 := HX.out
          rw [HL0.out] at h1
          injection h1 with h1
          subst h1
          have h2 : dgt c0 = true := g
          rw [hnd0] at h2; cases h2
        · omega⟩
      have HD2 : Hid ((l.drop (b' + 1)).all dgt = true) := by
        show _ = _
        rw [← hb', List.drop_eq_getElem_cons hbl, List.all_cons, HD.out]
        have h1 := HX.out
        rw [List.getElem?_eq_getElem hbl] at h1
        injection h1 with h1
        rw [h1, show dgt x = true from g]; rfl
      have HB := Lib.hid hb'; clear hb'
      go_wp2_with fail
      refine (digit_any _ _).mono ?_
      rintro e w2 ⟨rfl, rfl⟩
      go_wp2
      go_roundw
      case rel => exact ⟨b', by have := HB.out; congr 1; omega, by have := HB.out; omega, HD2, trivial⟩
      case measure => simp [intOf]
    · have g : dg x = false := by simpa using g
      obtain ⟨hst, htr⟩ := stem_at HX.out g HD.out
      have HST := Lib.hid hst; have HTR := Lib.hid htr; clear hst htr
      have hbk : b + 1 + (trun l).length = n := by rw [HTR.out, List.length_drop, HL.out]; omega
      by_cases hbe : b + 1 = n
      · have hq : (((b : Int) + 1) == (n : Int)) = true := by simp; omega
        have HC := Lib.hid (show S ++ ⟨#[45, 50]⟩ = strOfNums (cand l) by
          rw [HEM.out, HCA.out, if_pos (List.eq_nil_of_length_eq_zero (by omega))])
        clear hbe hbk
        go_wp2_with fail
        refine (digit_any _ _).mono ?_
        rintro e w2 ⟨rfl, rfl⟩
        have hcc := HC.out
        by_cases hvc : vld (cand l) = true
        · rw [hvc] at HVC
          have HF := Lib.hid (HNS.out hvc)
          generalize strOfNums (cand l) = SC at *
          clear hvc
          go_wp2_with fail
          refine (HVC.out _).mono ?_
          rintro e w3 ⟨rfl, rfl⟩
          go_wp2
          go_ret
          exact ⟨congrArg (fun s => Ending.returned (.string s)) HF.out.symm, Below.refl _ _⟩
        · have hvc : vld (cand l) = false := by simpa using hvc
          rw [hvc] at HVC
          have HF := Lib.hid (HNF.out hvc)
          generalize strOfNums (cand l) = SC at *
          clear hvc
          go_wp2_with fail
          refine (HVC.out _).mono ?_
          rintro e w3 ⟨rfl, rfl⟩
          go_wp2
          go_ret
          exact ⟨congrArg (fun s => Ending.returned (.string s)) HF.out.symm, Below.refl _ _⟩
      · have hq : (((b : Int) + 1) == (n : Int)) = false := by simp; omega
        have HNE := Lib.hid (show trun l ≠ [] by intro h; rw [h] at hbk; simp at hbk; omega)
        have HTA := Lib.hid (List.all_eq_true.1 (trun_all l))
        have hrr : Ran (trun l) := trun_ran HRR.out
        have hfr := HFR.out (b + 1) (by rw [HL.out]; omega)
        have hto := HTO.out (b + 1) (by rw [HL.out]; omega)
        rw [← HTR.out, show ((b + 1 : Nat) : Int) = (b : Int) + 1 by omega] at hfr
        rw [← HST.out, show ((b + 1 : Nat) : Int) = (b : Int) + 1 by omega] at hto
        have hcv := Lib.run_convert_string_bytes (P := Tryd.prog) wr 9 36 5 (strOfNums (trun l)) Tryd.underlying9 Tryd.underlying36 Tryd.underlying5
        have hb0 := Lib.bytesWorld_below wr 5 (strOfNums (trun l))
        have hrw0 := Rw.of_bw wr (trun l) hrr
        rw [strOfNums_size] at hcv
        generalize Lib.bytesWorld wr 5 (strOfNums (trun l)) = w1 at *
        have hzs : (strOfNums (stem l)).size ≤ 16 := by rw [strOfNums_size, HST.out, List.length_take]; omega
        have HCC : Hid (∀ T, T = strOfNums (one (trun l)) → strOfNums (stem l) ++ T = strOfNums (cand l)) := fun T hT => by
          rw [hT, HCA.out, if_neg HNE.out, str_app]
        generalize strOfNums (trun l) = SR at *
        generalize strOfNums (stem l) = ST at *
        generalize hrl : trun l = r at *
        obtain ⟨k, hk⟩ : ∃ k, r.length = k := ⟨_, rfl⟩
        rw [hk] at hcv hbk hrw0
        have HK := Lib.hid hk
        have hkpos : 0 < k := by omega
        have hk16 : k ≤ 16 := by omega
        clear hk hrl hbk hbe hrr
        generalize grownCap wr k 0 5 = cp at *
        go_wp2_with fail
        refine (digit_any _ _).mono ?_
        rintro e w2 ⟨rfl, rfl⟩
        go_wp2
        go_loopw [5] (fun zv w3 => ∃ (m i : Nat) (z : Int), zv = .int .i64 z ∧ Hid (z = (m : Int) - 1) ∧ -1 ≤ z ∧ z < k ∧ Hid (m + i = k) ∧ Hid (r.drop m = List.replicate i 57) ∧ Rw w3 wr.heap.size k (r.take m ++ List.replicate i 48) ∧ Below wr.heap.size wr w3) (fun zv _ => (intOf zv + 1).toNat)
        case atStart => exact ⟨k, 0, (k : Int) - 1, rfl, rfl, by omega, by omega, by show _ = _; omega, by show _ = _; rw [List.drop_of_length_le (by rw [HK.out]; exact Nat.le_refl _)]; rfl, by rw [List.take_of_length_le (by rw [HK.out]; exact Nat.le_refl _)]; simpa using hrw0, hb0⟩
        case round =>
          obtain ⟨m', i, z, rfl, HZ, hz0, hz1, HM, HD3, hrw, hbr⟩ := hrel
          rename World => w3
          clear hrw0 hb0
          by_cases hzn : 0 ≤ z
          · obtain ⟨m, rfl⟩ : ∃ m : Nat, z = (m : Int) := ⟨z.toNat, by omega⟩
            obtain rfl : m' = m + 1 := by have := HZ.out; omega
            have hmk : m < k := by omega
            have HMM := Lib.hid (show m + 1 + i = k from HM.out)
            obtain ⟨y, hy⟩ : ∃ y, r[m]? = some y := ⟨_, List.getElem?_eq_getElem (by rw [HK.out]; exact hmk)⟩
            obtain ⟨hy0, hy1⟩ := (dgt_iff y).1 (HTA.out y (List.mem_of_getElem? hy))
            have HY := Lib.hid hy; clear hy
            have hcx : w3.cell? ⟨wr.heap.size, m, none⟩ = some (.int .u8 y) := by
              refine hrw.2.1 m y ?_
              rw [List.getElem?_append_left (by rw [List.length_take, HK.out]; omega), List.getElem?_take, if_pos (by omega)]
              exact HY.out
            have hfz : w3.frozen? ⟨wr.heap.size, m, none⟩ = false := hrw.2.2 m hmk
            have HSET : Hid (∀ v : Int, Rw (w3.setCell ⟨wr.heap.size, m, none⟩ (.int .u8 v)) wr.heap.size k (r.take m ++ v :: List.replicate i 48)) := fun v => by
              have := hrw.set hmk v
              rwa [row_set HK.out HMM.out HY.out] at this
            have HBE : Hid (∀ v : Int, Below wr.heap.size wr (w3.setCell ⟨wr.heap.size, m, none⟩ (.int .u8 v))) := fun v => hbr.setCell (by simp) _
            have HSP := Lib.hid (row_split HK.out HMM.out HY.out HD3.out)
            clear hrw hbr
            by_cases gy : y = 57
            · subst gy
              have HR2 : Hid (Rw (w3.setCell ⟨wr.heap.size, m, none⟩ (.int .u8 48)) wr.heap.size k (r.take m ++ List.replicate (i + 1) 48)) := HSET.out 48
              have HD4 := Lib.hid (row_next HK.out hmk HY.out HD3.out)
              go_wp2
              go_roundw
              case rel => exact ⟨m, i + 1, (m : Int) - 1, rfl, rfl, by omega, by omega, by show _ = _; have := HMM.out; omega, HD4, HR2.out, HBE.out 48⟩
              case measure => simp [intOf]
            · have gy1 : (y == 57) = false := by simpa using gy
              have hcv2 := (HSET.out (y + 1)).conv (c := cp)
              have hcv3 : (convert 36 9 (.slice (some ⟨wr.heap.size, 0, none⟩) k cp)).run Tryd.prog (w3.setCell ⟨wr.heap.size, m, none⟩ (.int .u8 (y + 1))).drew = .ok (.string (strOfNums (r.take m ++ (y + 1) :: List.replicate i 48))) (w3.setCell ⟨wr.heap.size, m, none⟩ (.int .u8 (y + 1))).drew := by
                have : Rw (w3.setCell ⟨wr.heap.size, m, none⟩ (.int .u8 (y + 1))).drew wr.heap.size k (r.take m ++ (y + 1) :: List.replicate i 48) := HSET.out (y + 1)
                exact this.conv (c := cp)
              have HE := Lib.hid (show ST ++ strOfNums (r.take m ++ (y + 1) :: List.replicate i 48) = strOfNums (cand l) from HCC.out _ (by
                conv => rhs; rw [HSP.out, one_stop gy]))
              have HB1 := Lib.hid (HBE.out (y + 1))
              have hy2 : y ≤ 56 := by omega
              have hzt : (strOfNums (r.take m ++ (y + 1) :: List.replicate i 48)).size ≤ 40 := by
                rw [strOfNums_size, List.length_append, List.length_take, List.length_cons, List.length_replicate]
                have := HMM.out; omega
              clear gy HSP
              generalize strOfNums (r.take m ++ (y + 1) :: List.replicate i 48) = T at *
              have hee := HE.out
              by_cases hvc : vld (cand l) = true
              · rw [hvc] at HVC
                have HF := Lib.hid (HNS.out hvc)
                generalize strOfNums (cand l) = SC at *
                clear hvc
                go_wp2
                go_region
                go_wp2_with fail
                refine (HVC.out _).mono ?_
                rintro e w5 ⟨rfl, rfl⟩
                go_wp2
                go_ret
                exact ⟨congrArg (fun s => Ending.returned (.string s)) HF.out.symm, below_n HB1.out _⟩
              · have hvc : vld (cand l) = false := by simpa using hvc
                rw [hvc] at HVC
                have HF := Lib.hid (HNF.out hvc)
                generalize strOfNums (cand l) = SC at *
                clear hvc
                go_wp2
                go_region
                go_wp2_with fail
                refine (HVC.out _).mono ?_
                rintro e w5 ⟨rfl, rfl⟩
                go_wp2
                go_ret
                exact ⟨congrArg (fun s => Ending.returned (.string s)) HF.out.symm, below_n HB1.out _⟩
          · obtain rfl : z = -1 := by omega
            obtain rfl : m' = 0 := by have := HZ.out; omega
            obtain rfl : i = k := by have := HM.out; omega
            have HE : Hid (ST ++ ⟨#[49]⟩ ++ strOfNums (List.replicate i 48) = strOfNums (cand l)) := by
              show _ = _
              have h := HD3.out
              rw [List.drop_zero] at h
              rw [← HCC.out (⟨#[49]⟩ ++ strOfNums (List.replicate i 48)) (by
                rw [h, one_nines, show (⟨#[49]⟩ : ByteArray) = strOfNums [49] from rfl, str_app]; rfl)]
              apply ByteArray.ext
              simp
            have hcv2 : (convert 36 9 (.slice (some ⟨wr.heap.size, 0, none⟩) i cp)).run Tryd.prog w3 = .ok (.string (strOfNums (List.replicate i 48))) w3 := by
              have := hrw.conv (c := cp)
              rwa [List.take_zero, List.nil_append] at this
            have hcv3 : (convert 36 9 (.slice (some ⟨wr.heap.size, 0, none⟩) i cp)).run Tryd.prog w3.drew = .ok (.string (strOfNums (List.replicate i 48))) w3.drew := by
              have hrw' : Rw w3.drew wr.heap.size i (List.take 0 r ++ List.replicate i 48) := hrw
              have := hrw'.conv (c := cp)
              rwa [List.take_zero, List.nil_append] at this
            have hzt : (strOfNums (List.replicate i 48)).size ≤ 40 := by rw [strOfNums_size]; simp; omega
            generalize strOfNums (List.replicate i 48) = T at *
            have hee := HE.out
            clear hzn hrw
            by_cases hvc : vld (cand l) = true
            · rw [hvc] at HVC
              have HF := Lib.hid (HNS.out hvc)
              generalize strOfNums (cand l) = SC at *
              clear hvc
              go_wp2
              go_region
              go_wp2_with fail
              refine (HVC.out _).mono ?_
              rintro e w5 ⟨rfl, rfl⟩
              go_wp2
              go_ret
              exact ⟨congrArg (fun s => Ending.returned (.string s)) HF.out.symm, below_n hbr _⟩
            · have hvc : vld (cand l) = false := by simpa using hvc
              rw [hvc] at HVC
              have HF := Lib.hid (HNF.out hvc)
              generalize strOfNums (cand l) = SC at *
              clear hvc
              go_wp2
              go_region
              go_wp2_with fail
              refine (HVC.out _).mono ?_
              rintro e w5 ⟨rfl, rfl⟩
              go_wp2
              go_ret
              exact ⟨congrArg (fun s => Ending.returned (.string s)) HF.out.symm, below_n hbr _⟩
end Go.Proofs.YtdlbghjclcdfmaaDoor
