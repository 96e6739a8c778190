/- label.Compare. -/
import Derived.Test.YtdlbghjclcdfmabDoorCompW
namespace Go.Proofs.YtdlbghjclcdfmabDoor
set_option linter.unusedVariables false
set_option linter.unusedSimpArgs false
open Go.RowKit

theorem trim0_mem {l : List Int} : ∀ x ∈ trim0 l, x ∈ l := fun x hx => (List.dropWhile_sublist (· == (48 : Int))).subset hx
theorem trim0_le (l : List Int) : (trim0 l).length ≤ l.length := (List.dropWhile_sublist (· == (48 : Int))).length_le
set_option maxRecDepth 100000 in
set_option maxHeartbeats 1000000 in
theorem pieces_any (c d : Int) (r t : List Int) (w : World) (hp : Ran (c :: r)) (hq : Ran (d :: t)) (hn : r.length + 1 ≤ 140737488355328) (hm : t.length + 1 ≤ 140737488355328) :
    Calls Tryd.prog 27 #[.string (strOfNums (c :: r)), .string (strOfNums (d :: t))] w fun e w' => e = .returned (.int .i64 (cmpL (key (c :: r)) (key (d :: t)))) ∧ Dr w w' := by
  obtain ⟨hc0, hc1⟩ := hp c (by simp)
  obtain ⟨hd0, hd1⟩ := hq d (by simp)
  have hi0 : ∀ W, (Instr.index 9 (.string (strOfNums (c :: r))) (.int .i64 0)).run Tryd.prog W = .ok (.int .u8 c) W := str_index 9 Tryd.underlying9 _ 0 c rfl hc0 hc1
  have hj0 : ∀ W, (Instr.index 9 (.string (strOfNums (d :: t))) (.int .i64 0)).run Tryd.prog W = .ok (.int .u8 d) W := str_index 9 Tryd.underlying9 _ 0 d rfl hd0 hd1
  by_cases hc : dig c = true
  · by_cases hd : dig d = true
    · have HK := Lib.hid (key_dd r t hc hd)
      have hr1 : Ran (trim0 (c :: r)) := hp.sub trim0_mem
      have hr2 : Ran (trim0 (d :: t)) := hq.sub trim0_mem
      have hl1 : (trim0 (c :: r)).length ≤ 140737488355328 := by have := trim0_le (c :: r); simp at this; omega
      have hl2 : (trim0 (d :: t)).length ≤ 140737488355328 := by have := trim0_le (d :: t); simp at this; omega
      have HT1 := Lib.hid (fun W => trimL_any (c :: r) hp W)
      have HT2 := Lib.hid (fun W => trimL_any (d :: t) hq W)
      have hz1 : (strOfNums (trim0 (c :: r))).size = (trim0 (c :: r)).length := strOfNums_size _
      have hz2 : (strOfNums (trim0 (d :: t))).size = (trim0 (d :: t)).length := strOfNums_size _
      have HSC := Lib.hid (fun W => scompare_any (trim0 (c :: r)) (trim0 (d :: t)) hr1 hr2 W)
      generalize cmpL (key (c :: r)) (key (d :: t)) = res at *
      generalize strOfNums (c :: r) = S at *
      generalize strOfNums (d :: t) = T at *
      generalize trim0 (c :: r) = x at *
      generalize trim0 (d :: t) = y at *
      clear hr1 hr2
      generalize strOfNums x = X at *
      generalize strOfNums y = Y at *
      by_cases e : x.length = y.length
      · replace HK := Lib.hid (HK.out.trans (if_pos e))
        have hne : ((x.length : Int) != (y.length : Int)) = false := by simp [e]
        generalize x.length = xn at *
        generalize y.length = yn at *
        generalize cmpL x y = rr at *
        clear e
        go_enter Tryd.func27, Tryd.ntmps27
        go_wp2_with fail
        refine (isdig_any _ _).mono ?_
        rintro e w1 ⟨rfl, rfl⟩
        go_wp2_with fail
        refine (isdig_any _ _).mono ?_
        rintro e w1 ⟨rfl, rfl⟩
        go_wp2_with fail
        refine (HT1.out _).mono ?_
        rintro e w1 ⟨rfl, rfl⟩
        go_wp2_with fail
        refine (HT2.out _).mono ?_
        rintro e w1 ⟨rfl, rfl⟩
        go_wp2_with fail
        refine (HSC.out _).mono ?_
        rintro e w1 ⟨rfl, rfl⟩
        go_wp2
        go_ret
        exact ⟨ret_int HK.out.symm, Dr.refl _⟩
      · replace HK := Lib.hid (HK.out.trans (if_neg e))
        have hne : ((x.length : Int) != (y.length : Int)) = true := by simp; omega
        generalize x.length = xn at *
        generalize y.length = yn at *
        clear e
        go_enter Tryd.func27, Tryd.ntmps27
        go_wp2_with fail
        refine (isdig_any _ _).mono ?_
        rintro e w1 ⟨rfl, rfl⟩
        go_wp2_with fail
        refine (isdig_any _ _).mono ?_
        rintro e w1 ⟨rfl, rfl⟩
        go_wp2_with fail
        refine (HT1.out _).mono ?_
        rintro e w1 ⟨rfl, rfl⟩
        go_wp2_with fail
        refine (HT2.out _).mono ?_
        rintro e w1 ⟨rfl, rfl⟩
        go_wp2_with fail
        refine (cmp_int _ _ _).mono ?_
        rintro e w1 ⟨rfl, rfl⟩
        go_wp2
        go_ret
        exact ⟨ret_int HK.out.symm, Dr.refl _⟩
    · have hd : dig d = false := by simpa using hd
      have HK := Lib.hid (key_nd (c := c) (d := d) r t (.inr hd))
      generalize cmpL (key (c :: r)) (key (d :: t)) = res at *
      generalize strOfNums (c :: r) = S at *
      generalize strOfNums (d :: t) = T at *
      have HCB := Lib.hid (fun W => cmp_byte c d W)
      generalize cmpI c d = ci at *
      go_enter Tryd.func27, Tryd.ntmps27
      go_wp2_with fail
      refine (isdig_any _ _).mono ?_
      rintro e w1 ⟨rfl, rfl⟩
      go_wp2_with fail
      refine (isdig_any _ _).mono ?_
      rintro e w1 ⟨rfl, rfl⟩
      go_wp2
      go_quiet ((go_at_call 40; first | exact still_call_add HCB.out | exact still_call HCB.out))
      go_wp2
      go_ret
      exact ⟨ret_int HK.out.symm, (Dr.refl w).n _⟩
  · have hc : dig c = false := by simpa using hc
    have HK := Lib.hid (key_nd (c := c) (d := d) r t (.inl hc))
    generalize cmpL (key (c :: r)) (key (d :: t)) = res at *
    generalize strOfNums (c :: r) = S at *
    generalize strOfNums (d :: t) = T at *
    have HCB := Lib.hid (fun W => cmp_byte c d W)
    generalize cmpI c d = ci at *
    go_enter Tryd.func27, Tryd.ntmps27
    go_wp2_with fail
    refine (isdig_any _ _).mono ?_
    rintro e w1 ⟨rfl, rfl⟩
    go_wp2
    go_quiet ((go_at_call 40; first | exact still_call_add HCB.out | exact still_call HCB.out))
    go_wp2
    go_ret
    exact ⟨ret_int HK.out.symm, (Dr.refl w).n _⟩

/-- A text that isn't empty. -/
def NE (S : ByteArray) : Prop := (S.toList == (⟨#[]⟩ : ByteArray).toList) = false ∧ (S.toList == []) = false ∧ S.toList.isEmpty = false ∧ ¬ S.toList = []
theorem str_ne {xs : List Int} (h : 0 < xs.length) : NE (strOfNums xs) := by
  have e : (strOfNums xs).toList ≠ [] := by
    rw [str_list]
    intro e
    have := congrArg List.length e
    simp at this
    subst this
    simp at h
  have e2 : (⟨#[]⟩ : ByteArray).toList = [] := by rw [ByteArray.toList_eq]
  refine ⟨by rw [e2]; simpa using e, by simpa using e, by simpa using e, e⟩
theorem fp_ran {l : List Int} (h : Ran l) : Ran (fp l) := by
  cases l with
  | nil => exact h
  | cons c r =>
    rw [fp_eq]
    split
    · intro x hx
      rcases List.mem_cons.1 hx with rfl | hx
      · exact h _ (by simp)
      · exact h _ (List.mem_cons_of_mem _ ((List.takeWhile_sublist dgt).subset hx))
    · intro x hx
      obtain rfl := List.mem_singleton.1 hx
      exact h _ (by simp)

set_option maxRecDepth 100000 in
set_option maxHeartbeats 2000000 in
theorem compare_any (a b : List Int) (w : World) (ha : Ran a) (hb : Ran b) (hla : a.length ≤ 140737488355328) (hlb : b.length ≤ 140737488355328) :
    Calls Tryd.prog 9 #[.string (strOfNums a), .string (strOfNums b)] w fun e w' => e = .returned (.int .i64 (cmpS a b)) ∧ Dr w w' := by
  have HSC := Lib.hid (fun W => scompare_any a b ha hb W)
  obtain ⟨A0, hA⟩ : ∃ A0, A0 = strOfNums a := ⟨_, rfl⟩
  obtain ⟨B0, hB⟩ : ∃ B0, B0 = strOfNums b := ⟨_, rfl⟩
  rw [← hA, ← hB] at HSC ⊢
  have HA := Lib.hid hA; have HB := Lib.hid hB
  clear hA hB
  have HCS := Lib.hid (show cmpS a b = if cmpL (kys a) (kys b) = 0 then cmpL a b else cmpL (kys a) (kys b) from rfl)
  generalize cmpS a b = res at *
  generalize cmpL a b = rb at *
  go_enter Tryd.func9, Tryd.ntmps9
  go_wp2
  go_loopw [5, 6] (fun xv yv wr => ∃ (x y : List Int), xv = .string (strOfNums x) ∧ yv = .string (strOfNums y) ∧ Hid (Ran x) ∧ Hid (Ran y) ∧ x.length ≤ 140737488355328 ∧ y.length ≤ 140737488355328 ∧ Hid (cmpL (kys a) (kys b) = cmpL (kys x) (kys y)) ∧ Dr w wr) (fun xv _ _ => (match xv with | .string s => s.size | _ => 0))
  case atStart => exact ⟨a, b, by rw [HA.out], by rw [HB.out], ha, hb, hla, hlb, rfl, Dr.refl _⟩
  case round =>
    obtain ⟨x, y, rfl, rfl, HX, HY, hlx, hly, HK, hd⟩ := hrel
    match x, y, HX, HY, hlx, hly, HK with
    | [], [], HX, HY, hlx, hly, HK =>
      have HR := Lib.hid (show rb = res by rw [HCS.out, HK.out, kys_nil]; simp [cmpL])
      have e0 : strOfNums [] = ⟨#[]⟩ := rfl
      rw [e0]
      go_wp2_with fail
      refine (HSC.out _).mono ?_
      rintro e w1 ⟨rfl, rfl⟩
      go_wp2
      go_ret
      exact ⟨ret_int HR.out, hd⟩
    | c :: r, [], HX, HY, hlx, hly, HK =>
      have HR := Lib.hid (show 1 = res by rw [HCS.out, HK.out, kys_left]; rfl)
      have e0 : strOfNums [] = ⟨#[]⟩ := rfl
      have n0 : NE (strOfNums (c :: r)) := str_ne (by simp)
      rw [e0]
      generalize strOfNums (c :: r) = S at *
      obtain ⟨n1, n2, n3, n4⟩ := n0
      go_wp2
      go_ret
      exact ⟨ret_int HR.out, hd⟩
    | [], d :: t, HX, HY, hlx, hly, HK =>
      have HR := Lib.hid (show -1 = res by rw [HCS.out, HK.out, kys_right]; rfl)
      have e0 : strOfNums [] = ⟨#[]⟩ := rfl
      have n0 : NE (strOfNums (d :: t)) := str_ne (by simp)
      rw [e0]
      generalize strOfNums (d :: t) = S at *
      obtain ⟨n1, n2, n3, n4⟩ := n0
      go_wp2
      go_ret
      exact ⟨ret_int HR.out, hd⟩
    | c :: r, d :: t, HX, HY, hlx, hly, HK =>
      obtain ⟨r', hr'⟩ := fp_head c r
      obtain ⟨t', ht'⟩ := fp_head d t
      have hf1 := fp_le (c :: r)
      have hf2 := fp_le (d :: t)
      have hp1 := fp_len (c := c) (r := r)
      have HP1 := Lib.hid (fun W => piece_any c r W HX.out (by simpa using hlx))
      have HP2 := Lib.hid (fun W => piece_any d t W HY.out (by simpa using hly))
      have hrp := fp_ran HX.out
      have hrq := fp_ran HY.out
      have HNE := Lib.hid (fun h => kys_ne (c := c) (d := d) (r := r) (t := t) h)
      have HEQ := Lib.hid (fun h => kys_eq (c := c) (d := d) (r := r) (t := t) h)
      have hsl1 := str_from (P := Tryd.prog) 9 Tryd.underlying9 (c :: r) (fp (c :: r)).length hf1
      have hsl2 := str_from (P := Tryd.prog) 9 Tryd.underlying9 (d :: t) (fp (d :: t)).length hf2
      have n0 : NE (strOfNums (c :: r)) := str_ne (by simp)
      have m0 : NE (strOfNums (d :: t)) := str_ne (by simp)
      have hz1 : (strOfNums (fp (c :: r))).size = (fp (c :: r)).length := strOfNums_size _
      have hz2 : (strOfNums (fp (d :: t))).size = (fp (d :: t)).length := strOfNums_size _
      have HR1 : Hid (Ran ((c :: r).drop (fp (c :: r)).length)) := HX.out.sub fun z hz => List.mem_of_mem_drop hz
      have HR2 : Hid (Ran ((d :: t).drop (fp (d :: t)).length)) := HY.out.sub fun z hz => List.mem_of_mem_drop hz
      have HM : Hid ((strOfNums ((c :: r).drop (fp (c :: r)).length)).size < (strOfNums (c :: r)).size) := by
        show _ < _
        rw [strOfNums_size, strOfNums_size, List.length_drop]
        have : 0 < (c :: r).length := by simp
        omega
      have hld1 : ((c :: r).drop (fp (c :: r)).length).length ≤ 140737488355328 := by rw [List.length_drop]; omega
      have hld2 : ((d :: t).drop (fp (d :: t)).length).length ≤ 140737488355328 := by rw [List.length_drop]; omega
      have hpl1 : (fp (c :: r)).length ≤ 140737488355328 := by omega
      have hpl2 : (fp (d :: t)).length ≤ 140737488355328 := by omega
      have HPC : Hid (∀ W, Calls Tryd.prog 27 #[.string (strOfNums (fp (c :: r))), .string (strOfNums (fp (d :: t)))] W fun e w' => e = .returned (.int .i64 (cmpL (key (fp (c :: r))) (key (fp (d :: t))))) ∧ Dr W w') := fun W => by
        rw [hr'] at hrp hpl1 ⊢
        rw [ht'] at hrq hpl2 ⊢
        exact pieces_any c d r' t' W hrp hrq (by simpa using hpl1) (by simpa using hpl2)
      clear hr' ht' hrp hrq hf1 hf2 hp1
      generalize strOfNums (fp (c :: r)) = P at *
      generalize strOfNums (fp (d :: t)) = Q at *
      generalize (c :: r).drop (fp (c :: r)).length = x' at *
      generalize (d :: t).drop (fp (d :: t)).length = y' at *
      generalize strOfNums (c :: r) = S at *
      generalize strOfNums (d :: t) = T at *
      generalize (fp (c :: r)).length = pn at *
      generalize (fp (d :: t)).length = qn at *
      obtain ⟨n1, n2, n3, n4⟩ := n0
      obtain ⟨m1, m2, m3, m4⟩ := m0
      generalize cmpL (key (fp (c :: r))) (key (fp (d :: t))) = cc at *
      clear hlx hly
      go_wp2_with fail
      refine (HP1.out _).mono ?_
      rintro e w1 ⟨rfl, rfl⟩
      go_wp2_with fail
      refine (HP2.out _).mono ?_
      rintro e w1 ⟨rfl, rfl⟩
      go_wp2_with fail
      refine (HPC.out _).mono ?_
      rintro e w1 ⟨rfl, hd1⟩
      have hd2 := hd.trans hd1
      clear hd hd1
      by_cases hcc : cc = 0
      · have HE := Lib.hid (HK.out.trans (HEQ.out hcc))
        subst hcc
        go_wp2
        go_quiet (fail)
        go_wp2
        go_roundw
        case rel => exact ⟨x', y', rfl, rfl, HR1, HR2, hld1, hld2, HE, hd2.n _⟩
        case measure => exact HM.out
      · have HE := Lib.hid (HK.out.trans (HNE.out hcc))
        have HR := Lib.hid (show cc = res by rw [HCS.out, HE.out, if_neg hcc])
        have hcn : (cc != 0) = true := by simpa using hcc
        clear hcc
        go_wp2
        go_ret
        exact ⟨ret_int HR.out, hd2⟩
end Go.Proofs.YtdlbghjclcdfmabDoor
