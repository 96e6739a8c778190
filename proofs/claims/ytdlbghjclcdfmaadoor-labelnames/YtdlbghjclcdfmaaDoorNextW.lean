/- label.Next. -/
import Derived.Test.YtdlbghjclcdfmaaDoorOneW
import Derived.Test.YtdlbghjclcdfmaaDoorRValid
namespace Go.Proofs.YtdlbghjclcdfmaaDoor
set_option linter.unusedVariables false
set_option linter.unusedSimpArgs false
open Go.RowKit

def digs : List UInt8 := [48, 49, 50, 51, 52, 53, 54, 55, 56, 57]
theorem digs_has : ∀ n : Fin 256, digs.contains (UInt8.ofNat n.val) = decide (48 ≤ n.val ∧ n.val ≤ 57) := by decide +kernel
theorem digs_dgt {x : Int} (h0 : 0 ≤ x) (h1 : x ≤ 255) : digs.contains (UInt8.ofNat x.toNat) = dgt x := by
  have := digs_has ⟨x.toNat, by omega⟩
  simp only at this
  rw [this]
  unfold dgt
  by_cases h : 48 ≤ x ∧ x ≤ 57
  · rw [decide_eq_true h, decide_eq_true (by omega)]
  · rw [decide_eq_false h, decide_eq_false (by omega)]
theorem dw_map : ∀ (xs : List Int), Ran xs → (xs.map fun n => UInt8.ofNat n.toNat).dropWhile (digs.contains ·) = (xs.dropWhile dgt).map fun n => UInt8.ofNat n.toNat
  | [], _ => rfl
  | x :: xs, hx => by
    have h1 := hx x (by simp)
    have ih := dw_map xs (hx.sub fun z hz => List.mem_cons_of_mem _ hz)
    rw [List.map_cons, List.dropWhile_cons, List.dropWhile_cons, digs_dgt h1.1 h1.2]
    split
    · exact ih
    · rfl
theorem trimR_any (l : List Int) (w : World) (hr : Ran l) (hn : l.length ≤ 140737488355328) :
    Calls Tryd.prog 27 #[.string (strOfNums l), .string ⟨#[48, 49, 50, 51, 52, 53, 54, 55, 56, 57]⟩] w fun e w' => e = .returned (.string (strOfNums (stem l))) ∧ Below w.heap.size w w' :=
  (Any.strings_TrimRight_laid Tryd.lays162 (by kernel_rfl) (strOfNums l) ⟨#[48, 49, 50, 51, 52, 53, 54, 55, 56, 57]⟩ w (by rw [strOfNums_size]; omega) (by decide) (ascii_of_all (by decide))).mono fun e w' ⟨h1, h2⟩ => ⟨by
    rw [h1, strOfNums_data]
    have : Lib.trimRightS (l.map fun n => UInt8.ofNat n.toNat) digs = (stem l).map fun n => UInt8.ofNat n.toNat := by
      unfold Lib.trimRightS stem
      rw [← List.map_reverse, dw_map _ (hr.sub fun z hz => List.mem_reverse.1 hz), List.map_reverse]
    exact congrArg (fun s => Ending.returned (.string ⟨s.toArray⟩)) this, h2⟩

theorem stem_ran {l : List Int} (h : Ran l) : Ran (stem l) := h.sub fun x hx => by
  rw [← stem_run l]; simp [hx]
theorem trun_ran {l : List Int} (h : Ran l) : Ran (trun l) := h.sub fun x hx => by
  rw [← stem_run l]; simp [hx]
theorem stem_len (l : List Int) : (stem l).length + (trun l).length = l.length := by
  rw [← List.length_append, stem_run]
theorem one_len (l : List Int) : (one l).length ≤ l.length + 1 := by
  rcases nines_split l with ⟨i, rfl⟩ | ⟨u, x, i, rfl, hx⟩
  · rw [one_nines]; simp
  · rw [one_stop hx]; simp
theorem ran_of_all {l : List Int} (h : l.all dgt = true) : Ran l := fun x hx => by
  have := (dgt_iff x).1 (List.all_eq_true.1 h x hx)
  omega
theorem one_ran {c : Int} {r : List Int} (h : (c :: r).all dgt = true) : Ran (one (c :: r)) := by
  obtain ⟨d, t, e, hd⟩ := one_head h
  rw [e]; exact ran_of_all hd
theorem cand_ran {l : List Int} (h : Ran l) : Ran (cand l) := by
  unfold cand
  by_cases e : trun l = []
  · rw [if_pos e]
    exact h.append (fun x hx => by
      simp only [List.mem_cons, List.not_mem_nil, or_false] at hx
      rcases hx with rfl | rfl <;> omega)
  · rw [if_neg e]
    match hr : trun l, e with
    | c :: r, _ =>
      have ha := trun_all l
      rw [hr] at ha
      exact (stem_ran h).append (one_ran ha)
theorem cand_len (l : List Int) : (cand l).length ≤ l.length + 2 := by
  unfold cand
  split
  · simp
  · have := one_len (trun l)
    have := stem_len l
    rw [List.length_append]; omega
theorem vld_len {l : List Int} (h : vld l = true) : l.length ≤ 16 := by
  cases l with
  | nil => simp
  | cons c r =>
    simp only [vld, Bool.and_eq_true, decide_eq_true_eq] at h
    simpa using h.1.1
theorem vld_ne {l : List Int} (h : vld l = true) : ∃ c r, l = c :: r ∧ lt c = true := by
  cases l with
  | nil => simp [vld] at h
  | cons c r =>
    simp only [vld, Bool.and_eq_true] at h
    exact ⟨c, r, rfl, h.1.2⟩
/-- The name behind one, and whether there is one. -/
def nxt (l : List Int) : List Int := if vld l = true ∧ vld (cand l) = true then cand l else []
def nok (l : List Int) : Bool := vld l && vld (cand l)
theorem str_app (xs ys : List Int) : strOfNums xs ++ strOfNums ys = strOfNums (xs ++ ys) := by
  apply ByteArray.ext
  simp [strOfNums]

set_option maxRecDepth 100000 in
set_option maxHeartbeats 2000000 in
theorem next_any (l : List Int) (w : World) (hr : Ran l) (hn : l.length ≤ 140737488355328) :
    Calls Tryd.prog 9 #[.string (strOfNums l)] w fun e w' => e = .returned (.tuple #[.string (strOfNums (nxt l)), .bool (nok l)]) ∧ Below w.heap.size w w' := by
  have HV := Lib.hid (fun W => valid_any l W hr hn)
  by_cases hv : vld l = true
  rotate_left
  · have hv : vld l = false := by simpa using hv
    have e1 : nxt l = [] := by simp [nxt, hv]
    have e2 : nok l = false := by simp [nok, hv]
    have e0 : strOfNums [] = ⟨#[]⟩ := rfl
    rw [e1, e2, e0]
    rw [hv] at HV
    generalize strOfNums l = S at *
    clear e1 e2 e0 hv
    go_enter Tryd.func9, Tryd.ntmps9
    go_wp2_with fail
    refine (HV.out _).mono ?_
    rintro e w1 ⟨rfl, rfl⟩
    go_wp2
    go_ret2
    exact ⟨rfl, Below.refl _ _⟩
  rw [hv] at HV
  have hl16 := vld_len hv
  have HT := Lib.hid (fun W => trimR_any l W hr hn)
  have hsl := str_from (P := Tryd.prog) 9 Tryd.underlying9 l (stem l).length (by have := stem_len l; omega)
  have hdr : l.drop (stem l).length = trun l := by
    have h := stem_run l
    generalize stem l = sa at *
    generalize trun l = sb at *
    rw [← h, List.drop_left]
  rw [hdr] at hsl
  clear hdr
  have hcr := cand_ran hr
  have hcl := cand_len l
  have HVC := Lib.hid (fun W => valid_any (cand l) W hcr (by omega))
  have hzs : (strOfNums (stem l)).size = (stem l).length := strOfNums_size _
  have hzr : (strOfNums (trun l)).size = (trun l).length := strOfNums_size _
  have hz0 : (strOfNums l).size = l.length := strOfNums_size _
  have hlen := stem_len l
  have hsl16 : (stem l).length ≤ 16 := by omega
  have HNX := Lib.hid (show nxt l = if vld (cand l) = true then cand l else [] by simp [nxt, hv])
  have HNO := Lib.hid (show nok l = vld (cand l) by simp [nok, hv])
  by_cases he : trun l = []
  · have ec : strOfNums (stem l) ++ ⟨#[45, 50]⟩ = strOfNums (cand l) := by
      have e1 : stem l = l := by have := stem_run l; rwa [he, List.append_nil] at this
      rw [show (⟨#[45, 50]⟩ : ByteArray) = strOfNums [45, 50] from rfl, str_app, e1]
      unfold cand; rw [if_pos he]
    have er : strOfNums (trun l) = ⟨#[]⟩ := by rw [he]; rfl
    rw [er] at hsl hzr
    have hee : ((⟨#[]⟩ : ByteArray).toList == (⟨#[]⟩ : ByteArray).toList) = true := by simp
    generalize hres : nok l = ok at *
    clear hres
    have HNS := Lib.hid (congrArg strOfNums HNX.out)
    generalize strOfNums (nxt l) = NS at *
    generalize strOfNums (stem l) = ST at *
    generalize (stem l).length = sn at *
    generalize strOfNums l = S at *
    have hzc : (strOfNums (cand l)).size = (cand l).length := strOfNums_size _
    by_cases hvc : vld (cand l) = true
    · replace HNS := Lib.hid (HNS.out.trans (congrArg strOfNums (if_pos hvc)))
      rw [hvc] at HVC HNO
      generalize strOfNums (cand l) = SC at *
      clear hvc er he hcr HNX hzc
      go_enter Tryd.func9, Tryd.ntmps9
      go_wp2_with fail
      refine (HV.out _).mono ?_
      rintro e w1 ⟨rfl, rfl⟩
      go_wp2_with fail
      refine (HT.out _).mono ?_
      rintro e w2 ⟨rfl, hb2⟩
      go_wp2_with fail
      refine (HVC.out _).mono ?_
      rintro e w3 ⟨rfl, rfl⟩
      go_wp2
      go_ret2
      exact ⟨by rw [HNS.out, HNO.out]; try rfl, hb2⟩
    · have hvc : vld (cand l) = false := by simpa using hvc
      replace HNS := Lib.hid (HNS.out.trans (congrArg strOfNums (if_neg (by rw [hvc]; simp))))
      rw [hvc] at HVC HNO
      generalize strOfNums (cand l) = SC at *
      clear hvc er he hcr HNX hzc
      go_enter Tryd.func9, Tryd.ntmps9
      go_wp2_with fail
      refine (HV.out _).mono ?_
      rintro e w1 ⟨rfl, rfl⟩
      go_wp2_with fail
      refine (HT.out _).mono ?_
      rintro e w2 ⟨rfl, hb2⟩
      go_wp2_with fail
      refine (HVC.out _).mono ?_
      rintro e w3 ⟨rfl, rfl⟩
      go_wp2
      go_ret2
      exact ⟨by rw [HNS.out, HNO.out]; try rfl, hb2⟩
  · have hne : NE (strOfNums (trun l)) := str_ne (by cases h : trun l with | nil => exact absurd h he | cons c r => simp)
    have HO := Lib.hid (fun W => oneMore_any (trun l) W (trun_ran hr) (trun_all l) (by omega))
    have ec : strOfNums (stem l) ++ strOfNums (one (trun l)) = strOfNums (cand l) := by
      rw [str_app]; unfold cand; rw [if_neg he]
    generalize hres : nok l = ok at *
    clear hres
    have HNS := Lib.hid (congrArg strOfNums HNX.out)
    have hzo : (strOfNums (one (trun l))).size ≤ 20 := by rw [strOfNums_size]; have := one_len (trun l); omega
    generalize strOfNums (nxt l) = NS at *
    generalize strOfNums (stem l) = ST at *
    generalize (stem l).length = sn at *
    generalize strOfNums (one (trun l)) = SO at *
    generalize strOfNums (trun l) = SR at *
    generalize strOfNums l = S at *
    obtain ⟨n1, n2, n3, n4⟩ := hne
    by_cases hvc : vld (cand l) = true
    · replace HNS := Lib.hid (HNS.out.trans (congrArg strOfNums (if_pos hvc)))
      rw [hvc] at HVC HNO
      generalize strOfNums (cand l) = SC at *
      clear hvc he hcr HNX
      go_enter Tryd.func9, Tryd.ntmps9
      go_wp2_with fail
      refine (HV.out _).mono ?_
      rintro e w1 ⟨rfl, rfl⟩
      go_wp2_with fail
      refine (HT.out _).mono ?_
      rintro e w2 ⟨rfl, hb2⟩
      have hs2 := hb2.size
      go_wp2_with fail
      refine (HO.out _).mono ?_
      rintro e w3 ⟨rfl, hb3⟩
      have hb4 := hb2.trans (hb3.mono hs2)
      clear hb2 hb3
      go_wp2_with fail
      refine (HVC.out _).mono ?_
      rintro e w3 ⟨rfl, rfl⟩
      go_wp2
      go_ret2
      exact ⟨by rw [HNS.out, HNO.out]; try rfl, hb4⟩
    · have hvc : vld (cand l) = false := by simpa using hvc
      replace HNS := Lib.hid (HNS.out.trans (congrArg strOfNums (if_neg (by rw [hvc]; simp))))
      rw [hvc] at HVC HNO
      generalize strOfNums (cand l) = SC at *
      clear hvc he hcr HNX
      go_enter Tryd.func9, Tryd.ntmps9
      go_wp2_with fail
      refine (HV.out _).mono ?_
      rintro e w1 ⟨rfl, rfl⟩
      go_wp2_with fail
      refine (HT.out _).mono ?_
      rintro e w2 ⟨rfl, hb2⟩
      have hs2 := hb2.size
      go_wp2_with fail
      refine (HO.out _).mono ?_
      rintro e w3 ⟨rfl, hb3⟩
      have hb4 := hb2.trans (hb3.mono hs2)
      clear hb2 hb3
      go_wp2_with fail
      refine (HVC.out _).mono ?_
      rintro e w3 ⟨rfl, rfl⟩
      go_wp2
      go_ret2
      exact ⟨by rw [HNS.out, HNO.out]; try rfl, hb4⟩
end Go.Proofs.YtdlbghjclcdfmaaDoor
