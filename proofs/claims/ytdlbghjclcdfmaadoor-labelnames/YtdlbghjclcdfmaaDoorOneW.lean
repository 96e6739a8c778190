/- label.oneMore, and rows that a conversion lays. -/
import Derived.Test.YtdlbghjclcdfmaaDoorNxt
import Derived.Test.YtdlbghjclcdfmaaDoorRCompW
namespace Go.Proofs.YtdlbghjclcdfmaaDoor
set_option linter.unusedVariables false
set_option linter.unusedSimpArgs false
open Go.RowKit

/-- A row of bytes that may be written. -/
def Rw (W : World) (g n : Nat) (ys : List Int) : Prop :=
  ys.length = n ∧ (∀ j x, ys[j]? = some x → W.cell? ⟨g, j, none⟩ = some (.int .u8 x)) ∧ ∀ j, j < n → W.frozen? ⟨g, j, none⟩ = false
theorem Rw.set {W : World} {g n k : Nat} {ys : List Int} (h : Rw W g n ys) (hk : k < n) (v : Int) : Rw (W.setCell ⟨g, k, none⟩ (.int .u8 v)) g n (ys.set k v) := by
  obtain ⟨hl, hc, hf⟩ := h
  refine ⟨by rw [List.length_set]; exact hl, fun j x hx => ?_, fun j hj => by rw [World.frozen?_setCell]; exact hf j hj⟩
  by_cases e : j = k
  · subst e
    rw [List.getElem?_set_self (by omega)] at hx
    injection hx with hx
    subst hx
    exact World.cell?_setCell_same _ _ _ (hc j ys[j] (List.getElem?_eq_getElem (by omega)))
  · rw [List.getElem?_set_ne (fun h => e h.symm)] at hx
    rw [World.cell?_setCell_other _ _ _ _ (fun h => e (by injection h with _ h; exact h.symm))]
    exact hc j x hx
theorem Rw.of_bw (w : World) (xs : List Int) (h : Ran xs) : Rw (Lib.bytesWorld w 5 (strOfNums xs)) w.heap.size xs.length xs := by
  refine ⟨rfl, fun j x hx => ?_, fun j hj => ?_⟩
  · obtain ⟨hj, rfl⟩ := List.getElem?_eq_some_iff.1 hx
    have hb := bw_bs w xs h
    obtain ⟨b, off, hA, _, hc⟩ := hb.1.2 (by omega)
    injection hA with hA; injection hA with h1 h2; subst h1; subst h2
    have := hc j (.int .u8 xs[j]) (by simp [By])
    rwa [Nat.zero_add] at this
  · have hpos : j < (Lib.bytesCells w 5 (strOfNums xs)).size := by
      have : (strOfNums xs).data.size = xs.length := strOfNums_size xs
      unfold Lib.bytesCells
      rw [Array.size_append, Array.size_map, this]
      omega
    simp only [World.frozen?, Lib.bytesWorld_at_new]
    have hnp : ¬ (Lib.bytesCells w 5 (strOfNums xs)).size ≤ j := by omega
    simp only [hnp, decide_false, Bool.false_and]
theorem Rw.conv {W : World} {g n c : Nat} {ys : List Int} (h : Rw W g n ys) : (convert 36 9 (.slice (some ⟨g, 0, none⟩) n c)).run Tryd.prog W = .ok (.string (strOfNums ys)) W := by
  refine run_convert_bytes_arg W 36 5 Tryd.underlying36 Tryd.underlying5 g 0 n c ys h.1 (fun i hi => ?_) 9 Tryd.underlying9
  have hl := h.1
  have := h.2.1 i ys[i] (List.getElem?_eq_getElem (by omega))
  rw [Nat.zero_add, this, List.getD, List.getElem?_eq_getElem (by omega)]
  rfl
theorem rep_snoc (i : Nat) (x : Int) : List.replicate i x ++ [x] = x :: List.replicate i x := by
  rw [← List.replicate_succ', List.replicate_succ]
/-- The round's row, and what it becomes. -/
theorem row_split {l : List Int} {n i m : Nat} {x : Int} (hl : l.length = n) (him : m + 1 + i = n) (hx : l[m]? = some x) (hd : l.drop (m + 1) = List.replicate i 57) : l = l.take m ++ x :: List.replicate i 57 := by
  obtain ⟨hm, rfl⟩ := List.getElem?_eq_some_iff.1 hx
  rw [← hd, ← List.drop_eq_getElem_cons hm, List.take_append_drop]
theorem row_set {l : List Int} {n i m : Nat} {x v : Int} (hl : l.length = n) (him : m + 1 + i = n) (hx : l[m]? = some x) : (l.take (m + 1) ++ List.replicate i 48).set m v = l.take m ++ v :: List.replicate i 48 := by
  have hm : m < l.length := (List.getElem?_eq_some_iff.1 hx).1
  rw [take_get' hx, List.append_assoc, List.set_append_right _ _ (by rw [List.length_take]; omega)]
  rw [List.length_take, show m - min m l.length = 0 by omega]
  rfl
where
  take_get' {l : List Int} {k : Nat} {x : Int} (h : l[k]? = some x) : l.take (k + 1) = l.take k ++ [x] := by rw [List.take_add_one, h]; rfl

set_option maxRecDepth 100000 in
set_option maxHeartbeats 2000000 in
theorem oneMore_any (l : List Int) (w : World) (hr : Ran l) (ha : l.all dgt = true) (hn : l.length ≤ 1000) :
    Calls Tryd.prog 28 #[.string (strOfNums l)] w fun e w' => e = .returned (.string (strOfNums (one l))) ∧ Below w.heap.size w w' := by
  have hcv := Lib.run_convert_string_bytes (P := Tryd.prog) w 9 36 5 (strOfNums l) Tryd.underlying9 Tryd.underlying36 Tryd.underlying5
  have hb0 := Lib.bytesWorld_below w 5 (strOfNums l)
  have hrw0 := Rw.of_bw w l hr
  rw [strOfNums_size] at hcv
  generalize Lib.bytesWorld w 5 (strOfNums l) = w1 at *
  have HA := Lib.hid (List.all_eq_true.1 ha); clear ha
  have HRR := Lib.hid hr; clear hr
  have hsz : (strOfNums l).size = l.length := strOfNums_size l
  generalize strOfNums l = S at *
  obtain ⟨n, hln⟩ : ∃ n, l.length = n := ⟨_, rfl⟩
  rw [hln] at hcv hn hrw0 hsz
  have HL := Lib.hid hln; clear hln
  generalize grownCap w n 0 5 = cp at *
  have HON := Lib.hid (show strOfNums [49] = ⟨#[49]⟩ from rfl)
  go_enter Tryd.func28, Tryd.ntmps28
  go_wp2
  go_loopw [10] (fun iv wr => ∃ (i m : Nat), iv = .int .i64 i ∧ Hid (m + i = n) ∧ i ≤ n ∧ Hid (l.drop m = List.replicate i 57) ∧ Rw wr w.heap.size n (l.take m ++ List.replicate i 48) ∧ Below w.heap.size w wr) (fun iv _ => n - (intOf iv).toNat)
  case atStart => exact ⟨0, n, rfl, by show _ = _; omega, by omega, by show _ = _; rw [List.drop_of_length_le (by rw [HL.out]; exact Nat.le_refl _)]; rfl, by rw [List.take_of_length_le (by rw [HL.out]; exact Nat.le_refl _)]; simpa using hrw0, hb0⟩
  case round =>
    obtain ⟨i, m', rfl, HM, hi, HD, hrw, hbr⟩ := hrel
    clear hrw0 hb0
    by_cases hlt : i < n
    · obtain ⟨m, hm⟩ : ∃ m, m' = m + 1 := ⟨m' - 1, by have := HM.out; omega⟩
      subst hm
      have HMM := Lib.hid (show m + 1 + i = n from HM.out)
      have hmn : m < n := by have := HM.out; omega
      have HIX := Lib.hid (show n - 1 - i = m by have := HM.out; omega)
      obtain ⟨x, hx⟩ : ∃ x, l[m]? = some x := ⟨_, List.getElem?_eq_getElem (by rw [HL.out]; exact hmn)⟩
      have hxd := (dgt_iff x).1 (HA.out x (List.mem_of_getElem? hx))
      obtain ⟨hx0, hx1⟩ := hxd
      have HX := Lib.hid hx; clear hx
      have hcx : wr.cell? ⟨w.heap.size, n - 1 - i, none⟩ = some (.int .u8 x) := by
        rw [HIX.out]
        refine hrw.2.1 m x ?_
        rw [List.getElem?_append_left (by rw [List.length_take, HL.out]; omega), List.getElem?_take, if_pos (by omega)]
        exact HX.out
      have hfz : wr.frozen? ⟨w.heap.size, n - 1 - i, none⟩ = false := by
        rw [HIX.out]; exact hrw.2.2 m hmn
      have HSET : Hid (∀ v : Int, Rw (wr.setCell ⟨w.heap.size, n - 1 - i, none⟩ (.int .u8 v)) w.heap.size n (l.take m ++ v :: List.replicate i 48)) := fun v => by
        have := hrw.set hmn v
        rw [row_set HL.out HMM.out HX.out] at this
        rw [HIX.out]; exact this
      have HBE : Hid (∀ v : Int, Below w.heap.size w (wr.setCell ⟨w.heap.size, n - 1 - i, none⟩ (.int .u8 v))) := fun v => hbr.setCell (by simp) _
      have HSP := Lib.hid (row_split HL.out HMM.out HX.out HD.out)
      clear hrw hbr
      by_cases g : x = 57
      · subst g
        have HR2 : Hid (Rw (wr.setCell ⟨w.heap.size, n - 1 - i, none⟩ (.int .u8 48)) w.heap.size n (l.take m ++ List.replicate (i + 1) 48)) := HSET.out 48
        have HD2 : Hid (l.drop m = List.replicate (i + 1) 57) := by
          show _ = _
          have hml : m < l.length := by rw [HL.out]; exact hmn
          have hx := HX.out
          rw [List.getElem?_eq_getElem hml] at hx
          injection hx with hx
          rw [List.drop_eq_getElem_cons hml, HD.out, hx, List.replicate_succ]
        go_wp2
        go_roundw
        case rel => exact ⟨i + 1, m, by go_num, by show _ = _; have := HMM.out; omega, by omega, HD2, HR2.out, HBE.out 48⟩
        case measure => simp [intOf]; omega
      · have g1 : (x != 57) = true := by simpa using g
        have hcv2 := (HSET.out (x + 1)).conv (c := cp)
        have HE := Lib.hid (show strOfNums (one l) = strOfNums (l.take m ++ (x + 1) :: List.replicate i 48) by
          conv => lhs; rw [HSP.out, one_stop g])
        have HB1 := Lib.hid (HBE.out (x + 1))
        have hx2 : x ≤ 56 := by omega
        clear g HSP
        generalize strOfNums (l.take m ++ (x + 1) :: List.replicate i 48) = T at *
        go_wp2
        go_ret
        exact ⟨congrArg (fun s => Ending.returned (.string s)) HE.out.symm, HB1.out⟩
    · obtain rfl : i = n := by omega
      obtain rfl : m' = 0 := by have := HM.out; omega
      have HE : Hid (strOfNums (one l) = ⟨#[49]⟩ ++ strOfNums (List.replicate i 48)) := by
        show _ = _
        have h := HD.out
        rw [List.drop_zero] at h
        rw [h, one_nines, ← HON.out]
        apply ByteArray.ext
        simp [strOfNums]
      have hcv2 : (convert 36 9 (.slice (some ⟨w.heap.size, 0, none⟩) i cp)).run Tryd.prog wr = .ok (.string (strOfNums (List.replicate i 48))) wr := by
        have := hrw.conv (c := cp)
        rwa [List.take_zero, List.nil_append] at this
      have hsz2 : (strOfNums (List.replicate i 48)).size = i := by rw [strOfNums_size]; simp
      generalize strOfNums (List.replicate i 48) = T at *
      clear hlt
      go_wp2
      go_ret
      exact ⟨congrArg (fun s => Ending.returned (.string s)) HE.out.symm, hbr⟩
end Go.Proofs.YtdlbghjclcdfmaaDoor
