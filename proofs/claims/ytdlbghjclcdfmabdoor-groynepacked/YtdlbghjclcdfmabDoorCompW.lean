/- label.Compare and what it calls. -/
import Derived.Test.YtdlbghjclcdfmabDoorKey
import Derived.Test.YtdlbghjclcdfmabDoorShelf4
import Derived.Test.YtdlbghjclcdfmabDoorMatchW
import Derived.Test.YtdlbghjclcdfmabDoorAwake
namespace Go.Proofs.YtdlbghjclcdfmabDoor
set_option linter.unusedVariables false
set_option linter.unusedSimpArgs false
open Go.RowKit

theorem dig_dgt (c : Int) : dig c = dgt c := rfl
theorem cmp_byte (a b : Int) (w : World) : Calls Tryd.prog 40 #[.int .u8 a, .int .u8 b] w fun e w' => e = .returned (.int .i64 (cmpI a b)) ∧ w = w' := by
  unfold cmpI
  by_cases h1 : a < b
  · go_enter Tryd.func40, Tryd.ntmps40
    go_wp2
    go_ret
    exact ⟨by simp [h1], rfl⟩
  · by_cases h2 : b < a
    · go_enter Tryd.func40, Tryd.ntmps40
      go_wp2
      go_ret
      exact ⟨by simp [h1, h2], rfl⟩
    · go_enter Tryd.func40, Tryd.ntmps40
      go_wp2
      go_ret
      exact ⟨by simp [h1, h2], rfl⟩
theorem cmp_int (a b : Int) (w : World) : Calls Tryd.prog 42 #[.int .i64 a, .int .i64 b] w fun e w' => e = .returned (.int .i64 (cmpI a b)) ∧ w = w' := by
  unfold cmpI
  by_cases h1 : a < b
  · go_enter Tryd.func42, Tryd.ntmps42
    go_wp2
    go_ret
    exact ⟨by simp [h1], rfl⟩
  · by_cases h2 : b < a
    · go_enter Tryd.func42, Tryd.ntmps42
      go_wp2
      go_ret
      exact ⟨by simp [h1, h2], rfl⟩
    · go_enter Tryd.func42, Tryd.ntmps42
      go_wp2
      go_ret
      exact ⟨by simp [h1, h2], rfl⟩
theorem u8_lt {a b : Int} (ha : 0 ≤ a ∧ a ≤ 255) (hb : 0 ≤ b ∧ b ≤ 255) : (UInt8.ofNat a.toNat < UInt8.ofNat b.toNat) ↔ a < b := by
  rw [UInt8.lt_iff_toNat_lt]
  simp only [UInt8.toNat_ofNat']
  omega
theorem compare_str : ∀ (xs ys : List Int), Ran xs → Ran ys → Lib.compareBytes (xs.map fun n => UInt8.ofNat n.toNat) (ys.map fun n => UInt8.ofNat n.toNat) = cmpL xs ys
  | [], [], _, _ => rfl
  | [], _ :: _, _, _ => rfl
  | _ :: _, [], _, _ => rfl
  | x :: xs, y :: ys, hx, hy => by
    have h1 := hx x (by simp)
    have h2 := hy y (by simp)
    simp only [List.map_cons, Lib.compareBytes, cmpL, u8_lt h1 h2, u8_lt h2 h1]
    rw [compare_str xs ys (hx.sub fun z hz => List.mem_cons_of_mem _ hz) (hy.sub fun z hz => List.mem_cons_of_mem _ hz)]
theorem scompare_any (xs ys : List Int) (hx : Ran xs) (hy : Ran ys) (w : World) : Calls Tryd.prog 28 #[.string (strOfNums xs), .string (strOfNums ys)] w fun e w' => e = .returned (.int .i64 (cmpL xs ys)) ∧ w = w' :=
  (Tryd.strings_Compare (strOfNums xs) (strOfNums ys) w).mono fun e w' ⟨h1, h2⟩ => ⟨by rw [h1, strOfNums_data, strOfNums_data, compare_str xs ys hx hy], h2.symm⟩
theorem trim_map : ∀ (xs : List Int), Ran xs → Lib.trimLeftB (xs.map fun n => UInt8.ofNat n.toNat) 48 = (trim0 xs).map fun n => UInt8.ofNat n.toNat
  | [], _ => rfl
  | x :: xs, hx => by
    have h1 := hx x (by simp)
    have ih := trim_map xs (hx.sub fun z hz => List.mem_cons_of_mem _ hz)
    unfold Lib.trimLeftB trim0 at *
    rw [List.map_cons, List.dropWhile_cons, List.dropWhile_cons]
    have e : (UInt8.ofNat x.toNat == 48) = (x == 48) := by
      by_cases h : x = 48
      · subst h; rfl
      · have : UInt8.ofNat x.toNat ≠ 48 := by
          intro hh
          have := congrArg UInt8.toNat hh
          simp only [UInt8.toNat_ofNat'] at this
          have e2 : (48 : UInt8).toNat = 48 := rfl
          omega
        rw [beq_eq_false_iff_ne.2 h, beq_eq_false_iff_ne.2 this]
    rw [e]
    split
    · exact ih
    · rfl
theorem trimL_any (xs : List Int) (hx : Ran xs) (w : World) : Calls Tryd.prog 41 #[.string (strOfNums xs), .string ⟨#[48]⟩] w fun e w' => e = .returned (.string (strOfNums (trim0 xs))) ∧ w = w' :=
  (Tryd.strings_TrimLeft_one (strOfNums xs) 48 (by decide) w).mono fun e w' ⟨h1, h2⟩ => ⟨by rw [h1, strOfNums_data, trim_map xs hx]; rfl, h2.symm⟩

theorem str_take (xs : List Int) (k : Nat) : strOfNums (xs.take k) = (strOfNums xs).extract 0 k := by
  apply ByteArray.ext
  simp [strOfNums, ByteArray.size]
theorem tw_all : ∀ {l : List Int} {k : Nat}, (l.take k).all dgt = true → (∀ x, l[k]? = some x → dgt x = false) → l.takeWhile dgt = l.take k
  | [], k, _, _ => by simp
  | c :: r, 0, _, h => by
    have := h c rfl
    simp [List.takeWhile_cons, this]
  | c :: r, k + 1, ha, h => by
    simp only [List.take_succ_cons, List.all_cons, Bool.and_eq_true] at ha
    rw [List.takeWhile_cons, if_pos ha.1, List.take_succ_cons, tw_all ha.2 (fun x hx => h x (by simpa using hx))]
theorem fp_bad {c x : Int} {r : List Int} {k : Nat} (ha : ((c :: r).take k).all dgt = true) (hx : (c :: r)[k]? = some x) (hd : dgt x = false) : fp (c :: r) = (c :: r).take (max k 1) := by
  rw [fp_eq]
  cases k with
  | zero =>
    have : c = x := by simpa using hx
    subst this
    simp [hd]
  | succ k =>
    simp only [List.take_succ_cons, List.all_cons, Bool.and_eq_true] at ha
    rw [if_pos ha.1, show max (k + 1) 1 = k + 1 by omega, List.take_succ_cons, tw_all ha.2 (fun y hy => by
      have : y = x := by simpa [hy] using hx
      rw [this]; exact hd)]
theorem fp_good {c : Int} {r : List Int} (ha : (c :: r).all dgt = true) : fp (c :: r) = c :: r := by
  simp only [List.all_cons, Bool.and_eq_true] at ha
  rw [fp_eq, if_pos ha.1, tw_all (k := r.length) (by rw [List.take_length]; exact ha.2) (fun x hx => by simp at hx), List.take_length]
theorem dall_snoc {l : List Int} {k : Nat} {x : Int} (hx : l[k]? = some x) (h : (l.take k).all dgt = true) (ho : dgt x = true) : (l.take (k + 1)).all dgt = true := by
  obtain ⟨hk, rfl⟩ := List.getElem?_eq_some_iff.1 hx
  rw [List.take_succ_eq_append_getElem hk, List.all_append, h]
  simp [ho]

set_option maxRecDepth 100000 in
set_option maxHeartbeats 1000000 in
theorem piece_any (c0 : Int) (r0 : List Int) (w : World) (hr : Ran (c0 :: r0)) (hn : r0.length + 1 ≤ 140737488355328) :
    Calls Tryd.prog 26 #[.string (strOfNums (c0 :: r0))] w fun e w' => e = .returned (.string (strOfNums (fp (c0 :: r0)))) ∧ w = w' := by
  have hsz : (strOfNums (c0 :: r0)).size = r0.length + 1 := by rw [strOfNums_size]; rfl
  have HIX := Lib.hid (fun (i : Nat) (x : Int) (hx : (c0 :: r0)[i]? = some x) (h0 : 0 ≤ x) (h1 : x ≤ 255) (W : World) => str_index (P := Tryd.prog) 9 Tryd.underlying9 (c0 :: r0) i x hx h0 h1 W)
  have HTO := Lib.hid (fun (k : Nat) (hk : k ≤ (c0 :: r0).length) (W : World) => str_to (P := Tryd.prog) 9 Tryd.underlying9 (c0 :: r0) k hk W)
  have HLL := Lib.hid (show (c0 :: r0).length = r0.length + 1 from rfl)
  have HFG := Lib.hid (fun h => fp_good (c := c0) (r := r0) h)
  have HFB := Lib.hid (fun (k : Nat) (x : Int) h1 h2 h3 => fp_bad (c := c0) (x := x) (r := r0) (k := k) h1 h2 h3)
  have hpos : 0 < r0.length + 1 := by omega
  have HRR := Lib.hid hr; clear hr
  obtain ⟨S, hS⟩ : ∃ S, S = strOfNums (c0 :: r0) := ⟨_, rfl⟩
  have HSS := Lib.hid hS
  rw [← hS] at hsz HIX HTO
  rw [← hS]
  clear hS
  generalize c0 :: r0 = l0 at *
  generalize r0.length + 1 = NN at *
  go_enter Tryd.func26, Tryd.ntmps26
  go_wp2
  go_loopw [6] (fun iv wr => ∃ (k : Nat), iv = .int .i64 k ∧ k ≤ NN ∧ Hid ((l0.take k).all dgt = true) ∧ wr = w) (fun i _ => NN - (intOf i).toNat)
  case atStart => exact ⟨0, rfl, by omega, rfl, rfl⟩
  case round =>
   obtain ⟨k, rfl, hk, HT, rfl⟩ := hrel
   by_cases hlt : k < NN
   · have hkl : k < l0.length := by rw [HLL.out]; exact hlt
     have hx := HRR.out l0[k] (List.getElem_mem hkl)
     have HX := Lib.hid (List.getElem?_eq_getElem hkl)
     have j0 := HIX.out k l0[k] HX.out hx.1 hx.2
     generalize l0[k] = x at *
     obtain ⟨hx0, hx1⟩ := hx
     by_cases g : dig x = true
     · have HT2 := Lib.hid (dall_snoc HX.out HT.out g)
       go_wp2_with fail
       refine (isdig_any _ _).mono ?_
       rintro e w1 ⟨rfl, rfl⟩
       go_wp2
       go_roundw
       case rel => exact ⟨k + 1, by go_num, by omega, HT2, trivial⟩
       case measure => simp [intOf]; omega
     · have g : dig x = false := by simpa using g
       have HF := Lib.hid (HFB.out k x HT.out HX.out g)
       have HE := Lib.hid (show S.extract 0 (max (k : Int) 1).toNat = strOfNums (fp l0) by
         rw [HF.out, HSS.out, ← str_take, show (max (k : Int) 1).toNat = max k 1 by omega])
       go_wp2_with fail
       refine (isdig_any _ _).mono ?_
       rintro e w1 ⟨rfl, rfl⟩
       go_wp2
       go_ret
       exact ⟨congrArg (fun s => Ending.returned (.string s)) HE.out, rfl⟩
   · have HE := Lib.hid (show fp l0 = l0 from HFG.out (by
       have ht := HT.out
       rwa [List.take_of_length_le (by rw [HLL.out]; omega)] at ht))
     go_wp2
     go_ret
     exact ⟨congrArg (fun s => Ending.returned (.string s)) (show S = strOfNums (fp l0) by rw [HE.out]; exact HSS.out), rfl⟩
end Go.Proofs.YtdlbghjclcdfmabDoor
