/- What the reference's Compare calls. -/
import Derived.Test.YtdlbghjclcdfmaaDoorComp2W
import Derived.Test.YtdlbghjclcdfmaaDoorRUnq
import Derived.Lib.AtoiErrMem
namespace Go.Proofs.YtdlbghjclcdfmaaDoor
set_option linter.unusedVariables false
set_option linter.unusedSimpArgs false
open Go.RowKit

theorem dg_dgt (c : Int) : dg c = dgt c := rfl
theorem str_sub {P : Program} (t : TypeId) (ht : P.underlying t = some .string) (xs : List Int) (i j : Nat) (a b : Int) (hia : a = (i : Int)) (hjb : b = (j : Int)) (hij : i ≤ j) (hj : j ≤ xs.length) (W : World) :
    (Instr.slice t (.string (strOfNums xs)) (some (.int .i64 a)) (some (.int .i64 b)) none).run P W = .ok (.string (strOfNums ((xs.drop i).take (j - i)))) W := by
  subst hia; subst hjb
  rw [run_slice_string_if W t _ .i64 .i64 (i : Int) (j : Int) ht, if_pos (by rw [strOfNums_size]; omega), if_pos (by omega)]
  have : (strOfNums xs).extract (i : Int).toNat (j : Int).toNat = strOfNums ((xs.drop i).take (j - i)) := by
    apply ByteArray.ext
    simp [strOfNums, ByteArray.size, List.map_take, List.map_drop]
  rw [this]
theorem bw_bs (w : World) (xs : List Int) (h : Ran xs) : Bs (Lib.bytesWorld w 5 (strOfNums xs)) (some ⟨w.heap.size, 0, none⟩) xs.length xs := by
  refine ⟨⟨By_length _, fun _ => ⟨w.heap.size, 0, rfl, by rw [Lib.bytesWorld_size]; omega, fun j u hu => ?_⟩⟩, h⟩
  have hj : j < xs.length := by
    have := (List.getElem?_eq_some_iff.1 hu).1
    rwa [By_length] at this
  rw [Nat.zero_add, Lib.bytesWorld_cell w 5 _ j (by rw [strOfNums_size]; exact hj)]
  have hx := h xs[j] (List.getElem_mem hj)
  simp only [By, List.getElem?_map, List.getElem?_eq_getElem hj, Option.map_some, Option.some.injEq] at hu
  subst hu
  rw [strOfNums_data]
  simp only [List.getD, List.getElem?_map, List.getElem?_eq_getElem hj, Option.map_some, Option.getD_some]
  have : ((UInt8.ofNat (xs[j]).toNat).toNat : Int) = xs[j] := by
    rw [UInt8.toNat_ofNat']
    omega
  rw [this]

set_option maxRecDepth 100000 in
set_option maxHeartbeats 1000000 in
theorem bytes_any (xs ys : List Int) (w : World) (hx : Ran xs) (hy : Ran ys) (hn : xs.length ≤ 140737488355328) (hm : ys.length ≤ 140737488355328) :
    Calls Tryd.prog 36 #[.string (strOfNums xs), .string (strOfNums ys)] w fun e w' => e = .returned (.int .i64 (cmpL xs ys)) ∧ Below w.heap.size w w' := by
  have hcv := Lib.run_convert_string_bytes (P := Tryd.prog) w 9 36 5 (strOfNums xs) Tryd.underlying9 Tryd.underlying36 Tryd.underlying5
  have hb1 := Lib.bytesWorld_below w 5 (strOfNums xs)
  have hx1 := bw_bs w xs hx
  rw [strOfNums_size] at hcv
  generalize Lib.bytesWorld w 5 (strOfNums xs) = w1 at *
  have hcv2 := Lib.run_convert_string_bytes (P := Tryd.prog) w1 9 36 5 (strOfNums ys) Tryd.underlying9 Tryd.underlying36 Tryd.underlying5
  have hb2 := Lib.bytesWorld_below w1 5 (strOfNums ys)
  have hy2 := bw_bs w1 ys hy
  rw [strOfNums_size] at hcv2
  generalize Lib.bytesWorld w1 5 (strOfNums ys) = w2 at *
  have hx2 := hx1.keep hb2
  have hbb := hb1.trans (hb2.mono hb1.size)
  generalize grownCap w xs.length 0 5 = c1 at *
  generalize grownCap w1 ys.length 0 5 = c2 at *
  generalize strOfNums xs = X at *
  generalize strOfNums ys = Y at *
  have HC := Lib.hid (cmp_any (some ⟨w.heap.size, 0, none⟩) (some ⟨w1.heap.size, 0, none⟩) xs.length ys.length c1 c2 xs ys w2 hx2 hy2 (by unfold maxLen; omega) (by unfold maxLen; omega))
  generalize cmpL xs ys = res at *
  clear hx1 hx2 hy2 hb1 hb2
  generalize xs.length = xn at *
  generalize ys.length = yn at *
  go_enter Tryd.func36, Tryd.ntmps36
  go_wp2_with fail
  refine HC.out.mono ?_
  rintro e w3 ⟨rfl, hd⟩
  go_wp2
  go_ret
  exact ⟨rfl, hbb.trans (hd.below _)⟩

theorem dw_stop : ∀ {l : List Int} {k : Nat}, (l.take k).all (· == 48) = true → (∀ x, l[k]? = some x → (x == 48) = false) → trim0 l = l.drop k
  | [], k, _, _ => by simp [trim0]
  | c :: r, 0, _, h => by
    have := h c rfl
    simp only [trim0, List.dropWhile_cons, this, List.drop_zero]
    rfl
  | c :: r, k + 1, ha, h => by
    simp only [List.take_succ_cons, List.all_cons, Bool.and_eq_true] at ha
    unfold trim0
    rw [List.dropWhile_cons, if_pos ha.1, List.drop_succ_cons]
    exact dw_stop ha.2 (fun x hx => h x (by simpa using hx))
theorem zall_snoc {l : List Int} {k : Nat} (hx : l[k]? = some 48) (h : (l.take k).all (· == 48) = true) : (l.take (k + 1)).all (· == 48) = true := by
  obtain ⟨hk, e⟩ := List.getElem?_eq_some_iff.1 hx
  rw [List.take_succ_eq_append_getElem hk, List.all_append, h, e]
  rfl

set_option maxRecDepth 100000 in
set_option maxHeartbeats 1000000 in
theorem number_any (l0 : List Int) (w : World) (hr : Ran l0) (hn : l0.length ≤ 140737488355328) :
    Calls Tryd.prog 37 #[.string (strOfNums l0)] w fun e w' => e = .returned (.string (strOfNums (trim0 l0))) ∧ w = w' := by
  have hsz : (strOfNums l0).size = l0.length := strOfNums_size l0
  have HIX := Lib.hid (fun (i : Nat) (x : Int) (hx : l0[i]? = some x) (h0 : 0 ≤ x) (h1 : x ≤ 255) (W : World) => str_index (P := Tryd.prog) 9 Tryd.underlying9 l0 i x hx h0 h1 W)
  have HFR := Lib.hid (fun (k : Nat) (hk : k ≤ l0.length) (W : World) => str_from (P := Tryd.prog) 9 Tryd.underlying9 l0 k hk W)
  have HRR := Lib.hid hr; clear hr
  generalize strOfNums l0 = S at *
  obtain ⟨NN, hNN⟩ : ∃ m, l0.length = m := ⟨_, rfl⟩
  rw [hNN] at hsz hn
  have HLL := Lib.hid hNN; clear hNN
  go_enter Tryd.func37, Tryd.ntmps37
  go_wp2
  go_loopw [3] (fun iv wr => ∃ (k : Nat), iv = .int .i64 k ∧ k ≤ NN ∧ Hid ((l0.take k).all (· == 48) = true) ∧ wr = w) (fun i _ => NN - (intOf i).toNat)
  case atStart => exact ⟨0, rfl, by omega, rfl, rfl⟩
  case round =>
   obtain ⟨k, rfl, hk, HT, rfl⟩ := hrel
   have hfr := HFR.out k (by rw [HLL.out]; exact hk)
   by_cases hlt : k < NN
   · have hkl : k < l0.length := by rw [HLL.out]; exact hlt
     have hx := HRR.out l0[k] (List.getElem_mem hkl)
     have HX := Lib.hid (List.getElem?_eq_getElem hkl)
     have j0 := HIX.out k l0[k] HX.out hx.1 hx.2
     generalize l0[k] = x at *
     obtain ⟨hx0, hx1⟩ := hx
     by_cases g : x = 48
     · subst g
       have HT2 := Lib.hid (zall_snoc HX.out HT.out)
       clear hfr
       go_wp2
       go_roundw
       case rel => exact ⟨k + 1, by go_num, by omega, HT2, trivial⟩
       case measure => simp [intOf]; omega
     · have g1 : (x == 48) = false := by simpa using g
       have HE := Lib.hid (show trim0 l0 = l0.drop k from dw_stop HT.out (fun y hy => by
         have : y = x := by rw [HX.out] at hy; injection hy with hy; exact hy.symm
         rw [this]; exact g1))
       clear g
       go_wp2
       go_ret
       exact ⟨congrArg (fun s => Ending.returned (.string (strOfNums s))) HE.out.symm, rfl⟩
   · have HE := Lib.hid (show trim0 l0 = l0.drop k from dw_stop HT.out (fun y hy => by
       have := (List.getElem?_eq_some_iff.1 hy).1
       rw [HLL.out] at this
       omega))
     go_wp2
     go_ret
     exact ⟨congrArg (fun s => Ending.returned (.string (strOfNums s))) HE.out.symm, rfl⟩

set_option maxRecDepth 100000 in
set_option maxHeartbeats 1000000 in
theorem run_any (l0 : List Int) (i : Nat) (w : World) (hr : Ran l0) (hn : l0.length ≤ 140737488355328) (hi : i < l0.length) :
    Calls Tryd.prog 35 #[.string (strOfNums l0), .int .i64 i] w fun e w' => e = .returned (.int .i64 ((i + (fp (l0.drop i)).length : Nat) : Int)) ∧ w = w' := by
  have hsz : (strOfNums l0).size = l0.length := strOfNums_size l0
  have HIX := Lib.hid (fun (i : Nat) (x : Int) (hx : l0[i]? = some x) (h0 : 0 ≤ x) (h1 : x ≤ 255) (W : World) => str_index (P := Tryd.prog) 9 Tryd.underlying9 l0 i x hx h0 h1 W)
  have HRR := Lib.hid hr; clear hr
  have HDR := Lib.hid (show l0.drop i = l0[i] :: l0.drop (i + 1) from List.drop_eq_getElem_cons hi)
  generalize l0[i] = c0 at *
  generalize strOfNums l0 = S at *
  obtain ⟨NN, hNN⟩ : ∃ m, l0.length = m := ⟨_, rfl⟩
  rw [hNN] at hsz hn hi
  have HLL := Lib.hid hNN; clear hNN
  obtain ⟨res, hres⟩ : ∃ m, (fp (l0.drop i)).length = m := ⟨_, rfl⟩
  rw [hres]
  have HRES := Lib.hid hres; clear hres
  have HGB : Hid (∀ j x, ((l0.drop i).take j).all dgt = true → l0[i + j]? = some x → dgt x = false → res = max j 1) := fun j x h1 h2 h3 => by
    have h2' : (l0.drop i)[j]? = some x := by rw [List.getElem?_drop]; exact h2
    have hjl := (List.getElem?_eq_some_iff.1 h2').1
    rw [HDR.out] at h1 h2' hjl
    rw [← HRES.out, HDR.out, fp_bad h1 h2' h3, List.length_take]
    simp at hjl ⊢; omega
  have HGG : Hid (∀ j, i + j = NN → ((l0.drop i).take j).all dgt = true → res = j) := fun j h0 h1 => by
    have hl : (l0.drop i).length = j := by rw [List.length_drop, HLL.out]; omega
    rw [List.take_of_length_le (by omega)] at h1
    rw [HDR.out] at h1 hl
    rw [← HRES.out, HDR.out, fp_good h1, hl]
  go_enter Tryd.func35, Tryd.ntmps35
  go_wp2
  go_loopw [5] (fun ev wr => ∃ (j e : Nat), ev = .int .i64 e ∧ Hid (e = i + j) ∧ i ≤ e ∧ e ≤ NN ∧ Hid (((l0.drop i).take j).all dgt = true) ∧ wr = w) (fun e _ => NN - (intOf e).toNat)
  case atStart => exact ⟨0, i, rfl, rfl, Nat.le_refl _, by omega, rfl, rfl⟩
  case round =>
   obtain ⟨j, e, rfl, HE, hie, hk, HT, rfl⟩ := hrel
   by_cases hlt : e < NN
   · have hkl : e < l0.length := by rw [HLL.out]; exact hlt
     have hx := HRR.out l0[e] (List.getElem_mem hkl)
     have HX := Lib.hid (List.getElem?_eq_getElem hkl)
     have j0 := HIX.out e l0[e] HX.out hx.1 hx.2
     generalize l0[e] = x at *
     obtain ⟨hx0, hx1⟩ := hx
     by_cases g : dg x = true
     · have HT2 := Lib.hid (dall_snoc (l := l0.drop i) (k := j) (x := x) (by rw [List.getElem?_drop, ← HE.out]; exact HX.out) HT.out g)
       go_wp2_with fail
       refine (digit_any _ _).mono ?_
       rintro e' w1 ⟨rfl, rfl⟩
       go_wp2
       go_roundw
       case rel => exact ⟨j + 1, e + 1, by go_num, by show _ = _; have := HE.out; omega, by omega, by omega, HT2, trivial⟩
       case measure => simp [intOf]; omega
     · have g : dg x = false := by simpa using g
       have HR := Lib.hid (HGB.out j x HT.out (by rw [← HE.out]; exact HX.out) g)
       by_cases hei : e = i
       · have hq : ((e : Int) == (i : Int)) = true := by simp [hei]
         have HR2 := Lib.hid (show ((e : Int) + 1) = ((i + res : Nat) : Int) by
           have h1 := HR.out
           have h2 := HE.out
           rw [h1]; omega)
         clear hei
         go_wp2_with fail
         refine (digit_any _ _).mono ?_
         rintro e' w1 ⟨rfl, rfl⟩
         go_wp2
         go_ret
         exact ⟨ret_int HR2.out, rfl⟩
       · have hq : ((e : Int) == (i : Int)) = false := by simp; omega
         have HR2 := Lib.hid (show (e : Int) = ((i + res : Nat) : Int) by
           have h1 := HR.out
           have h2 := HE.out
           rw [h1]; omega)
         clear hei
         go_wp2_with fail
         refine (digit_any _ _).mono ?_
         rintro e' w1 ⟨rfl, rfl⟩
         go_wp2
         go_ret
         exact ⟨ret_int HR2.out, rfl⟩
   · have HR2 := Lib.hid (show (e : Int) = ((i + res : Nat) : Int) by
       have h2 := HE.out
       have h1 := HGG.out j (by omega) HT.out
       rw [h1]; omega)
     have hq : ((e : Int) == (i : Int)) = false := by simp; omega
     go_wp2
     go_ret
     exact ⟨ret_int HR2.out, rfl⟩
end Go.Proofs.YtdlbghjclcdfmaaDoor
