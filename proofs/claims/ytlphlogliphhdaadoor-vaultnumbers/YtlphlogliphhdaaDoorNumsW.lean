/- VaultNumbers, walked. -/
import Derived.Test.YtlphlogliphhdaaDoorAwakeW
namespace Go.Proofs.YtlphlogliphhdaaDoor
set_option linter.unusedVariables false
set_option linter.unusedSimpArgs false
open Go.RowKit Go.Maps

theorem u8lt {a b : Int} (ha : 0 ≤ a ∧ a ≤ 255) (hb : 0 ≤ b ∧ b ≤ 255) : UInt8.ofNat a.toNat < UInt8.ofNat b.toNat ↔ a < b := by
  rw [UInt8.lt_iff_toNat_lt, UInt8.toNat_ofNat', UInt8.toNat_ofNat']
  omega
theorem less_cmp : ∀ {xs ys : List Int}, Ran xs → Ran ys → Op.bytesLess (xs.map fun n => UInt8.ofNat n.toNat) (ys.map fun n => UInt8.ofNat n.toNat) = decide (cmpL xs ys < 0)
  | [], [], _, _ => by simp [Op.bytesLess, cmpL]
  | _ :: _, [], _, _ => by simp [Op.bytesLess, cmpL]
  | [], _ :: _, _, _ => by simp [Op.bytesLess, cmpL]
  | a :: l, b :: m, hx, hy => by
    have ih := less_cmp (xs := l) (ys := m) (fun z hz => hx z (by simp [hz])) (fun z hz => hy z (by simp [hz]))
    have ha := hx a (by simp)
    have hb := hy b (by simp)
    rw [bytesLess_eq] at ih
    rw [List.map_cons, List.map_cons, bytesLess_eq]
    simp only [List.cons_lt_cons_iff, u8lt ha hb, cmpL]
    by_cases h1 : a < b
    · simp [h1]
    · by_cases h2 : b < a
      · have h3 : ¬ UInt8.ofNat a.toNat = UInt8.ofNat b.toNat := fun e => by have := u8of_inj ha hb e; omega
        simp [h1, h2, h3]
      · have h4 : a = b := by omega
        subst h4
        simp [ih]
theorem sn_less {xs ys : List Int} (hx : Ran xs) (hy : Ran ys) : Op.bytesLess (strOfNums xs).toList (strOfNums ys).toList = decide (cmpL xs ys < 0) := by
  rw [ByteArray.toList_eq, ByteArray.toList_eq, strOfNums_data, strOfNums_data]
  exact less_cmp hx hy
theorem hx_less {a b : Nat} (ha : a < 18446744073709551616) (hb : b < 18446744073709551616) : Op.bytesLess (strOfNums (hx 16 a)).toList (strOfNums (hx 16 b)).toList = decide ((a : Int) < (b : Int)) := by
  rw [sn_less (hx_ran _ _) (hx_ran _ _), hx_cmp 16 a b (by simpa using ha) (by simpa using hb)]
  unfold cmpI
  by_cases h : (a : Int) < b
  · simp [h]
  · simp only [h, if_false]
    split <;> simp

set_option maxRecDepth 100000 in
set_option maxHeartbeats 2000000 in
theorem nums_walk (a b : Nat) (xs : List Int) (w : World) (ha : a < 18446744073709551616) (hb : b < 18446744073709551616) (hr : Ran xs) (hn : xs.length ≤ 140737488355328) (ht : Tz w) (her : Er w) :
    Calls Tryd.prog 5 #[.int .u64 (a : Int), .int .u64 (b : Int), .string (strOfNums xs)] w fun e w' => e = .returned (.bool true) ∧ Below w.heap.size w w' := by
  have HXS := Lib.hid (fun (w : World) (h1 : Er w) (h2 : Tz w) => toNumber_any xs w hr hn h1 h2)
  have HNA := Lib.hid (fun (w : World) (h2 : Tz w) => number_any a w ha h2)
  have HNB := Lib.hid (fun (w : World) (h2 : Tz w) => number_any b w hb h2)
  have HRA := Lib.hid (fun (w : World) => rnumber_any a w ha)
  have HTA := Lib.hid (fun (w : World) (h1 : Er w) (h2 : Tz w) => toNumber_any (hx 16 a) w (hx_ran _ _) (by rw [hx_len]; omega) h1 h2)
  have hls := hx_less ha hb
  have hsq : ((strOfNums (hx 16 a)).toList == (strOfNums (hx 16 a)).toList) = true := by simp
  have HA := Box.mk ha
  have HSZ : (strOfNums xs).size = xs.length := strOfNums_size xs
  obtain ⟨n, hln⟩ : ∃ n, xs.length = n := ⟨_, rfl⟩
  rw [hln] at HSZ
  have HL := Lib.hid hln
  have HRR := Lib.hid hr
  have HRN := Lib.hid (fun (m : Nat) (hm : m < 18446744073709551616) (w : World) => rnumber_any m w hm)
  have HNN := Lib.hid (fun (m : Nat) (hm : m < 18446744073709551616) (w : World) (h2 : Tz w) => number_any m w hm h2)
  have HSE : Hid (∀ m, ((strOfNums (hx 16 m)).toList == (strOfNums xs).toList) = decide (hx 16 m = xs)) := fun m => sn_eq (hx_ran _ _) hr
  clear ha hb hr hn hln
  generalize strOfNums xs = SX at *
  generalize hSA : strOfNums (hx 16 a) = SA at *
  generalize hSB : strOfNums (hx 16 b) = SB at *
  clear hSA hSB
  go_enter Tryd.func5, Tryd.ntmps5
  go_wp2_with fail
  refine (awake_any w ht).mono ?_
  rintro e w1 ⟨rfl, hb1⟩
  have ht1 := ht.below hb1
  have her1 := her.below hb1
  have hs1 := hb1.size
  go_wp2_with fail
  refine (HNA.out w1 ht1).mono ?_
  rintro e w2 ⟨rfl, hb2⟩
  have ht2 := ht1.below hb2
  have her2 := her1.below hb2
  have hs2 := hb2.size
  go_wp2_with fail
  refine (HNB.out w2 ht2).mono ?_
  rintro e w3 ⟨rfl, hb3⟩
  have ht3 := ht2.below hb3
  have her3 := her2.below hb3
  have hs3 := hb3.size
  go_wp2_with fail
  refine (HTA.out w3 her3 ht3).mono ?_
  rintro e w4 ⟨⟨v, ok, rfl, hv, _, _, hall⟩, hb4⟩
  obtain ⟨rfl, rfl⟩ := hall a HA.out rfl
  have ht4 := ht3.below hb4
  have her4 := her3.below hb4
  have hs4 := hb4.size
  clear hall hv
  go_wp2_with fail
  refine (HRA.out w4).mono ?_
  rintro e w5 ⟨rfl, hb5⟩
  have ht5 := ht4.below hb5
  have her5 := her4.below hb5
  have hs5 := hb5.size
  have hbw := hb1.trans ((hb2.trans ((hb3.trans ((hb4.trans (hb5.mono hs4)).mono hs3)).mono hs2)).mono hs1)
  clear hb1 hb2 hb3 hb4 hb5 ht1 ht2 ht3 ht4 her1 her2 her3 her4
  have hbb : ∀ q : Bool, (q != q) = false := fun q => by cases q <;> rfl
  go_wp2_with fail
  refine (HXS.out w5 her5 ht5).mono ?_
  rintro e w6 ⟨⟨v, ok, rfl, hv, hok, hno, hall⟩, hb6⟩
  have ht6 := ht5.below hb6
  have hs6 := hb6.size
  have hbw6 := hbw.trans (hb6.mono (Nat.le_trans hs1 (Nat.le_trans hs2 (Nat.le_trans hs3 (Nat.le_trans hs4 hs5)))))
  have hsz6 := hbw6.size
  clear her5 ht5 hbw hb6
  cases ok with
  | true =>
    have hxe := hok rfl
    have hse := HSE.out v
    rw [show decide (hx 16 v = xs) = true by simp [← hxe]] at hse
    have hnn := HNN.out v hv w6 ht6
    generalize strOfNums (hx 16 v) = T at *
    clear hok hno hall hv HSE HNN HRN HNA HNB HRA HTA HXS
    go_wp2_with fail
    refine hnn.mono ?_
    rintro e w7 ⟨rfl, hb7⟩
    go_wp2
    go_ret
    exact ⟨rfl, hbw6.trans (hb7.mono hsz6)⟩
  | false =>
    obtain rfl := hno rfl
    have hne : ¬ hx 16 0 = xs := fun e => by have := (hall 0 (by decide) e.symm).2; cases this
    have hse := HSE.out 0
    rw [show decide (hx 16 0 = xs) = false by simp [hne]] at hse
    have hnn := HRN.out 0 (by decide) w6
    generalize strOfNums (hx 16 0) = T at *
    clear hok hno hall hv HSE HNN HRN HNA HNB HRA HTA HXS hne
    by_cases h16 : n = 16
    · have hq : ((n : Int) != 16) = false := by simp [h16]
      have hq2 : (n : Int) = 16 := by omega
      clear h16
      go_wp2_with fail
      refine hnn.mono ?_
      rintro e w7 ⟨rfl, hb7⟩
      go_wp2
      go_ret
      exact ⟨rfl, hbw6.trans (hb7.mono hsz6)⟩
    · have hq : ((n : Int) != 16) = true := by simp; omega
      have hq2 : ¬ (n : Int) = 16 := by omega
      clear h16
      go_wp2_with fail
      go_ret
      exact ⟨rfl, hbw6⟩
end Go.Proofs.YtlphlogliphhdaaDoor
