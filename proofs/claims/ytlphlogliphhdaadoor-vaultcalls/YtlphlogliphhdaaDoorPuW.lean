/- strconv.ParseUint at sixteen: of the sixteen digits their number; of other texts only that it ends. -/
import Derived.Test.YtlphlogliphhdaaDoorNumberW
import Derived.Lib.ConvBytes
import Derived.Lib.AtoiErrMem
namespace Go.Proofs.YtlphlogliphhdaaDoor
set_option linter.unusedVariables false
set_option linter.unusedSimpArgs false
open Go.RowKit

/-- A fact that no search opens. -/
structure Box (p : Prop) : Prop where
  out : p
def lw (c : Int) : Int := bits .or .u8 c 32
theorem lw_all : ∀ v : Fin 256, 0 ≤ lw ((v.val : Nat) : Int) ∧ lw ((v.val : Nat) : Int) ≤ 255 ∧ (97 ≤ v.val → v.val ≤ 102 → lw ((v.val : Nat) : Int) = ((v.val : Nat) : Int)) := by decide +kernel
theorem lw_ran {c : Int} (h0 : 0 ≤ c) (h1 : c ≤ 255) : 0 ≤ lw c ∧ lw c ≤ 255 := by
  have h := lw_all ⟨c.toNat, by omega⟩
  have e : ((c.toNat : Nat) : Int) = c := by omega
  simp only [e] at h
  exact ⟨h.1, h.2.1⟩
theorem lw_same {c : Int} (h0 : 97 ≤ c) (h1 : c ≤ 102) : lw c = c := by
  have h := lw_all ⟨c.toNat, by omega⟩
  have e : ((c.toNat : Nat) : Int) = c := by omega
  simp only [e] at h
  exact h.2.2 (by omega) (by omega)
theorem lw_lo : ∀ v : Fin 48, lw ((v.val : Nat) : Int) < 97 := by decide +kernel
theorem lw_low {c : Int} (h0 : 0 ≤ c) (h1 : c < 48) : lw c < 97 := by
  have h := lw_lo ⟨c.toNat, by omega⟩
  have e : ((c.toNat : Nat) : Int) = c := by omega
  simp only [e] at h
  exact h
theorem lower_any (c : Int) (w : World) : Calls Tryd.prog 74 #[.int .u8 c] w fun e w' => e = .returned (.int .u8 (lw c)) ∧ w = w' := by
  go_enter Tryd.func74, Tryd.ntmps74
  go_wp2
  go_ret
  exact ⟨rfl, rfl⟩

theorem hx_get {n k : Nat} (hk : k < 16) : (hx 16 n)[k]? = some (hd (n / 16 ^ (15 - k) % 16)) := by
  have h := hx_app k (16 - k) n
  rw [show k + (16 - k) = 16 by omega] at h
  have h2 := hx_app 1 (15 - k) n
  rw [show 1 + (15 - k) = 16 - k by omega] at h2
  rw [h, List.getElem?_append_right (by rw [hx_len]; omega), hx_len, Nat.sub_self, h2]
  rfl
/-- What the round makes of a digit. -/
theorem hd_val {d : Nat} (h : d < 16) : (48 ≤ hd d ∧ hd d ≤ 57 ∧ hd d - 48 = d) ∨ (97 ≤ hd d ∧ hd d ≤ 102 ∧ hd d - 97 + 10 = d) := by
  unfold hd; split
  · left; omega
  · right; omega
theorem next_val (a k : Nat) (hk : k < 16) : a / 16 ^ (16 - (k + 1)) = a / 16 ^ (16 - k) * 16 + a / 16 ^ (15 - k) % 16 := by
  have e : 16 - k = (15 - k) + 1 := by omega
  rw [show 16 - (k + 1) = 15 - k by omega, e, Nat.pow_succ, ← Nat.div_div_eq_div_mul]
  omega
theorem low_val (a k : Nat) (hk : k < 16) (ha : a < 18446744073709551616) : a / 16 ^ (16 - k) < 1152921504606846976 := by
  have h1 : 16 ^ 1 ≤ 16 ^ (16 - k) := Nat.pow_le_pow_right (by omega) (by omega)
  have h2 : a / 16 ^ (16 - k) ≤ a / 16 ^ 1 := Nat.div_le_div_left h1 (by decide)
  omega

/-- A text that isn't empty. -/
def NE (S : ByteArray) : Prop := (S.toList == (⟨#[]⟩ : ByteArray).toList) = false ∧ (S.toList == []) = false ∧ S.toList.isEmpty = false ∧ ¬ S.toList = []
theorem str_ne {xs : List Int} (h : 0 < xs.length) : NE (strOfNums xs) := by
  have e : (strOfNums xs).toList ≠ [] := by
    rw [ByteArray.toList_eq, strOfNums_data]
    intro e
    have := congrArg List.length e
    simp at this
    subst this
    simp at h
  have e2 : (⟨#[]⟩ : ByteArray).toList = [] := by rw [ByteArray.toList_eq]
  refine ⟨by rw [e2]; simpa using e, by simpa using e, by simpa using e, e⟩
def PuR (e : Ending) (xs : List Int) : Prop := ∃ (v : Nat) (er : Value), e = .returned (.tuple #[.int .u64 (v : Int), er]) ∧ v < 18446744073709551616 ∧
  (er = .nilIface ∨ er = .iface 119 (.int .i64 1) ∨ er = .iface 119 (.int .i64 2)) ∧ ∀ a, a < 18446744073709551616 → xs = hx 16 a → v = a ∧ er = .nilIface

theorem bw_bs (w : World) (xs : List Int) (h : Ran xs) : Bs (Lib.bytesWorld w 5 (strOfNums xs)) (some ⟨w.heap.size, 0, none⟩) xs.length xs := by
  refine ⟨⟨By_length _, fun _ => ⟨w.heap.size, 0, rfl, by rw [Lib.bytesWorld_size]; omega, fun j u hu => ?_⟩⟩, h⟩
  have hj : j < xs.length := by
    have := (List.getElem?_eq_some_iff.1 hu).1
    rwa [By_length] at this
  rw [Nat.zero_add, Lib.bytesWorld_cell w 5 _ j (by rw [strOfNums_size]; exact hj)]
  have hx := h xs[j] (List.getElem_mem hj)
  simp only [By, List.getElem?_map, List.getElem?_eq_getElem hj, Option.map_some, Option.some.injEq] at hu
  subst hu
  rw [strOfNums_data]
  simp only [List.getD, List.getElem?_map, List.getElem?_eq_getElem hj, Option.map_some, Option.getD_some]
  have : ((UInt8.ofNat (xs[j]).toNat).toNat : Int) = xs[j] := by
    rw [UInt8.toNat_ofNat']
    omega
  rw [this]

set_option maxHeartbeats 4000000 in
set_option maxRecDepth 100000 in
theorem ipu_any (xs : List Int) (w : World) (hr : Ran xs) (hn : xs.length ≤ 140737488355328) (h0 : 0 < xs.length) :
    Calls Tryd.prog 53 #[.string (strOfNums xs), .int .i64 16, .int .i64 64] w fun e w' => PuR e xs ∧ Below w.heap.size w w' := by
  have hcv := Lib.run_convert_string_bytes (P := Tryd.prog) w 9 28 5 (strOfNums xs) Tryd.underlying9 Tryd.underlying28 Tryd.underlying5
  have hb0 := Lib.bytesWorld_below w 5 (strOfNums xs)
  have hbs := bw_bs w xs hr
  rw [strOfNums_size] at hcv
  have hne := str_ne h0
  generalize Lib.bytesWorld w 5 (strOfNums xs) = w1 at *
  generalize strOfNums xs = S at *
  obtain ⟨hne1, hne2, hne3, hne4⟩ := hne
  obtain ⟨n, hln⟩ : ∃ n, xs.length = n := ⟨_, rfl⟩
  rw [hln] at hcv hn hbs h0
  have HL := Lib.hid hln; clear hln
  generalize grownCap w n 0 5 = cp at *
  have hw11 : IntKind.u64.wrap (IntKind.u64.wrap 18446744073709551616 - 1) = 18446744073709551615 := by decide +kernel
  have hw16 : IntKind.u8.wrap 16 = 16 := by decide +kernel
  clear hr
  go_enter Tryd.func53, Tryd.ntmps53
  go_wp2
  go_loopw [12, 13, 101] (fun v12 v13 v101 wr => ∃ k u : Nat, v12 = .bool false ∧ v13 = .int .u64 (u : Int) ∧ v101 = .int .i64 (k : Int) ∧ k ≤ n ∧ u < 18446744073709551616 ∧ wr = w1 ∧ Hid (∀ a, a < 18446744073709551616 → xs = hx 16 a → u = a / 16 ^ (16 - k))) (fun _ _ v101 _ => n - (intOf v101).toNat)
  case atStart => exact ⟨0, 0, rfl, rfl, rfl, Nat.zero_le _, by omega, rfl, fun a ha _ => by
    rw [Nat.div_eq_of_lt (Nat.lt_of_lt_of_le ha (by decide))]⟩
  case round =>
    obtain ⟨k, u, rfl, rfl, rfl, hk, hu, rfl, HU⟩ := hrel
    by_cases hlt : k < n
    · obtain ⟨b, off, c, hA, hbb, hc0, hc1, hcell, HC⟩ := hbs.at_ hlt
      injection hA with hA
      injection hA with hA1 hA2
      subst hA1; subst hA2
      rw [Nat.zero_add] at hcell
      -- what the letter says, if the text is a number's
      have HCA : Hid (∀ a, a < 18446744073709551616 → xs = hx 16 a → k < 16 ∧ c = hd (a / 16 ^ (15 - k) % 16)) := fun a ha he => by
        have hk16 : k < 16 := by
          have := HL.out
          rw [he, hx_len] at this; omega
        have := HC.out
        rw [he, hx_get hk16] at this
        injection this with this
        exact ⟨hk16, this.symm⟩
      by_cases hA : 48 ≤ c ∧ c ≤ 57
      · obtain ⟨hA1, hA2⟩ := hA
        have h95 : ¬ c = 95 := by omega
        have hwc : IntKind.u8.wrap (c - 48) = c - 48 := by simp [IntKind.wrap, IntKind.bits, IntKind.signed]; omega
        have HW1 := Lib.hid hwc
        have HDV : Hid (∀ a, a < 18446744073709551616 → xs = hx 16 a → c - 48 = ((a / 16 ^ (15 - k) % 16 : Nat) : Int)) := fun a ha he => by
          have h1 := (HCA.out a ha he).2
          have h2 := hd_val (Nat.mod_lt (a / 16 ^ (15 - k)) (show 16 > 0 by omega))
          rw [← h1] at h2
          omega
        have hlt16 : ¬ ((16 : Int) ≤ c - 48) := by omega
        by_cases hcut : 1152921504606846976 ≤ u
        · have HEND : Hid (∀ a, a < 18446744073709551616 → xs = hx 16 a → False) := fun a ha he => by
            have h1 := HU.out a ha he
            have h2 := (HCA.out a ha he).1
            have := low_val a k h2 ha
            omega
          have hci : (1152921504606846976 : Int) ≤ (u : Int) := by omega
          clear hcut hu HU HCA HDV
          go_wp2
          go_ret2
          exact ⟨⟨18446744073709551615, _, rfl, by decide, .inr (.inl rfl), fun a ha he => (HEND.out a ha he).elim⟩, hb0⟩
        · have hci : (u : Int) < 1152921504606846976 := by omega
          have hci2 : ¬ (1152921504606846976 : Int) ≤ (u : Int) := by omega
          obtain ⟨dd, hdd⟩ : ∃ dd : Nat, (dd : Int) = c - 48 := ⟨(c - 48).toNat, by omega⟩
          have hm1 : IntKind.u64.wrap ((u : Int) * 16) = (u : Int) * 16 := by simp [IntKind.wrap, IntKind.bits, IntKind.signed]; omega
          have hm2 : IntKind.u64.wrap ((u : Int) * 16 + (dd : Int)) = (u : Int) * 16 + (dd : Int) := by simp [IntKind.wrap, IntKind.bits, IntKind.signed]; omega
          have hm3 : IntKind.u64.wrap (dd : Int) = (dd : Int) := by simp [IntKind.wrap, IntKind.bits, IntKind.signed]; omega
          have hm4 : ¬ ((u : Int) * 16 + (dd : Int) < (u : Int) * 16) := by omega
          have hm5 : ¬ ((18446744073709551615 : Int) < (u : Int) * 16 + (dd : Int)) := by omega
          have hdd16 : ¬ ((16 : Int) ≤ (dd : Int)) := by omega
          have HN : Hid (∀ a, a < 18446744073709551616 → xs = hx 16 a → u * 16 + dd = a / 16 ^ (16 - (k + 1))) := fun a ha he => by
            have h1 := HU.out a ha he
            have h2 := (HCA.out a ha he).1
            have h3 := HDV.out a ha he
            rw [next_val a k h2, ← h1]
            omega
          have hu2 : u * 16 + dd < 18446744073709551616 := by omega
          have HU2 := Lib.hid hu2
          clear hcut hu HU HCA HDV hu2 hci
          have hw1 : IntKind.u8.wrap (c - 48) = (dd : Int) := by rw [hdd]; exact HW1.out
          clear hwc hdd hlt16
          go_wp2
          go_roundw
          case rel => exact ⟨k + 1, u * 16 + dd, by first | trivial | rfl, by first | trivial | go_num, by first | trivial | go_num, by omega, HU2.out, by first | trivial | rfl, HN.out⟩
          case measure => simp [intOf]; omega
      · have hlr := lw_ran hc0 hc1
        obtain ⟨hl0, hl1⟩ := hlr
        have HLO := Lib.hid (fun h : c < 48 => lw_low hc0 h)
        have H95 : Hid (c = 95 → lw c = 127) := fun h => by rw [h]; decide +kernel
        have H3 := Lib.hid (@lw_same c)
        have HLW := fun W => lower_any c W
        generalize lw c = l at *
        by_cases hlo : c < 48
        · have hlw : ¬ 97 ≤ l := by have := HLO.out hlo; omega
          have h48 : ¬ 48 ≤ c := by omega
          have h95 : ¬ c = 95 := by omega
          clear hA
          have HEND : Hid (∀ a, a < 18446744073709551616 → xs = hx 16 a → False) := fun a ha he => by
            have h1 := (HCA.out a ha he).2
            have h2 := hd_val (Nat.mod_lt (a / 16 ^ (15 - k)) (show 16 > 0 by omega))
            rw [← h1] at h2
            omega
          clear HU HCA hu
          go_wp2_with fail
          refine (HLW _).mono ?_
          rintro e w' ⟨rfl, rfl⟩
          go_wp2
          go_ret2
          exact ⟨⟨0, _, rfl, by decide, .inr (.inr rfl), fun a ha he => (HEND.out a ha he).elim⟩, hb0⟩
        · have h48 : 48 ≤ c := by omega
          have h57 : ¬ c ≤ 57 := fun h => hA ⟨h48, h⟩
          clear hA hlo
          by_cases h95 : c = 95
          · have hlw2 : ¬ l ≤ 122 := by have := H95.out h95; omega
            have hlw : 97 ≤ l := by have := H95.out h95; omega
            subst h95
            have HEND : Hid (∀ a, a < 18446744073709551616 → xs = hx 16 a → False) := fun a ha he => by
              have h1 := (HCA.out a ha he).2
              have h2 := hd_val (Nat.mod_lt (a / 16 ^ (15 - k)) (show 16 > 0 by omega))
              rw [← h1] at h2
              omega
            clear HU HCA hu
            go_wp2_with fail
            refine (HLW _).mono ?_
            rintro e w' ⟨rfl, rfl⟩
            go_wp2_with fail
            refine (HLW _).mono ?_
            rintro e w' ⟨rfl, rfl⟩
            go_wp2
            go_ret2
            exact ⟨⟨0, _, rfl, by decide, .inr (.inr rfl), fun a ha he => (HEND.out a ha he).elim⟩, hb0⟩
          by_cases hlw : 97 ≤ l
          · by_cases hlw2 : l ≤ 122
            · have hwc1 : IntKind.u8.wrap (l - 97) = l - 97 := by simp [IntKind.wrap, IntKind.bits, IntKind.signed]; omega
              have hwc : IntKind.u8.wrap (l - 97 + 10) = l - 97 + 10 := by simp [IntKind.wrap, IntKind.bits, IntKind.signed]; omega
              have HW2 := Lib.hid hwc
              by_cases hlt16 : (16 : Int) ≤ l - 97 + 10
              · have HEND : Hid (∀ a, a < 18446744073709551616 → xs = hx 16 a → False) := fun a ha he => by
                  have h1 := (HCA.out a ha he).2
                  have h2 := hd_val (Nat.mod_lt (a / 16 ^ (15 - k)) (show 16 > 0 by omega))
                  rw [← h1] at h2
                  have h3 := H3.out; omega
                clear HU HCA hu
                go_wp2_with fail
                refine (HLW _).mono ?_
                rintro e w' ⟨rfl, rfl⟩
                go_wp2_with fail
                refine (HLW _).mono ?_
                rintro e w' ⟨rfl, rfl⟩
                go_wp2_with fail
                refine (HLW _).mono ?_
                rintro e w' ⟨rfl, rfl⟩
                go_wp2
                go_ret2
                exact ⟨⟨0, _, rfl, by decide, .inr (.inr rfl), fun a ha he => (HEND.out a ha he).elim⟩, hb0⟩
              · have HDV : Hid (∀ a, a < 18446744073709551616 → xs = hx 16 a → l - 97 + 10 = ((a / 16 ^ (15 - k) % 16 : Nat) : Int)) := fun a ha he => by
                  have h1 := (HCA.out a ha he).2
                  have h2 := hd_val (Nat.mod_lt (a / 16 ^ (15 - k)) (show 16 > 0 by omega))
                  rw [← h1] at h2
                  have h3 := H3.out
                  omega
                by_cases hcut : 1152921504606846976 ≤ u
                · have HEND : Hid (∀ a, a < 18446744073709551616 → xs = hx 16 a → False) := fun a ha he => by
                    have h1 := HU.out a ha he
                    have h2 := (HCA.out a ha he).1
                    have := low_val a k h2 ha
                    omega
                  have hci : (1152921504606846976 : Int) ≤ (u : Int) := by omega
                  clear hcut hu HU HCA HDV
                  go_wp2_with fail
                  refine (HLW _).mono ?_
                  rintro e w' ⟨rfl, rfl⟩
                  go_wp2_with fail
                  refine (HLW _).mono ?_
                  rintro e w' ⟨rfl, rfl⟩
                  go_wp2_with fail
                  refine (HLW _).mono ?_
                  rintro e w' ⟨rfl, rfl⟩
                  go_wp2
                  go_ret2
                  exact ⟨⟨18446744073709551615, _, rfl, by decide, .inr (.inl rfl), fun a ha he => (HEND.out a ha he).elim⟩, hb0⟩
                · have hci : (u : Int) < 1152921504606846976 := by omega
                  have hci2 : ¬ (1152921504606846976 : Int) ≤ (u : Int) := by omega
                  obtain ⟨dd, hdd⟩ : ∃ dd : Nat, (dd : Int) = l - 97 + 10 := ⟨(l - 97 + 10).toNat, by omega⟩
                  have hm1 : IntKind.u64.wrap ((u : Int) * 16) = (u : Int) * 16 := by simp [IntKind.wrap, IntKind.bits, IntKind.signed]; omega
                  have hm2 : IntKind.u64.wrap ((u : Int) * 16 + (l - 97 + 10)) = (u : Int) * 16 + (l - 97 + 10) := by simp [IntKind.wrap, IntKind.bits, IntKind.signed]; omega
                  have hm3 : IntKind.u64.wrap (l - 97 + 10) = (l - 97 + 10) := by simp [IntKind.wrap, IntKind.bits, IntKind.signed]; omega
                  have hm4 : ¬ ((u : Int) * 16 + (l - 97 + 10) < (u : Int) * 16) := by omega
                  have hm5 : ¬ ((18446744073709551615 : Int) < (u : Int) * 16 + (l - 97 + 10)) := by omega
                  have HN : Hid (∀ a, a < 18446744073709551616 → xs = hx 16 a → u * 16 + dd = a / 16 ^ (16 - (k + 1))) := fun a ha he => by
                    have h1 := HU.out a ha he
                    have h2 := (HCA.out a ha he).1
                    have h3 := HDV.out a ha he
                    rw [next_val a k h2, ← h1]
                    omega
                  have hu2 : u * 16 + dd < 18446744073709551616 := by omega
                  have HCI := Box.mk hci
                  have HU2 := Box.mk hu2
                  clear hcut hu HU HCA HDV hu2 hci
                  have HDD := Lib.hid hdd
                  clear hdd HW2
                  clear hm4 hm5 hci2
                  go_wp2_with fail
                  refine (HLW _).mono ?_
                  rintro e w' ⟨rfl, rfl⟩
                  go_wp2_with fail
                  refine (HLW _).mono ?_
                  rintro e w' ⟨rfl, rfl⟩
                  go_wp2_with fail
                  refine (HLW _).mono ?_
                  rintro e w' ⟨rfl, rfl⟩
                  simp only []
                  iterate 32 (first | go_skip | go_guarded | go_step)
                  have hci := HCI.out
                  have hci2 : ¬ (1152921504606846976 : Int) ≤ (u : Int) := by omega
                  have hm4 : ¬ ((u : Int) * 16 + (l - 97 + 10) < (u : Int) * 16) := by omega
                  have hm5 : ¬ ((18446744073709551615 : Int) < (u : Int) * 16 + (l - 97 + 10)) := by omega
                  clear hci
                  go_wp2
                  go_roundw
                  case rel => exact ⟨k + 1, u * 16 + dd, by first | trivial | rfl, by have := HDD.out; simp; omega, by first | trivial | go_num, by omega, HU2.out, by first | trivial | rfl, HN.out⟩
                  case measure => simp [intOf]; omega
            · 
              have HEND : Hid (∀ a, a < 18446744073709551616 → xs = hx 16 a → False) := fun a ha he => by
                have h1 := (HCA.out a ha he).2
                have h2 := hd_val (Nat.mod_lt (a / 16 ^ (15 - k)) (show 16 > 0 by omega))
                rw [← h1] at h2
                have h3 := H3.out; omega
              clear HU HCA hu
              go_wp2_with fail
              refine (HLW _).mono ?_
              rintro e w' ⟨rfl, rfl⟩
              go_wp2_with fail
              refine (HLW _).mono ?_
              rintro e w' ⟨rfl, rfl⟩
              go_wp2
              go_ret2
              exact ⟨⟨0, _, rfl, by decide, .inr (.inr rfl), fun a ha he => (HEND.out a ha he).elim⟩, hb0⟩
          · 
            have HEND : Hid (∀ a, a < 18446744073709551616 → xs = hx 16 a → False) := fun a ha he => by
              have h1 := (HCA.out a ha he).2
              have h2 := hd_val (Nat.mod_lt (a / 16 ^ (15 - k)) (show 16 > 0 by omega))
              rw [← h1] at h2
              have h3 := H3.out; omega
            clear HU HCA hu
            go_wp2_with fail
            refine (HLW _).mono ?_
            rintro e w' ⟨rfl, rfl⟩
            go_wp2
            go_ret2
            exact ⟨⟨0, _, rfl, by decide, .inr (.inr rfl), fun a ha he => (HEND.out a ha he).elim⟩, hb0⟩
    · obtain rfl : k = n := by omega
      have HEND : Hid (∀ a, a < 18446744073709551616 → xs = hx 16 a → u = a) := fun a ha he => by
        have h1 := HU.out a ha he
        have h2 := HL.out
        rw [he, hx_len] at h2
        rw [← h2] at h1
        simpa using h1
      have HU2 := Box.mk hu
      clear HU hu
      go_wp2
      go_ret2
      exact ⟨⟨u, _, rfl, HU2.out, .inl rfl, fun a ha he => ⟨HEND.out a ha he, rfl⟩⟩, hb0⟩
end Go.Proofs.YtlphlogliphhdaaDoor
