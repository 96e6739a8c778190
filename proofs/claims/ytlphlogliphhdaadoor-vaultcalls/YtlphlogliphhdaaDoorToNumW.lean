/- strconv.ParseUint and vault.ToNumber. -/
import Derived.Test.YtlphlogliphhdaaDoorPuW
import Derived.Test.YtlphlogliphhdaaDoorShelf2
namespace Go.Proofs.YtlphlogliphhdaaDoor
set_option linter.unusedVariables false
set_option linter.unusedSimpArgs false
open Go.RowKit

theorem u8of_inj {a b : Int} (ha : 0 ≤ a ∧ a ≤ 255) (hb : 0 ≤ b ∧ b ≤ 255) (h : UInt8.ofNat a.toNat = UInt8.ofNat b.toNat) : a = b := by
  have := congrArg UInt8.toNat h
  rw [UInt8.toNat_ofNat', UInt8.toNat_ofNat'] at this
  omega
theorem map_u8_inj : ∀ {a b : List Int}, Ran a → Ran b → a.map (fun n => UInt8.ofNat n.toNat) = b.map (fun n => UInt8.ofNat n.toNat) → a = b
  | [], [], _, _, _ => rfl
  | [], _ :: _, _, _, h => by simp at h
  | _ :: _, [], _, _, h => by simp at h
  | x :: l, y :: m, ha, hb, h => by
    simp only [List.map_cons, List.cons.injEq] at h
    rw [u8of_inj (ha x (by simp)) (hb y (by simp)) h.1, map_u8_inj (fun z hz => ha z (by simp [hz])) (fun z hz => hb z (by simp [hz])) h.2]
theorem sn_inj {a b : List Int} (ha : Ran a) (hb : Ran b) (h : strOfNums a = strOfNums b) : a = b := by
  refine map_u8_inj ha hb ?_
  rw [← strOfNums_data, ← strOfNums_data, h]
theorem sn_eq {a b : List Int} (ha : Ran a) (hb : Ran b) : ((strOfNums a).toList == (strOfNums b).toList) = decide (a = b) := by
  by_cases h : a = b
  · subst h; simp
  · have : ¬ (strOfNums a).toList = (strOfNums b).toList := fun e => h (by
      rw [ByteArray.toList_eq, ByteArray.toList_eq, strOfNums_data, strOfNums_data] at e
      exact map_u8_inj ha hb e)
    simp [h, this]

/-- The two errors that the library names. -/
def Er (w : World) : Prop := (∃ t p, w.cell? ⟨1, 0, none⟩ = some (.iface t p)) ∧ (∃ t p, w.cell? ⟨2, 0, none⟩ = some (.iface t p)) ∧ 2 < w.heap.size
theorem Er.below {w w' : World} (h : Er w) (k : Below w.heap.size w w') : Er w' := by
  obtain ⟨⟨t, p, h1⟩, ⟨t2, p2, h2⟩, h3⟩ := h
  exact ⟨⟨t, p, (k.cell (p := ⟨1, 0, none⟩) (by show 1 < _; omega)).trans h1⟩, ⟨t2, p2, (k.cell (p := ⟨2, 0, none⟩) h3).trans h2⟩, Nat.lt_of_lt_of_le h3 k.size⟩

set_option maxRecDepth 100000 in
theorem ipu_nil (w : World) : Calls Tryd.prog 53 #[.string (strOfNums []), .int .i64 16, .int .i64 64] w fun e w' => e = .returned (.tuple #[.int .u64 0, .iface 119 (.int .i64 2)]) ∧ w = w' := by
  have he : strOfNums [] = ⟨#[]⟩ := rfl
  rw [he]
  have hee : ((⟨#[]⟩ : ByteArray).toList == (⟨#[]⟩ : ByteArray).toList) = true := by simp
  have hem : (⟨#[]⟩ : ByteArray).toList.isEmpty = true := by rw [ByteArray.toList_eq]; rfl
  go_enter Tryd.func53, Tryd.ntmps53
  go_wp2
  go_ret2
  exact ⟨rfl, rfl⟩

def PuS (e : Ending) (xs : List Int) : Prop := ∃ (v : Nat) (er : Value), e = .returned (.tuple #[.int .u64 (v : Int), er]) ∧ v < 18446744073709551616 ∧
  (er = .nilIface ∨ ∃ N, er = .iface 122 (.pointer (some ⟨N, 0, none⟩))) ∧ ∀ a, a < 18446744073709551616 → xs = hx 16 a → v = a ∧ er = .nilIface

theorem pu_any (xs : List Int) (w : World) (hr : Ran xs) (hn : xs.length ≤ 140737488355328) (her : Er w) :
    Calls Tryd.prog 41 #[.string (strOfNums xs), .int .i64 16, .int .i64 64] w fun e w' => PuS e xs ∧ Below w.heap.size w w' := by
  have hi : Calls Tryd.prog 53 #[.string (strOfNums xs), .int .i64 16, .int .i64 64] w fun e w' => PuR e xs ∧ Below w.heap.size w w' := by
    rcases Nat.eq_zero_or_pos xs.length with h | h
    · have := List.eq_nil_of_length_eq_zero h
      subst this
      refine (ipu_nil w).mono ?_
      rintro e w' ⟨rfl, rfl⟩
      exact ⟨⟨0, _, rfl, by decide, .inr (.inr rfl), fun a ha he => by have := congrArg List.length he; rw [hx_len] at this; simp at this⟩, Below.refl _ _⟩
    · exact ipu_any xs w hr hn h
  have hsz : (strOfNums xs).size ≤ 281474976710656 := by rw [strOfNums_size]; omega
  generalize strOfNums xs = S at *
  go_enter Tryd.func41, Tryd.ntmps41
  go_wp2_with fail
  refine hi.mono ?_
  rintro e w1 ⟨⟨v, er, rfl, hv, hc, HA⟩, hb⟩
  have HV := Box.mk hv
  have HAA := Lib.hid HA
  have her1 := her.below hb
  clear hi hv HA
  rcases hc with rfl | rfl | rfl
  · go_wp2
    go_ret2
    exact ⟨⟨v, _, rfl, HV.out, .inl rfl, fun a ha he => ⟨(HAA.out a ha he).1, rfl⟩⟩, hb⟩
  · have HF : Hid (∀ a, a < 18446744073709551616 → xs = hx 16 a → False) := fun a ha he => by have := (HAA.out a ha he).2; cases this
    obtain ⟨⟨t, p, h1⟩, ⟨t2, p2, h2⟩, h3⟩ := her1
    go_wp2_with fail
    refine (Tryd.strconv_toError_range _ _ _ _ _ _ hsz h2 (.inr ⟨_, _, rfl⟩)).mono ?_
    rintro e w2 ⟨N, rfl, _, _, hb2⟩
    go_wp2
    go_ret2
    exact ⟨⟨v, _, rfl, HV.out, .inr ⟨N, rfl⟩, fun a ha he => (HF.out a ha he).elim⟩, hb.trans (hb2.mono hb.size)⟩
  · have HF : Hid (∀ a, a < 18446744073709551616 → xs = hx 16 a → False) := fun a ha he => by have := (HAA.out a ha he).2; cases this
    obtain ⟨⟨t, p, h1⟩, ⟨t2, p2, h2⟩, h3⟩ := her1
    go_wp2_with fail
    refine (Tryd.strconv_toError_syntax _ _ _ _ _ _ hsz h1 (.inr ⟨_, _, rfl⟩)).mono ?_
    rintro e w2 ⟨N, rfl, _, _, hb2⟩
    go_wp2
    go_ret2
    exact ⟨⟨v, _, rfl, HV.out, .inr ⟨N, rfl⟩, fun a ha he => (HF.out a ha he).elim⟩, hb.trans (hb2.mono hb.size)⟩

def TnR (e : Ending) (xs : List Int) : Prop := ∃ (v : Nat) (ok : Bool), e = .returned (.tuple #[.int .u64 (v : Int), .bool ok]) ∧ v < 18446744073709551616 ∧
  (ok = true → xs = hx 16 v) ∧ (ok = false → v = 0) ∧ ∀ a, a < 18446744073709551616 → xs = hx 16 a → v = a ∧ ok = true

theorem toNumber_any (xs : List Int) (w : World) (hr : Ran xs) (hn : xs.length ≤ 140737488355328) (her : Er w) (ht : Tz w) :
    Calls Tryd.prog 28 #[.string (strOfNums xs)] w fun e w' => TnR e xs ∧ Below w.heap.size w w' := by
  go_enter Tryd.func28, Tryd.ntmps28
  go_wp2_with fail
  refine (pu_any xs w hr hn her).mono ?_
  rintro e w1 ⟨⟨v, er, rfl, hv, hc, HA⟩, hb⟩
  have HV := Box.mk hv
  have HAA := Lib.hid HA
  have ht1 := ht.below hb
  clear HA
  rcases hc with rfl | ⟨N, rfl⟩
  · have heq := sn_eq (hx_ran 16 v) hr
    have hnum := number_any v w1 hv ht1
    by_cases h : hx 16 v = xs
    · have h2 : ((strOfNums (hx 16 v)).toList == (strOfNums xs).toList) = true := by rw [heq]; simp [h]
      have HX := Lib.hid h
      clear h heq hv hr
      generalize strOfNums xs = S at *
      generalize strOfNums (hx 16 v) = T at *
      go_wp2_with fail
      refine hnum.mono ?_
      rintro e w2 ⟨rfl, hb2⟩
      go_wp2
      go_ret2
      exact ⟨⟨v, true, rfl, HV.out, fun _ => HX.out.symm, (fun h => by cases h), fun a ha he => ⟨(HAA.out a ha he).1, rfl⟩⟩, hb.trans (hb2.mono hb.size)⟩
    · have h2 : ((strOfNums (hx 16 v)).toList == (strOfNums xs).toList) = false := by rw [heq]; simp [h]
      have HX := Lib.hid h
      have HF : Hid (∀ a, a < 18446744073709551616 → xs = hx 16 a → False) := fun a ha he => HX.out (by rw [he, (HAA.out a ha he).1])
      clear h heq hv hr HX
      generalize strOfNums xs = S at *
      generalize strOfNums (hx 16 v) = T at *
      go_wp2_with fail
      refine hnum.mono ?_
      rintro e w2 ⟨rfl, hb2⟩
      go_wp2
      go_ret2
      exact ⟨⟨0, false, rfl, by decide, (fun h => by cases h), fun _ => rfl, fun a ha he => (HF.out a ha he).elim⟩, hb.trans (hb2.mono hb.size)⟩
  · have HF : Hid (∀ a, a < 18446744073709551616 → xs = hx 16 a → False) := fun a ha he => by have := (HAA.out a ha he).2; cases this
    clear hv hr
    go_wp2
    go_ret2
    exact ⟨⟨0, false, rfl, by decide, (fun h => by cases h), fun _ => rfl, fun a ha he => (HF.out a ha he).elim⟩, hb⟩
end Go.Proofs.YtlphlogliphhdaaDoor
