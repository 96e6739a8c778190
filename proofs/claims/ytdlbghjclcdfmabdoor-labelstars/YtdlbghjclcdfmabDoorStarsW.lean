/- LabelStars: the walk. -/
import Derived.Test.YtdlbghjclcdfmabDoorMatchW
import Derived.Test.YtdlbghjclcdfmabDoorAwake3
namespace Go.Proofs.YtdlbghjclcdfmabDoor
set_option linter.unusedVariables false
set_option linter.unusedSimpArgs false
open Go.RowKit

theorem str_append (xs ys : List Int) : strOfNums xs ++ strOfNums ys = strOfNums (xs ++ ys) := by
  apply ByteArray.ext
  simp [strOfNums]
/-- A beginning and an end that match, up to two places. -/
def Wp (s a b : List Int) (i k : Nat) : Prop :=
  (∃ i' k', i' < i ∧ i' ≤ k' ∧ k' ≤ s.length ∧ mt a (s.take i') = true ∧ mt b (s.drop k') = true) ∨
  (∃ k', i ≤ k' ∧ k' < k ∧ k' ≤ s.length ∧ mt a (s.take i) = true ∧ mt b (s.drop k') = true)
theorem Wp.start (s a b : List Int) : ¬ Wp s a b 0 0 := by
  rintro (⟨i', k', h, _⟩ | ⟨k', h1, h2, _⟩) <;> omega
theorem Wp.step {s a b : List Int} {i k : Nat} (hik : i ≤ k) (hk : k ≤ s.length) (hn : ¬ Wp s a b i k) : (mt a (s.take i) && mt b (s.drop k)) = true ↔ Wp s a b i (k + 1) := by
  rw [Bool.and_eq_true]
  constructor
  · rintro ⟨h1, h2⟩; exact .inr ⟨k, hik, by omega, hk, h1, h2⟩
  · rintro (h | ⟨k', h1, h2, h3, h4, h5⟩)
    · exact absurd (.inl h) hn
    · by_cases e : k' = k
      · subst e; exact ⟨h4, h5⟩
      · exact absurd (.inr ⟨k', h1, by omega, h3, h4, h5⟩) hn
theorem Wp.next {s a b : List Int} {i k : Nat} (h : Wp s a b i k) : Wp s a b (i + 1) (i + 1) := by
  rcases h with ⟨i', k', h1, h2, h3, h4, h5⟩ | ⟨k', h1, h2, h3, h4, h5⟩
  · exact .inl ⟨i', k', by omega, h2, h3, h4, h5⟩
  · exact .inl ⟨i, k', by omega, h1, h3, h4, h5⟩
theorem Wp.back {s a b : List Int} {i k : Nat} (hk : s.length < k) (h : Wp s a b (i + 1) (i + 1)) : Wp s a b i k := by
  rcases h with ⟨i', k', h1, h2, h3, h4, h5⟩ | ⟨k', h1, h2, h3, h4, h5⟩
  · by_cases e : i' = i
    · subst e; exact .inr ⟨k', h2, by omega, h3, h4, h5⟩
    · exact .inl ⟨i', k', by omega, h2, h3, h4, h5⟩
  · omega
theorem Wp.end_ {s a b : List Int} {i : Nat} (hi : s.length < i) : Wp s a b i i ↔ mt (a ++ 42 :: b) s = true := by
  rw [mt_mid]
  constructor
  · rintro (⟨i', k', h1, h2, h3, h4, h5⟩ | ⟨k', h1, h2, h3, h4, h5⟩)
    · refine ⟨s.take i', (s.drop i').take (k' - i'), s.drop k', ?_, h4, h5⟩
      have e : s.drop k' = (s.drop i').drop (k' - i') := by rw [List.drop_drop]; congr 1; omega
      rw [e, List.take_append_drop, List.take_append_drop]
    · omega
  · rintro ⟨u, x, t, rfl, h1, h2⟩
    refine .inl ⟨u.length, u.length + x.length, ?_, by omega, ?_, ?_, ?_⟩
    · simp at hi; omega
    · simp
    · simpa using h1
    · rw [← List.append_assoc]
      have : (u ++ x ++ t).drop (u.length + x.length) = t := by
        rw [show u.length + x.length = (u ++ x).length by simp, List.drop_left]
      rw [this]; exact h2

set_option maxRecDepth 100000 in
set_option maxHeartbeats 2000000 in
theorem stars_walk (l0 l1 l2 : List Int) (w : World) (hr0 : Ran l0) (hr1 : Ran l1) (hr2 : Ran l2) (hl0 : l0.length ≤ 140737488355328) (hl1 : l1.length ≤ 140737488355328) (hl2 : l2.length ≤ 140737488355328) :
    Calls Tryd.prog 4 #[.string (strOfNums l0), .string (strOfNums l1), .string (strOfNums l2)] w fun e w' => e = .returned (.bool true) ∧ Below w.heap.size w w' := by
  have hst : strOfNums [42] = ⟨#[42]⟩ := rfl
  have hrs : Ran (l0.take 40) := hr0.sub fun y hy => List.mem_of_mem_take hy
  have hra : Ran (l1.take 40) := hr1.sub fun y hy => List.mem_of_mem_take hy
  have hrb : Ran (l2.take 40) := hr2.sub fun y hy => List.mem_of_mem_take hy
  have hls : (l0.take 40).length ≤ 40 := by rw [List.length_take]; omega
  have hla : (l1.take 40).length ≤ 40 := by rw [List.length_take]; omega
  have hlb : (l2.take 40).length ≤ 40 := by rw [List.length_take]; omega
  have h42 : Ran [42] := fun x hx => by obtain rfl := List.mem_singleton.1 hx; omega
  have HC0 := Lib.hid (fun W => cut_any l0 40 W hl0 (by omega))
  have HC1 := Lib.hid (fun W => cut_any l1 40 W hl1 (by omega))
  have HC2 := Lib.hid (fun W => cut_any l2 40 W hl2 (by omega))
  generalize l0.take 40 = s at *
  generalize l1.take 40 = a at *
  generalize l2.take 40 = b at *
  generalize strOfNums l0 = S0 at *
  generalize strOfNums l1 = S1 at *
  generalize strOfNums l2 = S2 at *
  have hsz : (strOfNums s).size = s.length := strOfNums_size s
  have haz : (strOfNums a).size = a.length := strOfNums_size a
  have hbz : (strOfNums b).size = b.length := strOfNums_size b
  have HTO := Lib.hid (fun (k : Nat) (hk : k ≤ s.length) (W : World) => str_to (P := Tryd.prog) 9 Tryd.underlying9 s k hk W)
  have HFR := Lib.hid (fun (k : Nat) (hk : k ≤ s.length) (W : World) => str_from (P := Tryd.prog) 9 Tryd.underlying9 s k hk W)
  have HMA : Hid (∀ (i : Nat) (W : World), Calls Tryd.prog 11 #[.string (strOfNums (s.take i)), .string (strOfNums a)] W fun e w' => e = .returned (.bool (mt a (s.take i))) ∧ Dr W w') := fun i W =>
    match_any (s.take i) a W (hrs.sub fun y hy => List.mem_of_mem_take hy) hra (by rw [List.length_take]; omega) (by omega)
  have HMB : Hid (∀ (k : Nat) (W : World), Calls Tryd.prog 11 #[.string (strOfNums (s.drop k)), .string (strOfNums b)] W fun e w' => e = .returned (.bool (mt b (s.drop k))) ∧ Dr W w') := fun k W =>
    match_any (s.drop k) b W (hrs.sub fun y hy => List.mem_of_mem_drop hy) hrb (by rw [List.length_drop]; omega) (by omega)
  have HMC : Hid (∀ (W : World), Calls Tryd.prog 11 #[.string (strOfNums s), .string (strOfNums a ++ ⟨#[42]⟩ ++ strOfNums b)] W fun e w' => e = .returned (.bool (mt (a ++ 42 :: b) s)) ∧ Dr W w') := fun W => by
    rw [← hst, str_append, str_append, List.append_assoc, List.singleton_append]
    refine match_any s (a ++ 42 :: b) W hrs ?_ (by omega) (by simp; omega)
    intro x hx
    rcases List.mem_append.1 hx with h | h
    · exact hra x h
    · rcases List.mem_cons.1 h with rfl | h
      · omega
      · exact hrb x h
  obtain ⟨R, hR⟩ : ∃ R, mt (a ++ 42 :: b) s = R := ⟨_, rfl⟩
  rw [hR] at HMC
  have HRR := Lib.hid hR; clear hR
  obtain ⟨sn, hsn⟩ : ∃ m, s.length = m := ⟨_, rfl⟩
  rw [hsn] at hsz hls
  have HSN := Lib.hid hsn; clear hsn hst hrs hra hrb h42
  generalize strOfNums s = SS at *
  generalize strOfNums a = SA at *
  generalize strOfNums b = SB at *
  generalize a.length = an at *
  generalize b.length = bn at *
  go_enter Tryd.func4, Tryd.ntmps4
  go_wp2_with fail
  refine (awake_any w).mono ?_
  rintro e w1 ⟨rfl, hb1⟩
  go_wp2_with fail
  refine (HC0.out _).mono ?_
  rintro e w2 ⟨rfl, rfl⟩
  go_wp2_with fail
  refine (HC1.out _).mono ?_
  rintro e w2 ⟨rfl, rfl⟩
  go_wp2_with fail
  refine (HC2.out _).mono ?_
  rintro e w2 ⟨rfl, rfl⟩
  go_wp2
  go_loopw [7, 8] (fun wv iv wr => ∃ (i : Nat) (v : Bool), iv = .int .i64 i ∧ wv = .bool v ∧ i ≤ sn + 1 ∧ Hid (v = true ↔ Wp s a b i i) ∧ Below w.heap.size w wr) (fun _ iv _ => sn + 1 - (intOf iv).toNat)
  case atStart => exact ⟨0, false, rfl, rfl, by omega, ⟨fun h => (by cases h), fun h => absurd h (Wp.start s a b)⟩, hb1⟩
  case round =>
    obtain ⟨i, v, rfl, rfl, hi, HW, hb2⟩ := hrel
    clear hb1
    rename World => wo
    by_cases hlt : i ≤ sn
    · have ht := HTO.out i (by rw [HSN.out]; exact hlt)
      go_wp2
      go_loopw [7, 9] (fun wv kv wr => ∃ (k : Nat) (v : Bool), kv = .int .i64 k ∧ wv = .bool v ∧ i ≤ k ∧ k ≤ sn + 1 ∧ Hid (v = true ↔ Wp s a b i k) ∧ Below w.heap.size w wr) (fun _ kv _ => sn + 1 - (intOf kv).toNat)
      case atStart => exact ⟨i, v, rfl, rfl, Nat.le_refl _, by omega, HW, hb2⟩
      case round =>
        obtain ⟨k, v2, rfl, rfl, hik, hk, HV, hb3⟩ := hrel
        clear hb2
        cases v2 with
        | true =>
          have HN : Hid (true = true ↔ Wp s a b (i + 1) (i + 1)) := ⟨fun _ => (HV.out.1 rfl).next, fun _ => rfl⟩
          by_cases hkl : k ≤ sn
          · go_wp2
            go_roundw
            case rel => exact ⟨i + 1, true, by go_num, rfl, by omega, HN, hb3⟩
            case measure => simp [intOf]; omega
          · go_wp2
            go_roundw
            case rel => exact ⟨i + 1, true, by go_num, rfl, by omega, HN, hb3⟩
            case measure => simp [intOf]; omega
        | false =>
          by_cases hkl : k ≤ sn
          · have hf := HFR.out k (by rw [HSN.out]; exact hkl)
            have HS := Lib.hid (Wp.step (s := s) (a := a) (b := b) hik (by rw [HSN.out]; exact hkl) (fun h => by cases HV.out.2 h))
            have HA := Lib.hid (HMA.out i)
            have HB := Lib.hid (HMB.out k)
            generalize mt a (s.take i) = ra at *
            generalize mt b (s.drop k) = rb at *
            go_wp2_with fail
            refine (HA.out _).mono ?_
            rintro e w3 ⟨rfl, hd3⟩
            have hb4 := hb3.trans (hd3.below _)
            clear hb3 hd3
            cases ra with
            | true =>
              go_wp2_with fail
              refine (HB.out _).mono ?_
              rintro e w4 ⟨rfl, hd4⟩
              have hb5 := hb4.trans (hd4.below _)
              clear hb4 hd4
              go_wp2
              go_roundw
              case rel => exact ⟨k + 1, rb, by go_num, rfl, by omega, by omega, by simpa using HS, hb5⟩
              case measure => simp [intOf]; omega
            | false =>
              go_wp2
              go_roundw
              case rel => exact ⟨k + 1, false, by go_num, rfl, by omega, by omega, by simpa using HS, hb4⟩
              case measure => simp [intOf]; omega
          · have HN : Hid (false = true ↔ Wp s a b (i + 1) (i + 1)) := ⟨fun h => (by cases h), fun h => HV.out.2 (h.back (by rw [HSN.out]; omega))⟩
            go_wp2
            go_roundw
            case rel => exact ⟨i + 1, false, by go_num, rfl, by omega, HN, hb3⟩
            case measure => simp [intOf]; omega
    · have HE : Hid (v = R) := bool_iff (HW.out.trans ((Wp.end_ (by rw [HSN.out]; omega)).trans (by rw [HRR.out])))
      go_wp2_with fail
      refine (HMC.out _).mono ?_
      rintro e w3 ⟨rfl, hd3⟩
      have hb4 := hb2.trans (hd3.below _)
      have hvv : (R == v) = true := by rw [HE.out]; simp
      clear hb2 hd3
      go_wp2
      go_ret
      exact ⟨rfl, hb4⟩
end Go.Proofs.YtdlbghjclcdfmabDoor
