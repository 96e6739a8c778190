/- The reference's List; same. -/
import Derived.Test.YtlphlogliphhdaaDoorRPutW
namespace Go.Proofs.YtlphlogliphhdaaDoor
set_option linter.unusedVariables false
set_option linter.unusedSimpArgs false
open Go.RowKit Go.Maps
open Go.Proofs (encStr)

def rlst (R : Things) (pf : List UInt8) : List (List UInt8) := (nam R).filter fun s => Lib.hasPrefix s pf
theorem nam_take {R : Things} {k : Nat} {T : ByteArray} {xs : List Int} (h : R[k]? = some (T, xs)) : nam (R.take (k + 1)) = nam (R.take k) ++ [T.data.toList] := by
  unfold nam
  rw [List.take_add_one, h]; simp

theorem ext_pfx (T PF : ByteArray) (h : PF.size ≤ T.size) : ((T.extract 0 PF.size).toList == PF.toList) = Lib.hasPrefix T.data.toList PF.data.toList := by
  rw [ByteArray.toList_eq, ByteArray.toList_eq, ← Lib.hasPrefix_of_take, ByteArray.data_extract, Array.toList_extract]
  have e1 : PF.data.toList.length = PF.size := Array.length_toList
  have e2 : T.data.toList.length = T.size := Array.length_toList
  rw [e1, e2]
  simp [h, List.extract]
theorem pfx_size {T PF : ByteArray} (h : Lib.hasPrefix T.data.toList PF.data.toList = true) : PF.size ≤ T.size := by
  rw [← Lib.hasPrefix_of_take, Bool.and_eq_true, decide_eq_true_eq] at h
  have e1 : PF.data.toList.length = PF.size := Array.length_toList
  have e2 : T.data.toList.length = T.size := Array.length_toList
  omega
set_option maxRecDepth 100000 in
set_option maxHeartbeats 2000000 in
theorem rlist_any (A : Option Addr) (n c : Nat) (R : Things) (vs : List Value) (PF : ByteArray) (Pd : Nat → Prop) (w : World) (hR : Tg w Pd A n R vs) (hn : n ≤ 1000000) :
    Calls Tryd.prog 20 #[.slice A n c, .string PF] w fun e w' => ∃ A' n' c', e = .returned (.slice A' n' c') ∧ n' = (rlst R PF.data.toList).length ∧ Own w' w.heap.size 9 A' n' c' (Sv (rlst R PF.data.toList)) ∧ Below w.heap.size w w' := by
  obtain ⟨i0, hi, hz0, hz1, hz2⟩ := info_parts info9
  have HLN := Lib.hid hR.len
  have HRG := Lib.hid hR
  clear hR
  go_enter Tryd.func20, Tryd.ntmps20
  go_wp2
  go_loopw [5, 6] (fun v5 v6 wr => ∃ (k m d : Nat) (B : Option Addr), v5 = .slice B m d ∧ v6 = .int .i64 (k : Int) ∧ k ≤ n ∧ Hid (m ≤ k) ∧ Own wr w.heap.size 9 B m d (Sv ((nam (R.take k)).filter fun s => Lib.hasPrefix s PF.data.toList)) ∧ Below w.heap.size w wr) (fun _ v _ => n - (intOf v).toNat)
  case atStart => exact ⟨0, 0, 0, none, rfl, rfl, Nat.zero_le _, Nat.le_refl _, Own.nil_, Below.refl _ _⟩
  case round =>
    obtain ⟨k, m, d, B, rfl, rfl, hk, HM, ho, hb⟩ := hrel
    by_cases hlt : k < n
    · obtain ⟨b, off, T, ys, C, e, hA, hc0, hc1, hbs, HQ⟩ := (HRG.out.below hb).at_ hlt
      subst hA
      have HTK := Lib.hid (nam_take HQ.out)
      by_cases hp : Lib.hasPrefix T.data.toList PF.data.toList = true
      · have hsz : PF.size ≤ T.size := pfx_size hp
        have hszi : (PF.size : Int) ≤ (T.size : Int) := by omega
        have hpe := ext_pfx T PF hsz
        rw [hp] at hpe
        have HF : Hid ((nam (R.take (k + 1))).filter (fun s => Lib.hasPrefix s PF.data.toList) = (nam (R.take k)).filter (fun s => Lib.hasPrefix s PF.data.toList) ++ [T.data.toList]) := by show _ = _; rw [HTK.out]; simp [hp]
        have hba := below_alloc wr (.cells #[.string T] 9)
        have ho1 := ho.alloc (.cells #[.string T] 9)
        have hb1 := hb.trans (hba.mono hb.size)
        have hrd := rd_oneV wr (.string T) 9
        have hcB := hc0
        have h1c : ∀ u ∈ [Value.string T], u.oneCell' = true := by intro u hu; obtain rfl := List.mem_singleton.1 hu; rfl
        have hm : m ≤ 1000000 := by have := HM.out; omega
        have hbase := hb1.size
        clear hp ho hb hba hsz hbs hc1
        go_wp2_with (at_builtin; refine wpList_append_rd rfl _ _ 38 rfl i0 (.string .empty) 16 Tryd.underlying38 hi hz0 hz1 hz2 rfl rfl ho1 (some ⟨wr.heap.size, 0, none⟩) 1 1 [.string T] rfl hrd h1c ?d1 ?d2 ?d3 ?_)
        case d1 => unfold maxLen; omega
        case d2 => omega
        case d3 => exact hbase
        intro B' d' w3 ho3 hg3
        have hlies := ho1.lies
        have hb3 : Below w.heap.size w w3 := hb1.trans (hg3.below hbase (fun j hj => (hlies j hj).1))
        have HO3 : Hid (Own w3 w.heap.size 9 B' (m + 1) d' (Sv ((nam (R.take (k + 1))).filter fun s => Lib.hasPrefix s PF.data.toList))) := by
          show Own _ _ _ _ _ _ _
          rw [HF.out, Sv_append]; exact ho3
        have HB3 := Lib.hid hb3
        clear ho1 hrd h1c hbase ho3 hg3 hlies hb3 hb1 hc0 hcB
        go_wp2
        go_roundw
        case rel => exact ⟨k + 1, m + 1, d', B', rfl, by go_num, by omega, by show _ ≤ _; have := HM.out; omega, HO3.out, HB3.out⟩
        case measure => simp [intOf]; omega
      · have hp2 : Lib.hasPrefix T.data.toList PF.data.toList = false := by simpa using hp
        have HO : Hid (Own wr w.heap.size 9 B m d (Sv ((nam (R.take (k + 1))).filter fun s => Lib.hasPrefix s PF.data.toList))) := by
          show Own _ _ _ _ _ _ _
          rw [HTK.out]
          simpa [hp2] using ho
        have HB := Lib.hid hb
        by_cases hsz : PF.size ≤ T.size
        · have hszi : (PF.size : Int) ≤ (T.size : Int) := by omega
          have hpe := ext_pfx T PF hsz
          rw [hp2] at hpe
          clear hp hp2 ho hb hsz hbs hc1
          go_wp2
          go_roundw
          case rel => exact ⟨k + 1, m, d, B, rfl, by go_num, by omega, by show _ ≤ _; have := HM.out; omega, HO.out, HB.out⟩
          case measure => simp [intOf]; omega
        · have hszi : ¬ (PF.size : Int) ≤ (T.size : Int) := by omega
          clear hp hp2 ho hb hsz hbs hc1
          go_wp2
          go_roundw
          case rel => exact ⟨k + 1, m, d, B, rfl, by go_num, by omega, by show _ ≤ _; have := HM.out; omega, HO.out, HB.out⟩
          case measure => simp [intOf]; omega
    · obtain rfl : k = n := by omega
      rw [List.take_of_length_le (by rw [HLN.out]; exact Nat.le_refl _)] at ho
      have HO : Hid (Own wr w.heap.size 9 B m d (Sv (rlst R PF.data.toList))) := ho
      have HL : Hid (m = (rlst R PF.data.toList).length) := by
        show _ = _
        have := ho.rd.1
        rw [Sv_length] at this; exact this.symm
      have HB := Lib.hid hb
      clear ho hb
      go_wp2
      go_ret
      exact ⟨B, m, d, rfl, HL.out, HO.out, HB.out⟩
end Go.Proofs.YtlphlogliphhdaaDoor
