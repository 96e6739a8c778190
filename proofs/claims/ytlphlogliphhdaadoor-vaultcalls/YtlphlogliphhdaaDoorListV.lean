/- vault.List, walked. -/
import Derived.Test.YtlphlogliphhdaaDoorListW
namespace Go.Proofs.YtlphlogliphhdaaDoor
set_option linter.unusedVariables false
set_option linter.unusedSimpArgs false
open Go.RowKit Go.Maps
open Go.Proofs (encStr)

theorem hpfx (x : List UInt8) (PF : ByteArray) (W : World) : Calls Tryd.prog 36 #[encStr x, .string PF] W fun e w' => e = .returned (.bool (Lib.hasPrefix x PF.data.toList)) ∧ W = w' := by
  have := Tryd.strings_HasPrefix ⟨x.toArray⟩ PF W
  refine this.mono ?_
  rintro e w' ⟨rfl, rfl⟩
  exact ⟨by simp, rfl⟩

set_option maxRecDepth 100000 in
set_option maxHeartbeats 2000000 in
theorem list_any (p : Nat) (L : Things) (Pd : Nat → Prop) (PF : ByteArray) (w : World) (hv : Vt w Pd p L) (hnum : L.length ≤ 1000000) :
    Calls Tryd.prog 19 #[.pointer (some ⟨p, 0, none⟩), .string PF] w fun e w' => ∃ A n c, e = .returned (.slice A n c) ∧ n = (lst L PF.data.toList).length ∧ Own w' w.heap.size 9 A n c (Sv (lst L PF.data.toList)) ∧ Below w.heap.size w w' := by
  obtain ⟨i0, hi, hz0, hz1, hz2⟩ := info_parts info9
  obtain ⟨_, hfz, ⟨hc, _, hL0⟩ | ⟨b, D, hc, _, hPb, hm, he⟩⟩ := hv.cell
  · have HL : Hid (lst L PF.data.toList = []) := by show _ = _; rw [hL0]; simp [lst, nam]
    have hrg := run_range_nilMap (P := Tryd.prog) w 24 9 28 Tryd.underlying24
    have hnx : ∀ ty, (Instr.next (.pointer (some ⟨w.heap.size, 0, none⟩)) false ty).run Tryd.prog (w.alloc (.mapIter none 0 #[] 0)) = _ := fun ty => run_next_nilMap w ty 0 0 #[]
    have hba := below_alloc w (.mapIter none 0 #[] 0)
    have hso := sort_any none 0 0 w.heap.size [] (w.alloc (.mapIter none 0 #[] 0)) Own.nil_ (by simp) (by omega)
    clear hL0 hv hnum
    go_enter Tryd.func19, Tryd.ntmps19
    go_wp2
    refine wp_loop_rounds 1 ?_
    rw [rounds_succ]
    go_wp2_with fail
    refine hso.mono ?_
    rintro e w' ⟨rfl, ho', hb'⟩
    have HO := Lib.hid ho'
    have HB := Lib.hid (hba.trans hb')
    clear ho' hb' hba
    go_wp2
    go_ret
    exact ⟨none, 0, 0, rfl, by rw [HL.out]; rfl, by rw [HL.out]; exact Own.nil_, HB.out⟩
  · have hnp := nam_perm he hm
    have HNP := Lib.hid hnp
    have HNUM := Box.mk hnum
    have HSZ : Box (Maps.size D ≤ 1000000) := ⟨by rw [he.num]; exact hnum⟩
    have hblt := hm.lt
    clear hnum he hnp
    go_enter Tryd.func19, Tryd.ntmps19
    go_wp2_with (first | (at_range; refine wpList_range_own _ rfl _ 24 rfl 9 28 key9 Tryd.underlying24 _ b _ D rfl hm ?_; intro w0 hrg0 hg0 hs0))
    go_frame
    have hbw0 : Below w.heap.size w w0 := (Below.refl _ _).grown hg0 (Nat.le_refl _) (fun j hj => by cases hj)
    have HM := Lib.hid hm
    clear hm hg0 hc hfz hv
    go_loopw [5, 6] (fun v5 _ wr => ∃ (left : Lit → Bool) (cnt : Nat) (ss : List (List UInt8)) (k c : Nat) (A : Option Addr), v5 = .slice A k c ∧ Hid (k ≤ ss.length) ∧ Own wr (w.heap.size + 1) 9 A k c (Sv (ss.filter fun s => Lib.hasPrefix s PF.data.toList)) ∧ wr.ranges Tryd.prog 9 raw b w.heap.size (Maps.size D) D left cnt ∧ Hid (Collected D left ss) ∧ Below w.heap.size w wr ∧ Hid (w.heap.size + 1 ≤ wr.heap.size) ∧ Hid (ss.length + cnt ≤ Maps.size D)) (fun _ _ wr => wr.rangeLeft b w.heap.size)
    case atStart => exact ⟨_, _, [], 0, 0, none, rfl, Nat.le_refl _, Own.nil_, hrg0, Collected.start D, hbw0, by show _ ≤ _; omega, by show _ ≤ _; simp⟩
    case round =>
      obtain ⟨left, cnt, ss, k, c, A, rfl, HK, ho, hrg, HC, hbr, HS, HCN⟩ := hrel
      clear hrg0 hbw0 hs0
      go_wp2_with (first | (at_next; refine wpList_next_ranges _ rfl _ rfl 9 key9 raw encStr (fun v : Value => v) (fun key kl hkey => by obtain ⟨x, hx, _⟩ := Maps.keyOf_str Tryd.underlying9 hkey; exact ⟨x, hx⟩) (fun v y hv => ⟨v, rfl⟩) b w.heap.size _ D left cnt rfl hrg ?_ ?_))
      · intro hc0 hl0
        have hperm := (HC.out).perm HM.out key9 Tryd.underlying9 hl0
        have hpf : (ss.filter fun s => Lib.hasPrefix s PF.data.toList).Perm ((nam L).filter fun s => Lib.hasPrefix s PF.data.toList) := ((hperm.trans HNP.out.symm).filter _)
        have hms := mergeSort_of_perm hpf
        have hkl : (ss.filter fun s => Lib.hasPrefix s PF.data.toList).length = k := by have := ho.rd.1; rwa [Sv_length] at this
        have hk1 : k ≤ 1000000000000 := by have h1 := HK.out; have h2 := HCN.out; have h3 := HSZ.out; omega
        have hsort := sort_any A k c (w.heap.size + 1) _ wr ho HS.out hk1
        have HL : Hid (k = (lst L PF.data.toList).length) := by
          show _ = _
          unfold lst
          rw [← hms, List.length_mergeSort]; exact hkl.symm
        rw [hms] at hsort
        have HSO := Lib.hid hsort
        clear hsort hms hpf hperm ho hrg hc0 hl0 hkl hk1
        go_wp2_with fail
        refine HSO.out.mono ?_
        rintro e w' ⟨rfl, ho', hb'⟩
        have HO := Lib.hid (ho'.mono (Nat.le_succ _))
        have HB := Lib.hid (hbr.trans (hb'.mono (Nat.le_succ _)))
        clear ho' hb' hbr
        go_wp2
        go_ret
        exact ⟨A, k, c, rfl, HL.out, HO.out, HB.out⟩
      · intro x c2 kl yd yp w2 cnt2 hkey hlk hv2 hat hrg2 hlt hg2 hs2 hen
        obtain ⟨x', ex, rfl, _⟩ := Maps.keyOf_str Tryd.underlying9 hkey
        obtain rfl := encStr_inj ex
        have ho2 : Own w2 (w.heap.size + 1) 9 A k c (Sv (ss.filter fun s => Lib.hasPrefix s PF.data.toList)) := ho.kept hg2 (by
          cases hA : blk A with
          | none => exact .inl rfl
          | some g =>
            right
            intro e
            injection e with e
            have := (ho.lies g hA).1
            omega)
        have hb2 : Below w.heap.size w w2 := hbr.grown hg2 hbr.size (fun j hj => by injection hj with hj; omega)
        have HC2 := Lib.hid ((HC.out).step hlk hat)
        have HMEA : Hid (w2.rangeLeft b w.heap.size < wr.rangeLeft b w.heap.size) := by rw [hrg2.left_eq, hrg.left_eq]; exact hlt
        have HS2 : Hid (w.heap.size + 1 ≤ w2.heap.size) := by show _ ≤ _; have := HS.out; omega
        have HLT := Lib.hid hlt
        have hk1 : k + 1 ≤ 1000001 := by have h1 := HK.out; have h2 := HCN.out; have h3 := HSZ.out; omega
        have HHP := Lib.hid (hpfx x PF w2)
        clear hlk hat hkey hv2 ho hrg hbr hlt hg2 hs2 ex
        by_cases hp : Lib.hasPrefix x PF.data.toList = true
        · have HF : Hid ((ss ++ [x]).filter (fun s => Lib.hasPrefix s PF.data.toList) = ss.filter (fun s => Lib.hasPrefix s PF.data.toList) ++ [x]) := by show _ = _; simp [hp]
          rw [hp] at HHP
          obtain ⟨T, hve⟩ : ∃ T, encStr x = Value.string T := ⟨_, rfl⟩
          have hba := below_alloc w2 (.cells #[.string T] 9)
          have ho3 := ho2.alloc (.cells #[.string T] 9)
          have hrg3 := hrg2.alloc (.cells #[.string T] 9)
          have hb3 := hb2.trans (hba.mono hb2.size)
          have hrd := rd_oneV w2 (.string T) 9
          have h1c : ∀ u ∈ [Value.string T], u.oneCell' = true := by rw [← hve]; exact Sv_one [x]
          have hbase : w.heap.size + 1 ≤ (w2.alloc (.cells #[.string T] 9)).heap.size := by have := HS2.out; simp; omega
          have HMEA2 : Hid ((w2.alloc (.cells #[.string T] 9)).rangeLeft b w.heap.size = w2.rangeLeft b w.heap.size) := by show _ = _; rw [hrg3.left_eq, hrg2.left_eq]
          rw [hve] at HHP hen
          have HVE := Lib.hid hve
          clear hp ho2 hrg2 hb2 hba hve
          go_wp2_with fail
          refine HHP.out.mono ?_
          rintro e w' ⟨rfl, rfl⟩
          go_wp2_with (at_builtin; refine wpList_append_rd rfl _ _ 38 rfl i0 (.string .empty) 16 Tryd.underlying38 hi hz0 hz1 hz2 rfl rfl ho3 (some ⟨w2.heap.size, 0, none⟩) 1 1 [.string T] rfl hrd h1c ?d1 ?d2 ?d3 ?_)
          case d1 => unfold maxLen; omega
          case d2 => omega
          case d3 => exact hbase
          intro A' c' w' ho' hg'
          have hrow : ∀ j, blk A = some j → w.heap.size + 1 ≤ j := fun j hj => (ho3.lies j hj).1
          have hrg4 := hrg3.kept hg'.1 (by
            cases hA : blk A with
            | none => simp
            | some g => intro e; injection e with e; have := hrow g hA; omega) (by
            cases hA : blk A with
            | none => simp
            | some g => intro e; injection e with e; have := hrow g hA; omega)
          have hb4 : Below w.heap.size w w' := hb3.grown hg'.1 hb3.size (fun j hj => by have := hrow j hj; omega)
          have HO : Hid (Own w' (w.heap.size + 1) 9 A' (k + 1) c' (Sv ((ss ++ [x]).filter (fun s => Lib.hasPrefix s PF.data.toList)))) := by
            show Own _ _ _ _ _ _ _
            rw [HF.out, Sv_append]
            show Own _ _ _ _ _ _ (_ ++ [encStr x])
            rw [HVE.out]; exact ho'
          have HRG := Lib.hid hrg4
          have HB4 := Lib.hid hb4
          have HS4 : Hid (w.heap.size + 1 ≤ w'.heap.size) := by show _ ≤ _; have := hg'.size; omega
          have HM4 : Hid (w'.rangeLeft b w.heap.size = w2.rangeLeft b w.heap.size) := by show _ = _; rw [hrg4.left_eq, ← HMEA2.out, hrg3.left_eq]
          clear ho3 hrg3 hb3 hrd h1c hbase ho' hg' hrow hrg4 hb4
          go_wp2
          go_roundw
          case rel => exact ⟨_, cnt2, ss ++ [x], k + 1, c', A', rfl, by show _ ≤ _; have := HK.out; simp; omega, HO.out, HRG.out, HC2.out, HB4.out, HS4.out, by show _ ≤ _; have := HCN.out; have := HLT.out; simp; omega⟩
          case measure => rw [HM4.out]; exact HMEA.out
        · have hp2 : Lib.hasPrefix x PF.data.toList = false := by simpa using hp
          have HF : Hid ((ss ++ [x]).filter (fun s => Lib.hasPrefix s PF.data.toList) = ss.filter (fun s => Lib.hasPrefix s PF.data.toList)) := by show _ = _; simp [hp2]
          rw [hp2] at HHP
          have HO : Hid (Own w2 (w.heap.size + 1) 9 A k c (Sv ((ss ++ [x]).filter (fun s => Lib.hasPrefix s PF.data.toList)))) := by
            show Own _ _ _ _ _ _ _
            rw [HF.out]; exact ho2
          have HRG := Lib.hid hrg2
          have HB := Lib.hid hb2
          clear hp hp2 ho2 hrg2 hb2
          go_wp2_with fail
          refine HHP.out.mono ?_
          rintro e w' ⟨rfl, rfl⟩
          go_wp2
          go_roundw
          case rel => exact ⟨_, cnt2, ss ++ [x], k, c, A, rfl, by show _ ≤ _; have := HK.out; simp; omega, HO.out, HRG.out, HC2.out, HB.out, HS2.out, by show _ ≤ _; have := HCN.out; have := HLT.out; simp; omega⟩
          case measure => exact HMEA.out
end Go.Proofs.YtlphlogliphhdaaDoor
