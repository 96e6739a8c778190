/- The reference's Put. -/
import Derived.Test.YtlphlogliphhdaaDoorTg
namespace Go.Proofs.YtlphlogliphhdaaDoor
set_option linter.unusedVariables false
set_option linter.unusedSimpArgs false
open Go.RowKit Go.Maps

/-- In its place. -/
def ins (R : Things) (S : ByteArray) (xs : List Int) : Things := R.take (kk R S) ++ (S, xs) :: R.drop (kk R S)
def rput (R : Things) (S : ByteArray) (xs : List Int) : Things × Int :=
  match R[kk R S]? with
  | some q => if q.1 = S then (R, if q.2 = xs then 0 else 7) else (ins R S xs, 0)
  | none => (ins R S xs, 0)
theorem info71 : (Tryd.prog.info? 71).map (fun i => (i.zero, i.size, i.bytes)) = some (some (.agg #[.string .empty, .slice none 0 0]), 2, 40) := by kernel_rfl
theorem elem27 : Tryd.prog.underlying 27 = some (.slice (Tryd.prog.elem 27)) := by kernel_rfl
theorem elem27' : Tryd.prog.elem 27 = 71 := by kernel_rfl
theorem slice_h27 (A : Option Addr) (n c h : Nat) (h1 : h ≤ c) (W : World) : (Instr.slice 27 (.slice A n c) none (some (.int .i64 (h : Int))) none).run Tryd.prog W = .ok (.slice A h c) W := by
  rw [run_slice_h (P := Tryd.prog) W 27 A n c elem27 .i64 h (by omega) (by omega), elem27', Tryd.sizeOf71]
  simp only [sliced, Result.andThen, Nat.zero_mul, add_zero', ite_self, Int.toNat_natCast]; rfl
/-- What stands from a place on. -/
theorem Tg.rest {w : World} {Pd : Nat → Prop} {A : Option Addr} {n c l : Nat} {R : Things} {vs : List Value} (h : Tg w Pd A n R vs) (hl : l ≤ n) (hc : n ≤ c) :
    ∃ A2, (∀ W : World, (Instr.slice 27 (.slice A n c) (some (.int .i64 (l : Int))) none none).run Tryd.prog W = .ok (.slice A2 (n - l) (c - l)) W) ∧ (A2 = none ∨ ∃ b off, A2 = some ⟨b, off, none⟩) ∧ RdW 2 w Pd A2 (n - l) ((fl R vs).drop (l * 2)) := by
  have hlen : ((fl R vs).drop (l * 2)).length = (n - l) * 2 := by rw [List.length_drop, h.row.1]; omega
  have run : ∀ W : World, (Instr.slice 27 (.slice A n c) (some (.int .i64 (l : Int))) none none).run Tryd.prog W = .ok (sliced A l n c 2) W := fun W => by
    rw [run_slice_l (P := Tryd.prog) W 27 A n c elem27 .i64 l (by omega) (by omega), elem27', Tryd.sizeOf71]
    simp only [Result.andThen, Int.toNat_natCast]
  rcases h.sh with rfl | ⟨b, off, rfl⟩
  · refine ⟨none, fun W => by rw [run W]; simp [sliced], .inl rfl, hlen, fun h0 => ?_⟩
    obtain ⟨_, _, hA, _⟩ := h.row.2 (by omega)
    cases hA
  · by_cases e : c = l
    · refine ⟨some ⟨b, off, none⟩, fun W => by rw [run W]; simp [sliced, e], .inr ⟨b, off, rfl⟩, hlen, fun h0 => absurd h0 (by omega)⟩
    · refine ⟨some ⟨b, off + l * 2, none⟩, fun W => by rw [run W]; simp only [sliced, Option.map_some, add_off]; rw [if_neg e], .inr ⟨_, _, rfl⟩, hlen, fun h0 => ?_⟩
      obtain ⟨b', off', hA, hP, hlt, hcl⟩ := h.row.2 (by omega)
      injection hA with hA
      injection hA with e1 e2
      subst e1; subst e2
      refine ⟨b, off + l * 2, rfl, hP, hlt, fun j u hu => ?_⟩
      rw [List.getElem?_drop] at hu
      rw [Nat.add_assoc]; exact hcl _ u hu
theorem Tg.first {w : World} {Pd : Nat → Prop} {A : Option Addr} {n k : Nat} {R : Things} {vs : List Value} (h : Tg w Pd A n R vs) (hk : k ≤ n) : RdW 2 w Pd A k ((fl R vs).take (k * 2)) := by
  refine ⟨by rw [List.length_take, h.row.1]; omega, fun h0 => ?_⟩
  obtain ⟨b, off, hA, hP, hlt, hc⟩ := h.row.2 (by omega)
  refine ⟨b, off, hA, hP, hlt, fun j u hu => hc j u ?_⟩
  rw [List.getElem?_take] at hu
  split at hu
  · exact hu
  · cases hu
theorem RdW.keepB {s : Nat} {w w' : World} {Pd : Nat → Prop} {A : Option Addr} {n : Nat} {us : List Value} (h : RdW s w Pd A n us) (hb : Below w.heap.size w w') : RdW s w' Pd A n us := by
  refine ⟨h.1, fun hn => ?_⟩
  obtain ⟨b, off, hA, hP, hlt, hc⟩ := h.2 hn
  exact ⟨b, off, hA, hP, Nat.lt_of_lt_of_le hlt hb.size, fun j u hu => by rw [hb.cell (p := ⟨b, off + j, none⟩) hlt]; exact hc j u hu⟩

theorem rput_tg {w w7 : World} {Pd : Nat → Prop} {A B A7 B' : Option Addr} {n m c7 d' k b3 : Nat} {R : Things} {vs : List Value} {S : ByteArray} {xs : List Int} (hR : Tg w Pd A n R vs) (hb : Bs w B m xs) (hK : kk R S = k) (hk : k ≤ n)
    (ho : OwnK 2 w7 w.heap.size 71 A7 (k + 1 + (n - k)) c7 ((fl R vs).take (k * 2) ++ [.string S, .slice B' m d'] ++ (fl R vs).drop (k * 2))) (hoc : Own w7 b3 5 B' m d' (By xs)) (hbel : Below w.heap.size w w7) (hb3 : w.heap.size ≤ b3) (hnew : ∀ i, w.heap.size ≤ i → Pd i) :
    Tg w7 Pd A7 (k + 1 + (n - k)) (ins R S xs) (vs.take k ++ [.slice B' m d'] ++ vs.drop k) := by
  have hR7 := hR.below hbel
  have hml : xs.length = m := hb.len
  have e1 : (vs.take k).length = (R.take k).length := by rw [List.length_take, List.length_take, hR.len, hR.vlen]
  have e2 : fl (ins R S xs) (vs.take k ++ [.slice B' m d'] ++ vs.drop k) = (fl R vs).take (k * 2) ++ [.string S, .slice B' m d'] ++ (fl R vs).drop (k * 2) := by
    unfold ins
    rw [hK, List.append_assoc, fl_app e1, fl_take (by rw [hR.len, hR.vlen])]
    show _ ++ (fl ((S, xs) :: R.drop k) (.slice B' m d' :: vs.drop k)) = _
    simp only [fl]
    rw [fl_drop (by rw [hR.len, hR.vlen])]
    simp
  refine ⟨?_, ?_, ⟨?_, fun h0 => ?_⟩, ?_, fun i T ys hi => ?_, fun v hv => ?_⟩
  · unfold ins; rw [hK]; simp [List.length_take, List.length_drop, hR.len]; omega
  · simp [List.length_take, List.length_drop, hR.vlen]; omega
  · rw [e2]; exact ho.len
  · obtain ⟨g, hA, hg, hlt, hc⟩ := ho.cells h0
    refine ⟨g, 0, hA, hnew g hg, hlt, fun j u hu => ?_⟩
    rw [Nat.zero_add]
    rw [e2] at hu
    exact hc j u hu
  · obtain ⟨g, hA, _⟩ := ho.cells (by omega)
    exact .inr ⟨g, 0, hA⟩
  · unfold ins at hi
    rw [hK] at hi
    have lk : (R.take k).length = k := by rw [List.length_take, hR.len]; omega
    have lv : (vs.take k).length = k := by rw [List.length_take, hR.vlen]; omega
    rcases Nat.lt_trichotomy i k with h | h | h
    · rw [List.getElem?_append_left (by omega), List.getElem?_take, if_pos h] at hi
      obtain ⟨B2, d2, hv, hb2⟩ := hR7.dat i T ys hi
      refine ⟨B2, d2, ?_, hb2⟩
      rw [List.append_assoc, List.getElem?_append_left (by omega), List.getElem?_take, if_pos h]; exact hv
    · subst h
      rw [List.getElem?_append_right (by omega), lk, Nat.sub_self] at hi
      simp at hi
      obtain ⟨rfl, rfl⟩ := hi
      refine ⟨B', d', ?_, ?_⟩
      · rw [List.append_assoc, List.getElem?_append_right (by omega), lv, Nat.sub_self, hml]; rfl
      · rw [hml]
        refine ⟨⟨(hoc.rd).1, fun hn => ?_⟩, hb.2⟩
        obtain ⟨g, cap, hv, hgl, hglt⟩ := World.ownsRow.form hoc hn
        have hBg : B' = some ⟨g, 0, none⟩ := by injection hv
        subst hBg
        obtain ⟨b', off', hA, _, hc⟩ := hoc.rd.2 hn
        injection hA with hA
        injection hA with q1 q2
        subst q1; subst q2
        exact ⟨g, 0, rfl, hnew g (by have := (hoc.lies g rfl).1; omega), hc⟩
    · rw [List.getElem?_append_right (by omega), lk, show i - k = (i - k - 1) + 1 by omega, List.getElem?_cons_succ, List.getElem?_drop, show k + (i - k - 1) = i - 1 by omega] at hi
      obtain ⟨B2, d2, hv, hb2⟩ := hR7.dat (i - 1) T ys hi
      refine ⟨B2, d2, ?_, hb2⟩
      rw [List.append_assoc, List.getElem?_append_right (by omega), lv, show i - k = (i - k - 1) + 1 by omega]
      show ((vs.drop k))[i - k - 1]? = _
      rw [List.getElem?_drop, show k + (i - k - 1) = i - 1 by omega]; exact hv
  · simp only [List.mem_append, List.mem_singleton] at hv
    rcases hv with (hv | rfl) | hv
    · exact hR.sls v (List.mem_of_mem_take hv)
    · exact ⟨_, _, _, rfl⟩
    · exact hR.sls v (List.mem_of_mem_drop hv)

set_option maxRecDepth 100000 in
set_option maxHeartbeats 2000000 in
theorem rput_any (A B : Option Addr) (n c m d : Nat) (R : Things) (vs : List Value) (S : ByteArray) (xs : List Int) (Pd : Nat → Prop) (w : World) (hR : Tg w Pd A n R vs) (hc : n ≤ c) (hn : n ≤ 1000000) (hb : Bs w B m xs) (hm : m ≤ 140737488355328) (hL : ∀ q ∈ R, q.2.length ≤ 140737488355328)
    (hnew : ∀ i, w.heap.size ≤ i → Pd i) :
    Calls Tryd.prog 9 #[.slice A n c, .string S, .slice B m d] w fun e w' => ∃ A' n' c' f vs', e = .returned (.tuple #[.slice A' n' c', .int .i64 f]) ∧ Tg w' Pd A' n' (rput R S xs).1 vs' ∧ n' ≤ c' ∧ f = (rput R S xs).2 ∧ Below w.heap.size w w' := by
  obtain ⟨i8, hi8, hy0, hy1, hy2⟩ := info_parts info71
  have hlen := hR.len
  have HLN := Lib.hid hlen
  have HRG := Lib.hid hR
  have HHL := Lib.hid hL
  have HNEW := Lib.hid hnew
  have HHM := Box.mk hm
  have HKL : Hid (kk R S ≤ n) := by show _ ≤ _; have := kk_le R S; omega
  clear hlen hL hnew hm
  go_enter Tryd.func9, Tryd.ntmps9
  go_wp2
  go_loopw [8] (fun v wr => ∃ k : Nat, v = .int .i64 (k : Int) ∧ k ≤ n ∧ w = wr ∧ Hid (kk R S = k + kk (R.drop k) S)) (fun v _ => n - (intOf v).toNat)
  case atStart => exact ⟨0, rfl, Nat.zero_le _, rfl, by show _ = _; simp⟩
  case round =>
    obtain ⟨k, rfl, hk, rfl, HK⟩ := hrel
    by_cases hlt : k < n
    · obtain ⟨b, off, T, ys, C, e, hA, hc0, hc1, hbs, HQ⟩ := hR.at_ hlt
      subst hA
      by_cases hless : slt T S = true
      · have hl : Op.bytesLess T.toList S.toList = true := hless
        have HK2 := Lib.hid (kk_next HK.out HQ.out hless)
        clear hless hR HK hbs hb
        go_wp2
        go_roundw
        case rel => exact ⟨k + 1, by go_num, by omega, by first | trivial | rfl, HK2⟩
        case measure => simp [intOf]; omega
      · have hl0 : slt T S = false := by
          cases h : slt T S with
          | false => rfl
          | true => exact absurd h hless
        have hl : Op.bytesLess T.toList S.toList = false := hl0
        have HKE : Hid (kk R S = k) := kk_stop HK.out HQ.out hl0
        clear hl0
        clear hless HK
        by_cases heq : T = S
        · subst heq
          have hse : (T.toList == T.toList) = true := by simp
          have hyl : ys.length ≤ maxLen := by
            have := HHL.out _ (List.mem_of_getElem? HQ.out)
            unfold maxLen; simp only at this; omega
          have hq := equal_any C B ys.length m e d ys xs w hbs.bs hb hyl (by have := HHM.out; unfold maxLen; omega)
          have HF : Hid (rput R T xs = (R, if ys = xs then 0 else 7)) := by
            show _ = _
            unfold rput
            rw [HKE.out, HQ.out]; simp
          rw [cmpL_eq_zero] at hq
          have HQQ := Lib.hid hq
          clear hR hbs hb hq hyl HKE HQ HHL HHM
          by_cases hxy : ys = xs
          · rw [show decide (ys = xs) = true by simp [hxy]] at HQQ
            rw [if_pos hxy] at HF
            clear hxy
            go_wp2_with fail
            refine HQQ.out.mono ?_
            rintro e w' ⟨rfl, hd⟩
            have HB := Lib.hid (hd.below w.heap.size)
            clear hd
            go_wp2
            go_ret2
            exact ⟨_, n, c, 0, vs, rfl, by rw [HF.out]; exact HRG.out.below HB.out, hc, by rw [HF.out], HB.out⟩
          · rw [show decide (ys = xs) = false by simp [hxy]] at HQQ
            rw [if_neg hxy] at HF
            clear hxy
            go_wp2_with fail
            refine HQQ.out.mono ?_
            rintro e w' ⟨rfl, hd⟩
            have HB := Lib.hid (hd.below w.heap.size)
            clear hd
            go_wp2
            go_ret2
            exact ⟨_, n, c, 7, vs, rfl, by rw [HF.out]; exact HRG.out.below HB.out, hc, by rw [HF.out], HB.out⟩
        · have hse : (T.toList == S.toList) = false := by
            have : ¬ T.toList = S.toList := fun h => heq (by
              rw [ByteArray.toList_eq, ByteArray.toList_eq] at h
              exact ByteArray.ext (Array.toList_inj.1 h))
            simpa using this
          have HF : Hid (rput R S xs = (ins R S xs, 0)) := by
            show _ = _
            unfold rput
            rw [HKE.out, HQ.out]; simp [heq]
          clear heq
          have hsl := slice_h27 (some ⟨b, off, none⟩) n c k (by omega)
          obtain ⟨A2, hsr, hA2, hrw⟩ := HRG.out.rest (l := k) hk hc
          have hown0 : OwnK 2 (w.alloc (.cells #[] 71)) w.heap.size 71 (some ⟨w.heap.size, 0, none⟩) 0 0 [] := World.ownsRow_made (e := 71) (size := 2) w #[] 0 (Nat.le_refl _) (Nat.zero_le _) rfl
          have hba := below_alloc w (.cells #[] 71)
          have hfw := (HRG.out.first hk).keepB hba
          have hsh := HRG.out.sh
          have HRW := Lib.hid hrw
          have HBB := Lib.hid hb
          have hones : ∀ u ∈ (fl R vs).take (k * 2), u.oneCell' = true := fun u hu => fl_one HRG.out.sls u (List.mem_of_mem_take hu)
          clear hR hb hrw
          go_wp2_with (at_builtin; refine wpList_append_rw rfl _ _ 27 rfl i8 (.agg #[.string .empty, .slice none 0 0]) 40 Tryd.underlying27 hi8 hy0 hy1 hy2 rfl (by decide) rfl hown0 Pd (some ⟨b, off, none⟩) k c _ rfl hfw hsh hones ?a1 ?a2 ?a3 ?_)
          case a1 => unfold maxLen; omega
          case a2 => omega
          case a3 => simp
          intro A3 c3 w3 ho3 hg3
          have hb3 : Below w.heap.size w w3 := hba.trans (hg3.below (by simp) (fun j hj => (hown0.lies j hj).1))
          have HB3 := Lib.hid hb3
          have hbb3 := HBB.out.keep hb3
          try rw [Nat.zero_add, List.nil_append] at ho3
          clear hown0 hfw hsh hones hg3 hba hb3 hsl
          go_wp2_with fail
          refine (copy_any B m d xs w3 hbb3 HHM.out).mono ?_
          rintro e w4 ⟨B', d', rfl, hoc, hb4⟩
          have ho4 := ho3.keep hb4
          have HB4 : Hid (Below w.heap.size w w4) := HB3.out.trans (hb4.mono HB3.out.size)
          have ho5 := ho4.alloc (.cells #[.string S, .slice B' m d'] 71)
          have hh5 := heap_alloc_new w4 (.cells #[.string S, .slice B' m d'] 71)
          have hba5 := below_alloc w4 (.cells #[.string S, .slice B' m d'] 71)
          have hcells : ∀ j u, [Value.string S, Value.slice B' m d'][j]? = some u → (w4.alloc (.cells #[.string S, .slice B' m d'] 71)).cell? ⟨w4.heap.size, 0 + j, none⟩ = some u := fun j u hu => by
            rw [Nat.zero_add, cell_of_row _ _ j _ _ _ hh5]
            simpa using hu
          have hones5 : ∀ u ∈ [Value.string S, Value.slice B' m d'], u.oneCell' = true := by
            intro u hu
            simp at hu
            rcases hu with rfl | rfl <;> rfl
          have hsz5 : w.heap.size ≤ (w4.alloc (.cells #[.string S, .slice B' m d'] 71)).heap.size := by have := HB4.out.size; simp; omega
          have HOC := Lib.hid (hoc.below hba5 (fun j hj => (hoc.lies j hj).2))
          have HB5 : Hid (Below w.heap.size w (w4.alloc (.cells #[.string S, .slice B' m d'] 71))) := HB4.out.trans (hba5.mono HB4.out.size)
          have HCL : Hid (∀ j, blk B' = some j → w.heap.size ≤ j ∧ j < w4.heap.size) := fun j hj => ⟨Nat.le_trans HB3.out.size (hoc.lies j hj).1, (hoc.lies j hj).2⟩
          clear ho3 ho4 hbb3 hoc hb4 hh5 hba5
          go_wp2_with (at_builtin; refine wpList_append_wide rfl _ _ 27 rfl i8 (.agg #[.string .empty, .slice none 0 0]) 40 Tryd.underlying27 hi8 hy0 hy1 hy2 rfl (by decide) rfl ho5 w4.heap.size 0 1 1 [.string S, .slice B' m d'] rfl rfl hcells hones5 ?b1 ?b2 ?b3 ?_)
          case b1 => unfold maxLen; omega
          case b2 => omega
          case b3 => exact hsz5
          intro A6 c6 w6 ho6 hg6
          have hlies5 := ho5.lies
          have hneB : ∀ j, blk B' = some j → blk A3 ≠ some j := fun j hj => by
            rcases HOC.out.2 with ⟨hv, _⟩ | ⟨g, cap, cur, hv, _, hh, _⟩
            · have : B' = none := by injection hv
              rw [this] at hj; cases hj
            · have hBg : B' = some ⟨g, 0, none⟩ := by injection hv
              rw [hBg] at hj
              have : g = j := by injection hj
              subst this
              exact ho5.ne_blk hh (by decide)
          have HOC6 : Hid (Own w6 w3.heap.size 5 B' m d' (By xs)) := HOC.out.kept hg6.1 (by
            cases hB : blk B' with
            | none => exact .inl rfl
            | some j => exact .inr (fun e => hneB j hB e.symm))
          have HB6 : Hid (Below w.heap.size w w6) := HB5.out.trans (hg6.below hsz5 (fun j hj => (hlies5 j hj).1))
          have hrw6 := HRW.out.keepB HB6.out
          have hones6 : ∀ u ∈ (fl R vs).drop (k * 2), u.oneCell' = true := fun u hu => fl_one HRG.out.sls u (List.mem_of_mem_drop hu)
          have hsz6 := HB6.out.size
          clear ho5 hcells hones5 hsz5 hg6 hlies5 hneB HOC HB5
          go_wp2_with (at_builtin; refine wpList_append_rw rfl _ _ 27 rfl i8 (.agg #[.string .empty, .slice none 0 0]) 40 Tryd.underlying27 hi8 hy0 hy1 hy2 rfl (by decide) rfl ho6 Pd A2 (n - k) (c - k) _ rfl hrw6 hA2 hones6 ?c1 ?c2 ?c3 ?_)
          case c1 => unfold maxLen; omega
          case c2 => omega
          case c3 => exact hsz6
          intro A7 c7 w7 ho7 hg7
          have hlies6 := ho6.lies
          have hneB : ∀ j, blk B' = some j → blk A6 ≠ some j := fun j hj => by
            rcases HOC6.out.2 with ⟨hv, _⟩ | ⟨g, cap, cur, hv, _, hh, _⟩
            · have : B' = none := by injection hv
              rw [this] at hj; cases hj
            · have hBg : B' = some ⟨g, 0, none⟩ := by injection hv
              rw [hBg] at hj
              have : g = j := by injection hj
              subst this
              exact ho6.ne_blk hh (by decide)
          have HOC7 : Hid (Own w7 w3.heap.size 5 B' m d' (By xs)) := HOC6.out.kept hg7.1 (by
            cases hB : blk B' with
            | none => exact .inl rfl
            | some j => exact .inr (fun e => hneB j hB e.symm))
          have HB7 : Hid (Below w.heap.size w w7) := HB6.out.trans (hg7.below hsz6 (fun j hj => (hlies6 j hj).1))
          have HCAP := Lib.hid ho7.cap
          have HTG : Hid (Tg w7 Pd A7 (k + 1 + (n - k)) (ins R S xs) (vs.take k ++ [.slice B' m d'] ++ vs.drop k)) := rput_tg HRG.out HBB.out HKE.out hk (by rw [List.append_assoc]; exact ho7) HOC7.out HB7.out HB3.out.size HNEW.out
          clear ho6 hg7 hlies6 hneB hrw6 hones6 hsz6 ho7 HOC6
          go_wp2
          go_ret2
          exact ⟨A7, _, c7, 0, _, rfl, by rw [HF.out]; exact HTG.out, HCAP.out, by rw [HF.out], HB7.out⟩
    · obtain rfl : k = n := by omega
      have HKE : Hid (kk R S = k) := kk_end HK.out (by rw [HLN.out])
      have HF : Hid (rput R S xs = (ins R S xs, 0)) := by
        show _ = _
        unfold rput
        rw [HKE.out, List.getElem?_eq_none (by rw [HLN.out]; exact Nat.le_refl _)]
      clear hlt HK
      have hsl := slice_h27 A k c k (by omega)
      obtain ⟨A2, hsr, hA2, hrw⟩ := HRG.out.rest (l := k) hk hc
      rw [Nat.sub_self] at hrw
      simp only [Nat.sub_self] at hsr
      have hown0 : OwnK 2 (w.alloc (.cells #[] 71)) w.heap.size 71 (some ⟨w.heap.size, 0, none⟩) 0 0 [] := World.ownsRow_made (e := 71) (size := 2) w #[] 0 (Nat.le_refl _) (Nat.zero_le _) rfl
      have hba := below_alloc w (.cells #[] 71)
      have hfw := (HRG.out.first hk).keepB hba
      have hsh := HRG.out.sh
      have HRW := Lib.hid hrw
      have HBB := Lib.hid hb
      have hones : ∀ u ∈ (fl R vs).take (k * 2), u.oneCell' = true := fun u hu => fl_one HRG.out.sls u (List.mem_of_mem_take hu)
      clear hR hb hrw
      go_wp2_with (at_builtin; refine wpList_append_rw rfl _ _ 27 rfl i8 (.agg #[.string .empty, .slice none 0 0]) 40 Tryd.underlying27 hi8 hy0 hy1 hy2 rfl (by decide) rfl hown0 Pd A k c _ rfl hfw hsh hones ?a1 ?a2 ?a3 ?_)
      case a1 => unfold maxLen; omega
      case a2 => omega
      case a3 => simp
      intro A3 c3 w3 ho3 hg3
      have hb3 : Below w.heap.size w w3 := hba.trans (hg3.below (by simp) (fun j hj => (hown0.lies j hj).1))
      have HB3 := Lib.hid hb3
      have hbb3 := HBB.out.keep hb3
      try rw [Nat.zero_add, List.nil_append] at ho3
      clear hown0 hfw hsh hones hg3 hba hb3 hsl
      go_wp2_with fail
      refine (copy_any B m d xs w3 hbb3 HHM.out).mono ?_
      rintro e w4 ⟨B', d', rfl, hoc, hb4⟩
      have ho4 := ho3.keep hb4
      have HB4 : Hid (Below w.heap.size w w4) := HB3.out.trans (hb4.mono HB3.out.size)
      have ho5 := ho4.alloc (.cells #[.string S, .slice B' m d'] 71)
      have hh5 := heap_alloc_new w4 (.cells #[.string S, .slice B' m d'] 71)
      have hba5 := below_alloc w4 (.cells #[.string S, .slice B' m d'] 71)
      have hcells : ∀ j u, [Value.string S, Value.slice B' m d'][j]? = some u → (w4.alloc (.cells #[.string S, .slice B' m d'] 71)).cell? ⟨w4.heap.size, 0 + j, none⟩ = some u := fun j u hu => by
        rw [Nat.zero_add, cell_of_row _ _ j _ _ _ hh5]
        simpa using hu
      have hones5 : ∀ u ∈ [Value.string S, Value.slice B' m d'], u.oneCell' = true := by
        intro u hu
        simp at hu
        rcases hu with rfl | rfl <;> rfl
      have hsz5 : w.heap.size ≤ (w4.alloc (.cells #[.string S, .slice B' m d'] 71)).heap.size := by have := HB4.out.size; simp; omega
      have HOC := Lib.hid (hoc.below hba5 (fun j hj => (hoc.lies j hj).2))
      have HB5 : Hid (Below w.heap.size w (w4.alloc (.cells #[.string S, .slice B' m d'] 71))) := HB4.out.trans (hba5.mono HB4.out.size)
      have HCL : Hid (∀ j, blk B' = some j → w.heap.size ≤ j ∧ j < w4.heap.size) := fun j hj => ⟨Nat.le_trans HB3.out.size (hoc.lies j hj).1, (hoc.lies j hj).2⟩
      clear ho3 ho4 hbb3 hoc hb4 hh5 hba5
      go_wp2_with (at_builtin; refine wpList_append_wide rfl _ _ 27 rfl i8 (.agg #[.string .empty, .slice none 0 0]) 40 Tryd.underlying27 hi8 hy0 hy1 hy2 rfl (by decide) rfl ho5 w4.heap.size 0 1 1 [.string S, .slice B' m d'] rfl rfl hcells hones5 ?b1 ?b2 ?b3 ?_)
      case b1 => unfold maxLen; omega
      case b2 => omega
      case b3 => exact hsz5
      intro A6 c6 w6 ho6 hg6
      have hlies5 := ho5.lies
      have hneB : ∀ j, blk B' = some j → blk A3 ≠ some j := fun j hj => by
        rcases HOC.out.2 with ⟨hv, _⟩ | ⟨g, cap, cur, hv, _, hh, _⟩
        · have : B' = none := by injection hv
          rw [this] at hj; cases hj
        · have hBg : B' = some ⟨g, 0, none⟩ := by injection hv
          rw [hBg] at hj
          have : g = j := by injection hj
          subst this
          exact ho5.ne_blk hh (by decide)
      have HOC6 : Hid (Own w6 w3.heap.size 5 B' m d' (By xs)) := HOC.out.kept hg6.1 (by
        cases hB : blk B' with
        | none => exact .inl rfl
        | some j => exact .inr (fun e => hneB j hB e.symm))
      have HB6 : Hid (Below w.heap.size w w6) := HB5.out.trans (hg6.below hsz5 (fun j hj => (hlies5 j hj).1))
      have hrw6 := HRW.out.keepB HB6.out
      have hones6 : ∀ u ∈ (fl R vs).drop (k * 2), u.oneCell' = true := fun u hu => fl_one HRG.out.sls u (List.mem_of_mem_drop hu)
      have hsz6 := HB6.out.size
      clear ho5 hcells hones5 hsz5 hg6 hlies5 hneB HOC HB5
      go_wp2_with (at_builtin; refine wpList_append_rw rfl _ _ 27 rfl i8 (.agg #[.string .empty, .slice none 0 0]) 40 Tryd.underlying27 hi8 hy0 hy1 hy2 rfl (by decide) rfl ho6 Pd A2 0 (c - k) _ rfl hrw6 hA2 hones6 ?c1 ?c2 ?c3 ?_)
      case c1 => unfold maxLen; omega
      case c2 => omega
      case c3 => exact hsz6
      intro A7 c7 w7 ho7 hg7
      have hlies6 := ho6.lies
      have hneB : ∀ j, blk B' = some j → blk A6 ≠ some j := fun j hj => by
        rcases HOC6.out.2 with ⟨hv, _⟩ | ⟨g, cap, cur, hv, _, hh, _⟩
        · have : B' = none := by injection hv
          rw [this] at hj; cases hj
        · have hBg : B' = some ⟨g, 0, none⟩ := by injection hv
          rw [hBg] at hj
          have : g = j := by injection hj
          subst this
          exact ho6.ne_blk hh (by decide)
      have HOC7 : Hid (Own w7 w3.heap.size 5 B' m d' (By xs)) := HOC6.out.kept hg7.1 (by
        cases hB : blk B' with
        | none => exact .inl rfl
        | some j => exact .inr (fun e => hneB j hB e.symm))
      have HB7 : Hid (Below w.heap.size w w7) := HB6.out.trans (hg7.below hsz6 (fun j hj => (hlies6 j hj).1))
      have HCAP := Lib.hid ho7.cap
      have HTG : Hid (Tg w7 Pd A7 (k + 1) (ins R S xs) (vs.take k ++ [.slice B' m d'] ++ vs.drop k)) := by
        have h := rput_tg HRG.out HBB.out HKE.out hk (by rw [List.append_assoc, Nat.sub_self]; exact ho7) HOC7.out HB7.out HB3.out.size HNEW.out
        rw [Nat.sub_self] at h; exact h
      clear ho6 hg7 hlies6 hneB hrw6 hones6 hsz6 ho7 HOC6
      go_wp2
      go_ret2
      exact ⟨A7, _, c7, 0, _, rfl, by rw [HF.out]; exact HTG.out, HCAP.out, by rw [HF.out], HB7.out⟩
end Go.Proofs.YtlphlogliphhdaaDoor
