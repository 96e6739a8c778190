/- The reference's Lose. -/
import Derived.Test.YtlphlogliphhdaaDoorRPutW
import Derived.Test.YtlphlogliphhdaaDoorCmp
import Derived.Test.YtlphlogliphhdaaDoorRGetW
import Derived.Test.YtlphlogliphhdaaDoorLoseW
namespace Go.Proofs.YtlphlogliphhdaaDoor
set_option linter.unusedVariables false
set_option linter.unusedSimpArgs false
open Go.RowKit Go.Maps

theorem lt_cell {w : World} {a : Addr} {v : Value} (h : w.cell? a = some v) : a.block < w.heap.size := by
  rcases Nat.lt_or_ge a.block w.heap.size with hl | hl
  · exact hl
  · unfold World.cell? at h
    simp only [Array.getElem?_eq_none hl] at h
    cases h
/-- What lies beside the names. -/
structure Cp (w : World) (Pd : Nat → Prop) (R : Things) (vs : List Value) : Prop where
  len : vs.length = R.length
  dat : ∀ (i : Nat) (S : ByteArray) (xs : List Int), R[i]? = some (S, xs) → ∃ B d, vs[i]? = some (.slice B xs.length d) ∧ BsP w Pd B xs.length xs
  sls : ∀ v ∈ vs, ∃ A n c, v = .slice A n c
theorem Cp.nil_ {w : World} {Pd : Nat → Prop} : Cp w Pd [] [] := ⟨rfl, fun i S xs h => by simp at h, fun v h => by simp at h⟩
theorem Cp.snoc {w : World} {Pd : Nat → Prop} {R : Things} {vs : List Value} (h : Cp w Pd R vs) {S : ByteArray} {xs : List Int} {B : Option Addr} {d : Nat} (hb : BsP w Pd B xs.length xs) : Cp w Pd (R ++ [(S, xs)]) (vs ++ [.slice B xs.length d]) := by
  refine ⟨by simp [h.len], fun i T ys hi => ?_, fun v hv => ?_⟩
  · rcases Nat.lt_or_ge i R.length with hl | hl
    · rw [List.getElem?_append_left hl] at hi
      obtain ⟨B2, d2, hv, hb2⟩ := h.dat i T ys hi
      exact ⟨B2, d2, by rw [List.getElem?_append_left (by rw [h.len]; exact hl)]; exact hv, hb2⟩
    · rw [List.getElem?_append_right hl] at hi
      have h0 : i - R.length = 0 := by
        rcases Nat.eq_zero_or_pos (i - R.length) with h | h
        · exact h
        · rw [List.getElem?_eq_none (by simp; omega)] at hi; cases hi
      rw [h0] at hi
      simp at hi
      obtain ⟨rfl, rfl⟩ := hi
      refine ⟨B, d, ?_, hb⟩
      rw [List.getElem?_append_right (by rw [h.len]; exact hl), h.len, h0]; rfl
  · rcases List.mem_append.1 hv with hv | hv
    · exact h.sls v hv
    · simp at hv; subst hv; exact ⟨_, _, _, rfl⟩
def isin (ss : List ByteArray) (T : ByteArray) : Bool := ss.any fun s => decide (s = T)
theorem isin_take {ss : List ByteArray} {j : Nat} {S T : ByteArray} (h : ss[j]? = some S) : isin (ss.take (j + 1)) T = (isin (ss.take j) T || decide (S = T)) := by
  unfold isin
  rw [List.take_add_one, h, List.any_append]; simp
theorem los_row {R : Things} {ss : List ByteArray} {k : Nat} {T : ByteArray} {ys : List Int} (h : R[k]? = some (T, ys)) : los (R.take (k + 1)) ss = los (R.take k) ss ++ (if isin ss T then [] else [(T, ys)]) := by
  unfold los
  rw [List.take_add_one, h, List.filter_append]
  congr 1
  show List.filter _ [(T, ys)] = _
  unfold isin
  cases hh : ss.any fun s => decide (s = T) <;> simp [List.filter, hh]
theorem Tg.of_own {w w' : World} {Pd : Nat → Prop} {base n c : Nat} {A : Option Addr} {R : Things} {vs : List Value} (ho : OwnK 2 w' base 71 A n c (fl R vs)) (hc : Cp w Pd R vs) (hb : Below w.heap.size w w') (hn : R.length = n) (hnew : ∀ i, base ≤ i → Pd i) : Tg w' Pd A n R vs := by
  refine ⟨hn, hc.len.trans hn, ⟨ho.len, fun h0 => ?_⟩, ?_, fun i S xs hi => ?_, hc.sls⟩
  · obtain ⟨g, hA, hg, hlt, hcl⟩ := ho.cells h0
    exact ⟨g, 0, hA, hnew g hg, hlt, fun j u hu => by rw [Nat.zero_add]; exact hcl j u hu⟩
  · rcases ho.2 with ⟨hv, _⟩ | ⟨g, cap, cur, hv, _⟩
    · exact .inl (by injection hv)
    · exact .inr ⟨g, 0, by injection hv⟩
  · obtain ⟨B, d, hv, hbs⟩ := hc.dat i S xs hi
    exact ⟨B, d, hv, hbs.keepL fun b hlt _ => hb.block b hlt⟩

set_option maxRecDepth 100000 in
set_option maxHeartbeats 4000000 in
theorem rlose_any (A A2 : Option Addr) (n c m c2 : Nat) (R : Things) (vs : List Value) (ss : List ByteArray) (Pd : Nat → Prop) (w : World) (hR : Tg w Pd A n R vs) (hs : Rd w A2 m (St ss)) (hn : n ≤ 1000000) (hm : m ≤ 1000000) (hnew : ∀ i, w.heap.size ≤ i → Pd i) :
    Calls Tryd.prog 12 #[.slice A n c, .slice A2 m c2] w fun e w' => ∃ A' n' c' vs', e = .returned (.slice A' n' c') ∧ Tg w' Pd A' n' (los R ss) vs' ∧ n' ≤ c' ∧ Below w.heap.size w w' := by
  obtain ⟨i8, hi8, hy0, hy1, hy2⟩ := info_parts info71
  have HLN := Lib.hid hR.len
  have HLS : Hid (ss.length = m) := by show _ = _; have := hs.1; simpa [St] using this
  have HRG := Lib.hid hR
  have HRD := Lib.hid hs
  have HNEW := Lib.hid hnew
  clear hR hs hnew
  go_enter Tryd.func12, Tryd.ntmps12
  go_wp2
  go_loopw [5, 6] (fun v5 v6 wr => ∃ (k l d : Nat) (B : Option Addr) (us : List Value), v5 = .slice B l d ∧ v6 = .int .i64 (k : Int) ∧ k ≤ n ∧ Hid (l ≤ k) ∧ Hid ((los (R.take k) ss).length = l) ∧ Hid (OwnK 2 wr w.heap.size 71 B l d (fl (los (R.take k) ss) us)) ∧ Hid (Cp w Pd (los (R.take k) ss) us) ∧ Hid (Below w.heap.size w wr)) (fun _ v _ => n - (intOf v).toNat)
  case atStart => exact ⟨0, 0, 0, none, [], rfl, rfl, Nat.zero_le _, Nat.le_refl _, by show _ = _; simp [los], OwnK.nil_, Cp.nil_, Below.refl _ _⟩
  case round =>
    obtain ⟨k, l, d, B, us, rfl, rfl, hk, HL, HLE, HO, HC, HB⟩ := hrel
    by_cases hlt : k < n
    · obtain ⟨b, off, T, ys, C, e, hA, hc0, hc1, hbs, HQ⟩ := (HRG.out.below HB.out).at_ hlt
      subst hA
      have HBS : Hid (BsP w Pd C ys.length ys) := by
        obtain ⟨b', off', T', ys', C', e', hA', hc0', hc1', hbs', HQ'⟩ := HRG.out.at_ hlt
        have h1 := HQ.out
        rw [HQ'.out] at h1
        injection h1 with h1
        injection h1 with h1 h2
        subst h1; subst h2
        injection hA' with hA'
        injection hA' with q1 q2
        subst q1; subst q2
        obtain ⟨_, _, _, hlt0, _⟩ := HRG.out.row.2 (by omega)
        have h3 : wr.cell? ⟨b, off + k * 2 + 1, none⟩ = some (.slice C' ys'.length e') := by
          rw [HB.out.cell (p := ⟨b, off + k * 2 + 1, none⟩) (lt_cell hc1')]; exact hc1'
        rw [hc1] at h3
        injection h3 with h3
        injection h3 with h3 _ _
        subst h3
        exact hbs'
      clear hbs
      go_wp2
      go_loopw [7, 8] (fun v7 v8 wr' => ∃ j q : Nat, v7 = .bool (isin (ss.take j) T) ∧ v8 = .int .i64 (j : Int) ∧ j ≤ m ∧ wr' = wr.drewN q) (fun _ v _ => m - (intOf v).toNat)
      case atStart => exact ⟨0, 0, rfl, rfl, Nat.zero_le _, rfl⟩
      case round =>
        obtain ⟨j, q, rfl, rfl, hj, rfl⟩ := hrel
        have hc0' : (wr.drewN q).cell? ⟨b, off + k * 2, none⟩ = some (.string T) := hc0
        have hc1' : (wr.drewN q).cell? ⟨b, off + k * 2 + 1, none⟩ = some (.slice C ys.length e) := hc1
        by_cases hlt2 : j < m
        · obtain ⟨b2, off2, S, hA2, hd0, HS⟩ := St_at (HRD.out.keep HB.out) hlt2
          subst hA2
          have hd0' : (wr.drewN q).cell? ⟨b2, off2 + j, none⟩ = some (.string S) := hd0
          have HT := Lib.hid (isin_take (T := T) HS.out)
          cases hin : isin (ss.take j) T with
          | true =>
            rw [hin] at HT
            have HT2 : Hid (isin (ss.take (j + 1)) T = true) := by show _ = _; rw [HT.out]; rfl
            clear HT hin
            go_wp2
            go_quiet (fail)
            go_wp2
            go_roundw
            case rel => exact ⟨j + 1, _, by rw [HT2.out], by go_num, by omega, rfl⟩
            case measure => simp [intOf]; omega
          | false =>
            rw [hin] at HT
            by_cases hST : S = T
            · subst hST
              have hse : (S.toList == S.toList) = true := by simp
              have HT2 : Hid (isin (ss.take (j + 1)) S = true) := by show _ = _; rw [HT.out]; simp
              clear HT hin
              go_wp2
              go_quiet (fail)
              go_wp2
              go_roundw
              case rel => exact ⟨j + 1, _, by rw [HT2.out], by go_num, by omega, rfl⟩
              case measure => simp [intOf]; omega
            · have hse := eqs_f hST
              have HT2 : Hid (isin (ss.take (j + 1)) T = false) := by show _ = _; rw [HT.out]; simp [hST]
              clear HT hin hST
              go_wp2
              go_quiet (fail)
              go_wp2
              go_roundw
              case rel => exact ⟨j + 1, _, by rw [HT2.out], by go_num, by omega, rfl⟩
              case measure => simp [intOf]; omega
        · obtain rfl : j = m := by omega
          rw [List.take_of_length_le (show ss.length ≤ j by rw [HLS.out]; exact Nat.le_refl _)]
          have HROW := Lib.hid (los_row (ss := ss) HQ.out)
          have HB2 : Hid (Below w.heap.size w (wr.drewN q)) := below_n HB.out q
          have HO2 : Hid (OwnK 2 (wr.drewN q) w.heap.size 71 B l d (fl (los (R.take k) ss) us)) := HO.out
          clear hc0 hc1
          cases hin : isin ss T with
          | true =>
            have HE : Hid (los (R.take (k + 1)) ss = los (R.take k) ss) := by show _ = _; rw [HROW.out, hin]; simp
            clear HROW hin
            go_wp2
            go_roundw
            case rel => exact ⟨k + 1, l, d, B, us, rfl, by go_num, by omega, by show _ ≤ _; have := HL.out; omega, by rw [HE.out]; exact HLE.out, by rw [HE.out]; exact HO2.out, by rw [HE.out]; exact HC.out, HB2.out⟩
            case measure => simp [intOf]; omega
          | false =>
            have HE : Hid (los (R.take (k + 1)) ss = los (R.take k) ss ++ [(T, ys)]) := by show _ = _; rw [HROW.out, hin]; simp
            clear HROW hin
            have ho5 := HO2.out.alloc (.cells #[.string T, .slice C ys.length e] 71)
            have hh5 := heap_alloc_new (wr.drewN q) (.cells #[.string T, .slice C ys.length e] 71)
            have hba5 := below_alloc (wr.drewN q) (.cells #[.string T, .slice C ys.length e] 71)
            have hcells : ∀ j u, [Value.string T, Value.slice C ys.length e][j]? = some u → ((wr.drewN q).alloc (.cells #[.string T, .slice C ys.length e] 71)).cell? ⟨(wr.drewN q).heap.size, 0 + j, none⟩ = some u := fun j u hu => by
              rw [Nat.zero_add, cell_of_row _ _ j _ _ _ hh5]
              simpa using hu
            have hones5 : ∀ u ∈ [Value.string T, Value.slice C ys.length e], u.oneCell' = true := by
              intro u hu
              simp at hu
              rcases hu with rfl | rfl <;> rfl
            have hsz5 : w.heap.size ≤ ((wr.drewN q).alloc (.cells #[.string T, .slice C ys.length e] 71)).heap.size := by have := HB.out.size; simp; omega
            have HB5 : Hid (Below w.heap.size w ((wr.drewN q).alloc (.cells #[.string T, .slice C ys.length e] 71))) := HB2.out.trans (hba5.mono HB2.out.size)
            have hl := HL.out
            clear hh5 hba5
            go_wp2_with (at_builtin; refine wpList_append_wide rfl _ _ 27 rfl i8 (.agg #[.string .empty, .slice none 0 0]) 40 Tryd.underlying27 hi8 hy0 hy1 hy2 rfl (by decide) rfl ho5 (wr.drewN q).heap.size 0 1 1 [.string T, .slice C ys.length e] rfl rfl hcells hones5 ?b1 ?b2 ?b3 ?_)
            case b1 => unfold maxLen; omega
            case b2 => omega
            case b3 => exact hsz5
            intro A6 c6 w6 ho6 hg6
            have hlies5 := ho5.lies
            have HB6 : Hid (Below w.heap.size w w6) := HB5.out.trans (hg6.below hsz5 (fun j hj => (hlies5 j hj).1))
            have HO6 : Hid (OwnK 2 w6 w.heap.size 71 A6 (l + 1) c6 (fl (los (R.take (k + 1)) ss) (us ++ [.slice C ys.length e]))) := by
              show OwnK _ _ _ _ _ _ _ _
              rw [HE.out, fl_app HC.out.len]; exact ho6
            have HC6 : Hid (Cp w Pd (los (R.take (k + 1)) ss) (us ++ [.slice C ys.length e])) := by
              show Cp _ _ _ _
              rw [HE.out]; exact HC.out.snoc HBS.out
            have HL6 : Hid ((los (R.take (k + 1)) ss).length = l + 1) := by
              show _ = _
              rw [HE.out, List.length_append, HLE.out]; rfl
            clear ho5 hcells hones5 hsz5 hg6 hlies5 ho6
            go_wp2
            go_roundw
            case rel => exact ⟨k + 1, l + 1, c6, A6, _, rfl, by go_num, by omega, by show _ ≤ _; omega, HL6.out, HO6.out, HC6.out, HB6.out⟩
            case measure => simp [intOf]; omega
    · obtain rfl : k = n := by omega
      have hT : R.take k = R := List.take_of_length_le (by rw [HLN.out]; exact Nat.le_refl _)
      rw [hT] at HLE HO HC
      have HTG : Hid (Tg wr Pd B l (los R ss) us) := Tg.of_own HO.out HC.out HB.out HLE.out HNEW.out
      have HCAP := Lib.hid HO.out.cap
      clear hT HO HC
      go_wp2
      go_ret
      exact ⟨B, l, d, us, rfl, HTG.out, HCAP.out, HB.out⟩
end Go.Proofs.YtlphlogliphhdaaDoor
