/- The reference's Match. -/
import Derived.Test.YtdlbghjclcdfmaaDoorBoW
import Derived.Test.YtdlbghjclcdfmaaDoorMatchW
import Derived.BigRegion
namespace Go.Proofs.YtdlbghjclcdfmaaDoor
set_option linter.unusedVariables false
set_option linter.unusedSimpArgs false
open Go.RowKit

theorem wrap_i64 (x : Int) (h0 : -9223372036854775808 ≤ x) (h1 : x ≤ 9223372036854775807) : IntKind.i64.wrap x = x := by
  simp [IntKind.wrap, IntKind.bits, IntKind.signed]
  omega
theorem idx49 (b n c k : Nat) (i : Int) (hi : i = (k : Int)) (h : k < n) (W : World) : (Instr.indexAt 49 (.slice (some ⟨b, 0, none⟩) n c) (.int .i64 i)).run Tryd.prog W = .ok (.pointer (some ⟨b, k, none⟩)) W := by
  subst hi
  have h1 : Tryd.prog.underlying 49 = some (.slice (Tryd.prog.elem 49)) := by kernel_rfl
  have h3 : Tryd.prog.elem 49 = 4 := by kernel_rfl
  rw [run_indexAt_slice W 49 ⟨b, 0, none⟩ n c .i64 k h1, h3, Tryd.sizeOf4, if_pos (by omega)]
  simp [Result.andThen, Addr.add]
  try omega
theorem info4 : (Tryd.prog.info? 4).map (fun i => (i.zero, i.size, i.bytes)) = some (some (.bool false), 1, 1) := by kernel_rfl
set_option maxRecDepth 100000 in
set_option maxHeartbeats 1500000 in
theorem rmatch_any (s p : List Int) (w : World) (hrs : Ran s) (hrp : Ran p) (hls : s.length ≤ 1000000) (hlp : p.length ≤ 1000000) :
    Calls Tryd.prog 17 #[.string (strOfNums s), .string (strOfNums p)] w fun e w' => e = .returned (.bool (mt p s)) ∧ Below w.heap.size w w' := by
  obtain ⟨i0, hi, hz0, hz1, hz2⟩ := info_parts info4
  have hsz : (strOfNums s).size = s.length := strOfNums_size s
  have hpz : (strOfNums p).size = p.length := strOfNums_size p
  have HIS := Lib.hid (fun (i : Nat) (x : Int) (hx : s[i]? = some x) (h0 : 0 ≤ x) (h1 : x ≤ 255) (W : World) => str_index (P := Tryd.prog) 9 Tryd.underlying9 s i x hx h0 h1 W)
  have HIP := Lib.hid (fun (i : Nat) (x : Int) (hx : p[i]? = some x) (h0 : 0 ≤ x) (h1 : x ≤ 255) (W : World) => str_index (P := Tryd.prog) 9 Tryd.underlying9 p i x hx h0 h1 W)
  have HRS := Lib.hid hrs; have HRP := Lib.hid hrp; clear hrs hrp
  obtain ⟨R, hR⟩ : ∃ R, mt p s = R := ⟨_, rfl⟩
  rw [hR]
  have HRR := Lib.hid hR; clear hR
  generalize strOfNums s = S at *
  generalize strOfNums p = P at *
  obtain ⟨sn, hsn⟩ : ∃ m, s.length = m := ⟨_, rfl⟩
  obtain ⟨pn, hpn⟩ : ∃ m, p.length = m := ⟨_, rfl⟩
  rw [hsn] at hsz hls
  rw [hpn] at hpz hlp
  have HSN := Lib.hid hsn; have HPN := Lib.hid hpn; clear hsn hpn
  have hmk := fun W => run_make_bools (P := Tryd.prog) 49 4 i0 Tryd.underlying49 hi hz0 hz1 hz2 ((pn : Int) + 1) (pn + 1) (by omega) (by omega) W
  have HOW : Hid (∀ W : World, Own (W.alloc (.cells (zerBA (pn + 1)) 4)) W.heap.size 4 (some ⟨W.heap.size, 0, none⟩) (pn + 1) (pn + 1) (Bo (List.replicate (pn + 1) false))) := fun W => by
    rw [← zerB_eq]
    exact Own.of_block (heap_alloc_new W _) (Nat.le_refl _) (by simp [zerB]) (by unfold maxLen; omega)
  have HUP : Hid (∀ q : List Int, mt [] q = false → Upto p q (List.replicate (pn + 1) false) 0) := fun q hq => ⟨by simp [HPN.out], fun t ht => by
    obtain rfl : t = 0 := by omega
    simp [hq]⟩
  have ho0 := HOW.out w
  have hb0 := below_alloc w (.cells (zerBA (pn + 1)) 4)
  have hc0 : (w.alloc (.cells (zerBA (pn + 1)) 4)).cell? ⟨w.heap.size, 0, none⟩ = some (.bool false) := ho0.cellB (by simp)
  have hf0 : (w.alloc (.cells (zerBA (pn + 1)) 4)).frozen? ⟨w.heap.size, 0, none⟩ = false := ho0.frozenAt 0
  have ho1 := ho0.putB (k := 0) true
  have hb1 : Below w.heap.size w ((w.alloc (.cells (zerBA (pn + 1)) 4)).setCell ⟨w.heap.size, 0, none⟩ (.bool true)) := hb0.setCell (by simp) _
  have HU0 : Hid (Upto p [] ((List.replicate (pn + 1) false).set 0 true) 0) := ⟨by simp [HPN.out], fun t ht => by
    obtain rfl : t = 0 := by omega
    rw [List.getElem?_set_self (by simp)]; simp [mt]⟩
  have he1 : (w.alloc (.cells (zerBA (pn + 1)) 4)).setCell ⟨w.heap.size, 0, none⟩ (.bool true) = w.alloc (.cells ((zerBA (pn + 1)).setIfInBounds 0 (.bool true)) 4) := World.setCell_alloc_new ..
  rw [he1] at ho1 hb1
  clear ho0 hb0 he1
  go_enter Tryd.func17, Tryd.ntmps17
  go_wp2
  go_loopw [6] (fun jv wr => ∃ (k : Nat) (bs : List Bool), jv = .int .i64 ((k : Int) + 1) ∧ k ≤ pn ∧ Own wr w.heap.size 4 (some ⟨w.heap.size, 0, none⟩) (pn + 1) (pn + 1) (Bo bs) ∧ Hid (Upto p [] bs k) ∧ Below w.heap.size w wr) (fun jv _ => pn + 1 - (intOf jv).toNat)
  case atStart => exact ⟨0, _, rfl, by omega, ho1, HU0, hb1⟩
  case round =>
    obtain ⟨k, bs, rfl, hk, ho, HU, hbr⟩ := hrel
    have HBL := Lib.hid ho.lenB
    clear hc0 hf0 ho1 hb1 HU0
    by_cases hlt : k < pn
    · have hpl : k < p.length := by rw [HPN.out]; exact hlt
      have hy := HRP.out p[k] (List.getElem_mem hpl)
      have HY := Lib.hid (List.getElem?_eq_getElem hpl)
      have j1 := HIP.out k p[k] HY.out hy.1 hy.2
      generalize p[k] = x at *
      obtain ⟨hy0, hy1⟩ := hy
      obtain ⟨u, hu⟩ : ∃ u, mt (p.take k) [] = u := ⟨_, rfl⟩
      have HUU := Lib.hid hu; clear hu
      have hcu : wr.cell? ⟨w.heap.size, k, none⟩ = some (.bool u) := ho.cellB (by rw [HU.out.2 k (Nat.le_refl k), HUU.out])
      obtain ⟨u2, hu2⟩ : ∃ u2, bs[k + 1]? = some u2 := ⟨_, List.getElem?_eq_getElem (by rw [HBL.out]; omega)⟩
      have hcv : wr.cell? ⟨w.heap.size, k + 1, none⟩ = some (.bool u2) := ho.cellB hu2
      have hfz : wr.frozen? ⟨w.heap.size, k + 1, none⟩ = false := ho.frozenAt (k + 1)
      clear hu2
      have HOP := Lib.hid (fun v : Bool => ho.putB (k := k + 1) v)
      have HBE : Hid (∀ v : Bool, Below w.heap.size w (wr.setCell ⟨w.heap.size, k + 1, none⟩ (.bool v))) := fun v => hbr.setCell (by simp) _
      have HUS := Lib.hid (fun (v : Bool) (hv : mt (p.take (k + 1)) [] = v) => HU.out.set (show k < p.length by rw [HPN.out]; exact hlt) hv)
      clear ho hbr
      by_cases g1 : x = 42
      · subst g1
        cases u
        · skip
          have HV := Lib.hid (show mt (p.take (k + 1)) [] = false by rw [take_get HY.out, mt_snoc_star_nil, HUU.out])
          go_wp2
          go_roundw
          case rel => exact ⟨k + 1, _, by go_num, by omega, HOP.out false, HUS.out _ HV.out, HBE.out false⟩
          case measure => simp [intOf]; omega
        · skip
          have HV := Lib.hid (show mt (p.take (k + 1)) [] = true by rw [take_get HY.out, mt_snoc_star_nil, HUU.out])
          go_wp2
          go_roundw
          case rel => exact ⟨k + 1, _, by go_num, by omega, HOP.out true, HUS.out _ HV.out, HBE.out true⟩
          case measure => simp [intOf]; omega
      · have k1 : (x == 42) = false := by simpa using g1
        have HV0 := Lib.hid (show mt (p.take (k + 1)) [] = false by rw [take_get HY.out, mt_snoc_lit_nil g1])
        clear g1
        cases u
        · skip
          have HV := Lib.hid (show mt (p.take (k + 1)) [] = false by exact HV0.out)
          go_wp2
          go_roundw
          case rel => exact ⟨k + 1, _, by go_num, by omega, HOP.out false, HUS.out _ HV.out, HBE.out false⟩
          case measure => simp [intOf]; omega
        · skip
          have HV := Lib.hid (show mt (p.take (k + 1)) [] = false by exact HV0.out)
          go_wp2
          go_roundw
          case rel => exact ⟨k + 1, _, by go_num, by omega, HOP.out false, HUS.out _ HV.out, HBE.out false⟩
          case measure => simp [intOf]; omega
    · obtain rfl : k = pn := by omega
      have HE := Lib.hid (show bs = dp p (s.take 0) by
        rw [List.take_zero]
        exact dp_of HU.out.1 (fun t ht => HU.out.2 t (by rw [HPN.out] at ht; exact ht)))
      have ho' : Own wr w.heap.size 4 (some ⟨w.heap.size, 0, none⟩) (k + 1) (k + 1) (Bo (dp p (s.take 0))) := by rw [← HE.out]; exact ho
      clear ho HE HU HBL hlt
      go_wp2
      go_loopw [5, 7] (fun rv iv wr2 => ∃ (i g : Nat), iv = .int .i64 i ∧ rv = .slice (some ⟨g, 0, none⟩) (k + 1) (k + 1) ∧ i ≤ sn ∧ g < wr2.heap.size ∧ Own wr2 w.heap.size 4 (some ⟨g, 0, none⟩) (k + 1) (k + 1) (Bo (dp p (s.take i))) ∧ Below w.heap.size w wr2) (fun _ iv _ => sn - (intOf iv).toNat)
      case atStart => exact ⟨0, w.heap.size, rfl, rfl, by omega, (ho'.lies _ rfl).2, ho', hbr⟩
      case round =>
        obtain ⟨i, g, rfl, rfl, hi2, hg, hor, hb2⟩ := hrel
        clear ho' hbr
        rename World => wr2
        by_cases hlt : i < sn
        · have hkl : i < s.length := by rw [HSN.out]; exact hlt
          have hx := HRS.out s[i] (List.getElem_mem hkl)
          have HX := Lib.hid (List.getElem?_eq_getElem hkl)
          have j0 := HIS.out i s[i] HX.out hx.1 hx.2
          generalize s[i] = c at *
          obtain ⟨hx0, hx1⟩ := hx
          have hon := (HOW.out wr2).mono (b := w.heap.size) hb2.size
          have hor2 := hor.alloc (.cells (zerBA (k + 1)) 4)
          have hb3 := hb2.trans ((below_alloc wr2 (.cells (zerBA (k + 1)) 4)).mono hb2.size)
          have HU3 := Lib.hid (HUP.out (s.take (i + 1)) (by rw [take_get HX.out]; exact mt_nil_snoc _ _))
          have hbs := hb2.size
          clear hor hb2
          go_wp2
          go_loopw [9] (fun jv wr3 => ∃ (m : Nat) (nb : List Bool), jv = .int .i64 ((m : Int) + 1) ∧ m ≤ k ∧ Own wr3 w.heap.size 4 (some ⟨g, 0, none⟩) (k + 1) (k + 1) (Bo (dp p (s.take i))) ∧ Own wr3 w.heap.size 4 (some ⟨wr2.heap.size, 0, none⟩) (k + 1) (k + 1) (Bo nb) ∧ Hid (Upto p (s.take (i + 1)) nb m) ∧ Below w.heap.size w wr3) (fun jv _ => k + 1 - (intOf jv).toNat)
          case atStart => exact ⟨0, _, rfl, by omega, hor2, hon, HU3, hb3⟩
          case round =>
            obtain ⟨m, nb, rfl, hm, hor, hon', HU, hb4⟩ := hrel
            clear hor2 hon hb3 HU3
            rename World => wr3
            have HBL := Lib.hid hon'.lenB
            by_cases hml : m < k
            · have hpl : m < p.length := by rw [HPN.out]; exact hml
              have hy := HRP.out p[m] (List.getElem_mem hpl)
              have HY := Lib.hid (List.getElem?_eq_getElem hpl)
              have j1 := HIP.out m p[m] HY.out hy.1 hy.2
              generalize p[m] = x at *
              obtain ⟨hy0, hy1⟩ := hy
              obtain ⟨r0, hr0⟩ : ∃ u, mt (p.take m) (s.take i) = u := ⟨_, rfl⟩
              obtain ⟨r1, hr1⟩ : ∃ u, mt (p.take (m + 1)) (s.take i) = u := ⟨_, rfl⟩
              obtain ⟨n0, hn0⟩ : ∃ u, mt (p.take m) (s.take (i + 1)) = u := ⟨_, rfl⟩
              have HR0 := Lib.hid hr0; have HR1 := Lib.hid hr1; have HN0 := Lib.hid hn0
              clear hr0 hr1 hn0
              have hcr0 : wr3.cell? ⟨g, m, none⟩ = some (.bool r0) := hor.cellB (by rw [dp_get (by rw [HPN.out]; omega), HR0.out])
              have hcr1 : wr3.cell? ⟨g, m + 1, none⟩ = some (.bool r1) := hor.cellB (by rw [dp_get (by rw [HPN.out]; omega), HR1.out])
              have hcn0 : wr3.cell? ⟨wr2.heap.size, m, none⟩ = some (.bool n0) := hon'.cellB (by rw [HU.out.2 m (Nat.le_refl m), HN0.out])
              obtain ⟨u2, hu2⟩ : ∃ u2, nb[m + 1]? = some u2 := ⟨_, List.getElem?_eq_getElem (by rw [HBL.out]; omega)⟩
              have hcv : wr3.cell? ⟨wr2.heap.size, m + 1, none⟩ = some (.bool u2) := hon'.cellB hu2
              have hfz : wr3.frozen? ⟨wr2.heap.size, m + 1, none⟩ = false := hon'.frozenAt (m + 1)
              clear hu2
              have HON := Lib.hid (fun v : Bool => hon'.putB (k := m + 1) v)
              have HOR := Lib.hid (fun v : Bool => hor.putOther (k := m + 1) hon' (by omega) (.bool v))
              have HBE : Hid (∀ v : Bool, Below w.heap.size w (wr3.setCell ⟨wr2.heap.size, m + 1, none⟩ (.bool v))) := fun v => hb4.setCell (by simpa using hbs) _
              have HUS := Lib.hid (fun (v : Bool) (hv : mt (p.take (m + 1)) (s.take (i + 1)) = v) => HU.out.set (show m < p.length by rw [HPN.out]; exact hml) hv)
              have HON2 : Hid (∀ v : Bool, Own (wr3.drew.setCell ⟨wr2.heap.size, m + 1, none⟩ (.bool v)) w.heap.size 4 (some ⟨wr2.heap.size, 0, none⟩) (k + 1) (k + 1) (Bo (nb.set (m + 1) v))) := fun v => (hon'.drewN 1).putB (k := m + 1) v
              have HOR2 : Hid (∀ v : Bool, Own (wr3.drew.setCell ⟨wr2.heap.size, m + 1, none⟩ (.bool v)) w.heap.size 4 (some ⟨g, 0, none⟩) (k + 1) (k + 1) (Bo (dp p (s.take i)))) := fun v => (hor.drewN 1).putOther (k := m + 1) (hon'.drewN 1) (by omega) (.bool v)
              have HBE2 : Hid (∀ v : Bool, Below w.heap.size w (wr3.drew.setCell ⟨wr2.heap.size, m + 1, none⟩ (.bool v))) := fun v => (below_n hb4 1).setCell (by simpa using hbs) _
              clear hor hon' hb4 HU
              by_cases g1 : x = 42
              · subst g1
                have HV0 := Lib.hid (show mt (p.take (m + 1)) (s.take (i + 1)) = (n0 || r1) by
                  rw [← HN0.out, ← HR1.out, take_get HY.out, take_get HX.out, mt_snoc_star])
                cases n0
                · cases r1
                  · skip
                    have HV := Lib.hid (HV0.out.trans (show _ = false from rfl))
                    go_wp2
                    go_roundw
                    case rel => exact ⟨m + 1, _, by go_num, by omega, HOR.out false, HON.out false, HUS.out _ HV.out, HBE.out false⟩
                    case measure => simp [intOf]; omega
                  · skip
                    have HV := Lib.hid (HV0.out.trans (show _ = true from rfl))
                    go_wp2
                    go_roundw
                    case rel => exact ⟨m + 1, _, by go_num, by omega, HOR.out true, HON.out true, HUS.out _ HV.out, HBE.out true⟩
                    case measure => simp [intOf]; omega
                · skip
                  have HV := Lib.hid (HV0.out.trans (show _ = true from rfl))
                  go_wp2
                  go_roundw
                  case rel => exact ⟨m + 1, _, by go_num, by omega, HOR.out true, HON.out true, HUS.out _ HV.out, HBE.out true⟩
                  case measure => simp [intOf]; omega
              · have k1 : (x == 42) = false := by simpa using g1
                have HV0 := Lib.hid (show mt (p.take (m + 1)) (s.take (i + 1)) = (r0 && (x == 63 || x == c)) by
                  rw [← HR0.out, take_get HY.out, take_get HX.out, mt_snoc_lit g1])
                clear g1
                cases r0
                · skip
                  have HV := Lib.hid (HV0.out.trans (show _ = false from rfl))
                  go_wp2
                  have hcv2 : wr3.drew.cell? ⟨wr2.heap.size, m + 1, none⟩ = some (.bool u2) := hcv
                  have hcr2 : wr3.drew.cell? ⟨g, m, none⟩ = some (.bool false) := hcr0
                  have hfz2 : wr3.drew.frozen? ⟨wr2.heap.size, m + 1, none⟩ = false := hfz
                  go_region
                  go_wp2
                  go_roundw
                  case rel => exact ⟨m + 1, _, by go_num, by omega, HOR2.out false, HON2.out false, HUS.out _ HV.out, HBE2.out false⟩
                  case measure => simp [intOf]; omega
                · by_cases g2 : x = 63
                  · subst g2
                    have HV := Lib.hid (HV0.out.trans (show _ = true from rfl))
                    go_wp2
                    have hcv2 : wr3.drew.cell? ⟨wr2.heap.size, m + 1, none⟩ = some (.bool u2) := hcv
                    have hcr2 : wr3.drew.cell? ⟨g, m, none⟩ = some (.bool true) := hcr0
                    have hfz2 : wr3.drew.frozen? ⟨wr2.heap.size, m + 1, none⟩ = false := hfz
                    go_region
                    go_wp2
                    go_roundw
                    case rel => exact ⟨m + 1, _, by go_num, by omega, HOR2.out true, HON2.out true, HUS.out _ HV.out, HBE2.out true⟩
                    case measure => simp [intOf]; omega
                  · have k2 : (x == 63) = false := by simpa using g2
                    by_cases g3 : x = c
                    · subst g3
                      replace HV0 := Lib.hid (HV0.out.trans (show _ = true by simp))
                      clear g2
                      have HV := Lib.hid (HV0.out.trans (show _ = true from rfl))
                      go_wp2
                      have hcv2 : wr3.drew.cell? ⟨wr2.heap.size, m + 1, none⟩ = some (.bool u2) := hcv
                      have hcr2 : wr3.drew.cell? ⟨g, m, none⟩ = some (.bool true) := hcr0
                      have hfz2 : wr3.drew.frozen? ⟨wr2.heap.size, m + 1, none⟩ = false := hfz
                      go_region
                      go_wp2
                      go_roundw
                      case rel => exact ⟨m + 1, _, by go_num, by omega, HOR2.out true, HON2.out true, HUS.out _ HV.out, HBE2.out true⟩
                      case measure => simp [intOf]; omega
                    · have k3 : (x == c) = false := by simpa using g3
                      replace HV0 := Lib.hid (HV0.out.trans (show _ = false by rw [k2, k3]; rfl))
                      clear g2 g3
                      have HV := Lib.hid (HV0.out.trans (show _ = false from rfl))
                      go_wp2
                      have hcv2 : wr3.drew.cell? ⟨wr2.heap.size, m + 1, none⟩ = some (.bool u2) := hcv
                      have hcr2 : wr3.drew.cell? ⟨g, m, none⟩ = some (.bool true) := hcr0
                      have hfz2 : wr3.drew.frozen? ⟨wr2.heap.size, m + 1, none⟩ = false := hfz
                      go_region
                      go_wp2
                      go_roundw
                      case rel => exact ⟨m + 1, _, by go_num, by omega, HOR2.out false, HON2.out false, HUS.out _ HV.out, HBE2.out false⟩
                      case measure => simp [intOf]; omega
            · obtain rfl : m = k := by omega
              have HE := Lib.hid (show nb = dp p (s.take (i + 1)) from dp_of HU.out.1 (fun t ht => HU.out.2 t (by rw [HPN.out] at ht; exact ht)))
              have hon2 : Own wr3 w.heap.size 4 (some ⟨wr2.heap.size, 0, none⟩) (m + 1) (m + 1) (Bo (dp p (s.take (i + 1)))) := by rw [← HE.out]; exact hon'
              have hlie := (hon2.lies _ rfl).2
              clear hor hon' HE HU HBL hml
              go_wp2
              go_roundw
              case rel => exact ⟨i + 1, wr2.heap.size, by go_num, rfl, by omega, hlie, hon2, hb4⟩
              case measure => simp [intOf]; omega
        · obtain rfl : i = sn := by omega
          have hce : wr2.cell? ⟨g, k, none⟩ = some (.bool R) := hor.cellB (by
            rw [dp_get (by rw [HPN.out]; exact Nat.le_refl _), List.take_of_length_le (by rw [HPN.out]; exact Nat.le_refl _), List.take_of_length_le (by rw [HSN.out]; exact Nat.le_refl _), HRR.out])
          clear hor hlt
          go_wp2
          go_ret
          exact ⟨rfl, hb2⟩
end Go.Proofs.YtdlbghjclcdfmaaDoor
