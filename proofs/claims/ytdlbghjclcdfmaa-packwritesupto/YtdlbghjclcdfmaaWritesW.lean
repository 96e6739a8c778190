/- PackWrites: the walk. -/
import Derived.Test.YtdlbghjclcdfmaaAwake
import Derived.Test.YtdlbghjclcdfmaaIts
import Derived.Test.YtdlbghjclcdfmaaPrts
namespace Go.Proofs.Ytdlbghjclcdfmaa
set_option linter.unusedVariables false
set_option linter.unusedSimpArgs false
open Go.RowKit

theorem elem46 : Try.prog.underlying 46 = some (.slice (Try.prog.elem 46)) := by kernel_rfl
theorem elem46' : Try.prog.elem 46 = 50 := by kernel_rfl
theorem slice46 (A : Option Addr) (n c : Nat) (h : 200 < n) (h1 : n ≤ c) (W : World) :
    (Instr.slice 46 (.slice A n c) none (some (.int .i64 200)) none).run Try.prog W = .ok (.slice A 200 c) W := by
  rw [run_slice_h (P := Try.prog) W 46 A n c elem46 .i64 200 (by omega) (by omega), elem46', Try.sizeOf50]
  simp only [sliced, Result.andThen, Nat.zero_mul]
  have e : (if c = 0 then A else A.map (fun x => x.add 0)) = A := by
    split
    · rfl
    · cases A with
      | none => rfl
      | some a => simp only [Option.map_some, Option.some.injEq]; unfold Addr.add; simp
  rw [e]; rfl
theorem cell_onl {w w' : World} {g b i : Nat} (h : Onl g w w') (hb : b < w.heap.size) (hne : b ≠ g) : w'.cell? ⟨b, i, none⟩ = w.cell? ⟨b, i, none⟩ :=
  World.cell?_of_block (a := ⟨b, i, none⟩) (h.block b hb (fun e => hne (by injection e)))
theorem rtext_is (w : World) (g : Nat) (xs t r : List Int) (err : Int) (L : Nat) (ht : textS xs 0 = (t, r, err)) (hL : t.length = L) (h : Rdr w g xs 0) (hn : xs.length ≤ 140737488355328) :
    Calls Try.prog 30 #[.pointer (some ⟨g, 0, none⟩)] w fun e w' => ∃ A' c', e = .returned (.slice A' L c') ∧ Bs w' A' L t ∧ Rdr w' g r err ∧ Onl g w w' :=
  (rtext_any w g xs 0 h hn).mono fun e w' hp => by
    rw [ht] at hp
    obtain ⟨A', c', n', he, hn', ho, hr, hrd, hol⟩ := hp
    have : n' = L := Eq.trans hn' hL
    subst this
    exact ⟨A', c', he, ho.bs hr, hrd, hol⟩
theorem rnum_is (w : World) (g : Nat) (xs r : List Int) (v err : Int) (ht : numS xs 0 = (v, r, err)) (h : Rdr w g xs 0) (hn : xs.length ≤ 140737488355328) :
    Calls Try.prog 29 #[.pointer (some ⟨g, 0, none⟩)] w fun e w' => e = .returned (.int .u64 v) ∧ Rdr w' g r err ∧ Onl g w w' :=
  (rnum_any w g xs 0 h hn).mono fun e w' hp => by rw [ht] at hp; exact hp
theorem rflag_is (w : World) (g : Nat) (xs r : List Int) (v : Bool) (err : Int) (ht : flagS xs 0 = (v, r, err)) (h : Rdr w g xs 0) :
    Calls Try.prog 31 #[.pointer (some ⟨g, 0, none⟩)] w fun e w' => e = .returned (.bool v) ∧ Rdr w' g r err ∧ Onl g w w' :=
  (rflag_any w g xs 0 h).mono fun e w' hp => by rw [ht] at hp; exact hp
theorem Dr.cell2 {w w' : World} (h : Dr w w') {a : Addr} : w'.cell? a = w.cell? a := by obtain ⟨q, rfl⟩ := h; rfl
theorem Rdr.ofDrew {w : World} {g : Nat} {xs : List Int} {err : Int} (h : Rdr w g xs err) : Rdr w.drew g xs err := h

/-- One text in a row of its own. -/
theorem bssP_one {w : World} {base : Nat} {A : Option Addr} {c : Nat} {xs : List Int} (ho : Own w base 5 A xs.length c (By xs)) (hr : Ran xs) (hb : base ≤ w.heap.size) :
    BssP (w.alloc (.cells #[.slice A xs.length c] 23)) (fun b => base ≤ b ∧ b < w.heap.size + 1) (some ⟨w.heap.size, 0, none⟩) 1 [xs] := by
  have hl := ho.lies
  refine ⟨rfl, [.slice A xs.length c], ⟨rfl, fun _ => ⟨w.heap.size, 0, rfl, ⟨hb, by omega⟩, fun j u hu => ?_⟩⟩, fun i v ys hv hy => ?_⟩
  · have := (rd_oneV w (.slice A xs.length c) 23).2 (by omega)
    obtain ⟨b, off, hA, _, hc⟩ := this
    injection hA with hA; injection hA with h1 h2; subst h1; subst h2
    exact hc j u hu
  · have hi : i = 0 := by have := (List.getElem?_eq_some_iff.1 hv).1; simpa using this
    subst hi
    simp only [List.getElem?_cons_zero, Option.some.injEq] at hv hy
    subst hv; subst hy
    refine ⟨A, c, rfl, ⟨⟨by rw [By_length], fun hn => ?_⟩, hr⟩, ho.cap⟩
    obtain ⟨b, off, hA, hlt, hc⟩ := (ho.alloc (.cells #[.slice A xs.length c] 23)).rd.2 hn
    have hlb := hl b (by rw [hA]; rfl)
    exact ⟨b, off, hA, ⟨hlb.1, by omega⟩, hc⟩

set_option maxRecDepth 100000 in
set_option maxHeartbeats 4000000 in
theorem writes_short (L : Option Addr) (n c : Nat) (its0 : List It) (w : World) (hl0 : Its w L n its0) (hnc : n ≤ c) (ht0 : itot its0 ≤ 20000000) (h200 : n ≤ 200) :
    Calls Try.prog 5 #[.slice L n c] w fun e w' => e = .returned (.bool true) ∧ Below w.heap.size w w' := by
  have hl := hl0
  have ht := ht0
  generalize hys : its0 = its at *
  clear hys hl0 ht0
  have hd200 : decide ((200 : Int) < (n : Int)) = false := by simp; omega
  have HLEN := Lib.hid hl.len
  have HALL := Lib.hid hl.all
  have hln : n ≤ 200 := by omega
  go_enter Try.func5, Try.ntmps5
  go_wp2_with fail
  refine (awake_any _).mono ?_
  rintro e w1 ⟨rfl, hb1⟩
  have hl1 := hl.keep hb1
  have hsz1 := hb1.size
  clear hl
  have hw0 : Wtr (w1.alloc (.cells #[.slice none 0 0] 48)) w1.heap.size none 0 0 [] := ⟨heap_alloc_new w1 _, Own.nil_⟩
  have hb0 := below_alloc w1 (.cells #[.slice none 0 0] 48)
  go_wp2
  go_loopw [19] (fun i wr => ∃ (k n' c' : Nat) (A' : Option Addr), i = .int .i64 k ∧ k ≤ n ∧ Hid (n' = (encs (its.take k)).length) ∧ Wtr wr w1.heap.size A' n' c' (encs (its.take k)) ∧ Below w1.heap.size w1 wr) (fun i _ => n - (intOf i).toNat)
  case atStart => exact ⟨0, 0, 0, none, rfl, Nat.zero_le _, rfl, hw0, hb0⟩
  case round =>
    clear hw0 hb0
    obtain ⟨k, n', c', A', rfl, hk, HN, hw, hb⟩ := hrel
    have hsz := hb.size
    have hwl := hw.lt
    by_cases hlt : k < n
    · obtain ⟨b, off, A2, m, c2, x, rfl, hbk, HX, HM, hc0, hc1, hc2, hc3, hbs, hx0, hx1⟩ := (hl1.keep hb).at_ hlt
      have HSN := Lib.hid (encs_snoc HX.out)
      have hnl : n' ≤ 20000000 := by
        have h1 := encs_le (its.take k); have h2 := itot_take its k; have h3 := HN.out
        omega
      have hml : m ≤ 20000000 := by rw [← HM.out]; exact Nat.le_trans (itot_mem (List.mem_of_getElem? HX.out)) ht
      have hwS : ∀ v0 v1 v2 v3 : Value, Wtr (wr.alloc (.cells #[v0, v1, v2, v3] 50)) w1.heap.size A' n' c' (encs (its.take k)) := fun v0 v1 v2 v3 => hw.keep (B := 0) (below_alloc wr _)
      go_wp2_with fail
      refine (wlen_any _ w1.heap.size A' n' c' _ (hwS _ _ _ _)).mono ?_
      rintro e w2 ⟨rfl, rfl⟩
      have hwr := hwS (.int .i64 x.kind) (.int .u64 x.n) (.slice A2 m c2) (.bool x.flag)
      have hbr := hb.alloc hsz (.cells #[.int .i64 x.kind, .int .u64 x.n, .slice A2 m c2, .bool x.flag] 50)
      have hbs' := hbs.keep (below_alloc wr (.cells #[.int .i64 x.kind, .int .u64 x.n, .slice A2 m c2, .bool x.flag] 50))
      have HRT := Lib.hid hbs.2
      clear hwS hw hb hbs hc0 hc1 hc2 hc3
      by_cases h0 : x.kind = 0
      · have h0' : (x.kind == 0) = true := by simp [h0]
        have HEN := Lib.hid (show enc x = num x.n by unfold enc; rw [if_pos h0])
        clear h0
        have hww := hwr.keep (B := 0) (below_alloc _ (.cells #[.int .u64 x.n] 25))
        have hbb := hbr.alloc (by simp; omega) (.cells #[.int .u64 x.n] 25)
        have hbk2 : ((wr.alloc (.cells #[.int .i64 x.kind, .int .u64 x.n, .slice A2 m c2, .bool x.flag] 50)).alloc (.cells #[.int .u64 x.n] 25)).heap[wr.heap.size + 1]? = some (.cells #[.int .u64 x.n] 25 (0, 0)) := by
          have := heap_alloc_new (wr.alloc (.cells #[.int .i64 x.kind, .int .u64 x.n, .slice A2 m c2, .bool x.flag] 50)) (.cells #[.int .u64 x.n] 25)
          simpa using this
        have HBK := Lib.hid hbk2; clear hbk2 hwr hbr hbs'
        go_wp2_with fail
        refine (wnum_one _ w1.heap.size (wr.heap.size + 1) A' n' c' _ x.n hww HBK.out hx0 hx1 (by omega)).mono ?_
        rw [← HEN.out, ← HSN.out]
        rintro e w4 ⟨A4, n4, c4, rfl, hn4, hw4, hef4⟩
        have hb4 := hbb.trans (hef4.below (by first | (simp; omega) | omega) (fun k hk => by have := (hww.behind k hk).1; omega))
        have hgt : n' < n4 := by
          have h1 := HN.out; have h2 := HSN.out; have h3 := enc_pos x
          rw [hn4, h2, List.length_append]; omega
        have hn4l : n4 ≤ 20000000 := by
          have h1 := encs_le (its.take (k + 1)); have h2 := itot_take its (k + 1)
          omega
        have HN4 := Lib.hid hn4
        clear hn4 hef4 hww hbb
        go_wp2_with fail
        refine (wlen_any _ w1.heap.size A4 n4 c4 _ hw4).mono ?_
        rintro e w5 ⟨rfl, rfl⟩
        go_wp2_with fail
        refine (wlen_any _ w1.heap.size A4 n4 c4 _ hw4).mono ?_
        rintro e w6 ⟨rfl, rfl⟩
        go_wp2_with fail
        refine (wbytes_any _ w1.heap.size A4 n4 c4 _ hw4 (encs_ran (fun x hx => HALL.out x (List.mem_of_mem_take hx))) (by omega)).mono ?_
        rintro e w7 ⟨A7, c7, rfl, ho7, hb7⟩
        have hw7 := hw4.keep (B := 0) hb7
        have hs4 := hb4.size
        have hb8 := hb4.trans (hb7.mono hs4)
        clear ho7 hb7 hw4 hb4
        go_wp2
        go_roundw
        case rel => exact ⟨k + 1, n4, c4, A4, by go_num, by omega, HN4, hw7, hb8⟩
        case measure => simp [intOf]; omega
      · have h0' : (x.kind == 0) = false := by simp [h0]
        by_cases h1 : x.kind = 1
        · have h1' : (x.kind == 1) = true := by simp [h1]
          have HEN := Lib.hid (show enc x = texts [x.text] by unfold enc; rw [if_neg h0, if_pos h1]; simp [texts])
          clear h0 h1
          go_wp2_with fail
          refine (copy_any A2 m c2 x.text _ hbs' (by omega)).mono ?_
          rintro e w3 ⟨A3, c3, rfl, ho3, hb3⟩
          have hw3 := hwr.keep (B := 0) hb3
          have hbh : ∀ k, blk A' = some k → k < (wr.alloc (.cells #[.int .i64 x.kind, .int .u64 x.n, .slice A2 m c2, .bool x.flag] 50)).heap.size := fun k hk => (hwr.behind k hk).2
          have hs3 := hb3.size
          have hbb3 := hbr.trans (hb3.mono (by simp; omega))
          have hsz3 := hbb3.size
          have ho3' : Own w3 (wr.alloc (.cells #[.int .i64 x.kind, .int .u64 x.n, .slice A2 m c2, .bool x.flag] 50)).heap.size 5 A3 x.text.length c3 (By x.text) := by rw [HM.out]; exact ho3
          have hbs3 := bssP_one ho3' HRT.out hs3
          rw [HM.out] at hbs3
          have hww := hw3.keep (B := 0) (below_alloc w3 (.cells #[.slice A3 m c3] 23))
          have hbb := hbb3.alloc hsz3 (.cells #[.slice A3 m c3] 23)
          have htx : (texts [x.text]).length ≤ 9 + m := by
            rw [← HEN.out]; have := enc_le x; rw [HM.out] at this; exact this
          clear hb3 hw3 hwr hbr hbs' ho3 ho3' hbb3
          go_wp2_with fail
          refine (wtext_any _ w1.heap.size A' (some ⟨w3.heap.size, 0, none⟩) n' c' 1 1 _ [x.text] (fun b => (wr.alloc (.cells #[.int .i64 x.kind, .int .u64 x.n, .slice A2 m c2, .bool x.flag] 50)).heap.size ≤ b ∧ b < w3.heap.size + 1) hww hbs3 (fun b hb => by simp; omega) (fun h => by have := h.1; simp at this; omega) (fun k hk h => by have := hbh k hk; omega) (by unfold maxLen; omega) (by omega)).mono ?_
          rw [← HEN.out, ← HSN.out]
          clear hbs3 hbh htx
          rintro e w4 ⟨A4, n4, c4, rfl, hn4, hw4, hef4⟩
          have hb4 := hbb.trans (hef4.below (by first | (simp; omega) | omega) (fun k hk => by have := (hww.behind k hk).1; omega))
          have hgt : n' < n4 := by
            have h1 := HN.out; have h2 := HSN.out; have h3 := enc_pos x
            rw [hn4, h2, List.length_append]; omega
          have hn4l : n4 ≤ 20000000 := by
            have h1 := encs_le (its.take (k + 1)); have h2 := itot_take its (k + 1)
            omega
          have HN4 := Lib.hid hn4
          clear hn4 hef4 hww hbb
          go_wp2_with fail
          refine (wlen_any _ w1.heap.size A4 n4 c4 _ hw4).mono ?_
          rintro e w5 ⟨rfl, rfl⟩
          go_wp2_with fail
          refine (wlen_any _ w1.heap.size A4 n4 c4 _ hw4).mono ?_
          rintro e w6 ⟨rfl, rfl⟩
          go_wp2_with fail
          refine (wbytes_any _ w1.heap.size A4 n4 c4 _ hw4 (encs_ran (fun x hx => HALL.out x (List.mem_of_mem_take hx))) (by omega)).mono ?_
          rintro e w7 ⟨A7, c7, rfl, ho7, hb7⟩
          have hw7 := hw4.keep (B := 0) hb7
          have hs4 := hb4.size
          have hb8 := hb4.trans (hb7.mono hs4)
          clear ho7 hb7 hw4 hb4
          go_wp2
          go_roundw
          case rel => exact ⟨k + 1, n4, c4, A4, by go_num, by omega, HN4, hw7, hb8⟩
          case measure => simp [intOf]; omega
        · have h1' : (x.kind == 1) = false := by simp [h1]
          have HEN := Lib.hid (show enc x = [flagB x.flag] by unfold enc; rw [if_neg h0, if_neg h1])
          clear h0 h1
          have hww := hwr.keep (B := 0) (below_alloc _ (.cells #[.bool x.flag] 4))
          have hbb := hbr.alloc (by simp; omega) (.cells #[.bool x.flag] 4)
          have hbk2 : ((wr.alloc (.cells #[.int .i64 x.kind, .int .u64 x.n, .slice A2 m c2, .bool x.flag] 50)).alloc (.cells #[.bool x.flag] 4)).heap[wr.heap.size + 1]? = some (.cells #[.bool x.flag] 4 (0, 0)) := by
            have := heap_alloc_new (wr.alloc (.cells #[.int .i64 x.kind, .int .u64 x.n, .slice A2 m c2, .bool x.flag] 50)) (.cells #[.bool x.flag] 4)
            simpa using this
          have HBK := Lib.hid hbk2; clear hbk2 hwr hbr hbs'
          go_wp2_with fail
          refine (wflag_one _ w1.heap.size (wr.heap.size + 1) A' n' c' _ x.flag hww HBK.out (by omega)).mono ?_
          rw [← HEN.out, ← HSN.out]
          rintro e w4 ⟨A4, n4, c4, rfl, hn4, hw4, hef4⟩
          have hb4 := hbb.trans (hef4.below (by first | (simp; omega) | omega) (fun k hk => by have := (hww.behind k hk).1; omega))
          have hgt : n' < n4 := by
            have h1 := HN.out; have h2 := HSN.out; have h3 := enc_pos x
            rw [hn4, h2, List.length_append]; omega
          have hn4l : n4 ≤ 20000000 := by
            have h1 := encs_le (its.take (k + 1)); have h2 := itot_take its (k + 1)
            omega
          have HN4 := Lib.hid hn4
          clear hn4 hef4 hww hbb
          go_wp2_with fail
          refine (wlen_any _ w1.heap.size A4 n4 c4 _ hw4).mono ?_
          rintro e w5 ⟨rfl, rfl⟩
          go_wp2_with fail
          refine (wlen_any _ w1.heap.size A4 n4 c4 _ hw4).mono ?_
          rintro e w6 ⟨rfl, rfl⟩
          go_wp2_with fail
          refine (wbytes_any _ w1.heap.size A4 n4 c4 _ hw4 (encs_ran (fun x hx => HALL.out x (List.mem_of_mem_take hx))) (by omega)).mono ?_
          rintro e w7 ⟨A7, c7, rfl, ho7, hb7⟩
          have hw7 := hw4.keep (B := 0) hb7
          have hs4 := hb4.size
          have hb8 := hb4.trans (hb7.mono hs4)
          clear ho7 hb7 hw4 hb4
          go_wp2
          go_roundw
          case rel => exact ⟨k + 1, n4, c4, A4, by go_num, by omega, HN4, hw7, hb8⟩
          case measure => simp [intOf]; omega
    · have hke : its.take k = its := List.take_of_length_le (by rw [HLEN.out]; omega)
      rw [hke] at HN hw
      clear hke
      have hnl : n' ≤ 20000000 := by have h1 := encs_le its; have h3 := HN.out; omega
      go_wp2_with fail
      refine (wbytes_any _ w1.heap.size A' n' c' _ hw (encs_ran HALL.out) (by omega)).mono ?_
      rintro e w2 ⟨A2, c2, rfl, ho2, hb2'⟩
      have hb2 := hb.trans (hb2'.mono hsz)
      have hsz2 := hb2.size
      have hy2 := ho2.bs (encs_ran HALL.out)
      clear hw hb hb2' ho2
      go_wp2_with fail
      refine (read_any A2 n' c2 _ _ hy2 (by omega)).mono ?_
      rintro e w3 ⟨g, rfl, hrd3, hg3, hb3'⟩
      have hb3 := hb2.trans (hb3'.mono hsz2)
      have hgb : w1.heap.size ≤ g := by omega
      clear hb2 hb3' hy2 hg3
      go_wp2
      go_loopw [57] (fun i wr => ∃ (k : Nat), i = .int .i64 k ∧ k ≤ n ∧ Rdr wr g (encs (its.drop k)) 0 ∧ Below w1.heap.size w1 wr) (fun i _ => n - (intOf i).toNat)
      case atStart => exact ⟨0, rfl, Nat.zero_le _, hrd3, hb3⟩
      case round =>
        obtain ⟨k2, rfl, hk2, hrd, hbr⟩ := hrel
        have hszr := hbr.size
        have hgl := hrd.lt
        by_cases hlt2 : k2 < n
        · obtain ⟨b, off, A5, m, c5, x, rfl, hbk, HX, HM, hd0, hd1, hd2, hd3, hbs, hx0, hx1⟩ := hl1.at_ hlt2
          have hc0 := (hbr.cell (p := ⟨b, off + k2 * 4, none⟩) hbk).trans hd0
          have hc1 := (hbr.cell (p := ⟨b, off + k2 * 4 + 1, none⟩) hbk).trans hd1
          have hc2 := (hbr.cell (p := ⟨b, off + k2 * 4 + 2, none⟩) hbk).trans hd2
          have hc3 := (hbr.cell (p := ⟨b, off + k2 * 4 + 3, none⟩) hbk).trans hd3
          clear hd0 hd1 hd2 hd3
          have HDR := Lib.hid (encs_drop HX.out)
          have hml : m ≤ 20000000 := by rw [← HM.out]; exact Nat.le_trans (itot_mem (List.mem_of_getElem? HX.out)) ht
          have hel : (encs (its.drop k2)).length ≤ 140737488355328 := by
            have h1 := encs_le its
            have h2 : (encs its).length = (encs (its.take k2)).length + (encs (its.drop k2)).length := by
              have : encs its = encs (its.take k2) ++ encs (its.drop k2) := by
                conv => lhs; rw [← List.take_append_drop k2 its]
                simp only [encs, List.map_append, List.flatten_append]
              rw [this, List.length_append]
            omega
          have HEL := Lib.hid hel; clear hel
          have hrdS := hrd.keep (below_alloc wr (.cells #[.int .i64 x.kind, .int .u64 x.n, .slice A5 m c5, .bool x.flag] 50)) hgl
          have hbS := hbr.alloc hszr (.cells #[.int .i64 x.kind, .int .u64 x.n, .slice A5 m c5, .bool x.flag] 50)
          have hblk : (wr.alloc (.cells #[.int .i64 x.kind, .int .u64 x.n, .slice A5 m c5, .bool x.flag] 50)).heap[wr.heap.size]? = some (.cells #[.int .i64 x.kind, .int .u64 x.n, .slice A5 m c5, .bool x.flag] 50 (0, 0)) := heap_alloc_new wr _
          have HBLK := Lib.hid hblk; clear hblk
          have hgne : wr.heap.size ≠ g := by omega
          by_cases h0 : x.kind = 0
          · have h0' : (x.kind == 0) = true := by simp [h0]
            have HS : Hid (numS (encs (its.drop k2)) 0 = (x.n, encs (its.drop (k2 + 1)), 0)) := by
              show _ = _
              rw [HDR.out, show enc x = num x.n by unfold enc; rw [if_pos h0]]
              exact numS_enc _ _ hx0 hx1
            clear h0 hrd hbr hbs
            go_wp2
            go_region_held3 (fun w' => w'.cell? ⟨wr.heap.size, 1, none⟩ = some (.int .u64 x.n)) (first | assumption | (simp [*]; done))
              (first | (go_at_call 29; refine (rnum_is _ g _ _ _ _ HS.out hrdS.ofDrew HEL.out).mono ?_; rintro e w5 ⟨rfl, hrd5, hol5⟩; have hcc : w5.cell? ⟨wr.heap.size, 1, none⟩ = some (.int .u64 x.n) := (cell_onl hol5 (by simp) hgne).trans (by simp)))
            have hb5 := hbS.trans (below_undrew (hol5.below (by simp; omega)) |>.mono hgb)
            clear hol5 hrdS hbS hcc hc0 hc1 hc2 hc3
            go_wp2
            go_roundw
            case rel => exact ⟨k2 + 1, by go_num, by omega, hrd5, hb5⟩
            case measure => simp [intOf]; omega
          · have h0' : (x.kind == 0) = false := by simp [h0]
            by_cases h1 : x.kind = 1
            · have h1' : (x.kind == 1) = true := by simp [h1]
              have HS : Hid (textS (encs (its.drop k2)) 0 = (x.text, encs (its.drop (k2 + 1)), 0)) := by
                show _ = _
                rw [HDR.out, show enc x = num x.text.length ++ x.text by unfold enc; rw [if_neg h0, if_pos h1], List.append_assoc]
                exact textS_head _ _ (by rw [HM.out]; omega)
              have hmx : m ≤ maxLen := by unfold maxLen; omega
              have hl1b : ∀ {w5 : World}, Onl g (wr.alloc (.cells #[.int .i64 x.kind, .int .u64 x.n, .slice A5 m c5, .bool x.flag] 50)).drew w5 → Bs w5 A5 m x.text := fun ho => hbs.keep (hbS.trans (below_undrew (ho.below (by simp; omega)) |>.mono hgb))
              clear h0 h1 hrd hbr
              go_wp2
              go_region_held3 (fun w' => w'.cell? ⟨wr.heap.size, 2, none⟩ = some (.slice A5 m c5)) (first | assumption | (simp [*]; done))
                (first | (go_at_call 30; refine (rtext_is _ g _ _ _ _ m HS.out HM.out hrdS.ofDrew HEL.out).mono ?_; rintro e w5 ⟨A6, c6, rfl, ht6, hrd5, hol5⟩; have hcc : w5.cell? ⟨wr.heap.size, 2, none⟩ = some (.slice A5 m c5) := (cell_onl hol5 (by simp) hgne).trans (by simp)) | (go_at_call 13; refine (equal_is A6 A5 m m c6 c5 x.text x.text true (by rw [cmpL_self]; rfl) _ ht6 (hl1b hol5) hmx hmx).mono ?_; rintro e w6 ⟨rfl, hd6⟩; have hcc6 : w6.cell? ⟨wr.heap.size, 2, none⟩ = some (.slice A5 m c5) := hd6.cell2.trans hcc))
              have hb5 := hbS.trans (below_undrew (hol5.below (by simp; omega)) |>.mono hgb)
              have hb6 := hb5.trans (hd6.below _)
              have hrd6 := hrd5.keep (hd6.below _) hrd5.lt
              clear hol5 hrdS hbS hcc hc0 hc1 hc2 hc3 hd6 hb5 hrd5 ht6 hl1b
              go_wp2
              go_roundw
              case rel => exact ⟨k2 + 1, by go_num, by omega, hrd6, hb6⟩
              case measure => simp [intOf]; omega
            · have h1' : (x.kind == 1) = false := by simp [h1]
              have HS : Hid (flagS (encs (its.drop k2)) 0 = (x.flag, encs (its.drop (k2 + 1)), 0)) := by
                show _ = _
                rw [HDR.out, show enc x = [flagB x.flag] by unfold enc; rw [if_neg h0, if_neg h1]]
                exact flagS_enc _ _
              clear h0 h1 hrd hbr hbs
              go_wp2
              go_region_held3 (fun w' => w'.cell? ⟨wr.heap.size, 3, none⟩ = some (.bool x.flag)) (first | assumption | (simp [*]; done))
                (first | (go_at_call 31; refine (rflag_is _ g _ _ _ _ HS.out hrdS.ofDrew).mono ?_; rintro e w5 ⟨rfl, hrd5, hol5⟩; have hcc : w5.cell? ⟨wr.heap.size, 3, none⟩ = some (.bool x.flag) := (cell_onl hol5 (by simp) hgne).trans (by simp)))
              have hb5 := hbS.trans (below_undrew (hol5.below (by simp; omega)) |>.mono hgb)
              clear hol5 hrdS hbS hcc hc0 hc1 hc2 hc3
              go_wp2
              go_roundw
              case rel => exact ⟨k2 + 1, by go_num, by omega, hrd5, hb5⟩
              case measure => simp [intOf]; omega
        · have hde : its.drop k2 = [] := List.drop_eq_nil_of_le (by rw [HLEN.out]; omega)
          rw [hde] at hrd
          clear hde
          have hrd0 : Rdr wr g [] 0 := hrd
          have HCL := Lib.hid (show closeV [] 0 = 0 by decide)
          clear hrd
          go_wp2_with fail
          refine (rerr_any _ g _ _ hrd0).mono ?_
          rintro e w8 ⟨rfl, rfl⟩
          go_wp2_with fail
          refine (rleft_any _ g _ _ hrd0).mono ?_
          rintro e w9 ⟨rfl, rfl⟩
          go_wp2_with fail
          refine (rclose_any _ g _ _ hrd0).mono ?_
          rintro e w10 ⟨rfl, rfl⟩
          rw [HCL.out]
          go_wp2
          go_ret
          exact ⟨rfl, hb1.trans (hbr.mono hsz1)⟩
set_option maxRecDepth 100000 in
set_option maxHeartbeats 4000000 in
theorem writes_long (L : Option Addr) (n c : Nat) (its0 : List It) (w : World) (hl0 : Its w L n its0) (hnc : n ≤ c) (ht0 : itot its0 ≤ 20000000) (h200 : 200 < n) :
    Calls Try.prog 5 #[.slice L n c] w fun e w' => e = .returned (.bool true) ∧ Below w.heap.size w w' := by
  have hl := hl0.short (m := 200) (by omega)
  have ht := Nat.le_trans (itot_take its0 200) ht0
  generalize hys : its0.take 200 = its at *
  clear hys hl0 ht0
  have hs200 := slice46 L n c h200 hnc
  have hd200 : decide ((200 : Int) < (n : Int)) = true := by simp; omega
  have HLEN := Lib.hid hl.len
  have HALL := Lib.hid hl.all
  have hln : 200 ≤ 200 := by omega
  go_enter Try.func5, Try.ntmps5
  go_wp2_with fail
  refine (awake_any _).mono ?_
  rintro e w1 ⟨rfl, hb1⟩
  have hl1 := hl.keep hb1
  have hsz1 := hb1.size
  clear hl
  have hw0 : Wtr (w1.alloc (.cells #[.slice none 0 0] 48)) w1.heap.size none 0 0 [] := ⟨heap_alloc_new w1 _, Own.nil_⟩
  have hb0 := below_alloc w1 (.cells #[.slice none 0 0] 48)
  go_wp2
  go_loopw [19] (fun i wr => ∃ (k n' c' : Nat) (A' : Option Addr), i = .int .i64 k ∧ k ≤ 200 ∧ Hid (n' = (encs (its.take k)).length) ∧ Wtr wr w1.heap.size A' n' c' (encs (its.take k)) ∧ Below w1.heap.size w1 wr) (fun i _ => 200 - (intOf i).toNat)
  case atStart => exact ⟨0, 0, 0, none, rfl, Nat.zero_le _, rfl, hw0, hb0⟩
  case round =>
    clear hw0 hb0
    obtain ⟨k, n', c', A', rfl, hk, HN, hw, hb⟩ := hrel
    have hsz := hb.size
    have hwl := hw.lt
    by_cases hlt : k < 200
    · obtain ⟨b, off, A2, m, c2, x, rfl, hbk, HX, HM, hc0, hc1, hc2, hc3, hbs, hx0, hx1⟩ := (hl1.keep hb).at_ hlt
      have HSN := Lib.hid (encs_snoc HX.out)
      have hnl : n' ≤ 20000000 := by
        have h1 := encs_le (its.take k); have h2 := itot_take its k; have h3 := HN.out
        omega
      have hml : m ≤ 20000000 := by rw [← HM.out]; exact Nat.le_trans (itot_mem (List.mem_of_getElem? HX.out)) ht
      have hwS : ∀ v0 v1 v2 v3 : Value, Wtr (wr.alloc (.cells #[v0, v1, v2, v3] 50)) w1.heap.size A' n' c' (encs (its.take k)) := fun v0 v1 v2 v3 => hw.keep (B := 0) (below_alloc wr _)
      go_wp2_with fail
      refine (wlen_any _ w1.heap.size A' n' c' _ (hwS _ _ _ _)).mono ?_
      rintro e w2 ⟨rfl, rfl⟩
      have hwr := hwS (.int .i64 x.kind) (.int .u64 x.n) (.slice A2 m c2) (.bool x.flag)
      have hbr := hb.alloc hsz (.cells #[.int .i64 x.kind, .int .u64 x.n, .slice A2 m c2, .bool x.flag] 50)
      have hbs' := hbs.keep (below_alloc wr (.cells #[.int .i64 x.kind, .int .u64 x.n, .slice A2 m c2, .bool x.flag] 50))
      have HRT := Lib.hid hbs.2
      clear hwS hw hb hbs hc0 hc1 hc2 hc3
      by_cases h0 : x.kind = 0
      · have h0' : (x.kind == 0) = true := by simp [h0]
        have HEN := Lib.hid (show enc x = num x.n by unfold enc; rw [if_pos h0])
        clear h0
        have hww := hwr.keep (B := 0) (below_alloc _ (.cells #[.int .u64 x.n] 25))
        have hbb := hbr.alloc (by simp; omega) (.cells #[.int .u64 x.n] 25)
        have hbk2 : ((wr.alloc (.cells #[.int .i64 x.kind, .int .u64 x.n, .slice A2 m c2, .bool x.flag] 50)).alloc (.cells #[.int .u64 x.n] 25)).heap[wr.heap.size + 1]? = some (.cells #[.int .u64 x.n] 25 (0, 0)) := by
          have := heap_alloc_new (wr.alloc (.cells #[.int .i64 x.kind, .int .u64 x.n, .slice A2 m c2, .bool x.flag] 50)) (.cells #[.int .u64 x.n] 25)
          simpa using this
        have HBK := Lib.hid hbk2; clear hbk2 hwr hbr hbs'
        go_wp2_with fail
        refine (wnum_one _ w1.heap.size (wr.heap.size + 1) A' n' c' _ x.n hww HBK.out hx0 hx1 (by omega)).mono ?_
        rw [← HEN.out, ← HSN.out]
        rintro e w4 ⟨A4, n4, c4, rfl, hn4, hw4, hef4⟩
        have hb4 := hbb.trans (hef4.below (by first | (simp; omega) | omega) (fun k hk => by have := (hww.behind k hk).1; omega))
        have hgt : n' < n4 := by
          have h1 := HN.out; have h2 := HSN.out; have h3 := enc_pos x
          rw [hn4, h2, List.length_append]; omega
        have hn4l : n4 ≤ 20000000 := by
          have h1 := encs_le (its.take (k + 1)); have h2 := itot_take its (k + 1)
          omega
        have HN4 := Lib.hid hn4
        clear hn4 hef4 hww hbb
        go_wp2_with fail
        refine (wlen_any _ w1.heap.size A4 n4 c4 _ hw4).mono ?_
        rintro e w5 ⟨rfl, rfl⟩
        go_wp2_with fail
        refine (wlen_any _ w1.heap.size A4 n4 c4 _ hw4).mono ?_
        rintro e w6 ⟨rfl, rfl⟩
        go_wp2_with fail
        refine (wbytes_any _ w1.heap.size A4 n4 c4 _ hw4 (encs_ran (fun x hx => HALL.out x (List.mem_of_mem_take hx))) (by omega)).mono ?_
        rintro e w7 ⟨A7, c7, rfl, ho7, hb7⟩
        have hw7 := hw4.keep (B := 0) hb7
        have hs4 := hb4.size
        have hb8 := hb4.trans (hb7.mono hs4)
        clear ho7 hb7 hw4 hb4
        go_wp2
        go_roundw
        case rel => exact ⟨k + 1, n4, c4, A4, by go_num, by omega, HN4, hw7, hb8⟩
        case measure => simp [intOf]; omega
      · have h0' : (x.kind == 0) = false := by simp [h0]
        by_cases h1 : x.kind = 1
        · have h1' : (x.kind == 1) = true := by simp [h1]
          have HEN := Lib.hid (show enc x = texts [x.text] by unfold enc; rw [if_neg h0, if_pos h1]; simp [texts])
          clear h0 h1
          go_wp2_with fail
          refine (copy_any A2 m c2 x.text _ hbs' (by omega)).mono ?_
          rintro e w3 ⟨A3, c3, rfl, ho3, hb3⟩
          have hw3 := hwr.keep (B := 0) hb3
          have hbh : ∀ k, blk A' = some k → k < (wr.alloc (.cells #[.int .i64 x.kind, .int .u64 x.n, .slice A2 m c2, .bool x.flag] 50)).heap.size := fun k hk => (hwr.behind k hk).2
          have hs3 := hb3.size
          have hbb3 := hbr.trans (hb3.mono (by simp; omega))
          have hsz3 := hbb3.size
          have ho3' : Own w3 (wr.alloc (.cells #[.int .i64 x.kind, .int .u64 x.n, .slice A2 m c2, .bool x.flag] 50)).heap.size 5 A3 x.text.length c3 (By x.text) := by rw [HM.out]; exact ho3
          have hbs3 := bssP_one ho3' HRT.out hs3
          rw [HM.out] at hbs3
          have hww := hw3.keep (B := 0) (below_alloc w3 (.cells #[.slice A3 m c3] 23))
          have hbb := hbb3.alloc hsz3 (.cells #[.slice A3 m c3] 23)
          have htx : (texts [x.text]).length ≤ 9 + m := by
            rw [← HEN.out]; have := enc_le x; rw [HM.out] at this; exact this
          clear hb3 hw3 hwr hbr hbs' ho3 ho3' hbb3
          go_wp2_with fail
          refine (wtext_any _ w1.heap.size A' (some ⟨w3.heap.size, 0, none⟩) n' c' 1 1 _ [x.text] (fun b => (wr.alloc (.cells #[.int .i64 x.kind, .int .u64 x.n, .slice A2 m c2, .bool x.flag] 50)).heap.size ≤ b ∧ b < w3.heap.size + 1) hww hbs3 (fun b hb => by simp; omega) (fun h => by have := h.1; simp at this; omega) (fun k hk h => by have := hbh k hk; omega) (by unfold maxLen; omega) (by omega)).mono ?_
          rw [← HEN.out, ← HSN.out]
          clear hbs3 hbh htx
          rintro e w4 ⟨A4, n4, c4, rfl, hn4, hw4, hef4⟩
          have hb4 := hbb.trans (hef4.below (by first | (simp; omega) | omega) (fun k hk => by have := (hww.behind k hk).1; omega))
          have hgt : n' < n4 := by
            have h1 := HN.out; have h2 := HSN.out; have h3 := enc_pos x
            rw [hn4, h2, List.length_append]; omega
          have hn4l : n4 ≤ 20000000 := by
            have h1 := encs_le (its.take (k + 1)); have h2 := itot_take its (k + 1)
            omega
          have HN4 := Lib.hid hn4
          clear hn4 hef4 hww hbb
          go_wp2_with fail
          refine (wlen_any _ w1.heap.size A4 n4 c4 _ hw4).mono ?_
          rintro e w5 ⟨rfl, rfl⟩
          go_wp2_with fail
          refine (wlen_any _ w1.heap.size A4 n4 c4 _ hw4).mono ?_
          rintro e w6 ⟨rfl, rfl⟩
          go_wp2_with fail
          refine (wbytes_any _ w1.heap.size A4 n4 c4 _ hw4 (encs_ran (fun x hx => HALL.out x (List.mem_of_mem_take hx))) (by omega)).mono ?_
          rintro e w7 ⟨A7, c7, rfl, ho7, hb7⟩
          have hw7 := hw4.keep (B := 0) hb7
          have hs4 := hb4.size
          have hb8 := hb4.trans (hb7.mono hs4)
          clear ho7 hb7 hw4 hb4
          go_wp2
          go_roundw
          case rel => exact ⟨k + 1, n4, c4, A4, by go_num, by omega, HN4, hw7, hb8⟩
          case measure => simp [intOf]; omega
        · have h1' : (x.kind == 1) = false := by simp [h1]
          have HEN := Lib.hid (show enc x = [flagB x.flag] by unfold enc; rw [if_neg h0, if_neg h1])
          clear h0 h1
          have hww := hwr.keep (B := 0) (below_alloc _ (.cells #[.bool x.flag] 4))
          have hbb := hbr.alloc (by simp; omega) (.cells #[.bool x.flag] 4)
          have hbk2 : ((wr.alloc (.cells #[.int .i64 x.kind, .int .u64 x.n, .slice A2 m c2, .bool x.flag] 50)).alloc (.cells #[.bool x.flag] 4)).heap[wr.heap.size + 1]? = some (.cells #[.bool x.flag] 4 (0, 0)) := by
            have := heap_alloc_new (wr.alloc (.cells #[.int .i64 x.kind, .int .u64 x.n, .slice A2 m c2, .bool x.flag] 50)) (.cells #[.bool x.flag] 4)
            simpa using this
          have HBK := Lib.hid hbk2; clear hbk2 hwr hbr hbs'
          go_wp2_with fail
          refine (wflag_one _ w1.heap.size (wr.heap.size + 1) A' n' c' _ x.flag hww HBK.out (by omega)).mono ?_
          rw [← HEN.out, ← HSN.out]
          rintro e w4 ⟨A4, n4, c4, rfl, hn4, hw4, hef4⟩
          have hb4 := hbb.trans (hef4.below (by first | (simp; omega) | omega) (fun k hk => by have := (hww.behind k hk).1; omega))
          have hgt : n' < n4 := by
            have h1 := HN.out; have h2 := HSN.out; have h3 := enc_pos x
            rw [hn4, h2, List.length_append]; omega
          have hn4l : n4 ≤ 20000000 := by
            have h1 := encs_le (its.take (k + 1)); have h2 := itot_take its (k + 1)
            omega
          have HN4 := Lib.hid hn4
          clear hn4 hef4 hww hbb
          go_wp2_with fail
          refine (wlen_any _ w1.heap.size A4 n4 c4 _ hw4).mono ?_
          rintro e w5 ⟨rfl, rfl⟩
          go_wp2_with fail
          refine (wlen_any _ w1.heap.size A4 n4 c4 _ hw4).mono ?_
          rintro e w6 ⟨rfl, rfl⟩
          go_wp2_with fail
          refine (wbytes_any _ w1.heap.size A4 n4 c4 _ hw4 (encs_ran (fun x hx => HALL.out x (List.mem_of_mem_take hx))) (by omega)).mono ?_
          rintro e w7 ⟨A7, c7, rfl, ho7, hb7⟩
          have hw7 := hw4.keep (B := 0) hb7
          have hs4 := hb4.size
          have hb8 := hb4.trans (hb7.mono hs4)
          clear ho7 hb7 hw4 hb4
          go_wp2
          go_roundw
          case rel => exact ⟨k + 1, n4, c4, A4, by go_num, by omega, HN4, hw7, hb8⟩
          case measure => simp [intOf]; omega
    · have hke : its.take k = its := List.take_of_length_le (by rw [HLEN.out]; omega)
      rw [hke] at HN hw
      clear hke
      have hnl : n' ≤ 20000000 := by have h1 := encs_le its; have h3 := HN.out; omega
      go_wp2_with fail
      refine (wbytes_any _ w1.heap.size A' n' c' _ hw (encs_ran HALL.out) (by omega)).mono ?_
      rintro e w2 ⟨A2, c2, rfl, ho2, hb2'⟩
      have hb2 := hb.trans (hb2'.mono hsz)
      have hsz2 := hb2.size
      have hy2 := ho2.bs (encs_ran HALL.out)
      clear hw hb hb2' ho2
      go_wp2_with fail
      refine (read_any A2 n' c2 _ _ hy2 (by omega)).mono ?_
      rintro e w3 ⟨g, rfl, hrd3, hg3, hb3'⟩
      have hb3 := hb2.trans (hb3'.mono hsz2)
      have hgb : w1.heap.size ≤ g := by omega
      clear hb2 hb3' hy2 hg3
      go_wp2
      go_loopw [57] (fun i wr => ∃ (k : Nat), i = .int .i64 k ∧ k ≤ 200 ∧ Rdr wr g (encs (its.drop k)) 0 ∧ Below w1.heap.size w1 wr) (fun i _ => 200 - (intOf i).toNat)
      case atStart => exact ⟨0, rfl, Nat.zero_le _, hrd3, hb3⟩
      case round =>
        obtain ⟨k2, rfl, hk2, hrd, hbr⟩ := hrel
        have hszr := hbr.size
        have hgl := hrd.lt
        by_cases hlt2 : k2 < 200
        · obtain ⟨b, off, A5, m, c5, x, rfl, hbk, HX, HM, hd0, hd1, hd2, hd3, hbs, hx0, hx1⟩ := hl1.at_ hlt2
          have hc0 := (hbr.cell (p := ⟨b, off + k2 * 4, none⟩) hbk).trans hd0
          have hc1 := (hbr.cell (p := ⟨b, off + k2 * 4 + 1, none⟩) hbk).trans hd1
          have hc2 := (hbr.cell (p := ⟨b, off + k2 * 4 + 2, none⟩) hbk).trans hd2
          have hc3 := (hbr.cell (p := ⟨b, off + k2 * 4 + 3, none⟩) hbk).trans hd3
          clear hd0 hd1 hd2 hd3
          have HDR := Lib.hid (encs_drop HX.out)
          have hml : m ≤ 20000000 := by rw [← HM.out]; exact Nat.le_trans (itot_mem (List.mem_of_getElem? HX.out)) ht
          have hel : (encs (its.drop k2)).length ≤ 140737488355328 := by
            have h1 := encs_le its
            have h2 : (encs its).length = (encs (its.take k2)).length + (encs (its.drop k2)).length := by
              have : encs its = encs (its.take k2) ++ encs (its.drop k2) := by
                conv => lhs; rw [← List.take_append_drop k2 its]
                simp only [encs, List.map_append, List.flatten_append]
              rw [this, List.length_append]
            omega
          have HEL := Lib.hid hel; clear hel
          have hrdS := hrd.keep (below_alloc wr (.cells #[.int .i64 x.kind, .int .u64 x.n, .slice A5 m c5, .bool x.flag] 50)) hgl
          have hbS := hbr.alloc hszr (.cells #[.int .i64 x.kind, .int .u64 x.n, .slice A5 m c5, .bool x.flag] 50)
          have hblk : (wr.alloc (.cells #[.int .i64 x.kind, .int .u64 x.n, .slice A5 m c5, .bool x.flag] 50)).heap[wr.heap.size]? = some (.cells #[.int .i64 x.kind, .int .u64 x.n, .slice A5 m c5, .bool x.flag] 50 (0, 0)) := heap_alloc_new wr _
          have HBLK := Lib.hid hblk; clear hblk
          have hgne : wr.heap.size ≠ g := by omega
          by_cases h0 : x.kind = 0
          · have h0' : (x.kind == 0) = true := by simp [h0]
            have HS : Hid (numS (encs (its.drop k2)) 0 = (x.n, encs (its.drop (k2 + 1)), 0)) := by
              show _ = _
              rw [HDR.out, show enc x = num x.n by unfold enc; rw [if_pos h0]]
              exact numS_enc _ _ hx0 hx1
            clear h0 hrd hbr hbs
            go_wp2
            go_region_held3 (fun w' => w'.cell? ⟨wr.heap.size, 1, none⟩ = some (.int .u64 x.n)) (first | assumption | (simp [*]; done))
              (first | (go_at_call 29; refine (rnum_is _ g _ _ _ _ HS.out hrdS.ofDrew HEL.out).mono ?_; rintro e w5 ⟨rfl, hrd5, hol5⟩; have hcc : w5.cell? ⟨wr.heap.size, 1, none⟩ = some (.int .u64 x.n) := (cell_onl hol5 (by simp) hgne).trans (by simp)))
            have hb5 := hbS.trans (below_undrew (hol5.below (by simp; omega)) |>.mono hgb)
            clear hol5 hrdS hbS hcc hc0 hc1 hc2 hc3
            go_wp2
            go_roundw
            case rel => exact ⟨k2 + 1, by go_num, by omega, hrd5, hb5⟩
            case measure => simp [intOf]; omega
          · have h0' : (x.kind == 0) = false := by simp [h0]
            by_cases h1 : x.kind = 1
            · have h1' : (x.kind == 1) = true := by simp [h1]
              have HS : Hid (textS (encs (its.drop k2)) 0 = (x.text, encs (its.drop (k2 + 1)), 0)) := by
                show _ = _
                rw [HDR.out, show enc x = num x.text.length ++ x.text by unfold enc; rw [if_neg h0, if_pos h1], List.append_assoc]
                exact textS_head _ _ (by rw [HM.out]; omega)
              have hmx : m ≤ maxLen := by unfold maxLen; omega
              have hl1b : ∀ {w5 : World}, Onl g (wr.alloc (.cells #[.int .i64 x.kind, .int .u64 x.n, .slice A5 m c5, .bool x.flag] 50)).drew w5 → Bs w5 A5 m x.text := fun ho => hbs.keep (hbS.trans (below_undrew (ho.below (by simp; omega)) |>.mono hgb))
              clear h0 h1 hrd hbr
              go_wp2
              go_region_held3 (fun w' => w'.cell? ⟨wr.heap.size, 2, none⟩ = some (.slice A5 m c5)) (first | assumption | (simp [*]; done))
                (first | (go_at_call 30; refine (rtext_is _ g _ _ _ _ m HS.out HM.out hrdS.ofDrew HEL.out).mono ?_; rintro e w5 ⟨A6, c6, rfl, ht6, hrd5, hol5⟩; have hcc : w5.cell? ⟨wr.heap.size, 2, none⟩ = some (.slice A5 m c5) := (cell_onl hol5 (by simp) hgne).trans (by simp)) | (go_at_call 13; refine (equal_is A6 A5 m m c6 c5 x.text x.text true (by rw [cmpL_self]; rfl) _ ht6 (hl1b hol5) hmx hmx).mono ?_; rintro e w6 ⟨rfl, hd6⟩; have hcc6 : w6.cell? ⟨wr.heap.size, 2, none⟩ = some (.slice A5 m c5) := hd6.cell2.trans hcc))
              have hb5 := hbS.trans (below_undrew (hol5.below (by simp; omega)) |>.mono hgb)
              have hb6 := hb5.trans (hd6.below _)
              have hrd6 := hrd5.keep (hd6.below _) hrd5.lt
              clear hol5 hrdS hbS hcc hc0 hc1 hc2 hc3 hd6 hb5 hrd5 ht6 hl1b
              go_wp2
              go_roundw
              case rel => exact ⟨k2 + 1, by go_num, by omega, hrd6, hb6⟩
              case measure => simp [intOf]; omega
            · have h1' : (x.kind == 1) = false := by simp [h1]
              have HS : Hid (flagS (encs (its.drop k2)) 0 = (x.flag, encs (its.drop (k2 + 1)), 0)) := by
                show _ = _
                rw [HDR.out, show enc x = [flagB x.flag] by unfold enc; rw [if_neg h0, if_neg h1]]
                exact flagS_enc _ _
              clear h0 h1 hrd hbr hbs
              go_wp2
              go_region_held3 (fun w' => w'.cell? ⟨wr.heap.size, 3, none⟩ = some (.bool x.flag)) (first | assumption | (simp [*]; done))
                (first | (go_at_call 31; refine (rflag_is _ g _ _ _ _ HS.out hrdS.ofDrew).mono ?_; rintro e w5 ⟨rfl, hrd5, hol5⟩; have hcc : w5.cell? ⟨wr.heap.size, 3, none⟩ = some (.bool x.flag) := (cell_onl hol5 (by simp) hgne).trans (by simp)))
              have hb5 := hbS.trans (below_undrew (hol5.below (by simp; omega)) |>.mono hgb)
              clear hol5 hrdS hbS hcc hc0 hc1 hc2 hc3
              go_wp2
              go_roundw
              case rel => exact ⟨k2 + 1, by go_num, by omega, hrd5, hb5⟩
              case measure => simp [intOf]; omega
        · have hde : its.drop k2 = [] := List.drop_eq_nil_of_le (by rw [HLEN.out]; omega)
          rw [hde] at hrd
          clear hde
          have hrd0 : Rdr wr g [] 0 := hrd
          have HCL := Lib.hid (show closeV [] 0 = 0 by decide)
          clear hrd
          go_wp2_with fail
          refine (rerr_any _ g _ _ hrd0).mono ?_
          rintro e w8 ⟨rfl, rfl⟩
          go_wp2_with fail
          refine (rleft_any _ g _ _ hrd0).mono ?_
          rintro e w9 ⟨rfl, rfl⟩
          go_wp2_with fail
          refine (rclose_any _ g _ _ hrd0).mono ?_
          rintro e w10 ⟨rfl, rfl⟩
          rw [HCL.out]
          go_wp2
          go_ret
          exact ⟨rfl, hb1.trans (hbr.mono hsz1)⟩
theorem writes_walk (L : Option Addr) (n c : Nat) (its0 : List It) (w : World) (hl0 : Its w L n its0) (hnc : n ≤ c) (ht0 : itot its0 ≤ 20000000) :
    Calls Try.prog 5 #[.slice L n c] w fun e w' => e = .returned (.bool true) ∧ Below w.heap.size w w' := by
  by_cases h : n ≤ 200
  · exact writes_short L n c its0 w hl0 hnc ht0 h
  · exact writes_long L n c its0 w hl0 hnc ht0 (by omega)
end Go.Proofs.Ytdlbghjclcdfmaa
