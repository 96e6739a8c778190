/- pack.Join, the reference's Join and Copies. -/
import Derived.Test.YtmjjbfcblmmipaaWtr
namespace Go.Proofs.Ytmjjbfcblmmipaa
set_option linter.unusedVariables false
set_option linter.unusedSimpArgs false
open Go.RowKit

def joinL (xss : List (List Int)) : List Int := num xss.length ++ texts xss
abbrev Bss (w : World) (A : Option Addr) (n : Nat) (xss : List (List Int)) : Prop := BssP w (· < w.heap.size) A n xss
theorem Bss.keep {w w' : World} {A : Option Addr} {n : Nat} {xss : List (List Int)} (h : Bss w A n xss) (hb : Below w.heap.size w w') : Bss w' A n xss :=
  (BssP.keep h (fun b hb' => hb.block b hb')).imp (fun b hb' => Nat.lt_of_lt_of_le hb' hb.size)
theorem Bss.at_ {w : World} {A : Option Addr} {n k : Nat} {xss : List (List Int)} (h : Bss w A n xss) (hk : k < n) : ∃ b off A' n' c' xs, A = some ⟨b, off, none⟩ ∧ b < w.heap.size ∧ w.cell? ⟨b, off + k, none⟩ = some (.slice A' n' c') ∧ Bs w A' n' xs ∧ n' ≤ c' ∧ Hid (xss[k]? = some xs) := by
  obtain ⟨b, off, A', n', c', xs, hA, hb, hc, hx, hn, HX⟩ := BssP.at_ h hk
  exact ⟨b, off, A', n', c', xs, hA, hb, hc, hx.bs, hn, HX⟩
theorem texts_ran : ∀ xss : List (List Int), (∀ xs ∈ xss, Ran xs) → Ran (texts xss)
  | [], _ => by simp only [texts, List.map_nil, List.flatten_nil]; exact Ran.nil
  | a :: r, h => by
    have ih := texts_ran r (fun xs hx => h xs (by simp [hx]))
    simp only [texts, List.map_cons, List.flatten_cons] at ih ⊢
    exact ((num_ran _ (by omega)).append (h a (by simp))).append ih
theorem BssP.ran {w : World} {Pd : Nat → Prop} {A : Option Addr} {n : Nat} {xss : List (List Int)} (h : BssP w Pd A n xss) : ∀ xs ∈ xss, Ran xs := by
  intro xs hx
  obtain ⟨i, hi, rfl⟩ := List.getElem_of_mem hx
  obtain ⟨_, _, _, _, _, ys, _, _, _, hb, _, HY⟩ := h.at_ (k := i) (by have := h.len; omega)
  have := HY.out
  rw [List.getElem?_eq_getElem hi] at this
  injection this with this
  rw [this]; exact hb.2
theorem joinL_ran {w : World} {Pd : Nat → Prop} {A : Option Addr} {n : Nat} {xss : List (List Int)} (h : BssP w Pd A n xss) : Ran (joinL xss) := (num_ran _ (by omega)).append (texts_ran _ h.ran)

set_option maxHeartbeats 1000000 in
theorem join_any (L : Option Addr) (m d : Nat) (xss : List (List Int)) (w : World) (hl : Bss w L m xss) (hm : m ≤ maxLen) (hn : (joinL xss).length + 20 ≤ 140737488355328) :
    Calls Try.prog 55 #[.slice L m d] w fun e w' => ∃ A' n' c', e = .returned (.slice A' n' c') ∧ n' = (joinL xss).length ∧ Own w' w.heap.size 5 A' n' c' (By (joinL xss)) ∧ Below w.heap.size w w' := by
  have hm' := hm
  unfold maxLen at hm'
  have HM := Lib.hid hl.len
  have hjl : (joinL xss).length = (num xss.length).length + (texts xss).length := by simp [joinL]
  have hw0 : Wtr ((w.alloc (.cells #[.slice none 0 0] 147)).alloc (.cells #[.int .u64 (m : Int)] 22)) w.heap.size none 0 0 [] := by
    refine ⟨?_, Own.nil_⟩
    rw [Below.heap_alloc _ _ _ (by simp)]; exact heap_alloc_new w _
  have hb0 : ((w.alloc (.cells #[.slice none 0 0] 147)).alloc (.cells #[.int .u64 (m : Int)] 22)).heap[w.heap.size + 1]? = some (.cells #[.int .u64 (m : Int)] 22 (0, 0)) := by
    have := heap_alloc_new (w.alloc (.cells #[.slice none 0 0] 147)) (.cells #[.int .u64 (m : Int)] 22)
    simpa using this
  have hbel : Below w.heap.size w ((w.alloc (.cells #[.slice none 0 0] 147)).alloc (.cells #[.int .u64 (m : Int)] 22)) := (below_alloc w _).alloc (by simp) _
  have HB0 := Lib.hid hb0; clear hb0
  have HJ := Lib.hid hjl; clear hjl
  go_enter Try.func55, Try.ntmps55
  go_wp2_with fail
  refine (wnum_one _ w.heap.size (w.heap.size + 1) none 0 0 [] (m : Int) hw0 HB0.out (by omega) (by omega) (by omega)).mono ?_
  rintro e w2 ⟨A2, n2, c2, rfl, hn2, hw2, hef2⟩
  have hb2 : Below w.heap.size w w2 := hbel.trans (hef2.below (by simp; omega) (fun k hk => by cases hk))
  have hl2 : BssP w2 (· < w.heap.size) L m xss := BssP.keep hl (fun b hb' => hb2.block b hb')
  have hsz := hb2.size
  have hbh := hw2.behind
  clear hw0 hbel hef2
  have hn2' : n2 ≤ 9 := by rw [hn2]; simp only [List.nil_append]; exact num_le _
  have HN2 := Lib.hid hn2; clear hn2
  go_wp2_with fail
  refine (wtext_any _ w.heap.size A2 L n2 c2 m d _ xss (· < w.heap.size) hw2 hl2 (fun b hb' => by omega) (by omega) (fun k hk => by have := (hbh k hk).1; omega) hm (by have := HJ.out; omega)).mono ?_
  rintro e w3 ⟨A3, n3, c3, rfl, hn3, hw3, hef3⟩
  have hb3 : Below w.heap.size w w3 := hb2.trans (hef3.below (by omega) (fun k hk => by have := (hbh k hk).1; omega))
  have hc0 := one_cell0 hw3.1
  have HW := Lib.hid hw3
  clear hw3 hef3 hw2 hl2 hbh hl
  have HN3 := Lib.hid hn3; clear hn3
  go_wp2
  go_ret
  have e : [] ++ num (m : Int) ++ texts xss = joinL xss := by rw [List.nil_append]; unfold joinL; rw [HM.out]
  refine ⟨A3, n3, c3, rfl, by rw [HN3.out, e], ?_, hb3⟩
  have := HW.out.2
  rw [e] at this
  exact this.mono (by omega)

set_option maxHeartbeats 1000000 in
theorem rjoin_any (L : Option Addr) (m d : Nat) (xss : List (List Int)) (w : World) (hl : Bss w L m xss) (hm : m ≤ maxLen) (hn : (joinL xss).length + 20 ≤ 140737488355328) :
    Calls Try.prog 61 #[.slice L m d] w fun e w' => ∃ A' n' c', e = .returned (.slice A' n' c') ∧ n' = (joinL xss).length ∧ Own w' w.heap.size 5 A' n' c' (By (joinL xss)) ∧ Below w.heap.size w w' := by
  obtain ⟨i0, hi, hz0, hz1, hz2⟩ := info_parts info5
  unfold maxLen at hm
  have HM := Lib.hid hl.len
  have HJ := Lib.hid (show (joinL xss).length = (num (m : Int)).length + (texts xss).length by rw [← HM.out]; simp [joinL])
  go_enter Try.func61, Try.ntmps61
  go_wp2_with fail
  refine (rnumber_any (m : Int) _ (by omega) (by omega)).mono ?_
  rintro e w1 ⟨A1, c1, n1, rfl, hn1, ho1, hb1⟩
  have HN1 := Lib.hid hn1; clear hn1
  have hsz1 := hb1.size
  go_wp2
  go_loopw [3, 4] (fun v i wr => ∃ (k n' c' : Nat) (A' : Option Addr), v = .slice A' n' c' ∧ i = .int .i64 k ∧ k ≤ m ∧ Hid (n' = (num (m : Int) ++ texts (xss.take k)).length) ∧ Own wr w.heap.size 5 A' n' c' (By (num (m : Int) ++ texts (xss.take k))) ∧ Below w.heap.size w wr) (fun _ i _ => m - (intOf i).toNat)
  case atStart => exact ⟨0, n1, c1, A1, rfl, rfl, Nat.zero_le _, by show n1 = _; rw [HN1.out]; simp [texts], by simpa [texts] using ho1, hb1⟩
  case round =>
    obtain ⟨k, n', c', A', rfl, rfl, hk, HN, ho, hb⟩ := hrel
    have hsz := hb.size
    by_cases hlt : k < m
    · obtain ⟨b, off, A2, n2, c2, ts, rfl, hbk, hcell, hts, hn2, HT⟩ := (hl.keep hb).at_ hlt
      have HTS := Lib.hid (texts_snoc HT.out)
      have HL2 := Lib.hid hts.len
      have hlen : n' + 9 + n2 ≤ 140737488355328 := by
        have e1 := HN.out
        have e2 := texts_parts HT.out
        have e3 := HJ.out
        have e4 : (texts xss).length = (texts (xss.take k)).length + ((num ts.length).length + (ts.length + (texts (xss.drop (k + 1))).length)) := by
          rw [e2]; simp only [List.length_append]
        rw [List.length_append] at e1
        have e5 := HL2.out
        omega
      obtain ⟨q, hq⟩ : ∃ q, (num (n2 : Int)).length = q := ⟨_, rfl⟩
      have hq9 : q ≤ 9 := by rw [← hq]; exact num_le _
      have HQ := Lib.hid hq; clear hq
      go_wp2_with fail
      refine (rnumber_len (n2 : Int) q HQ.out _ (by omega) (by omega)).mono ?_
      rintro e w2 ⟨A3, c3, rfl, ho3, hb3⟩
      have hsz3 := hb3.size
      have ho' := ho.below hb3 (fun k hk => (ho.lies k hk).2)
      have hb4 := hb.trans (hb3.mono hsz)
      clear hcell hts
      go_wp2_with (at_builtin; refine wpList_append_rd rfl _ _ 28 rfl i0 (.int .u8 0) 1 Try.underlying28 hi hz0 hz1 hz2 rfl rfl ho' A3 q c3 (By (num (n2 : Int))) rfl ho3.rd (By_one _) ?c1 ?c2 ?c3 ?_)
      case c1 => unfold maxLen; omega
      case c2 => omega
      case c3 => omega
      intro A4 c4 w4 ho4 hg4
      rw [← By_append] at ho4
      have hb5 : Below w.heap.size w w4 := hb4.trans (hg4.below (by omega) (fun k hk => (ho.lies k hk).1))
      have hs4 := hg4.size
      obtain ⟨b', off', A2', n2', c2', ts', hA', _, hcell', hts', _, HT'⟩ := (hl.keep hb5).at_ hlt
      obtain ⟨b0, off0, A0, n0, c0, ts0, hA0, _, hcell0, hts0, _, HT0⟩ := hl.at_ hlt
      have e1 : ts' = ts := by have := HT'.out.symm.trans HT.out; injection this
      subst e1
      injection hA' with hA'; injection hA' with hb' ho''; subst hb'; subst ho''
      have HL2' := Lib.hid hts'.len
      have en : n2' = n2 := by rw [← HL2'.out]; exact HL2.out
      subst en
      clear hA0 hcell0 hts0 HT0 ho ho' hb ho3 hb3 hb4
      go_wp2_with (at_builtin; refine wpList_append_rd rfl _ _ 28 rfl i0 (.int .u8 0) 1 Try.underlying28 hi hz0 hz1 hz2 rfl rfl ho4 A2' n2' c2' (By ts') rfl hts'.1 (By_one _) ?c1 ?c2 ?c3 ?_)
      case c1 => unfold maxLen; omega
      case c2 => omega
      case c3 => omega
      intro A5 c5 w5 ho5 hg5
      rw [← By_append] at ho5
      have hb6 : Below w.heap.size w w5 := hb5.trans (hg5.below (by omega) (fun k hk => (ho4.lies k hk).1))
      have HO5 := Lib.hid ho5
      clear ho4 hb5 hcell' hts' ho5 hg5 hg4
      go_wp2
      go_roundw
      case rel =>
        refine ⟨k + 1, n' + q + n2', c5, A5, rfl, by go_num, by omega, ?_, ?_, hb6⟩
        · show n' + q + n2' = _
          rw [HTS.out, HL2.out, HN.out]; simp only [List.length_append]; rw [HL2.out, HQ.out]; omega
        · have := HO5.out
          rw [HTS.out, HL2.out]; simpa [List.append_assoc] using this
      case measure => simp [intOf]; omega
    · have hke : xss.take k = xss := List.take_of_length_le (by rw [HM.out]; omega)
      rw [hke] at HN ho
      clear hke
      have HO := Lib.hid ho; clear ho
      go_wp2
      go_ret
      have e : num (m : Int) ++ texts xss = joinL xss := by unfold joinL; rw [HM.out]
      exact ⟨A', n', c', rfl, by rw [HN.out, e], by rw [← e]; exact HO.out, hb⟩
end Go.Proofs.Ytmjjbfcblmmipaa
