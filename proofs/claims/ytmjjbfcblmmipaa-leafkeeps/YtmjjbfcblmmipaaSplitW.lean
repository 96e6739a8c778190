/- pack.Split and the reference's Split. -/
import Derived.Test.YtmjjbfcblmmipaaPrts
import Derived.Test.YtmjjbfcblmmipaaSpl
import Derived.Test.YtmjjbfcblmmipaaNumbersW
import Derived.Deep.LoopGhost
namespace Go.Proofs.Ytmjjbfcblmmipaa
set_option linter.unusedVariables false
set_option linter.unusedSimpArgs false
open Go.RowKit

theorem textS_inv (xs t r : List Int) (hr : Ran xs) (h : textS xs 0 = (t, r, 0)) : xs = num t.length ++ (t ++ r) := by
  rcases tk_step xs hr 0 (Nat.zero_le _) with ⟨e, _, he, hs⟩ | ⟨n, k, _, _, hk, hkl, hs⟩
  · rw [List.drop_zero] at hs
    rw [textS_err hs he] at h
    simp only [Prod.mk.injEq] at h
    rcases he with rfl | rfl
    · exact absurd h.2.2 (by decide)
    · exact absurd h.2.2 (by decide)
  · by_cases hl : xs.length < k + n
    · have := textS_long hs hk hkl hl
      rw [List.drop_zero] at this
      rw [this] at h
      simp only [Prod.mk.injEq] at h
      exact absurd h.2.2 (by decide)
    · have := textS_ok hs hk hkl (by omega)
      rw [List.drop_zero] at this hs
      rw [this] at h
      simp only [Prod.mk.injEq] at h
      obtain ⟨rfl, rfl, _⟩ := h
      have hu := tk_unique xs hr n k (by simpa using hs)
      have hlen : ((xs.drop k).take n).length = n := by rw [List.length_take, List.length_drop]; omega
      have ed : xs.drop (k + n) = (xs.drop k).drop n := by rw [List.drop_drop]
      rw [hlen, ed, List.take_append_drop]
      exact hu
theorem spl_inv : ∀ (f n : Nat) (xs : List Int) (acc l : List (List Int)), Ran xs → spl f n xs acc = (l, 0) → ∃ l', l = acc ++ l' ∧ l'.length = n ∧ texts l' = xs
  | f, 0, xs, acc, l, hr, h => by
    by_cases hx : xs = []
    · subst hx
      rw [spl_done] at h
      simp only [Prod.mk.injEq] at h
      exact ⟨[], by simp [h.1], rfl, rfl⟩
    · rw [spl_more f hx] at h
      simp only [Prod.mk.injEq] at h
      exact absurd h.2 (by decide)
  | 0, n + 1, xs, acc, l, hr, h => by
    simp only [spl, Prod.mk.injEq] at h
    exact absurd h.2 (by decide)
  | f + 1, n + 1, xs, acc, l, hr, h => by
    rcases textS_cases xs hr with ⟨e, ht, he⟩ | ⟨t, r, ht, hlt, hrr, hrt⟩
    · rw [spl_err f n ht (by rcases he with rfl | rfl <;> decide)] at h
      simp only [Prod.mk.injEq] at h
      rcases he with rfl | rfl
      · exact absurd h.2 (by decide)
      · exact absurd h.2 (by decide)
    · rw [spl_ok f n ht] at h
      obtain ⟨l', rfl, hl', hx'⟩ := spl_inv f n r (acc ++ [t]) l hrr h
      refine ⟨t :: l', by simp, by simp [hl'], ?_⟩
      have e : texts (t :: l') = num t.length ++ (t ++ texts l') := by simp [texts]
      rw [e, hx']
      exact (textS_inv xs t r hr ht).symm
theorem splitL_inv (xs : List Int) (l : List (List Int)) (hr : Ran xs) (h : splitL xs = (l, 0)) : joinL l = xs := by
  rcases tk_step xs hr 0 (Nat.zero_le _) with ⟨e, _, he, hs⟩ | ⟨n, k, _, hn, hk, hkl, hs⟩
  · rw [List.drop_zero] at hs
    rw [splitL_err (numS_err hs he) (by rcases he with rfl | rfl <;> decide)] at h
    simp only [Prod.mk.injEq] at h
    rcases he with rfl | rfl
    · exact absurd h.2 (by decide)
    · exact absurd h.2 (by decide)
  · have hns := numS_ok hs hk
    rw [List.drop_zero] at hns hs
    rw [splitL_ok hns, Int.toNat_natCast] at h
    obtain ⟨l', rfl, hl', hx'⟩ := spl_inv _ _ _ _ _ (hr.sub fun x hx => List.mem_of_mem_drop hx) h
    have hu := tk_unique xs hr n k (by simpa using hs)
    unfold joinL
    rw [hl', hx']
    exact hu.symm
theorem spl_size : ∀ (f n : Nat) (xs : List Int) (acc l : List (List Int)) (e : Int), Ran xs → spl f n xs acc = (l, e) → l = [] ∨ ∃ l', l = acc ++ l' ∧ (∀ t ∈ l', t.length ≤ xs.length) ∧ l'.length ≤ xs.length
  | f, 0, xs, acc, l, e, hr, h => by
    by_cases hx : xs = []
    · subst hx
      rw [spl_done] at h
      simp only [Prod.mk.injEq] at h
      exact .inr ⟨[], by simp [h.1], (fun t ht => by cases ht), Nat.zero_le _⟩
    · rw [spl_more f hx] at h
      simp only [Prod.mk.injEq] at h
      exact .inl h.1.symm
  | 0, n + 1, xs, acc, l, e, hr, h => by
    simp only [spl, Prod.mk.injEq] at h
    exact .inl h.1.symm
  | f + 1, n + 1, xs, acc, l, e, hr, h => by
    rcases textS_cases xs hr with ⟨e', ht, he⟩ | ⟨t, r, ht, hlt, hrr, hrt⟩
    · rw [spl_err f n ht (by rcases he with rfl | rfl <;> decide)] at h
      simp only [Prod.mk.injEq] at h
      exact .inl h.1.symm
    · rw [spl_ok f n ht] at h
      rcases spl_size f n r (acc ++ [t]) l e hrr h with h' | ⟨l', rfl, hl', hn'⟩
      · exact .inl h'
      · refine .inr ⟨t :: l', by simp, fun u hu => ?_, by simp; omega⟩
        rcases List.mem_cons.1 hu with rfl | hu
        · omega
        · have := hl' u hu; omega
theorem splitL_size (xs : List Int) (hr : Ran xs) : (∀ t ∈ (splitL xs).1, t.length ≤ xs.length) ∧ (splitL xs).1.length ≤ xs.length := by
  rcases numS_cases xs hr with ⟨e, h, he⟩ | ⟨v, r, h, hv, hlt, hrr⟩
  · rw [splitL_err h (by rcases he with rfl | rfl <;> decide)]
    exact ⟨(fun t ht => by cases ht), Nat.zero_le _⟩
  · rw [splitL_ok h]
    rcases spl_size _ _ r [] _ _ hrr rfl with h' | ⟨l', h1, h2, h3⟩
    · rw [h']; exact ⟨(fun t ht => by cases ht), Nat.zero_le _⟩
    · rw [h1, List.nil_append]
      exact ⟨fun t ht => by have := h2 t ht; omega, by omega⟩

theorem Prts.mono {w : World} {base b : Nat} {A : Option Addr} {n c : Nat} {xss : List (List Int)} (h : Prts w base A n c xss) (hb : b ≤ base) : Prts w b A n c xss := by
  obtain ⟨hl, vs, ho, hd, he⟩ := h
  refine ⟨hl, vs, ho.mono hb, hd, fun i v xs hv hx => ?_⟩
  obtain ⟨A', c', e, ho', hr⟩ := he i v xs hv hx
  exact ⟨A', c', e, ho'.mono hb, hr⟩

def SplitPost (w : World) (s : List (List Int) × Int) (e : Ending) (w' : World) : Prop :=
  ∃ A' n' c', e = .returned (.tuple #[.slice A' n' c', .int .i64 s.2]) ∧ n' = s.1.length ∧ Prts w' w.heap.size A' n' c' s.1 ∧ Below w.heap.size w w'

set_option maxRecDepth 100000 in
set_option maxHeartbeats 2000000 in
theorem split_any (B : Option Addr) (m d : Nat) (xs : List Int) (w : World) (hx : Bs w B m xs) (hmd : m ≤ d) (hB : ∀ k, blk B = some k → k < w.heap.size) (hm : m ≤ 1073741824) :
    Calls Try.prog 64 #[.slice B m d] w (SplitPost w (splitL xs)) := by
  obtain ⟨i0, hi, hz0, hz1, hz2⟩ := info_parts info23
  have hrd0 : Rdr (w.alloc (.cells #[.slice B m d, .int .i64 0] 151)) w.heap.size xs 0 := ⟨B, m, d, heap_alloc_new w _, hx.keep (below_alloc w _), hmd, hB⟩
  have HXL := Lib.hid hx.len
  have HR := Lib.hid hx.2
  have hxl : xs.length ≤ 1073741824 := by rw [HXL.out]; exact hm
  clear hx hB
  rcases numS_cases xs HR.out with ⟨e, hns, he⟩ | ⟨v, r, hns, hv, hlt, hrr⟩
  · have HS := Lib.hid (splitL_err hns (by rcases he with rfl | rfl <;> decide))
    have HNS := Lib.hid hns
    have hne : (e != 0) = true := by rcases he with rfl | rfl <;> decide
    have HCL := Lib.hid (show closeV xs e = e by unfold closeV; rw [if_neg]; intro h; rcases he with rfl | rfl <;> exact absurd h.1 (by decide))
    clear hns he
    go_enter Try.func64, Try.ntmps64
    go_wp2_with fail
    refine (rnum_any _ w.heap.size _ 0 hrd0 (by omega)).mono ?_
    rw [HNS.out]
    rintro e' w1 ⟨rfl, hrd1, ho1⟩
    have hb1 := (below_alloc w (.cells #[.slice B m d, .int .i64 0] 151)).trans (ho1.below (by simp))
    clear hrd0 ho1
    go_wp2
    refine wp_loop_rounds 1 ?_
    rw [rounds_succ]
    go_wp2_with fail
    refine (rclose_any _ w.heap.size _ _ hrd1).mono ?_
    rintro e' w2 ⟨rfl, rfl⟩
    rw [HCL.out]
    go_wp2
    go_ret2
    rw [HS.out]
    exact ⟨none, 0, 0, rfl, rfl, Prts.nil_, hb1⟩
  · have HS := Lib.hid (splitL_ok hns)
    rw [Int.toNat_natCast] at HS
    have HNS := Lib.hid hns
    have hrl : r.length < 1073741824 := by omega
    have HRR := Lib.hid hrr
    clear hns hrr hlt
    generalize hres : splitL xs = RES at *
    have hhr := hres; clear hres hhr
    go_enter Try.func64, Try.ntmps64
    go_wp2_with fail
    refine (rnum_any _ w.heap.size _ 0 hrd0 (by omega)).mono ?_
    rw [HNS.out]
    rintro e' w1 ⟨rfl, hrd1, ho1⟩
    have hb1 := (below_alloc w (.cells #[.slice B m d, .int .i64 0] 151)).trans (ho1.below (by simp))
    have hw1 := hrd1.lt
    clear hrd0 ho1
    go_wp2
    go_loopg [5, 11] (r.length + 1) (fun f p i wr => ∃ (k c' : Nat) (A' : Option Addr) (rest : List Int) (acc : List (List Int)), p = .slice A' k c' ∧ i = .int .u64 k ∧ k ≤ v ∧ k + rest.length ≤ r.length ∧ rest.length < f ∧ Hid (RES = spl f (v - k) rest acc) ∧ Ran rest ∧ Prts wr (w.heap.size + 1) A' k c' acc ∧ Rdr wr w.heap.size rest 0 ∧ Below w.heap.size w wr)
    case atStart => exact ⟨0, 0, none, r, [], rfl, rfl, Nat.zero_le _, by omega, by omega, HS, HRR.out, Prts.nil_, hrd1, hb1⟩
    case round =>
      obtain ⟨k, c', A', rest, acc, rfl, rfl, hk, hkr, hrf, HSP, hran, hp, hrd, hb⟩ := hrel
      have hsz := hb.size
      have hgl := hrd.lt
      by_cases hkv : k < v
      · have hkv' : (k : Int) < (v : Int) := by omega
        obtain ⟨f, rfl⟩ : ∃ f, gk = f + 1 := ⟨gk - 1, by omega⟩
        obtain ⟨q, hq⟩ : ∃ q, v - k = q + 1 := ⟨v - k - 1, by omega⟩
        have hq' : v - (k + 1) = q := by omega
        rcases textS_cases rest hran with ⟨e, ht, he⟩ | ⟨t, r', ht, hlt, hrr', hrt⟩
        · have HE := Lib.hid (show RES = ([], e) by rw [HSP.out, hq, spl_err f q ht (by rcases he with rfl | rfl <;> decide)])
          have HTX := Lib.hid ht
          have hne : (e != 0) = true := by rcases he with rfl | rfl <;> decide
          clear ht he hq hq' hp
          go_wp2_with fail
          refine (rtext_any _ w.heap.size _ 0 hrd (by omega)).mono ?_
          rw [HTX.out]
          rintro e' w2 ⟨A2, c2, n2, rfl, hn2, ho2, hr2, hrd2, hl2⟩
          have hb2 := hb.trans (hl2.below (by omega))
          obtain ⟨A9, n9, c9, hh9, _⟩ := hrd2
          have hcc := two_cell1 hh9
          clear hn2 ho2 hl2 hh9 hrd hb
          go_wp2
          go_quiet (fail)
          go_wp2
          go_ret2
          rw [HE.out]
          exact ⟨none, 0, 0, rfl, rfl, Prts.nil_, below_n hb2 _⟩
        · have HE := Lib.hid (show RES = spl f (v - (k + 1)) r' (acc ++ [t]) by rw [HSP.out, hq, hq', spl_ok f q ht])
          have HTX := Lib.hid ht
          have HRR' := Lib.hid hrr'
          clear ht hq hq' hrr'
          go_wp2_with fail
          refine (rtext_any _ w.heap.size _ 0 hrd (by omega)).mono ?_
          rw [HTX.out]
          rintro e' w2 ⟨A2, c2, n2, rfl, hn2, ho2, hr2, hrd2, hl2⟩
          have hb2 := hb.trans (hl2.below (by omega))
          have hp2 := hp.onl hl2 (by omega)
          have hs2 := hl2.size
          obtain ⟨A9, n9, c9, hh9, hrest9⟩ := hrd2
          have hcc := two_cell1 hh9
          have hrd2 : Rdr w2 w.heap.size r' 0 := ⟨A9, n9, c9, hh9, hrest9⟩
          obtain ⟨vs, hrow, HROW⟩ := hp.row (w := w2) (fun e B m d us hh => hh.onl hl2 (fun e1 => by have := (hh.lies _ e1).1; omega)) (.cells #[.slice A2 n2 c2] 28)
          have hn2' : n2 ≤ rest.length := by have : n2 = t.length := hn2; omega
          have HN2 := Lib.hid (show n2 = t.length from hn2)
          clear hn2 hl2 hh9 hrest9 hrd hb hp
          go_wp2_with (at_builtin; refine wpList_append_rd rfl _ _ 62 rfl i0 (.slice none 0 0) 24 Try.underlying62 hi hz0 hz1 hz2 rfl rfl hrow (some ⟨w2.heap.size, 0, none⟩) 1 1 [.slice A2 n2 c2] rfl (rd_oneV w2 _ 28) (one_slice _ _ _) ?c1 ?c2 ?c3 ?_)
          case c1 => unfold maxLen; omega
          case c2 => omega
          case c3 => simp; omega
          intro A4 c4 w4 ho4 hg4
          have hb3 := (hb2.alloc (by omega) (.cells #[.slice A2 n2 c2] 28)).trans (hg4.below (B := w.heap.size) (by simp; omega) (fun k hk => by have := (hrow.lies k hk).1; omega))
          have HP : Hid (Prts w4 (w.heap.size + 1) A4 (k + 1) c4 (acc ++ [t])) := by
            refine HROW.out A2 c2 t w4 A4 c4 ?_ (fun b hb => (ho2.lies b hb).1) hr2 ?_ hg4
            · rw [← HN2.out]; exact ho2.mono (by omega)
            · rw [← HN2.out]; exact ho4
          have hrd4 : Rdr w4 w.heap.size r' 0 := by
            have h1 := hrd2.keep (below_alloc w2 (.cells #[.slice A2 n2 c2] 28)) hrd2.lt
            exact h1.keep (hg4.below (B := w.heap.size + 1) (by simp; omega) (fun k hk => (hrow.lies k hk).1)) (by omega)
          clear hrow HROW ho4 hg4 ho2 hb2 hp2 hcc
          go_wp2
          go_roundg f
          case measure => omega
          case rel => exact ⟨k + 1, c4, A4, r', acc ++ [t], rfl, by go_num, by omega, by omega, by omega, HE, HRR'.out, HP.out, hrd4, hb3⟩
      · obtain rfl : k = v := by omega
        have hkv' : ¬ (k : Int) < (k : Int) := by omega
        have HP := Lib.hid (hp.mono (b := w.heap.size) (by omega))
        have HAL := Lib.hid (show acc.length = k from hp.1)
        clear hp
        rw [Nat.sub_self] at HSP
        by_cases hre : rest = []
        · subst hre
          have HE := Lib.hid (show RES = (acc, 0) by rw [HSP.out, spl_done])
          have HCL := Lib.hid (show closeV [] 0 = 0 by decide)
          go_wp2_with fail
          refine (rclose_any _ w.heap.size _ _ hrd).mono ?_
          rintro e' w2 ⟨rfl, rfl⟩
          rw [HCL.out]
          go_wp2
          go_ret2
          rw [HE.out]
          exact ⟨A', k, c', rfl, HAL.out.symm, HP.out, hb⟩
        · have HE := Lib.hid (show RES = ([], 3) by rw [HSP.out, spl_more _ hre])
          have HCL := Lib.hid (show closeV rest 0 = 3 by unfold closeV; rw [if_pos ⟨rfl, hre⟩])
          clear hre
          go_wp2_with fail
          refine (rclose_any _ w.heap.size _ _ hrd).mono ?_
          rintro e' w2 ⟨rfl, rfl⟩
          rw [HCL.out]
          go_wp2
          go_ret2
          rw [HE.out]
          exact ⟨none, 0, 0, rfl, rfl, Prts.nil_, hb⟩
end Go.Proofs.Ytmjjbfcblmmipaa
