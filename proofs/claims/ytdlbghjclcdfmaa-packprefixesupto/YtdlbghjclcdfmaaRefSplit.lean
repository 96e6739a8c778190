/- The reference's Split. -/
import Derived.Test.YtdlbghjclcdfmaaSplitW
namespace Go.Proofs.Ytdlbghjclcdfmaa
set_option linter.unusedVariables false
set_option linter.unusedSimpArgs false
open Go.RowKit

/-- Parts that lie in what was there below a block; their row is the call's own. -/
def RPrts (w : World) (base : Nat) (A : Option Addr) (n c : Nat) (xss : List (List Int)) : Prop :=
  xss.length = n ∧ ∃ vs, Own w base 23 A n c vs ∧ ∀ (i : Nat) (v : Value) (xs : List Int), vs[i]? = some v → xss[i]? = some xs → ∃ A' c', v = .slice A' xs.length c' ∧ BsP w (· < base) A' xs.length xs ∧ xs.length ≤ c'
section
variable {w w' : World} {base : Nat} {A A' : Option Addr} {n c c' : Nat} {xss : List (List Int)}
theorem RPrts.nil_ : RPrts w base none 0 0 [] := ⟨rfl, [], Own.nil_, fun i v xs hv _ => by simp at hv⟩
theorem RPrts.keep (h : RPrts w base A n c xss) (hb : Below w.heap.size w w') (hbs : base ≤ w.heap.size) : RPrts w' base A n c xss := by
  obtain ⟨hl, vs, ho, he⟩ := h
  refine ⟨hl, vs, ho.below hb (fun k hk => (ho.lies k hk).2), fun i v xs hv hx => ?_⟩
  obtain ⟨A', c', e, hx', hc⟩ := he i v xs hv hx
  exact ⟨A', c', e, hx'.keep (fun b hb' => hb.block b (Nat.lt_of_lt_of_le hb' hbs)), hc⟩
theorem RPrts.bss (h : RPrts w base A n c xss) (hbs : base ≤ w.heap.size) : Bss w A n xss := by
  obtain ⟨hl, vs, ho, he⟩ := h
  refine ⟨hl, vs, ho.rd.rdP, fun i v xs hv hx => ?_⟩
  obtain ⟨A', c', e, hx', hc⟩ := he i v xs hv hx
  exact ⟨A', c', e, hx'.imp (fun b hb' => Nat.lt_of_lt_of_le hb' hbs), hc⟩
theorem RPrts.row (h : RPrts w base A n c xss) (o : Obj) (hbs : base ≤ w.heap.size) : ∃ vs, Own (w.alloc o) base 23 A n c vs ∧ Hid (∀ (A2 : Option Addr) (c2 : Nat) (xs : List Int) (w2 : World) (A' : Option Addr) (c' : Nat), BsP w (· < base) A2 xs.length xs → xs.length ≤ c2 → Own w2 base 23 A' (n + 1) c' (vs ++ [.slice A2 xs.length c2]) → Grows (w.alloc o) w2 A A' → RPrts w2 base A' (n + 1) c' (xss ++ [xs])) := by
  obtain ⟨hl, vs, ho, he⟩ := h
  refine ⟨vs, ho.alloc o, ?_⟩
  intro A2 c2 xs w2 A' c' hx2 hc2 hn hg
  refine ⟨by simp [hl], _, hn, fun i v ys hv hy => ?_⟩
  have hvl := ho.len
  have hbel : ∀ b, b < base → w2.heap[b]? = w.heap[b]? := fun b hb =>
    (hg.1.block b (by simp; omega) (fun e => by have := (ho.lies b e.symm).1; omega)).trans (Below.heap_alloc w o b (by omega))
  by_cases hi : i < n
  · rw [List.getElem?_append_left (by omega)] at hv hy
    obtain ⟨A3, c3, e, h3, hc3⟩ := he i v ys hv hy
    exact ⟨A3, c3, e, h3.keep hbel, hc3⟩
  · have hin : i = n := by
      have := (List.getElem?_eq_some_iff.1 hv).1
      simp at this; omega
    subst hin
    rw [List.getElem?_append_right (by omega)] at hv hy
    simp only [hvl, hl, Nat.sub_self, List.getElem?_cons_zero, Option.some.injEq] at hv hy
    subst hv; subst hy
    exact ⟨A2, c2, rfl, hx2.keep hbel, hc2⟩
end

def RSplitPost (w : World) (s : List (List Int) × Int) (e : Ending) (w' : World) : Prop :=
  ∃ A' n' c', e = .returned (.tuple #[.slice A' n' c', .int .i64 s.2]) ∧ n' = s.1.length ∧ RPrts w' w.heap.size A' n' c' s.1 ∧ Below w.heap.size w w'

set_option maxRecDepth 100000 in
set_option maxHeartbeats 2000000 in
theorem rsplit_any (B : Option Addr) (m d : Nat) (xs : List Int) (w : World) (hx : Bs w B m xs) (hmd : m ≤ d) (hm : m ≤ 1073741824) :
    Calls Try.prog 22 #[.slice B m d] w (RSplitPost w (splitL xs)) := by
  obtain ⟨i0, hi, hz0, hz1, hz2⟩ := info_parts info23
  have HXL := Lib.hid hx.len
  have HR := Lib.hid hx.2
  rcases tk_step xs HR.out 0 (Nat.zero_le _) with ⟨e, ht, he, hs⟩ | ⟨v, p0, ht, hv, hp0, hpl, hs⟩
  · have HT := Lib.hid (show tk xs 0 = (0, 0, e) from ht)
    have HS := Lib.hid (show splitL xs = ([], e) by rw [List.drop_zero] at hs; exact splitL_err (numS_err hs he) (by rcases he with rfl | rfl <;> decide))
    have hne : (e != 0) = true := by rcases he with rfl | rfl <;> decide
    clear ht he hs
    go_enter Try.func22, Try.ntmps22
    go_wp2_with fail
    refine (rtake_3 B m d 0 xs _ 0 0 e HT.out hx (by omega)).mono ?_
    rintro e' w1 ⟨rfl, hb1⟩
    go_wp2
    go_ret2
    rw [HS.out]
    exact ⟨none, 0, 0, rfl, rfl, RPrts.nil_, hb1⟩
  · have HT := Lib.hid (show tk xs 0 = ((v : Int), (p0 : Int), 0) from ht)
    have HS : Hid (splitL xs = spl ((xs.drop p0).length + 1) v (xs.drop p0) []) := by
      have := numS_ok hs hp0
      rw [List.drop_zero] at this
      have := splitL_ok this
      rw [Int.toNat_natCast] at this
      exact this
    rw [HXL.out] at hpl
    clear ht hs
    generalize splitL xs = RES at *
    go_enter Try.func22, Try.ntmps22
    go_wp2_with fail
    refine (rtake_3 B m d 0 xs _ (v : Int) (p0 : Int) 0 HT.out hx (by omega)).mono ?_
    rintro e' w1 ⟨rfl, hb1⟩
    go_wp2
    go_loopg [5, 7, 8] (m + 1) (fun f a o i wr => ∃ (k p c' : Nat) (A' : Option Addr) (acc : List (List Int)), a = .int .i64 p ∧ o = .slice A' k c' ∧ i = .int .u64 k ∧ k ≤ v ∧ p ≤ m ∧ k ≤ p ∧ m - p < f ∧ Hid (∃ f', m - p < f' ∧ RES = spl f' (v - k) (xs.drop p) acc) ∧ RPrts wr w.heap.size A' k c' acc ∧ Below w.heap.size w wr)
    case atStart => exact ⟨0, p0, 0, none, [], rfl, rfl, rfl, Nat.zero_le _, hpl, Nat.zero_le _, by omega, ⟨_, by rw [List.length_drop, HXL.out]; omega, HS.out⟩, RPrts.nil_, hb1⟩
    case round =>
      obtain ⟨k, p, c', A', acc, rfl, rfl, rfl, hk, hp, hkp, hpf, HSP, hrp, hb⟩ := hrel
      have hsz := hb.size
      have hbx : Bs wr B m xs := hx.keep hb
      by_cases hkv : k < v
      · have hkv' : (k : Int) < (v : Int) := by omega
        rcases tk_step xs HR.out p (by rw [HXL.out]; exact hp) with ⟨e, ht, he, hs⟩ | ⟨n, q, ht, hn, hpq, hq, hs⟩
        · have HE : Hid (RES = ([], e)) := by
            obtain ⟨f', hf', hr⟩ := HSP.out
            obtain ⟨f, rfl⟩ : ∃ f, f' = f + 1 := ⟨f' - 1, by omega⟩
            obtain ⟨qq, hqq⟩ : ∃ q, v - k = q + 1 := ⟨v - k - 1, by omega⟩
            show _ = _
            rw [hr, hqq, spl_err f qq (textS_err hs he) (by rcases he with rfl | rfl <;> decide)]
          have HTT := Lib.hid ht
          have hne : (e != 0) = true := by rcases he with rfl | rfl <;> decide
          clear ht he hs hrp
          go_wp2_with fail
          refine (rtake_3 B m d (p : Int) xs _ 0 0 e HTT.out hbx (by omega)).mono ?_
          rintro e' w2 ⟨rfl, hb2⟩
          have hb3 := hb.trans (hb2.mono hsz)
          clear hb hb2 hbx
          go_wp2
          go_ret2
          rw [HE.out]
          exact ⟨none, 0, 0, rfl, rfl, RPrts.nil_, hb3⟩
        · have HTT := Lib.hid ht
          rw [HXL.out] at hq
          by_cases hlong : m < q + n
          · have HE : Hid (RES = ([], 5)) := by
              obtain ⟨f', hf', hr⟩ := HSP.out
              obtain ⟨f, rfl⟩ : ∃ f, f' = f + 1 := ⟨f' - 1, by omega⟩
              obtain ⟨qq, hqq⟩ : ∃ q, v - k = q + 1 := ⟨v - k - 1, by omega⟩
              show _ = _
              rw [hr, hqq, spl_err f qq (textS_long hs hpq (by rw [HXL.out]; exact hq) (by rw [HXL.out]; exact hlong)) (by decide)]
            have hlong' : (m : Int) - (q : Int) < (n : Int) := by omega
            clear ht hs hrp
            go_wp2_with fail
            refine (rtake_3 B m d (p : Int) xs _ (n : Int) (q : Int) 0 HTT.out hbx (by omega)).mono ?_
            rintro e' w2 ⟨rfl, hb2⟩
            have hb3 := hb.trans (hb2.mono hsz)
            clear hb hb2 hbx
            go_wp2
            go_ret2
            rw [HE.out]
            exact ⟨none, 0, 0, rfl, rfl, RPrts.nil_, hb3⟩
          · have hfit : q + n ≤ m := by omega
            have hlong' : ¬ (m : Int) - (q : Int) < (n : Int) := by omega
            have HE : Hid (∃ f', m - (q + n) < f' ∧ RES = spl f' (v - (k + 1)) (xs.drop (q + n)) (acc ++ [(xs.drop q).take n])) := by
              obtain ⟨f', hf', hr⟩ := HSP.out
              obtain ⟨f, rfl⟩ : ∃ f, f' = f + 1 := ⟨f' - 1, by omega⟩
              obtain ⟨qq, hqq⟩ : ∃ q, v - k = q + 1 := ⟨v - k - 1, by omega⟩
              refine ⟨f, by omega, ?_⟩
              rw [hr, hqq, spl_ok f qq (textS_ok hs hpq (by rw [HXL.out]; exact hq) (by rw [HXL.out]; exact hfit)), show v - (k + 1) = qq by omega]
            have hsl := slice_lohi B m d q (q + n) (by omega) (by omega)
            have ec : ((q + n : Nat) : Int) = (q : Int) + (n : Int) := by omega
            have eb : q + n - q = n := by omega
            rw [ec, eb] at hsl
            have hcl := hx.cut (c := d) (lo := q) (hi := q + n) (by omega) hfit hmd
            rw [eb] at hcl
            have HLN := Lib.hid (show ((xs.drop q).take n).length = n by rw [List.length_take, List.length_drop, HXL.out]; omega)
            clear ht hs ec eb hlong
            go_wp2_with fail
            refine (rtake_3 B m d (p : Int) xs _ (n : Int) (q : Int) 0 HTT.out hbx (by omega)).mono ?_
            rintro e' w2 ⟨rfl, hb2⟩
            have hb3 := hb.trans (hb2.mono hsz)
            have hsz3 := hb3.size
            have hcl2 : BsP w2 (· < w.heap.size) (cutA B d q) n ((xs.drop q).take n) := (Bs.bsP hcl).keep (fun b hb' => hb3.block b hb')
            obtain ⟨vs, hrow, HROW⟩ := (hrp.keep hb2 hsz).row (.cells #[.slice (cutA B d q) n (d - q)] 23) hsz3
            clear hb hb2 hbx hrp
            go_wp2_with (at_builtin; refine wpList_append_rd rfl _ _ 36 rfl i0 (.slice none 0 0) 24 Try.underlying36 hi hz0 hz1 hz2 rfl rfl hrow (some ⟨w2.heap.size, 0, none⟩) 1 1 [.slice (cutA B d q) n (d - q)] rfl (rd_oneV w2 _ 23) (one_slice _ _ _) ?c1 ?c2 ?c3 ?_)
            case c1 => unfold maxLen; omega
            case c2 => omega
            case c3 => simp; omega
            intro A4 c4 w4 ho4 hg4
            have hb4 := (hb3.alloc hsz3 (.cells #[.slice (cutA B d q) n (d - q)] 23)).trans (hg4.below (B := w.heap.size) (by simp; omega) (fun k hk => (hrow.lies k hk).1))
            have HP : Hid (RPrts w4 w.heap.size A4 (k + 1) c4 (acc ++ [(xs.drop q).take n])) := by
              refine HROW.out (cutA B d q) (d - q) ((xs.drop q).take n) w4 A4 c4 ?_ ?_ ?_ hg4
              · rw [HLN.out]; exact hcl2
              · rw [HLN.out]; omega
              · rw [HLN.out]; exact ho4
            clear hrow HROW ho4 hg4 hb3 hcl2
            go_wp2
            go_roundg (gk - 1)
            case measure => omega
            case rel => exact ⟨k + 1, q + n, c4, A4, acc ++ [(xs.drop q).take n], by go_num, rfl, by go_num, by omega, hfit, by omega, by omega, HE, HP.out, hb4⟩
      · obtain rfl : k = v := by omega
        have hkv' : ¬ (k : Int) < (k : Int) := by omega
        have HP := Lib.hid hrp
        have HAL := Lib.hid (show acc.length = k from hrp.1)
        clear hrp
        by_cases hre : p < m
        · have HE : Hid (RES = ([], 3)) := by
            obtain ⟨f', hf', hr⟩ := HSP.out
            show _ = _
            rw [hr, Nat.sub_self, spl_more f' (by rw [ne_eq, List.drop_eq_nil_iff, HXL.out]; omega)]
          go_wp2
          go_ret2
          rw [HE.out]
          exact ⟨none, 0, 0, rfl, rfl, RPrts.nil_, hb⟩
        · have HE : Hid (RES = (acc, 0)) := by
            obtain ⟨f', hf', hr⟩ := HSP.out
            have : xs.drop p = [] := List.drop_eq_nil_of_le (by rw [HXL.out]; omega)
            show _ = _
            rw [hr, Nat.sub_self, this, spl_done]
          go_wp2
          go_ret2
          rw [HE.out]
          exact ⟨A', k, c', rfl, HAL.out.symm, HP.out, hb⟩
end Go.Proofs.Ytdlbghjclcdfmaa
