/- The reference's Copies; slices of slices of bytes that lie elsewhere, in a row of the call's own. -/
import Derived.Test.YtmckgdjipkkklaaDoorTellsW
namespace Go.Proofs.YtmckgdjipkkklaaDoor
set_option linter.unusedVariables false
set_option linter.unusedSimpArgs false
open Go.RowKit

theorem info28 : (Tryd.prog.info? 28).map (fun i => (i.zero, i.size, i.bytes)) = some (some (.slice none 0 0), 1, 24) := by kernel_rfl
set_option maxHeartbeats 1000000 in
theorem copies_any (L : Option Addr) (m d : Nat) (xss : List (List Int)) (w : World) (hl : Bss w L m xss) (hm : m ≤ 1048576) (hs : ∀ xs ∈ xss, xs.length ≤ 1048576) :
    Calls Tryd.prog 18 #[.slice L m d] w fun e w' => ∃ A' c', e = .returned (.slice A' m c') ∧ Prts w' w.heap.size A' m c' xss ∧ Below w.heap.size w w' := by
  obtain ⟨i0, hi, hz0, hz1, hz2⟩ := info_parts info28
  have HM := Lib.hid hl.len
  have HS := Lib.hid hs; clear hs
  go_enter Tryd.func18, Tryd.ntmps18
  go_wp2
  go_loopw [3, 4] (fun v i wr => ∃ (k c' : Nat) (A' : Option Addr), v = .slice A' k c' ∧ i = .int .i64 k ∧ k ≤ m ∧ Prts wr w.heap.size A' k c' (xss.take k) ∧ Below w.heap.size w wr) (fun _ i _ => m - (intOf i).toNat)
  case atStart => exact ⟨0, 0, none, rfl, rfl, Nat.zero_le _, Prts.nil_, Below.refl _ _⟩
  case round =>
    obtain ⟨k, c', A', rfl, rfl, hk, hp, hb⟩ := hrel
    have hsz := hb.size
    by_cases hlt : k < m
    · obtain ⟨b, off, A2, n2, c2, ts, rfl, hbk, hcell, hts, hn2, HT⟩ := (hl.keep hb).at_ hlt
      have hn2' : n2 ≤ 1048576 := by rw [← hts.len]; exact HS.out _ (List.mem_of_getElem? HT.out)
      have HTK : Hid (xss.take (k + 1) = xss.take k ++ [ts]) := by
        obtain ⟨hk', e⟩ := List.getElem?_eq_some_iff.1 HT.out
        show _ = _
        rw [List.take_succ_eq_append_getElem hk', e]
      have HL2 := Lib.hid hts.len
      go_wp2_with fail
      refine (copy_any A2 n2 c2 ts _ hts (by omega)).mono ?_
      rintro e w2 ⟨A3, c3, rfl, ho3, hb3⟩
      have hsz3 := hb3.size
      have hb4 := hb.trans (hb3.mono hsz)
      obtain ⟨vs, hrow, HROW⟩ := (hp.keep hb3).row (.cells #[.slice A3 n2 c3] 28)
      have HR := Lib.hid hts.2
      clear hp hb hcell hts
      go_wp2_with (at_builtin; refine wpList_append_rd rfl _ _ 27 rfl i0 (.slice none 0 0) 24 Tryd.underlying27 hi hz0 hz1 hz2 rfl rfl hrow (some ⟨w2.heap.size, 0, none⟩) 1 1 [.slice A3 n2 c3] rfl (rd_oneV w2 _ 28) (one_slice _ _ _) ?c1 ?c2 ?c3 ?_)
      case c1 => unfold maxLen; omega
      case c2 => omega
      case c3 => simp; omega
      intro A4 c4 w4 ho4 hg4
      have hb5 : Below w.heap.size w w4 := (hb4.alloc (by omega) _).trans (hg4.below (by simp; omega) (fun k hk => (hrow.lies k hk).1))
      have HP : Hid (Prts w4 w.heap.size A4 (k + 1) c4 (xss.take k ++ [ts])) := by
        refine HROW.out A3 c3 ts w4 A4 c4 ?_ HR.out ?_ hg4
        · rw [HL2.out]; exact ho3.mono hsz
        · rw [HL2.out]; exact ho4
      clear hrow HROW ho4 hg4 ho3 hb3 hb4
      go_wp2
      go_roundw
      case rel => exact ⟨k + 1, c4, A4, rfl, by go_num, by omega, by rw [HTK.out]; exact HP.out, hb5⟩
      case measure => simp [intOf]; omega
    · have hke : xss.take k = xss := List.take_of_length_le (by rw [HM.out]; omega)
      obtain rfl : k = m := by omega
      rw [hke] at hp
      clear hke
      have HP := Lib.hid hp; clear hp
      go_wp2
      go_ret
      exact ⟨A', c', rfl, HP.out, hb⟩

/-- Slices of bytes that lie below 'base', in a row of the call's own. -/
def Sls (w : World) (base : Nat) (A : Option Addr) (n c : Nat) (xss : List (List Int)) : Prop :=
  xss.length = n ∧ ∃ vs, Own w base 28 A n c vs ∧ ∀ (i : Nat) (v : Value) (xs : List Int), vs[i]? = some v → xss[i]? = some xs → ∃ A' c', v = .slice A' xs.length c' ∧ BsP w (· < base) A' xs.length xs ∧ xs.length ≤ c'
section
variable {w w' : World} {base : Nat} {A A' : Option Addr} {n c c' : Nat} {xss : List (List Int)}
theorem Sls.nil_ : Sls w base none 0 0 [] := ⟨rfl, [], Own.nil_, fun i v xs hv _ => by simp at hv⟩
theorem Sls.bss (h : Sls w base A n c xss) (hb : base ≤ w.heap.size) : Bss w A n xss := by
  obtain ⟨hl, vs, ho, he⟩ := h
  refine ⟨hl, vs, ho.rd.rdP, fun i v xs hv hx => ?_⟩
  obtain ⟨A', c', e, ho', hr⟩ := he i v xs hv hx
  exact ⟨A', c', e, ho'.imp (fun b hb' => Nat.lt_of_lt_of_le hb' hb), hr⟩
/-- One more; and what else is grown leaves it alone. -/
theorem Sls.row (h : Sls w base A n c xss) (o : Obj) : ∃ vs, Own (w.alloc o) base 28 A n c vs ∧ Hid (∀ (A2 : Option Addr) (c2 : Nat) (xs : List Int) (w2 : World) (A' : Option Addr) (c' : Nat), BsP w (· < base) A2 xs.length xs → xs.length ≤ c2 → Own w2 base 28 A' (n + 1) c' (vs ++ [.slice A2 xs.length c2]) → Below base w w2 → Sls w2 base A' (n + 1) c' (xss ++ [xs])) := by
  obtain ⟨hl, vs, ho, he⟩ := h
  refine ⟨vs, ho.alloc o, ?_⟩
  intro A2 c2 xs w2 A' c' hb2 hc2 hn hbel
  refine ⟨by simp [hl], _, hn, fun i v ys hv hy => ?_⟩
  have hvl := ho.len
  have kb : ∀ b, b < base → w2.heap[b]? = w.heap[b]? := fun b hb => hbel.block b hb
  by_cases hi : i < n
  · rw [List.getElem?_append_left (by omega)] at hv hy
    obtain ⟨A3, c3, e, ho3, hr3⟩ := he i v ys hv hy
    exact ⟨A3, c3, e, ho3.keep kb, hr3⟩
  · have hin : i = n := by
      have := (List.getElem?_eq_some_iff.1 hv).1
      simp at this; omega
    subst hin
    rw [List.getElem?_append_right (by omega)] at hv hy
    simp only [hvl, hl, Nat.sub_self, List.getElem?_cons_zero, Option.some.injEq] at hv hy
    subst hv; subst hy
    exact ⟨A2, c2, rfl, hb2.keep kb, hc2⟩
theorem Sls.kept (h : Sls w base A n c xss) {A2 : Option Addr} {n2 c2 : Nat} {us : List Value} (h2 : Own w base 5 A2 n2 c2 us) (hg : w.grownBy w' (blk A2)) (hbel : Below base w w') : Sls w' base A n c xss := by
  obtain ⟨hl, vs, ho, he⟩ := h
  refine ⟨hl, vs, ho.kept hg (own_apart ho h2 (by decide)), fun i v xs hv hx => ?_⟩
  obtain ⟨A', c', e, ho', hr⟩ := he i v xs hv hx
  exact ⟨A', c', e, ho'.keep (fun b hb => hbel.block b hb), hr⟩
theorem Sls.keep (h : Sls w base A n c xss) (hb : Below w.heap.size w w') (hbase : base ≤ w.heap.size) : Sls w' base A n c xss := by
  obtain ⟨hl, vs, ho, he⟩ := h
  refine ⟨hl, vs, ho.below hb (fun k hk => (ho.lies k hk).2), fun i v xs hv hx => ?_⟩
  obtain ⟨A', c', e, ho', hr⟩ := he i v xs hv hx
  exact ⟨A', c', e, ho'.keep (fun b hb' => hb.block b (Nat.lt_of_lt_of_le hb' hbase)), hr⟩
end
end Go.Proofs.YtmckgdjipkkklaaDoor
