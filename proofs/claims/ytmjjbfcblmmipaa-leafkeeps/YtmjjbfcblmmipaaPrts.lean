/- Lists of byte lists that a call makes: the reference's Copies and Equals. -/
import Derived.Test.YtmjjbfcblmmipaaJoinW
namespace Go.Proofs.Ytmjjbfcblmmipaa
set_option linter.unusedVariables false
set_option linter.unusedSimpArgs false
open Go.RowKit

theorem info23 : (Try.prog.info? 28).map (fun i => (i.zero, i.size, i.bytes)) = some (some (.slice none 0 0), 1, 24) := by kernel_rfl

/-- Two rows of unlike element types are no one block. -/
theorem own_apart {w : World} {b1 b2 : Nat} {e1 e2 : TypeId} {A1 A2 : Option Addr} {n1 c1 n2 c2 : Nat} {v1 v2 : List Value} (h1 : Own w b1 e1 A1 n1 c1 v1) (h2 : Own w b2 e2 A2 n2 c2 v2) (hne : e1 ≠ e2) : blk A1 = none ∨ blk A1 ≠ blk A2 := by
  rcases h1.2 with ⟨hv, _⟩ | ⟨g1, cap1, cur1, hv, _, hg1, _⟩
  · left
    have : A1 = none := by injection hv
    rw [this]; rfl
  · right
    have hA1 : A1 = some ⟨g1, 0, none⟩ := by injection hv
    subst hA1
    rcases h2.2 with ⟨hv2, _⟩ | ⟨g2, cap2, cur2, hv2, _, hg2, _⟩
    · have : A2 = none := by injection hv2
      rw [this]; intro e; cases e
    · have hA2 : A2 = some ⟨g2, 0, none⟩ := by injection hv2
      subst hA2
      intro e
      have e' : g1 = g2 := by injection e
      subst e'
      rw [hg1] at hg2
      injection hg2 with hg2
      injection hg2 with _ ht
      exact hne ht
theorem Own.cap {w : World} {base : Nat} {e : TypeId} {A : Option Addr} {n c : Nat} {vs : List Value} (h : Own w base e A n c vs) : n ≤ c := by
  rcases h.2 with ⟨hv, h0⟩ | ⟨g, cap, cur, hv, _, _, hh, _⟩
  · omega
  · have : c = cap := by injection hv
    omega
theorem Own.len {w : World} {base : Nat} {e : TypeId} {A : Option Addr} {n c : Nat} {vs : List Value} (h : Own w base e A n c vs) : vs.length = n := by have := h.1; simpa using this

/-- Slices of which no two have one block. -/
def VD (vs : List Value) : Prop := ∀ (i j : Nat) (A : Option Addr) (n c : Nat) (B : Option Addr) (m d : Nat), vs[i]? = some (.slice A n c) → vs[j]? = some (.slice B m d) → i ≠ j → blk A = none ∨ blk A ≠ blk B
theorem VD.nil_ : VD [] := fun i j A n c B m d h _ _ => by simp at h
theorem VD.drop {vs : List Value} (h : VD vs) (lo : Nat) : VD (vs.drop lo) := fun i j A n c B m d hi hj hij => by
  rw [List.getElem?_drop] at hi hj
  exact h _ _ _ _ _ _ _ _ hi hj (by omega)
theorem VD.snoc {vs : List Value} {A2 : Option Addr} {n2 c2 : Nat} (h : VD vs) (hn : ∀ (i : Nat) (A : Option Addr) (n c : Nat), vs[i]? = some (.slice A n c) → blk A = none ∨ blk A ≠ blk A2) : VD (vs ++ [.slice A2 n2 c2]) := by
  intro i j A n c B m d hi hj hij
  by_cases h1 : i < vs.length
  · rw [List.getElem?_append_left h1] at hi
    by_cases h2 : j < vs.length
    · rw [List.getElem?_append_left h2] at hj
      exact h i j A n c B m d hi hj hij
    · rw [List.getElem?_append_right (by omega)] at hj
      have h0 : j - vs.length = 0 := by
        have := (List.getElem?_eq_some_iff.1 hj).1
        simp at this; omega
      rw [h0] at hj
      simp only [List.getElem?_cons_zero, Option.some.injEq] at hj
      injection hj with e1 e2 e3
      rw [← e1]
      exact hn i A n c hi
  · rw [List.getElem?_append_right (by omega)] at hi
    have h0 : i - vs.length = 0 := by
      have := (List.getElem?_eq_some_iff.1 hi).1
      simp at this; omega
    rw [h0] at hi
    simp only [List.getElem?_cons_zero, Option.some.injEq] at hi
    injection hi with e1 e2 e3
    rw [← e1]
    have h2 : j < vs.length := by
      have := (List.getElem?_eq_some_iff.1 hj).1
      simp at this; omega
    rw [List.getElem?_append_left h2] at hj
    rcases hn j B m d hj with h3 | h3
    · rw [h3]
      cases blk A2 with
      | none => exact .inl rfl
      | some x => right; simp
    · exact .inr (fun e => h3 e.symm)
/-- A row that was there and one that is newer. -/
theorem dist_new {w w' : World} {b1 e1 e2 : Nat} {A B : Option Addr} {n c m d : Nat} {us vs : List Value} (h1 : Own w b1 e1 A n c us) (h2 : Own w' w.heap.size e2 B m d vs) : blk A = none ∨ blk A ≠ blk B := by
  cases hA : blk A with
  | none => exact .inl rfl
  | some k =>
    right
    intro e
    have := (h1.lies k hA).2
    have := (h2.lies k e.symm).1
    omega
theorem dist_symm {A B : Option Addr} (h : blk A = none ∨ blk A ≠ blk B) : blk B = none ∨ blk B ≠ blk A := by
  rcases h with h | h
  · rw [h]
    cases blk B with
    | none => exact .inl rfl
    | some x => right; simp
  · exact .inr (fun e => h e.symm)

/-- Parts of the call's own. -/
def Prts (w : World) (base : Nat) (A : Option Addr) (n c : Nat) (xss : List (List Int)) : Prop :=
  xss.length = n ∧ ∃ vs, Own w base 28 A n c vs ∧ VD vs ∧ ∀ (i : Nat) (v : Value) (xs : List Int), vs[i]? = some v → xss[i]? = some xs → ∃ A' c', v = .slice A' xs.length c' ∧ Own w base 5 A' xs.length c' (By xs) ∧ Ran xs
section
variable {w w' : World} {base : Nat} {A A' : Option Addr} {n c c' : Nat} {xss : List (List Int)}
theorem Prts.nil_ : Prts w base none 0 0 [] := ⟨rfl, [], Own.nil_, VD.nil_, fun i v xs hv _ => by simp at hv⟩
theorem Prts.lies (h : Prts w base A n c xss) : ∀ k, blk A = some k → base ≤ k ∧ k < w.heap.size := by
  obtain ⟨_, vs, ho, _, _⟩ := h
  exact ho.lies
theorem Prts.keep (h : Prts w base A n c xss) (hb : Below w.heap.size w w') : Prts w' base A n c xss := by
  obtain ⟨hl, vs, ho, hd, he⟩ := h
  refine ⟨hl, vs, ho.below hb (fun k hk => (ho.lies k hk).2), hd, fun i v xs hv hx => ?_⟩
  obtain ⟨A', c', e, ho', hr⟩ := he i v xs hv hx
  exact ⟨A', c', e, ho'.below hb (fun k hk => (ho'.lies k hk).2), hr⟩
theorem Prts.onl {g : Nat} (h : Prts w base A n c xss) (hb : Onl g w w') (hg : g < base) : Prts w' base A n c xss := by
  obtain ⟨hl, vs, ho, hd, he⟩ := h
  refine ⟨hl, vs, ho.onl hb (fun e => by have := (ho.lies g e).1; omega), hd, fun i v xs hv hx => ?_⟩
  obtain ⟨A', c', e, ho', hr⟩ := he i v xs hv hx
  exact ⟨A', c', e, ho'.onl hb (fun e => by have := (ho'.lies g e).1; omega), hr⟩
theorem Prts.bss (h : Prts w base A n c xss) : Bss w A n xss := by
  obtain ⟨hl, vs, ho, hd, he⟩ := h
  refine ⟨hl, vs, ho.rd.rdP, fun i v xs hv hx => ?_⟩
  obtain ⟨A', c', e, ho', hr⟩ := he i v xs hv hx
  exact ⟨A', c', e, (ho'.bs hr).bsP, ho'.cap⟩
theorem rd_oneV (w : World) (v : Value) (t : TypeId) : Rd (w.alloc (.cells #[v] t)) (some ⟨w.heap.size, 0, none⟩) 1 [v] := Rd.of_block (cs := #[v]) (heap_alloc_new w _) rfl
theorem one_slice (A : Option Addr) (n c : Nat) : ∀ u ∈ [Value.slice A n c], u.oneCell' = true := by
  intro u hu
  have : u = .slice A n c := by simpa using hu
  subst this; rfl
/-- One part more: what is to be appended to, and what has been. -/
theorem Prts.row {w0 : World} (h : Prts w0 base A n c xss) (hK : ∀ (e : TypeId) (B : Option Addr) (m d : Nat) (us : List Value), Own w0 base e B m d us → Own w base e B m d us) (o : Obj) : ∃ vs, Own (w.alloc o) base 28 A n c vs ∧ Hid (∀ (A2 : Option Addr) (c2 : Nat) (xs : List Int) (w2 : World) (A' : Option Addr) (c' : Nat), Own w base 5 A2 xs.length c2 (By xs) → (∀ b, blk A2 = some b → w0.heap.size ≤ b) → Ran xs → Own w2 base 28 A' (n + 1) c' (vs ++ [.slice A2 xs.length c2]) → Grows (w.alloc o) w2 A A' → Prts w2 base A' (n + 1) c' (xss ++ [xs])) := by
  obtain ⟨hl, vs, ho0, hd, he0⟩ := h
  have ho := hK _ _ _ _ _ ho0
  have he : ∀ (i : Nat) (v : Value) (xs : List Int), vs[i]? = some v → xss[i]? = some xs → ∃ A' c', v = .slice A' xs.length c' ∧ Own w base 5 A' xs.length c' (By xs) ∧ Ran xs := fun i v xs hv hx => by
    obtain ⟨A3, c3, e, ho3, hr3⟩ := he0 i v xs hv hx
    exact ⟨A3, c3, e, hK _ _ _ _ _ ho3, hr3⟩
  have hvl := ho.len
  refine ⟨vs, ho.alloc o, ?_⟩
  intro A2 c2 xs w2 A' c' ho2 hnew hr2 hn hg
  refine ⟨by simp [hl], _, hn, hd.snoc (fun i B m d hi => ?_), fun i v ys hv hy => ?_⟩
  · have hil := (List.getElem?_eq_some_iff.1 hi).1
    obtain ⟨A3, c3, e, ho3, hr3⟩ := he0 i _ _ hi (List.getElem?_eq_getElem (show i < xss.length by omega))
    injection e with e1 e2 e3
    rw [e1]
    cases hA : blk A3 with
    | none => exact .inl rfl
    | some k =>
      right
      intro e
      have := (ho3.lies k hA).2
      have := hnew k e.symm
      omega
  have keep : ∀ (A3 : Option Addr) (n3 c3 : Nat) (us : List Value), Own w base 5 A3 n3 c3 us → Own w2 base 5 A3 n3 c3 us := by
    intro A3 n3 c3 us h3
    exact (h3.alloc o).kept hg.1 (own_apart (h3.alloc o) (ho.alloc o) (by decide))
  by_cases hi : i < n
  · rw [List.getElem?_append_left (by omega)] at hv hy
    obtain ⟨A3, c3, e, ho3, hr3⟩ := he i v ys hv hy
    exact ⟨A3, c3, e, keep _ _ _ _ ho3, hr3⟩
  · have hin : i = n := by
      have := (List.getElem?_eq_some_iff.1 hv).1
      simp at this; omega
    subst hin
    rw [List.getElem?_append_right (by omega)] at hv hy
    simp only [hvl, hl, Nat.sub_self, List.getElem?_cons_zero, Option.some.injEq] at hv hy
    subst hv; subst hy
    exact ⟨A2, c2, rfl, keep _ _ _ _ ho2, hr2⟩
end

set_option maxHeartbeats 1000000 in
theorem copies_any (L : Option Addr) (m d : Nat) (xss : List (List Int)) (w : World) (hl : Bss w L m xss) (hm : m ≤ 1048576) (hs : ∀ xs ∈ xss, xs.length ≤ 1048576) :
    Calls Try.prog 78 #[.slice L m d] w fun e w' => ∃ A' c', e = .returned (.slice A' m c') ∧ Prts w' w.heap.size A' m c' xss ∧ Below w.heap.size w w' := by
  obtain ⟨i0, hi, hz0, hz1, hz2⟩ := info_parts info23
  have HM := Lib.hid hl.len
  have HS := Lib.hid hs; clear hs
  go_enter Try.func78, Try.ntmps78
  go_wp2
  go_loopw [3, 4] (fun v i wr => ∃ (k c' : Nat) (A' : Option Addr), v = .slice A' k c' ∧ i = .int .i64 k ∧ k ≤ m ∧ Prts wr w.heap.size A' k c' (xss.take k) ∧ Below w.heap.size w wr) (fun _ i _ => m - (intOf i).toNat)
  case atStart => exact ⟨0, 0, none, rfl, rfl, Nat.zero_le _, Prts.nil_, Below.refl _ _⟩
  case round =>
    obtain ⟨k, c', A', rfl, rfl, hk, hp, hb⟩ := hrel
    have hsz := hb.size
    by_cases hlt : k < m
    · obtain ⟨b, off, A2, n2, c2, ts, rfl, hbk, hcell, hts, hn2, HT⟩ := (hl.keep hb).at_ hlt
      have hn2' : n2 ≤ 1048576 := by rw [← hts.len]; exact HS.out _ (List.mem_of_getElem? HT.out)
      have HTK : Hid (xss.take (k + 1) = xss.take k ++ [ts]) := by
        obtain ⟨hk', e⟩ := List.getElem?_eq_some_iff.1 HT.out
        show _ = _
        rw [List.take_succ_eq_append_getElem hk', e]
      have HL2 := Lib.hid hts.len
      go_wp2_with fail
      refine (copy_any A2 n2 c2 ts _ hts (by omega)).mono ?_
      rintro e w2 ⟨A3, c3, rfl, ho3, hb3⟩
      have hsz3 := hb3.size
      have hb4 := hb.trans (hb3.mono hsz)
      obtain ⟨vs, hrow, HROW⟩ := hp.row (w := w2) (fun e B m d us hh => hh.below hb3 (fun k hk => (hh.lies k hk).2)) (.cells #[.slice A3 n2 c3] 28)
      have HR := Lib.hid hts.2
      clear hp hb hcell hts
      go_wp2_with (at_builtin; refine wpList_append_rd rfl _ _ 62 rfl i0 (.slice none 0 0) 24 Try.underlying62 hi hz0 hz1 hz2 rfl rfl hrow (some ⟨w2.heap.size, 0, none⟩) 1 1 [.slice A3 n2 c3] rfl (rd_oneV w2 _ 28) (one_slice _ _ _) ?c1 ?c2 ?c3 ?_)
      case c1 => unfold maxLen; omega
      case c2 => omega
      case c3 => simp; omega
      intro A4 c4 w4 ho4 hg4
      have hb5 : Below w.heap.size w w4 := (hb4.alloc (by omega) _).trans (hg4.below (by simp; omega) (fun k hk => (hrow.lies k hk).1))
      have HP : Hid (Prts w4 w.heap.size A4 (k + 1) c4 (xss.take k ++ [ts])) := by
        refine HROW.out A3 c3 ts w4 A4 c4 ?_ (fun b hb => (ho3.lies b hb).1) HR.out ?_ hg4
        · rw [HL2.out]; exact ho3.mono hsz
        · rw [HL2.out]; exact ho4
      clear hrow HROW ho4 hg4 ho3 hb3 hb4
      go_wp2
      go_roundw
      case rel => exact ⟨k + 1, c4, A4, rfl, by go_num, by omega, by rw [HTK.out]; exact HP.out, hb5⟩
      case measure => simp [intOf]; omega
    · have hke : xss.take k = xss := List.take_of_length_le (by rw [HM.out]; omega)
      obtain rfl : k = m := by omega
      rw [hke] at hp
      clear hke
      have HP := Lib.hid hp; clear hp
      go_wp2
      go_ret
      exact ⟨A', c', rfl, HP.out, hb⟩

theorem take_eq_step {xss yss : List (List Int)} {k : Nat} {xs ys : List Int} (hx : xss[k]? = some xs) (hy : yss[k]? = some ys) (h : xss.take k = yss.take k) (e : xs = ys) : xss.take (k + 1) = yss.take (k + 1) := by
  obtain ⟨h1, e1⟩ := List.getElem?_eq_some_iff.1 hx
  obtain ⟨h2, e2⟩ := List.getElem?_eq_some_iff.1 hy
  rw [List.take_succ_eq_append_getElem h1, List.take_succ_eq_append_getElem h2, h, e1, e2, e]

theorem Bs.n {w : World} {A : Option Addr} {n : Nat} {xs : List Int} (h : Bs w A n xs) (q : Nat) : Bs (w.drewN q) A n xs := h
theorem equal_is (A B : Option Addr) (n m c d : Nat) (xs ys : List Int) (v : Bool) (hv : (cmpL xs ys == 0) = v) (w : World) (hx : Bs w A n xs) (hy : Bs w B m ys) (hn : n ≤ maxLen) (hm : m ≤ maxLen) :
    Calls Try.prog 16 #[.slice A n c, .slice B m d] w fun e w' => e = .returned (.bool v) ∧ Dr w w' := by rw [← hv]; exact equal_any A B n m c d xs ys w hx hy hn hm

set_option maxHeartbeats 1000000 in
theorem equals_any (L M : Option Addr) (n m c d : Nat) (xss yss : List (List Int)) (w : World) (hx : Bss w L n xss) (hy : Bss w M m yss) (hn : n ≤ maxLen) (hm : m ≤ maxLen) (hs : ∀ xs ∈ xss, xs.length ≤ maxLen) (ht : ∀ xs ∈ yss, xs.length ≤ maxLen) :
    Calls Try.prog 88 #[.slice L n c, .slice M m d] w fun e w' => e = .returned (.bool (decide (xss = yss))) ∧ Dr w w' := by
  unfold maxLen at hn hm
  have HX := Lib.hid hx.len
  have HY := Lib.hid hy.len
  have HS := Lib.hid hs; have HT := Lib.hid ht; clear hs ht
  by_cases hnm : n = m
  · subst hnm
    have hne : ((n : Int) != (n : Int)) = false := by simp
    go_enter Try.func88, Try.ntmps88
    go_wp2
    go_loopw [5] (fun i wr => ∃ k q : Nat, k ≤ n ∧ i = .int .i64 k ∧ wr = w.drewN q ∧ Hid (xss.take k = yss.take k)) (fun i _ => n - (intOf i).toNat)
    case atStart => exact ⟨0, 0, Nat.zero_le _, rfl, rfl, rfl⟩
    case round =>
      obtain ⟨k, q, hk, rfl, rfl, HK⟩ := hrel
      by_cases hlt : k < n
      · obtain ⟨b, off, A1, n1, c1, xs, rfl, _, hcx, hbx, _, HXS⟩ := hx.at_ hlt
        obtain ⟨b', off', A2, n2, c2, ys, rfl, _, hcy, hby, _, HYS⟩ := hy.at_ hlt
        have hcx' : (w.drewN q).cell? ⟨b, off + k, none⟩ = some (.slice A1 n1 c1) := hcx
        have hcy' : (w.drewN q).cell? ⟨b', off' + k, none⟩ = some (.slice A2 n2 c2) := hcy
        have hl1 : n1 ≤ maxLen := by rw [← hbx.len]; exact HS.out _ (List.mem_of_getElem? HXS.out)
        have hl2 : n2 ≤ maxLen := by rw [← hby.len]; exact HT.out _ (List.mem_of_getElem? HYS.out)
        by_cases he : xs = ys
        · have HE := Lib.hid (take_eq_step HXS.out HYS.out HK.out he)
          have HV := Lib.hid (show (cmpL xs ys == 0) = true by rw [cmpL_eq_zero]; simp [he])
          clear he
          go_wp2
          go_quiet ((go_at_call 16; first | exact draw_call_add (equal_is A1 A2 n1 n2 c1 c2 xs ys true HV.out _ (hbx.n _) (hby.n _) hl1 hl2) | exact draw_call (equal_is A1 A2 n1 n2 c1 c2 xs ys true HV.out _ (hbx.n _) (hby.n _) hl1 hl2)))
          go_wp2
          go_roundw
          case rel => exact ⟨k + 1, _, by omega, by go_num, rfl, HE⟩
          case measure => simp [intOf]; omega
        · have HV := Lib.hid (show (cmpL xs ys == 0) = false by rw [cmpL_eq_zero]; simp [he])
          have HE := Lib.hid (show decide (xss = yss) = false by
            simp only [decide_eq_false_iff_not]
            intro e; rw [e] at HXS
            have := HXS.out.symm.trans HYS.out
            injection this with this
            exact he this)
          clear he
          go_wp2
          go_quiet ((go_at_call 16; first | exact draw_call_add (equal_is A1 A2 n1 n2 c1 c2 xs ys false HV.out _ (hbx.n _) (hby.n _) hl1 hl2) | exact draw_call (equal_is A1 A2 n1 n2 c1 c2 xs ys false HV.out _ (hbx.n _) (hby.n _) hl1 hl2)))
          go_wp2
          go_ret
          exact ⟨ret_bool HE.out.symm, ((Dr.refl w).n _).n _⟩
      · have hk1 : xss.take k = xss := List.take_of_length_le (by rw [HX.out]; omega)
        have hk2 : yss.take k = yss := List.take_of_length_le (by rw [HY.out]; omega)
        have HE := Lib.hid (show decide (xss = yss) = true by have := HK.out; rw [hk1, hk2] at this; simp [this])
        clear hk1 hk2
        go_wp2
        go_ret
        exact ⟨ret_bool HE.out.symm, (Dr.refl w).n _⟩
  · have hne : ((n : Int) != (m : Int)) = true := by rw [bne_iff_ne]; omega
    have HE := Lib.hid (show decide (xss = yss) = false by
      simp only [decide_eq_false_iff_not]
      intro e; rw [e] at HX; exact hnm (HX.out.symm.trans HY.out))
    clear hnm
    go_enter Try.func88, Try.ntmps88
    go_wp2
    go_ret
    exact ⟨ret_bool HE.out.symm, Dr.refl w⟩
end Go.Proofs.Ytmjjbfcblmmipaa
