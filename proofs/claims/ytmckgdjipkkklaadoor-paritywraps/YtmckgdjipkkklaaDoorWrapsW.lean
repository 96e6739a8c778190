/- ParityWraps: the walk. -/
import Derived.Test.YtmckgdjipkkklaaDoorUnwrapW
import Derived.Test.YtmckgdjipkkklaaDoorWrapW
import Derived.Test.YtmckgdjipkkklaaDoorChecksW
namespace Go.Proofs.YtmckgdjipkkklaaDoor
set_option linter.unusedVariables false
set_option linter.unusedSimpArgs false
open Go.RowKit
theorem wrapF_len (f : Nat) (l : List Nat) : 8 ≤ (wrapF f l).length := by
  cases f with
  | zero => simp only [wrapF, recL_length, sealedN]; omega
  | succ f =>
    unfold wrapF
    split
    · simp only [recL_length, sealedN]; omega
    · rw [List.length_append, recL_length]; unfold sealedN; omega
theorem wrapF_rn : ∀ (f : Nat) (l : List Nat), Rn l → Rn (wrapF f l)
  | 0, l, h => recL_rn h
  | f + 1, l, h => by
    unfold wrapF
    split
    · exact recL_rn h
    · exact (recL_rn (h.take 4096)).append (wrapF_rn f _ (h.drop 4096))
theorem unw_rn : ∀ (f : Nat) (l : List Nat) (a : Nat) (acc : List Nat), Rn l → Rn acc → Rn (unw f l a acc).2
  | 0, _, _, _, _, _ => by intro x hx; simp [unw] at hx
  | f + 1, l, a, acc, hl, ha => by
    unfold unw
    split
    · intro x hx; simp at hx
    · split
      · split
        · intro x hx; simp at hx
        · exact ha.append (openL_rn hl a)
      · exact unw_rn f l _ _ hl (ha.append (openL_rn hl a))

theorem unw_len : ∀ (f : Nat) (l : List Nat) (a : Nat) (acc : List Nat), (unw f l a acc).2.length ≤ acc.length + f * 1048576
  | 0, _, _, _ => by simp [unw]
  | f + 1, l, a, acc => by
    unfold unw
    split
    · simp
    · rename_i h
      have hn := (openL_next (show (openL l a).1 = 0 by simpa using h)).2.2
      split
      · split
        · simp
        · simp only [List.length_append]; omega
      · have := unw_len f l (openL l a).2.2 (acc ++ (openL l a).2.1)
        rw [List.length_append] at this
        omega

theorem cut_bs {w : World} {A : Option Addr} {n : Nat} {xs us : List Int} {k : Nat} (h : Bs w A n xs) (hus : xs.take k = us) : Bs w A us.length us := by
  rw [← hus, List.length_take, h.len]
  have := h.first (m := min k n) (by omega)
  rwa [show xs.take (min k n) = xs.take k by rw [← h.len, List.take_eq_take_iff]; omega] at this

set_option maxRecDepth 100000 in
set_option maxHeartbeats 2000000 in
theorem wraps_walk (P B : Option Addr) (n c m d : Nat) (xs ys : List Int) (w : World) (hx : Bs w P n xs) (hn : n ≤ maxLen) (hc : n ≤ c) (hy : Bs w B m ys) (hm : m ≤ maxLen) (hmd : m ≤ d) (ht : Tabs w) :
    Calls Tryd.prog 11 #[.slice P n c, .slice B m d] w fun e w' => e = .returned (.bool true) ∧ Below w.heap.size w w' := by
  obtain ⟨us, hus⟩ : ∃ us, xs.take 9000 = us := ⟨_, rfl⟩
  obtain ⟨vs, hvs⟩ : ∃ vs, ys.take 9000 = vs := ⟨_, rfl⟩
  have HUS := Lib.hid hus; clear hus
  have HVS := Lib.hid hvs; clear hvs
  have hul : us.length ≤ 9000 := by rw [← HUS.out, List.length_take]; omega
  have hvl : vs.length ≤ 9000 := by rw [← HVS.out, List.length_take]; omega
  have huc : us.length ≤ c := by rw [← HUS.out, List.length_take, hx.len]; omega
  have hvd : vs.length ≤ d := by rw [← HVS.out, List.length_take, hy.len]; omega
  go_enter Tryd.func11, Tryd.ntmps11
  go_wp2_with fail
  refine (awake_any _ ht).mono ?_
  rintro e w1 ⟨rfl, hb1⟩
  have hx1 := hx.keep hb1
  have hy1 := hy.keep hb1
  have ht1 := ht.below hb1
  clear hx hy ht
  go_wp2_with fail
  refine (cut_is P n c 9000 xs us HUS.out _ hx1 hn hc (by omega)).mono ?_
  rintro e w' ⟨rfl, rfl⟩
  go_wp2_with fail
  refine (cut_is B m d 9000 ys vs HVS.out _ hy1 hm hmd (by omega)).mono ?_
  rintro e w' ⟨rfl, rfl⟩
  have hu1 := cut_bs hx1 HUS.out
  have hv1 := cut_bs hy1 HVS.out
  have HRU := Lib.hid (nl_rn hu1.2)
  have HRV := Lib.hid (nl_rn hv1.2)
  have HRAN := Lib.hid hu1.2
  obtain ⟨R, hR⟩ : ∃ R, R = wrapF 3 (nl us) := ⟨_, rfl⟩
  have HR := Lib.hid hR; clear hR
  have HRR : Hid (Rn R) := by show Rn _; rw [HR.out]; exact wrapF_rn 3 _ HRU.out
  have HR8 : Hid (8 ≤ R.length) := by show _ ≤ _; rw [HR.out]; exact wrapF_len 3 _
  clear hx1 hy1
  go_wp2_with fail
  refine (copy_any P us.length c us _ hu1 (by omega)).mono ?_
  rintro e w2 ⟨A2, c2, rfl, ho2, hb2⟩
  have hu2 := hu1.keep hb2
  have hv2 := hv1.keep hb2
  have ht2 := ht1.below hb2
  have hbw2 := hb1.trans (hb2.mono hb1.size)
  clear hu1 hv1 ht1 hb1 hb2
  go_wp2_with fail
  refine (wrap_any A2 us.length c2 us _ (ho2.bs HRAN.out) hul ho2.cap ht2).mono ?_
  rintro e w3 ⟨A3, c3, n3, rfl, hn3, ho3, hb3⟩
  rw [← HR.out] at ho3
  have hu3 := hu2.keep hb3
  have hv3 := hv2.keep hb3
  have ht3 := ht2.below hb3
  have hbw3 := hbw2.trans (hb3.mono hbw2.size)
  clear hu2 hv2 ht2 hbw2 hb3 ho2
  go_wp2_with fail
  refine (rwrap_any P us.length c us _ hu3 hul huc ht3).mono ?_
  rintro e w4' ⟨A4, c4, n4, rfl, hn4, ho4, hb4⟩
  rw [← HR.out] at ho4
  have hu4 := hu3.keep hb4
  have hv4 := hv3.keep hb4
  have ht4 := ht3.below hb4
  have hbw4 := hbw3.trans (hb4.mono hbw3.size)
  have ho34 := ho3.below hb4 (fun k hk => (ho3.lies k hk).2)
  clear hu3 hv3 ht3 hbw3 hb4 ho3
  go_wp2_with fail
  refine (equal_any A3 A4 n3 n4 c3 c4 _ _ _ (ho34.bs (il_ran HRR.out)) (ho4.bs (il_ran HRR.out)) (by unfold maxLen; omega) (by unfold maxLen; omega)).mono ?_
  rintro e w5 ⟨rfl, hd5⟩
  rw [cmpL_self]
  have hb5 : Below w4'.heap.size w4' w5 := hd5.below _
  have hu5 := hu4.keep hb5
  have hv5 := hv4.keep hb5
  have ht5 := ht4.below hb5
  have hbw5 := hbw4.trans (hb5.mono hbw4.size)
  have ho35 := ho34.below hb5 (fun k hk => (ho34.lies k hk).2)
  clear hu4 hv4 ht4 hbw4 hb5 ho34 ho4 hd5
  go_wp2_with fail
  refine (copy_any A3 n3 c3 _ _ (ho35.bs (il_ran HRR.out)) (by omega)).mono ?_
  rintro e w6 ⟨A6, c6, rfl, ho6, hb6⟩
  have hu6 := hu5.keep hb6
  have hv6 := hv5.keep hb6
  have ht6 := ht5.below hb6
  have hbw6 := hbw5.trans (hb6.mono hbw5.size)
  have HUN : Hid (unw (n3 + 1) (nl (il R)) 0 [] = (0, nl us)) := by
    have hl := ho6.len
    rw [By_length, il_length] at hl
    have h8 := HR8.out
    have := unw_wrap 3 (n3 + 1) [] (nl us) [] HRU.out (by rw [nl_length]; omega) (by omega)
    show _ = _
    rw [nl_il, HR.out]
    simpa using this
  clear hu5 hv5 ht5 hbw5 hb6 ho35
  go_wp2_with fail
  refine (unwrap_any A6 n3 c6 _ _ (ho6.bs (il_ran HRR.out)) (by omega) ho6.cap ht6).mono ?_
  rintro e w7 hpost
  rw [HUN.out] at hpost
  rcases hpost with ⟨_, A7, c7, rfl, ho7, hb7⟩ | ⟨h, _⟩
  case inr => exact absurd rfl h
  have ho7' : Own w7 w6.heap.size 5 A7 us.length c7 (By us) := by
    have := ho7
    simp only [nl_length] at this
    rwa [il_nl HRAN.out] at this
  simp only [nl_length]
  have hu7 := hu6.keep hb7
  have hv7 := hv6.keep hb7
  have ht7 := ht6.below hb7
  have hbw7 := hbw6.trans (hb7.mono hbw6.size)
  have hb7s := ho7'.bs HRAN.out
  clear hu6 hv6 ht6 hbw6 hb7 ho6 ho7 ho7'
  go_wp2_with fail
  refine (equal_any A7 P us.length us.length c7 c us us _ hb7s hu7 (by unfold maxLen; omega) (by unfold maxLen; omega)).mono ?_
  rintro e w8 ⟨rfl, hd8⟩
  rw [cmpL_self]
  have hb8 : Below w7.heap.size w7 w8 := hd8.below _
  have hv8 := hv7.keep hb8
  have ht8 := ht7.below hb8
  have hbw8 := hbw7.trans (hb8.mono hbw7.size)
  clear hu7 hv7 ht7 hbw7 hb8 hb7s hd8
  go_wp2_with fail
  refine (copy_any B vs.length d vs _ hv8 (by omega)).mono ?_
  rintro e w9 ⟨A9, c9, rfl, ho9, hb9⟩
  have hv9 := hv8.keep hb9
  have ht9 := ht8.below hb9
  have hbw9 := hbw8.trans (hb9.mono hbw8.size)
  have h9s := ho9.bs hv8.2
  have hc9 := ho9.cap
  obtain ⟨r, hr⟩ : ∃ r, r = unw (vs.length + 1) (nl vs) 0 [] := ⟨_, rfl⟩
  have HRE := Lib.hid hr
  have HRN : Hid (Rn r.2) := by show Rn _; rw [hr]; exact unw_rn _ _ _ _ HRV.out (by intro x hx; simp at hx)
  have HLM : Hid (r.2.length ≤ maxLen) := by
    have := unw_len (vs.length + 1) (nl vs) 0 []
    show _ ≤ _
    rw [hr]; simp only [List.length_nil] at this; unfold maxLen; omega
  clear hr hv8 ht8 hbw8 hb9 ho9
  go_wp2_with fail
  refine (unwrap_any A9 vs.length c9 vs _ h9s (by omega) hc9 ht9).mono ?_
  rintro e wa hpost
  rw [← HRE.out] at hpost
  rcases hpost with ⟨hr0, Aa, ca, rfl, hoa, hba⟩ | ⟨hr0, rfl, hba⟩
  · have hva := hv9.keep hba
    have hta := ht9.below hba
    have hbwa := hbw9.trans (hba.mono hbw9.size)
    clear hv9 ht9 hbw9 hba h9s
    go_wp2_with fail
    refine (runwrap_any B vs.length d vs _ hva (by omega) hvd hta).mono ?_
    rintro e wb hpost
    rw [← HRE.out] at hpost
    rcases hpost with ⟨_, Ab, cb, rfl, hob, hbb⟩ | ⟨h, _⟩
    case inr => exact absurd hr0 h
    have hoa' := hoa.below hbb (fun k hk => (hoa.lies k hk).2)
    have has := hoa'.bs (il_ran HRN.out)
    have hbs := hob.bs (il_ran HRN.out)
    have hbwb := hbwa.trans (hbb.mono hbwa.size)
    have hlm := HLM.out
    clear HLM
    generalize r.2.length = ln at *
    clear hva hta hbwa hbb hoa hob hoa' hr0
    go_wp2_with fail
    refine (equal_any Aa Ab ln ln ca cb _ _ _ has hbs hlm hlm).mono ?_
    rintro e wc ⟨rfl, hdc⟩
    rw [cmpL_self]
    have hbz := hbwb.trans ((hdc.below _).mono hbwb.size)
    go_wp2
    go_ret
    exact ⟨by simp, hbz⟩
  · have hva := hv9.keep hba
    have hta := ht9.below hba
    have hbwa := hbw9.trans (hba.mono hbw9.size)
    clear hv9 ht9 hbw9 hba h9s
    go_wp2_with fail
    refine (runwrap_any B vs.length d vs _ hva (by omega) hvd hta).mono ?_
    rintro e wb hpost
    rw [← HRE.out] at hpost
    rcases hpost with ⟨h, _⟩ | ⟨_, rfl, hbb⟩
    · exact absurd h hr0
    have hbwb := hbwa.trans (hbb.mono hbwa.size)
    generalize r.1 = r1 at *
    clear hva hta hbwa hbb hr0
    go_wp2_with fail
    refine (equal_any none none 0 0 0 0 [] [] _ Bs.nil_ Bs.nil_ (by unfold maxLen; omega) (by unfold maxLen; omega)).mono ?_
    rintro e wc ⟨rfl, hdc⟩
    rw [cmpL_self]
    have hbz := hbwb.trans ((hdc.below _).mono hbwb.size)
    go_wp2
    go_ret
    exact ⟨by simp, hbz⟩
end Go.Proofs.YtmckgdjipkkklaaDoor
