/- PackReads: the walk. -/
import Derived.Test.YtdlbghjclcdfmaaAwake
import Derived.Test.YtdlbghjclcdfmaaNumbersW
import Derived.Test.YtdlbghjclcdfmaaRdr
import Derived.Test.YtdlbghjclcdfmaaSteps
namespace Go.Proofs.Ytdlbghjclcdfmaa
set_option linter.unusedVariables false
set_option linter.unusedSimpArgs false
open Go.RowKit

theorem elem61 : Try.prog.underlying 61 = some (.slice (Try.prog.elem 61)) := by kernel_rfl
theorem elem61' : Try.prog.elem 61 = 3 := by kernel_rfl
theorem slice61 (A : Option Addr) (n c : Nat) (h : 200 < n) (h1 : n ≤ c) (W : World) :
    (Instr.slice 61 (.slice A n c) none (some (.int .i64 200)) none).run Try.prog W = .ok (.slice A 200 c) W := by
  rw [run_slice_h (P := Try.prog) W 61 A n c elem61 .i64 200 (by omega) (by omega), elem61', Try.sizeOf3]
  simp only [sliced, Result.andThen]
  have e : (if c = 0 then A else A.map (fun x => x.add (0 * 1))) = A := by
    split
    · rfl
    · cases A with
      | none => rfl
      | some a => simp only [Option.map_some, Option.some.injEq]; unfold Addr.add; simp
  rw [e]; rfl

set_option maxRecDepth 100000 in
set_option maxHeartbeats 4000000 in
theorem reads_short (B K : Option Addr) (m kn d kc : Nat) (xs ks : List Int) (w : World) (hx : Bs w B m xs) (hks0 : Ins w K kn ks) (hmd : m ≤ d) (hknc : kn ≤ kc)
    (hm : m ≤ 140737488351232) (hkn : kn ≤ 140737488351232) (h200 : kn ≤ 200) :
    Calls Try.prog 6 #[.slice B m d, .slice K kn kc] w fun e w' => e = .returned (.bool true) ∧ Below w.heap.size w w' := by
  have HL := Lib.hid hx.len
  have HZ := Lib.hid (show numS [] 0 = (0, [], 5) by decide)
  have hks1 := hks0
  go_enter Try.func6, Try.ntmps6
  go_wp2_with fail
  refine (awake_any _).mono ?_
  rintro e w1 ⟨rfl, hb1⟩
  have hsz1 := hb1.size
  have hx1 := hx.keep hb1
  have hks := hks1.keep hb1
  clear hx hks1 hks0
  go_wp2_with fail
  refine (copy_any B m d xs _ hx1 (by omega)).mono ?_
  rintro e w2 ⟨A2, c2, rfl, ho2, hb2⟩
  have hsz2 := hb2.size
  go_wp2_with fail
  refine (read_any A2 m c2 xs _ (ho2.bs hx1.2) (by omega)).mono ?_
  rintro e w3 ⟨g, rfl, hrd3, hg', hb3'⟩
  have hb3 := hb2.trans (hb3'.mono hsz2)
  have hg : w1.heap.size ≤ g := by omega
  clear ho2 hb2 hb3' hg' hsz2
  go_wp2
  go_loopw [6, 7, 29] (fun a b i wr => ∃ (k p : Nat) (bad : Int), i = .int .i64 k ∧ k ≤ kn ∧ a = .int .i64 p ∧ p ≤ m ∧ b = .int .i64 bad ∧ Rdr wr g (xs.drop p) bad ∧ Below w1.heap.size w1 wr) (fun _ _ i _ => kn - (intOf i).toNat)
  case atStart => exact ⟨0, 0, 0, rfl, Nat.zero_le _, rfl, Nat.zero_le _, rfl, hrd3, hb3⟩
  case round =>
    obtain ⟨k, p, bad, rfl, hk, rfl, hp, rfl, hrd, hb⟩ := hrel
    have hsz := hb.size
    have hbx := hx1.keep hb
    have hlp : (xs.drop p).length ≤ 140737488355328 := by rw [List.length_drop, HL.out]; omega
    by_cases hlt : k < kn
    · obtain ⟨kb, ko, kv, rfl, hkb, hkv0, hkv1, hkc⟩ := hks.at_ hlt
      have hkc' : wr.cell? ⟨kb, ko + k, none⟩ = some (.int .i64 kv) := (hb.cell (p := ⟨kb, ko + k, none⟩) hkb).trans hkc
      by_cases h0 : kv = 0
      · subst h0
        by_cases hbad : bad = 0
        · subst hbad
          rcases tk_step xs hx1.2 p (by rw [HL.out]; exact hp) with ⟨e, ht, he5, hs⟩ | ⟨n, q, ht, hn, hpq, hq, hs⟩
          · have HS := Lib.hid (numS_err hs he5)
            have HT := Lib.hid ht
            have hne : (e == 0) = false := by rcases he5 with rfl | rfl <;> decide
            clear hs ht he5
            go_wp2_with fail
            refine (rtake_3 B m d (p : Int) xs _ 0 0 e HT.out hbx (by omega)).mono ?_
            rintro e' w5 ⟨rfl, hb5⟩
            have hrd5 := hrd.keep hb5 hrd.lt
            have hb6 := hb.trans (hb5.mono hsz)
            clear hb5 hb hbx hrd hkc'
            go_wp2_with fail
            refine (rnum_any _ g _ 0 hrd5 hlp).mono ?_
            rintro e' w6 ⟨rfl, hrd6, ho6⟩
            rw [HS.out] at hrd6 ⊢
            have hb7 := hb6.trans ((ho6.below (by have := hrd5.lt; omega)).mono hg)
            clear ho6 hrd5 hb6
            go_wp2_with fail
            refine (rerr_any _ g _ _ hrd6).mono ?_
            rintro e8 w8 ⟨rfl, rfl⟩
            go_wp2_with fail
            refine (rleft_any _ g _ _ hrd6).mono ?_
            rintro e9 w9 ⟨rfl, rfl⟩
            rw [List.length_drop, HL.out, show ((m - (p) : Nat) : Int) = (m : Int) - ((p : Nat) : Int) by omega]
            go_wp2
            go_roundw
            case rel => exact ⟨k + 1, p, e, by go_num, by omega, by go_num, by omega, rfl, hrd6, hb7⟩
            case measure => simp [intOf]; omega
          · have HS := Lib.hid (numS_ok hs hpq)
            have HT := Lib.hid ht
            rw [HL.out] at hq
            clear hs ht
            go_wp2_with fail
            refine (rtake_3 B m d (p : Int) xs _ (n : Int) (q : Int) 0 HT.out hbx (by omega)).mono ?_
            rintro e' w5 ⟨rfl, hb5⟩
            have hrd5 := hrd.keep hb5 hrd.lt
            have hb6 := hb.trans (hb5.mono hsz)
            clear hb5 hb hbx hrd hkc'
            go_wp2_with fail
            refine (rnum_any _ g _ 0 hrd5 hlp).mono ?_
            rintro e' w6 ⟨rfl, hrd6, ho6⟩
            rw [HS.out] at hrd6 ⊢
            have hb7 := hb6.trans ((ho6.below (by have := hrd5.lt; omega)).mono hg)
            clear ho6 hrd5 hb6
            go_wp2_with fail
            refine (rerr_any _ g _ _ hrd6).mono ?_
            rintro e8 w8 ⟨rfl, rfl⟩
            go_wp2_with fail
            refine (rleft_any _ g _ _ hrd6).mono ?_
            rintro e9 w9 ⟨rfl, rfl⟩
            rw [List.length_drop, HL.out, show ((m - (q) : Nat) : Int) = (m : Int) - ((q : Nat) : Int) by omega]
            go_wp2
            go_roundw
            case rel => exact ⟨k + 1, q, 0, by go_num, by omega, by go_num, by omega, rfl, hrd6, hb7⟩
            case measure => simp [intOf]; omega
        · have HS := Lib.hid (numS_bad (xs := xs.drop p) hbad)
          have hne : (bad == 0) = false := by simpa using hbad
          clear hbad
          go_wp2_with fail
          refine (rnum_any _ g _ bad hrd hlp).mono ?_
          rintro e' w6 ⟨rfl, hrd6, ho6⟩
          rw [HS.out] at hrd6 ⊢
          have hb7 := hb.trans ((ho6.below (by have := hrd.lt; omega)).mono hg)
          clear ho6 hrd hb hbx hkc'
          go_wp2_with fail
          refine (rerr_any _ g _ _ hrd6).mono ?_
          rintro e8 w8 ⟨rfl, rfl⟩
          go_wp2_with fail
          refine (rleft_any _ g _ _ hrd6).mono ?_
          rintro e9 w9 ⟨rfl, rfl⟩
          rw [List.length_drop, HL.out, show ((m - (p) : Nat) : Int) = (m : Int) - ((p : Nat) : Int) by omega]
          go_wp2
          go_roundw
          case rel => exact ⟨k + 1, p, bad, by go_num, by omega, by go_num, by omega, rfl, hrd6, hb7⟩
          case measure => simp [intOf]; omega
      · by_cases h1 : kv = 1
        · subst h1
          by_cases hbad : bad = 0
          · subst hbad
            rcases tk_step xs hx1.2 p (by rw [HL.out]; exact hp) with ⟨e, ht, he5, hs⟩ | ⟨n, q, ht, hn, hpq, hq, hs⟩
            · have HS := Lib.hid (textS_err hs he5)
              have HT := Lib.hid ht
              have hne : (e == 0) = false := by rcases he5 with rfl | rfl <;> decide
              clear hs ht he5 h0
              go_wp2_with fail
              refine (rtake_3 B m d (p : Int) xs _ 0 0 e HT.out hbx (by omega)).mono ?_
              rintro e' w5 ⟨rfl, hb5⟩
              have hrd5 := hrd.keep hb5 hrd.lt
              have hb6 := hb.trans (hb5.mono hsz)
              clear hb5 hb hbx hrd hkc'
              go_wp2_with fail
              refine (rtext_any _ g _ 0 hrd5 hlp).mono ?_
              rw [HS.out]
              rintro e' w6 ⟨A6, c6, n6, rfl, hn6, ho6, hr6, hrd6, hl6⟩
              obtain rfl : n6 = 0 := hn6
              have hb7 := hb6.trans ((hl6.below (by have := hrd5.lt; omega)).mono hg)
              have ht6 := ho6.bs hr6
              clear hl6 hrd5 hb6 ho6
              go_wp2_with fail
              refine (equal_any A6 none 0 0 c6 0 [] [] _ ht6 Bs.nil_ (by unfold maxLen; omega) (by unfold maxLen; omega)).mono ?_
              rintro e' w7 ⟨rfl, hd7⟩
              rw [cmpL_self]
              have hrd7 := hrd6.keep (hd7.below _) hrd6.lt
              have hb8 := hb7.trans (hd7.below _)
              clear hd7 hrd6 hb7 ht6
              go_wp2_with fail
              refine (rerr_any _ g _ _ hrd7).mono ?_
              rintro e8 w8 ⟨rfl, rfl⟩
              go_wp2_with fail
              refine (rleft_any _ g _ _ hrd7).mono ?_
              rintro e9 w9 ⟨rfl, rfl⟩
              rw [List.length_drop, HL.out, show ((m - (p) : Nat) : Int) = (m : Int) - ((p : Nat) : Int) by omega]
              go_wp2
              go_roundw
              case rel => exact ⟨k + 1, p, e, by go_num, by omega, by go_num, by omega, rfl, hrd7, hb8⟩
              case measure => simp [intOf]; omega
            · have HT := Lib.hid ht
              rw [HL.out] at hq
              by_cases hlong : m < q + n
              · have HS := Lib.hid (textS_long hs hpq (by rw [HL.out]; exact hq) (by rw [HL.out]; exact hlong))
                have hlong' : (m : Int) - (q : Int) < (n : Int) := by omega
                clear hs ht h0
                go_wp2_with fail
                refine (rtake_3 B m d (p : Int) xs _ (n : Int) (q : Int) 0 HT.out hbx (by omega)).mono ?_
                rintro e' w5 ⟨rfl, hb5⟩
                have hrd5 := hrd.keep hb5 hrd.lt
                have hb6 := hb.trans (hb5.mono hsz)
                clear hb5 hb hbx hrd hkc'
                go_wp2_with fail
                refine (rtext_any _ g _ 0 hrd5 hlp).mono ?_
                rw [HS.out]
                rintro e' w6 ⟨A6, c6, n6, rfl, hn6, ho6, hr6, hrd6, hl6⟩
                obtain rfl : n6 = 0 := hn6
                have hb7 := hb6.trans ((hl6.below (by have := hrd5.lt; omega)).mono hg)
                have ht6 := ho6.bs hr6
                clear hl6 hrd5 hb6 ho6
                go_wp2_with fail
                refine (equal_any A6 none 0 0 c6 0 [] [] _ ht6 Bs.nil_ (by unfold maxLen; omega) (by unfold maxLen; omega)).mono ?_
                rintro e' w7 ⟨rfl, hd7⟩
                rw [cmpL_self]
                have hrd7 := hrd6.keep (hd7.below _) hrd6.lt
                have hb8 := hb7.trans (hd7.below _)
                clear hd7 hrd6 hb7 ht6
                go_wp2_with fail
                refine (rerr_any _ g _ _ hrd7).mono ?_
                rintro e8 w8 ⟨rfl, rfl⟩
                go_wp2_with fail
                refine (rleft_any _ g _ _ hrd7).mono ?_
                rintro e9 w9 ⟨rfl, rfl⟩
                rw [List.length_drop, HL.out, show ((m - (p) : Nat) : Int) = (m : Int) - ((p : Nat) : Int) by omega]
                go_wp2
                go_roundw
                case rel => exact ⟨k + 1, p, 5, by go_num, by omega, by go_num, by omega, rfl, hrd7, hb8⟩
                case measure => simp [intOf]; omega
              · have hfit : q + n ≤ m := by omega
                have HS := Lib.hid (textS_ok hs hpq (by rw [HL.out]; exact hq) (by rw [HL.out]; exact hfit))
                have hlong' : ¬ (m : Int) - (q : Int) < (n : Int) := by omega
                have hsl := slice_lohi B m d q (q + n) (by omega) (by omega)
                have ec : ((q + n : Nat) : Int) = (q : Int) + (n : Int) := by omega
                have eb : q + n - q = n := by omega
                rw [ec, eb] at hsl
                clear hs ht h0 hlong ec eb
                go_wp2_with fail
                refine (rtake_3 B m d (p : Int) xs _ (n : Int) (q : Int) 0 HT.out hbx (by omega)).mono ?_
                rintro e' w5 ⟨rfl, hb5⟩
                have hrd5 := hrd.keep hb5 hrd.lt
                have hb6 := hb.trans (hb5.mono hsz)
                have hbx5 := hbx.keep hb5
                clear hb5 hb hbx hrd hkc'
                go_wp2_with fail
                refine (rtext_any _ g _ 0 hrd5 hlp).mono ?_
                rw [HS.out]
                rintro e' w6 ⟨A6, c6, n6, rfl, hn6, ho6, hr6, hrd6, hl6⟩
                have hn6' : n6 = n := by rw [hn6, List.length_take, List.length_drop, HL.out]; omega
                clear hn6
                subst hn6'
                have hb7 := hb6.trans ((hl6.below (by have := hrd5.lt; omega)).mono hg)
                have ht6 := ho6.bs hr6
                have hbx6 := hx1.keep hb7
                have hcut := hbx6.cut (c := d) (lo := q) (hi := q + n6) (by omega) hfit hmd
                rw [show q + n6 - q = n6 by omega] at hcut
                clear hl6 hrd5 hb6 ho6 hbx5
                go_wp2_with fail
                refine (equal_any A6 (cutA B d q) n6 n6 c6 (d - q) _ _ _ ht6 hcut (by unfold maxLen; omega) (by unfold maxLen; omega)).mono ?_
                rintro e' w7 ⟨rfl, hd7⟩
                rw [cmpL_self]
                have hrd7 := hrd6.keep (hd7.below _) hrd6.lt
                have hb8 := hb7.trans (hd7.below _)
                clear hd7 hrd6 hb7 ht6 hcut hbx6
                go_wp2_with fail
                refine (rerr_any _ g _ _ hrd7).mono ?_
                rintro e8 w8 ⟨rfl, rfl⟩
                go_wp2_with fail
                refine (rleft_any _ g _ _ hrd7).mono ?_
                rintro e9 w9 ⟨rfl, rfl⟩
                rw [List.length_drop, HL.out, show ((m - (q + n6) : Nat) : Int) = (m : Int) - ((q + n6 : Nat) : Int) by omega]
                go_wp2
                go_roundw
                case rel => exact ⟨k + 1, q + n6, 0, by go_num, by omega, by go_num, by omega, rfl, hrd7, hb8⟩
                case measure => simp [intOf]; omega
          · have HS := Lib.hid (textS_bad (xs := xs.drop p) hbad)
            have hne : (bad == 0) = false := by simpa using hbad
            clear hbad h0
            go_wp2_with fail
            refine (rtext_any _ g _ bad hrd hlp).mono ?_
            rw [HS.out]
            rintro e' w6 ⟨A6, c6, n6, rfl, hn6, ho6, hr6, hrd6, hl6⟩
            obtain rfl : n6 = 0 := hn6
            have hb7 := hb.trans ((hl6.below (by have := hrd.lt; omega)).mono hg)
            have ht6 := ho6.bs hr6
            clear hl6 hrd hb ho6 hbx hkc'
            go_wp2_with fail
            refine (equal_any A6 none 0 0 c6 0 [] [] _ ht6 Bs.nil_ (by unfold maxLen; omega) (by unfold maxLen; omega)).mono ?_
            rintro e' w7 ⟨rfl, hd7⟩
            rw [cmpL_self]
            have hrd7 := hrd6.keep (hd7.below _) hrd6.lt
            have hb8 := hb7.trans (hd7.below _)
            clear hd7 hrd6 hb7 ht6
            go_wp2_with fail
            refine (rerr_any _ g _ _ hrd7).mono ?_
            rintro e8 w8 ⟨rfl, rfl⟩
            go_wp2_with fail
            refine (rleft_any _ g _ _ hrd7).mono ?_
            rintro e9 w9 ⟨rfl, rfl⟩
            rw [List.length_drop, HL.out, show ((m - (p) : Nat) : Int) = (m : Int) - ((p : Nat) : Int) by omega]
            go_wp2
            go_roundw
            case rel => exact ⟨k + 1, p, bad, by go_num, by omega, by go_num, by omega, rfl, hrd7, hb8⟩
            case measure => simp [intOf]; omega
        · have h0' : (kv == 0) = false := by simpa using h0
          have h1' : (kv == 1) = false := by simpa using h1
          clear h0 h1
          by_cases hbad : bad = 0
          · subst hbad
            by_cases hend : p = m
            · have HS := Lib.hid (flagS_end (xs := xs) (p := p) (by rw [HL.out]; exact hend))
              have hend' : ((p : Int) == (m : Int)) = true := by simp [hend]
              clear hend
              go_wp2_with fail
              refine (rflag_any _ g _ 0 hrd).mono ?_
              rintro e' w6 ⟨rfl, hrd6, ho6⟩
              rw [HS.out] at hrd6 ⊢
              have hb7 := hb.trans ((ho6.below (by have := hrd.lt; omega)).mono hg)
              clear ho6 hrd hb hbx hkc'
              go_wp2_with fail
              refine (rerr_any _ g _ _ hrd6).mono ?_
              rintro e8 w8 ⟨rfl, rfl⟩
              go_wp2_with fail
              refine (rleft_any _ g _ _ hrd6).mono ?_
              rintro e9 w9 ⟨rfl, rfl⟩
              rw [List.length_drop, HL.out, show ((m - (p) : Nat) : Int) = (m : Int) - ((p : Nat) : Int) by omega]
              go_wp2
              go_roundw
              case rel => exact ⟨k + 1, p, 5, by go_num, by omega, by go_num, by omega, rfl, hrd6, hb7⟩
              case measure => simp [intOf]; omega
            · have hend' : ((p : Int) == (m : Int)) = false := by simp; omega
              have hpm : p < m := by omega
              clear hend
              obtain ⟨xb, xo, xv, rfl, _, hxv0, hxv1, hxc, HX⟩ := hbx.at_ hpm
              by_cases hf : 1 < xv
              · have HS := Lib.hid (flagS_form HX.out hf)
                go_wp2_with fail
                refine (rflag_any _ g _ 0 hrd).mono ?_
                rintro e' w6 ⟨rfl, hrd6, ho6⟩
                rw [HS.out] at hrd6 ⊢
                have hb7 := hb.trans ((ho6.below (by have := hrd.lt; omega)).mono hg)
                clear ho6 hrd hb hbx hkc' hxc
                go_wp2_with fail
                refine (rerr_any _ g _ _ hrd6).mono ?_
                rintro e8 w8 ⟨rfl, rfl⟩
                go_wp2_with fail
                refine (rleft_any _ g _ _ hrd6).mono ?_
                rintro e9 w9 ⟨rfl, rfl⟩
                rw [List.length_drop, HL.out, show ((m - (p) : Nat) : Int) = (m : Int) - ((p : Nat) : Int) by omega]
                go_wp2
                go_roundw
                case rel => exact ⟨k + 1, p, 3, by go_num, by omega, by go_num, by omega, rfl, hrd6, hb7⟩
                case measure => simp [intOf]; omega
              · have HS := Lib.hid (flagS_ok HX.out hf)
                go_wp2_with fail
                refine (rflag_any _ g _ 0 hrd).mono ?_
                rintro e' w6 ⟨rfl, hrd6, ho6⟩
                rw [HS.out] at hrd6 ⊢
                have hb7 := hb.trans ((ho6.below (by have := hrd.lt; omega)).mono hg)
                clear ho6 hrd hb hbx hkc' hxc
                go_wp2_with fail
                refine (rerr_any _ g _ _ hrd6).mono ?_
                rintro e8 w8 ⟨rfl, rfl⟩
                go_wp2_with fail
                refine (rleft_any _ g _ _ hrd6).mono ?_
                rintro e9 w9 ⟨rfl, rfl⟩
                rw [List.length_drop, HL.out, show ((m - (p + 1) : Nat) : Int) = (m : Int) - ((p + 1 : Nat) : Int) by omega]
                go_wp2
                go_roundw
                case rel => exact ⟨k + 1, p + 1, 0, by go_num, by omega, by go_num, by omega, rfl, hrd6, hb7⟩
                case measure => simp [intOf]; omega
          · have HS := Lib.hid (flagS_bad (xs := xs.drop p) hbad)
            have hne : (bad == 0) = false := by simpa using hbad
            clear hbad
            go_wp2_with fail
            refine (rflag_any _ g _ bad hrd).mono ?_
            rintro e' w6 ⟨rfl, hrd6, ho6⟩
            rw [HS.out] at hrd6 ⊢
            have hb7 := hb.trans ((ho6.below (by have := hrd.lt; omega)).mono hg)
            clear ho6 hrd hb hbx hkc'
            go_wp2_with fail
            refine (rerr_any _ g _ _ hrd6).mono ?_
            rintro e8 w8 ⟨rfl, rfl⟩
            go_wp2_with fail
            refine (rleft_any _ g _ _ hrd6).mono ?_
            rintro e9 w9 ⟨rfl, rfl⟩
            rw [List.length_drop, HL.out, show ((m - (p) : Nat) : Int) = (m : Int) - ((p : Nat) : Int) by omega]
            go_wp2
            go_roundw
            case rel => exact ⟨k + 1, p, bad, by go_num, by omega, by go_num, by omega, rfl, hrd6, hb7⟩
            case measure => simp [intOf]; omega
    · have hend : xs.drop p ≠ [] ↔ p < m := by
        rw [ne_eq, List.drop_eq_nil_iff, HL.out]; omega
      have hz : Rdr (wr.alloc (.cells #[.slice none 0 0, .int .i64 0] 63)) wr.heap.size [] 0 := ⟨none, 0, 0, heap_alloc_new wr _, Bs.nil_, Nat.le_refl _, fun k hk => by cases hk⟩
      have hrdz := hrd.keep (below_alloc wr (.cells #[.slice none 0 0, .int .i64 0] 63)) hrd.lt
      have hbz : Below w1.heap.size w1 (wr.alloc (.cells #[.slice none 0 0, .int .i64 0] 63)) := hb.alloc hsz _
      clear hrd hbx
      by_cases hbad : bad = 0
      · subst hbad
        by_cases hpm : p < m
        · have HC := Lib.hid (show closeV (xs.drop p) 0 = 3 by unfold closeV; rw [if_pos ⟨rfl, hend.2 hpm⟩])
          clear hend
          go_wp2_with fail
          refine (rclose_any _ g _ _ hrdz).mono ?_
          rintro e8 w8 ⟨rfl, rfl⟩
          rw [HC.out]
          go_wp2_with fail
          refine (rleft_any _ wr.heap.size _ _ hz).mono ?_
          rintro e9 w9 ⟨rfl, rfl⟩
          go_wp2_with fail
          refine (rnum_any _ wr.heap.size _ _ hz (by simp)).mono ?_
          rw [HZ.out]
          rintro e10 w10 ⟨rfl, hz10, ho10⟩
          have hb10 := hbz.trans ((ho10.below (by simp)).mono hsz)
          clear ho10 hbz
          go_wp2_with fail
          refine (rerr_any _ wr.heap.size _ _ hz10).mono ?_
          rintro e11 w11 ⟨rfl, rfl⟩
          go_wp2
          go_ret
          exact ⟨rfl, hb1.trans (hb10.mono hsz1)⟩
        · have HC := Lib.hid (show closeV (xs.drop p) 0 = 0 by unfold closeV; rw [if_neg (fun h => hpm (hend.1 h.2))])
          clear hend
          go_wp2_with fail
          refine (rclose_any _ g _ _ hrdz).mono ?_
          rintro e8 w8 ⟨rfl, rfl⟩
          rw [HC.out]
          go_wp2_with fail
          refine (rleft_any _ wr.heap.size _ _ hz).mono ?_
          rintro e9 w9 ⟨rfl, rfl⟩
          go_wp2_with fail
          refine (rnum_any _ wr.heap.size _ _ hz (by simp)).mono ?_
          rw [HZ.out]
          rintro e10 w10 ⟨rfl, hz10, ho10⟩
          have hb10 := hbz.trans ((ho10.below (by simp)).mono hsz)
          clear ho10 hbz
          go_wp2_with fail
          refine (rerr_any _ wr.heap.size _ _ hz10).mono ?_
          rintro e11 w11 ⟨rfl, rfl⟩
          go_wp2
          go_ret
          exact ⟨rfl, hb1.trans (hb10.mono hsz1)⟩
      · have HC := Lib.hid (show closeV (xs.drop p) bad = bad by unfold closeV; rw [if_neg (fun h => hbad h.1)])
        have hne : (bad == 0) = false := by simpa using hbad
        clear hend hbad
        go_wp2_with fail
        refine (rclose_any _ g _ _ hrdz).mono ?_
        rintro e8 w8 ⟨rfl, rfl⟩
        rw [HC.out]
        go_wp2_with fail
        refine (rleft_any _ wr.heap.size _ _ hz).mono ?_
        rintro e9 w9 ⟨rfl, rfl⟩
        go_wp2_with fail
        refine (rnum_any _ wr.heap.size _ _ hz (by simp)).mono ?_
        rw [HZ.out]
        rintro e10 w10 ⟨rfl, hz10, ho10⟩
        have hb10 := hbz.trans ((ho10.below (by simp)).mono hsz)
        clear ho10 hbz
        go_wp2_with fail
        refine (rerr_any _ wr.heap.size _ _ hz10).mono ?_
        rintro e11 w11 ⟨rfl, rfl⟩
        go_wp2
        go_ret
        exact ⟨rfl, hb1.trans (hb10.mono hsz1)⟩

set_option maxRecDepth 100000 in
set_option maxHeartbeats 4000000 in
theorem reads_long (B K : Option Addr) (m kn d kc : Nat) (xs ks : List Int) (w : World) (hx : Bs w B m xs) (hks0 : Ins w K kn ks) (hmd : m ≤ d) (hknc : kn ≤ kc)
    (hm : m ≤ 140737488351232) (hkn : kn ≤ 140737488351232) (h200 : 200 < kn) :
    Calls Try.prog 6 #[.slice B m d, .slice K kn kc] w fun e w' => e = .returned (.bool true) ∧ Below w.heap.size w w' := by
  have HL := Lib.hid hx.len
  have HZ := Lib.hid (show numS [] 0 = (0, [], 5) by decide)
  have hks1 := hks0.short (m := 200) (by omega)
  have hs200 := slice61 K kn kc h200 hknc
  go_enter Try.func6, Try.ntmps6
  go_wp2_with fail
  refine (awake_any _).mono ?_
  rintro e w1 ⟨rfl, hb1⟩
  have hsz1 := hb1.size
  have hx1 := hx.keep hb1
  have hks := hks1.keep hb1
  clear hx hks1 hks0
  go_wp2_with fail
  refine (copy_any B m d xs _ hx1 (by omega)).mono ?_
  rintro e w2 ⟨A2, c2, rfl, ho2, hb2⟩
  have hsz2 := hb2.size
  go_wp2_with fail
  refine (read_any A2 m c2 xs _ (ho2.bs hx1.2) (by omega)).mono ?_
  rintro e w3 ⟨g, rfl, hrd3, hg', hb3'⟩
  have hb3 := hb2.trans (hb3'.mono hsz2)
  have hg : w1.heap.size ≤ g := by omega
  clear ho2 hb2 hb3' hg' hsz2
  go_wp2
  go_loopw [6, 7, 29] (fun a b i wr => ∃ (k p : Nat) (bad : Int), i = .int .i64 k ∧ k ≤ 200 ∧ a = .int .i64 p ∧ p ≤ m ∧ b = .int .i64 bad ∧ Rdr wr g (xs.drop p) bad ∧ Below w1.heap.size w1 wr) (fun _ _ i _ => 200 - (intOf i).toNat)
  case atStart => exact ⟨0, 0, 0, rfl, Nat.zero_le _, rfl, Nat.zero_le _, rfl, hrd3, hb3⟩
  case round =>
    obtain ⟨k, p, bad, rfl, hk, rfl, hp, rfl, hrd, hb⟩ := hrel
    have hsz := hb.size
    have hbx := hx1.keep hb
    have hlp : (xs.drop p).length ≤ 140737488355328 := by rw [List.length_drop, HL.out]; omega
    by_cases hlt : k < 200
    · obtain ⟨kb, ko, kv, rfl, hkb, hkv0, hkv1, hkc⟩ := hks.at_ hlt
      have hkc' : wr.cell? ⟨kb, ko + k, none⟩ = some (.int .i64 kv) := (hb.cell (p := ⟨kb, ko + k, none⟩) hkb).trans hkc
      by_cases h0 : kv = 0
      · subst h0
        by_cases hbad : bad = 0
        · subst hbad
          rcases tk_step xs hx1.2 p (by rw [HL.out]; exact hp) with ⟨e, ht, he5, hs⟩ | ⟨n, q, ht, hn, hpq, hq, hs⟩
          · have HS := Lib.hid (numS_err hs he5)
            have HT := Lib.hid ht
            have hne : (e == 0) = false := by rcases he5 with rfl | rfl <;> decide
            clear hs ht he5
            go_wp2_with fail
            refine (rtake_3 B m d (p : Int) xs _ 0 0 e HT.out hbx (by omega)).mono ?_
            rintro e' w5 ⟨rfl, hb5⟩
            have hrd5 := hrd.keep hb5 hrd.lt
            have hb6 := hb.trans (hb5.mono hsz)
            clear hb5 hb hbx hrd hkc'
            go_wp2_with fail
            refine (rnum_any _ g _ 0 hrd5 hlp).mono ?_
            rintro e' w6 ⟨rfl, hrd6, ho6⟩
            rw [HS.out] at hrd6 ⊢
            have hb7 := hb6.trans ((ho6.below (by have := hrd5.lt; omega)).mono hg)
            clear ho6 hrd5 hb6
            go_wp2_with fail
            refine (rerr_any _ g _ _ hrd6).mono ?_
            rintro e8 w8 ⟨rfl, rfl⟩
            go_wp2_with fail
            refine (rleft_any _ g _ _ hrd6).mono ?_
            rintro e9 w9 ⟨rfl, rfl⟩
            rw [List.length_drop, HL.out, show ((m - (p) : Nat) : Int) = (m : Int) - ((p : Nat) : Int) by omega]
            go_wp2
            go_roundw
            case rel => exact ⟨k + 1, p, e, by go_num, by omega, by go_num, by omega, rfl, hrd6, hb7⟩
            case measure => simp [intOf]; omega
          · have HS := Lib.hid (numS_ok hs hpq)
            have HT := Lib.hid ht
            rw [HL.out] at hq
            clear hs ht
            go_wp2_with fail
            refine (rtake_3 B m d (p : Int) xs _ (n : Int) (q : Int) 0 HT.out hbx (by omega)).mono ?_
            rintro e' w5 ⟨rfl, hb5⟩
            have hrd5 := hrd.keep hb5 hrd.lt
            have hb6 := hb.trans (hb5.mono hsz)
            clear hb5 hb hbx hrd hkc'
            go_wp2_with fail
            refine (rnum_any _ g _ 0 hrd5 hlp).mono ?_
            rintro e' w6 ⟨rfl, hrd6, ho6⟩
            rw [HS.out] at hrd6 ⊢
            have hb7 := hb6.trans ((ho6.below (by have := hrd5.lt; omega)).mono hg)
            clear ho6 hrd5 hb6
            go_wp2_with fail
            refine (rerr_any _ g _ _ hrd6).mono ?_
            rintro e8 w8 ⟨rfl, rfl⟩
            go_wp2_with fail
            refine (rleft_any _ g _ _ hrd6).mono ?_
            rintro e9 w9 ⟨rfl, rfl⟩
            rw [List.length_drop, HL.out, show ((m - (q) : Nat) : Int) = (m : Int) - ((q : Nat) : Int) by omega]
            go_wp2
            go_roundw
            case rel => exact ⟨k + 1, q, 0, by go_num, by omega, by go_num, by omega, rfl, hrd6, hb7⟩
            case measure => simp [intOf]; omega
        · have HS := Lib.hid (numS_bad (xs := xs.drop p) hbad)
          have hne : (bad == 0) = false := by simpa using hbad
          clear hbad
          go_wp2_with fail
          refine (rnum_any _ g _ bad hrd hlp).mono ?_
          rintro e' w6 ⟨rfl, hrd6, ho6⟩
          rw [HS.out] at hrd6 ⊢
          have hb7 := hb.trans ((ho6.below (by have := hrd.lt; omega)).mono hg)
          clear ho6 hrd hb hbx hkc'
          go_wp2_with fail
          refine (rerr_any _ g _ _ hrd6).mono ?_
          rintro e8 w8 ⟨rfl, rfl⟩
          go_wp2_with fail
          refine (rleft_any _ g _ _ hrd6).mono ?_
          rintro e9 w9 ⟨rfl, rfl⟩
          rw [List.length_drop, HL.out, show ((m - (p) : Nat) : Int) = (m : Int) - ((p : Nat) : Int) by omega]
          go_wp2
          go_roundw
          case rel => exact ⟨k + 1, p, bad, by go_num, by omega, by go_num, by omega, rfl, hrd6, hb7⟩
          case measure => simp [intOf]; omega
      · by_cases h1 : kv = 1
        · subst h1
          by_cases hbad : bad = 0
          · subst hbad
            rcases tk_step xs hx1.2 p (by rw [HL.out]; exact hp) with ⟨e, ht, he5, hs⟩ | ⟨n, q, ht, hn, hpq, hq, hs⟩
            · have HS := Lib.hid (textS_err hs he5)
              have HT := Lib.hid ht
              have hne : (e == 0) = false := by rcases he5 with rfl | rfl <;> decide
              clear hs ht he5 h0
              go_wp2_with fail
              refine (rtake_3 B m d (p : Int) xs _ 0 0 e HT.out hbx (by omega)).mono ?_
              rintro e' w5 ⟨rfl, hb5⟩
              have hrd5 := hrd.keep hb5 hrd.lt
              have hb6 := hb.trans (hb5.mono hsz)
              clear hb5 hb hbx hrd hkc'
              go_wp2_with fail
              refine (rtext_any _ g _ 0 hrd5 hlp).mono ?_
              rw [HS.out]
              rintro e' w6 ⟨A6, c6, n6, rfl, hn6, ho6, hr6, hrd6, hl6⟩
              obtain rfl : n6 = 0 := hn6
              have hb7 := hb6.trans ((hl6.below (by have := hrd5.lt; omega)).mono hg)
              have ht6 := ho6.bs hr6
              clear hl6 hrd5 hb6 ho6
              go_wp2_with fail
              refine (equal_any A6 none 0 0 c6 0 [] [] _ ht6 Bs.nil_ (by unfold maxLen; omega) (by unfold maxLen; omega)).mono ?_
              rintro e' w7 ⟨rfl, hd7⟩
              rw [cmpL_self]
              have hrd7 := hrd6.keep (hd7.below _) hrd6.lt
              have hb8 := hb7.trans (hd7.below _)
              clear hd7 hrd6 hb7 ht6
              go_wp2_with fail
              refine (rerr_any _ g _ _ hrd7).mono ?_
              rintro e8 w8 ⟨rfl, rfl⟩
              go_wp2_with fail
              refine (rleft_any _ g _ _ hrd7).mono ?_
              rintro e9 w9 ⟨rfl, rfl⟩
              rw [List.length_drop, HL.out, show ((m - (p) : Nat) : Int) = (m : Int) - ((p : Nat) : Int) by omega]
              go_wp2
              go_roundw
              case rel => exact ⟨k + 1, p, e, by go_num, by omega, by go_num, by omega, rfl, hrd7, hb8⟩
              case measure => simp [intOf]; omega
            · have HT := Lib.hid ht
              rw [HL.out] at hq
              by_cases hlong : m < q + n
              · have HS := Lib.hid (textS_long hs hpq (by rw [HL.out]; exact hq) (by rw [HL.out]; exact hlong))
                have hlong' : (m : Int) - (q : Int) < (n : Int) := by omega
                clear hs ht h0
                go_wp2_with fail
                refine (rtake_3 B m d (p : Int) xs _ (n : Int) (q : Int) 0 HT.out hbx (by omega)).mono ?_
                rintro e' w5 ⟨rfl, hb5⟩
                have hrd5 := hrd.keep hb5 hrd.lt
                have hb6 := hb.trans (hb5.mono hsz)
                clear hb5 hb hbx hrd hkc'
                go_wp2_with fail
                refine (rtext_any _ g _ 0 hrd5 hlp).mono ?_
                rw [HS.out]
                rintro e' w6 ⟨A6, c6, n6, rfl, hn6, ho6, hr6, hrd6, hl6⟩
                obtain rfl : n6 = 0 := hn6
                have hb7 := hb6.trans ((hl6.below (by have := hrd5.lt; omega)).mono hg)
                have ht6 := ho6.bs hr6
                clear hl6 hrd5 hb6 ho6
                go_wp2_with fail
                refine (equal_any A6 none 0 0 c6 0 [] [] _ ht6 Bs.nil_ (by unfold maxLen; omega) (by unfold maxLen; omega)).mono ?_
                rintro e' w7 ⟨rfl, hd7⟩
                rw [cmpL_self]
                have hrd7 := hrd6.keep (hd7.below _) hrd6.lt
                have hb8 := hb7.trans (hd7.below _)
                clear hd7 hrd6 hb7 ht6
                go_wp2_with fail
                refine (rerr_any _ g _ _ hrd7).mono ?_
                rintro e8 w8 ⟨rfl, rfl⟩
                go_wp2_with fail
                refine (rleft_any _ g _ _ hrd7).mono ?_
                rintro e9 w9 ⟨rfl, rfl⟩
                rw [List.length_drop, HL.out, show ((m - (p) : Nat) : Int) = (m : Int) - ((p : Nat) : Int) by omega]
                go_wp2
                go_roundw
                case rel => exact ⟨k + 1, p, 5, by go_num, by omega, by go_num, by omega, rfl, hrd7, hb8⟩
                case measure => simp [intOf]; omega
              · have hfit : q + n ≤ m := by omega
                have HS := Lib.hid (textS_ok hs hpq (by rw [HL.out]; exact hq) (by rw [HL.out]; exact hfit))
                have hlong' : ¬ (m : Int) - (q : Int) < (n : Int) := by omega
                have hsl := slice_lohi B m d q (q + n) (by omega) (by omega)
                have ec : ((q + n : Nat) : Int) = (q : Int) + (n : Int) := by omega
                have eb : q + n - q = n := by omega
                rw [ec, eb] at hsl
                clear hs ht h0 hlong ec eb
                go_wp2_with fail
                refine (rtake_3 B m d (p : Int) xs _ (n : Int) (q : Int) 0 HT.out hbx (by omega)).mono ?_
                rintro e' w5 ⟨rfl, hb5⟩
                have hrd5 := hrd.keep hb5 hrd.lt
                have hb6 := hb.trans (hb5.mono hsz)
                have hbx5 := hbx.keep hb5
                clear hb5 hb hbx hrd hkc'
                go_wp2_with fail
                refine (rtext_any _ g _ 0 hrd5 hlp).mono ?_
                rw [HS.out]
                rintro e' w6 ⟨A6, c6, n6, rfl, hn6, ho6, hr6, hrd6, hl6⟩
                have hn6' : n6 = n := by rw [hn6, List.length_take, List.length_drop, HL.out]; omega
                clear hn6
                subst hn6'
                have hb7 := hb6.trans ((hl6.below (by have := hrd5.lt; omega)).mono hg)
                have ht6 := ho6.bs hr6
                have hbx6 := hx1.keep hb7
                have hcut := hbx6.cut (c := d) (lo := q) (hi := q + n6) (by omega) hfit hmd
                rw [show q + n6 - q = n6 by omega] at hcut
                clear hl6 hrd5 hb6 ho6 hbx5
                go_wp2_with fail
                refine (equal_any A6 (cutA B d q) n6 n6 c6 (d - q) _ _ _ ht6 hcut (by unfold maxLen; omega) (by unfold maxLen; omega)).mono ?_
                rintro e' w7 ⟨rfl, hd7⟩
                rw [cmpL_self]
                have hrd7 := hrd6.keep (hd7.below _) hrd6.lt
                have hb8 := hb7.trans (hd7.below _)
                clear hd7 hrd6 hb7 ht6 hcut hbx6
                go_wp2_with fail
                refine (rerr_any _ g _ _ hrd7).mono ?_
                rintro e8 w8 ⟨rfl, rfl⟩
                go_wp2_with fail
                refine (rleft_any _ g _ _ hrd7).mono ?_
                rintro e9 w9 ⟨rfl, rfl⟩
                rw [List.length_drop, HL.out, show ((m - (q + n6) : Nat) : Int) = (m : Int) - ((q + n6 : Nat) : Int) by omega]
                go_wp2
                go_roundw
                case rel => exact ⟨k + 1, q + n6, 0, by go_num, by omega, by go_num, by omega, rfl, hrd7, hb8⟩
                case measure => simp [intOf]; omega
          · have HS := Lib.hid (textS_bad (xs := xs.drop p) hbad)
            have hne : (bad == 0) = false := by simpa using hbad
            clear hbad h0
            go_wp2_with fail
            refine (rtext_any _ g _ bad hrd hlp).mono ?_
            rw [HS.out]
            rintro e' w6 ⟨A6, c6, n6, rfl, hn6, ho6, hr6, hrd6, hl6⟩
            obtain rfl : n6 = 0 := hn6
            have hb7 := hb.trans ((hl6.below (by have := hrd.lt; omega)).mono hg)
            have ht6 := ho6.bs hr6
            clear hl6 hrd hb ho6 hbx hkc'
            go_wp2_with fail
            refine (equal_any A6 none 0 0 c6 0 [] [] _ ht6 Bs.nil_ (by unfold maxLen; omega) (by unfold maxLen; omega)).mono ?_
            rintro e' w7 ⟨rfl, hd7⟩
            rw [cmpL_self]
            have hrd7 := hrd6.keep (hd7.below _) hrd6.lt
            have hb8 := hb7.trans (hd7.below _)
            clear hd7 hrd6 hb7 ht6
            go_wp2_with fail
            refine (rerr_any _ g _ _ hrd7).mono ?_
            rintro e8 w8 ⟨rfl, rfl⟩
            go_wp2_with fail
            refine (rleft_any _ g _ _ hrd7).mono ?_
            rintro e9 w9 ⟨rfl, rfl⟩
            rw [List.length_drop, HL.out, show ((m - (p) : Nat) : Int) = (m : Int) - ((p : Nat) : Int) by omega]
            go_wp2
            go_roundw
            case rel => exact ⟨k + 1, p, bad, by go_num, by omega, by go_num, by omega, rfl, hrd7, hb8⟩
            case measure => simp [intOf]; omega
        · have h0' : (kv == 0) = false := by simpa using h0
          have h1' : (kv == 1) = false := by simpa using h1
          clear h0 h1
          by_cases hbad : bad = 0
          · subst hbad
            by_cases hend : p = m
            · have HS := Lib.hid (flagS_end (xs := xs) (p := p) (by rw [HL.out]; exact hend))
              have hend' : ((p : Int) == (m : Int)) = true := by simp [hend]
              clear hend
              go_wp2_with fail
              refine (rflag_any _ g _ 0 hrd).mono ?_
              rintro e' w6 ⟨rfl, hrd6, ho6⟩
              rw [HS.out] at hrd6 ⊢
              have hb7 := hb.trans ((ho6.below (by have := hrd.lt; omega)).mono hg)
              clear ho6 hrd hb hbx hkc'
              go_wp2_with fail
              refine (rerr_any _ g _ _ hrd6).mono ?_
              rintro e8 w8 ⟨rfl, rfl⟩
              go_wp2_with fail
              refine (rleft_any _ g _ _ hrd6).mono ?_
              rintro e9 w9 ⟨rfl, rfl⟩
              rw [List.length_drop, HL.out, show ((m - (p) : Nat) : Int) = (m : Int) - ((p : Nat) : Int) by omega]
              go_wp2
              go_roundw
              case rel => exact ⟨k + 1, p, 5, by go_num, by omega, by go_num, by omega, rfl, hrd6, hb7⟩
              case measure => simp [intOf]; omega
            · have hend' : ((p : Int) == (m : Int)) = false := by simp; omega
              have hpm : p < m := by omega
              clear hend
              obtain ⟨xb, xo, xv, rfl, _, hxv0, hxv1, hxc, HX⟩ := hbx.at_ hpm
              by_cases hf : 1 < xv
              · have HS := Lib.hid (flagS_form HX.out hf)
                go_wp2_with fail
                refine (rflag_any _ g _ 0 hrd).mono ?_
                rintro e' w6 ⟨rfl, hrd6, ho6⟩
                rw [HS.out] at hrd6 ⊢
                have hb7 := hb.trans ((ho6.below (by have := hrd.lt; omega)).mono hg)
                clear ho6 hrd hb hbx hkc' hxc
                go_wp2_with fail
                refine (rerr_any _ g _ _ hrd6).mono ?_
                rintro e8 w8 ⟨rfl, rfl⟩
                go_wp2_with fail
                refine (rleft_any _ g _ _ hrd6).mono ?_
                rintro e9 w9 ⟨rfl, rfl⟩
                rw [List.length_drop, HL.out, show ((m - (p) : Nat) : Int) = (m : Int) - ((p : Nat) : Int) by omega]
                go_wp2
                go_roundw
                case rel => exact ⟨k + 1, p, 3, by go_num, by omega, by go_num, by omega, rfl, hrd6, hb7⟩
                case measure => simp [intOf]; omega
              · have HS := Lib.hid (flagS_ok HX.out hf)
                go_wp2_with fail
                refine (rflag_any _ g _ 0 hrd).mono ?_
                rintro e' w6 ⟨rfl, hrd6, ho6⟩
                rw [HS.out] at hrd6 ⊢
                have hb7 := hb.trans ((ho6.below (by have := hrd.lt; omega)).mono hg)
                clear ho6 hrd hb hbx hkc' hxc
                go_wp2_with fail
                refine (rerr_any _ g _ _ hrd6).mono ?_
                rintro e8 w8 ⟨rfl, rfl⟩
                go_wp2_with fail
                refine (rleft_any _ g _ _ hrd6).mono ?_
                rintro e9 w9 ⟨rfl, rfl⟩
                rw [List.length_drop, HL.out, show ((m - (p + 1) : Nat) : Int) = (m : Int) - ((p + 1 : Nat) : Int) by omega]
                go_wp2
                go_roundw
                case rel => exact ⟨k + 1, p + 1, 0, by go_num, by omega, by go_num, by omega, rfl, hrd6, hb7⟩
                case measure => simp [intOf]; omega
          · have HS := Lib.hid (flagS_bad (xs := xs.drop p) hbad)
            have hne : (bad == 0) = false := by simpa using hbad
            clear hbad
            go_wp2_with fail
            refine (rflag_any _ g _ bad hrd).mono ?_
            rintro e' w6 ⟨rfl, hrd6, ho6⟩
            rw [HS.out] at hrd6 ⊢
            have hb7 := hb.trans ((ho6.below (by have := hrd.lt; omega)).mono hg)
            clear ho6 hrd hb hbx hkc'
            go_wp2_with fail
            refine (rerr_any _ g _ _ hrd6).mono ?_
            rintro e8 w8 ⟨rfl, rfl⟩
            go_wp2_with fail
            refine (rleft_any _ g _ _ hrd6).mono ?_
            rintro e9 w9 ⟨rfl, rfl⟩
            rw [List.length_drop, HL.out, show ((m - (p) : Nat) : Int) = (m : Int) - ((p : Nat) : Int) by omega]
            go_wp2
            go_roundw
            case rel => exact ⟨k + 1, p, bad, by go_num, by omega, by go_num, by omega, rfl, hrd6, hb7⟩
            case measure => simp [intOf]; omega
    · have hend : xs.drop p ≠ [] ↔ p < m := by
        rw [ne_eq, List.drop_eq_nil_iff, HL.out]; omega
      have hz : Rdr (wr.alloc (.cells #[.slice none 0 0, .int .i64 0] 63)) wr.heap.size [] 0 := ⟨none, 0, 0, heap_alloc_new wr _, Bs.nil_, Nat.le_refl _, fun k hk => by cases hk⟩
      have hrdz := hrd.keep (below_alloc wr (.cells #[.slice none 0 0, .int .i64 0] 63)) hrd.lt
      have hbz : Below w1.heap.size w1 (wr.alloc (.cells #[.slice none 0 0, .int .i64 0] 63)) := hb.alloc hsz _
      clear hrd hbx
      by_cases hbad : bad = 0
      · subst hbad
        by_cases hpm : p < m
        · have HC := Lib.hid (show closeV (xs.drop p) 0 = 3 by unfold closeV; rw [if_pos ⟨rfl, hend.2 hpm⟩])
          clear hend
          go_wp2_with fail
          refine (rclose_any _ g _ _ hrdz).mono ?_
          rintro e8 w8 ⟨rfl, rfl⟩
          rw [HC.out]
          go_wp2_with fail
          refine (rleft_any _ wr.heap.size _ _ hz).mono ?_
          rintro e9 w9 ⟨rfl, rfl⟩
          go_wp2_with fail
          refine (rnum_any _ wr.heap.size _ _ hz (by simp)).mono ?_
          rw [HZ.out]
          rintro e10 w10 ⟨rfl, hz10, ho10⟩
          have hb10 := hbz.trans ((ho10.below (by simp)).mono hsz)
          clear ho10 hbz
          go_wp2_with fail
          refine (rerr_any _ wr.heap.size _ _ hz10).mono ?_
          rintro e11 w11 ⟨rfl, rfl⟩
          go_wp2
          go_ret
          exact ⟨rfl, hb1.trans (hb10.mono hsz1)⟩
        · have HC := Lib.hid (show closeV (xs.drop p) 0 = 0 by unfold closeV; rw [if_neg (fun h => hpm (hend.1 h.2))])
          clear hend
          go_wp2_with fail
          refine (rclose_any _ g _ _ hrdz).mono ?_
          rintro e8 w8 ⟨rfl, rfl⟩
          rw [HC.out]
          go_wp2_with fail
          refine (rleft_any _ wr.heap.size _ _ hz).mono ?_
          rintro e9 w9 ⟨rfl, rfl⟩
          go_wp2_with fail
          refine (rnum_any _ wr.heap.size _ _ hz (by simp)).mono ?_
          rw [HZ.out]
          rintro e10 w10 ⟨rfl, hz10, ho10⟩
          have hb10 := hbz.trans ((ho10.below (by simp)).mono hsz)
          clear ho10 hbz
          go_wp2_with fail
          refine (rerr_any _ wr.heap.size _ _ hz10).mono ?_
          rintro e11 w11 ⟨rfl, rfl⟩
          go_wp2
          go_ret
          exact ⟨rfl, hb1.trans (hb10.mono hsz1)⟩
      · have HC := Lib.hid (show closeV (xs.drop p) bad = bad by unfold closeV; rw [if_neg (fun h => hbad h.1)])
        have hne : (bad == 0) = false := by simpa using hbad
        clear hend hbad
        go_wp2_with fail
        refine (rclose_any _ g _ _ hrdz).mono ?_
        rintro e8 w8 ⟨rfl, rfl⟩
        rw [HC.out]
        go_wp2_with fail
        refine (rleft_any _ wr.heap.size _ _ hz).mono ?_
        rintro e9 w9 ⟨rfl, rfl⟩
        go_wp2_with fail
        refine (rnum_any _ wr.heap.size _ _ hz (by simp)).mono ?_
        rw [HZ.out]
        rintro e10 w10 ⟨rfl, hz10, ho10⟩
        have hb10 := hbz.trans ((ho10.below (by simp)).mono hsz)
        clear ho10 hbz
        go_wp2_with fail
        refine (rerr_any _ wr.heap.size _ _ hz10).mono ?_
        rintro e11 w11 ⟨rfl, rfl⟩
        go_wp2
        go_ret
        exact ⟨rfl, hb1.trans (hb10.mono hsz1)⟩

theorem reads_walk (B K : Option Addr) (m kn d kc : Nat) (xs ks : List Int) (w : World) (hx : Bs w B m xs) (hks0 : Ins w K kn ks) (hmd : m ≤ d) (hknc : kn ≤ kc)
    (hm : m ≤ 140737488351232) (hkn : kn ≤ 140737488351232) :
    Calls Try.prog 6 #[.slice B m d, .slice K kn kc] w fun e w' => e = .returned (.bool true) ∧ Below w.heap.size w w' := by
  by_cases h : kn ≤ 200
  · exact reads_short B K m kn d kc xs ks w hx hks0 hmd hknc hm hkn h
  · exact reads_long B K m kn d kc xs ks w hx hks0 hmd hknc hm hkn (by omega)
end Go.Proofs.Ytdlbghjclcdfmaa
