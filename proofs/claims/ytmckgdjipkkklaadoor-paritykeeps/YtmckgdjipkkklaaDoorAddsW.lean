/- ParityAdds: the walk. -/
import Derived.Test.YtmckgdjipkkklaaDoorTellsW
namespace Go.Proofs.YtmckgdjipkkklaaDoor
set_option linter.unusedVariables false
set_option linter.unusedSimpArgs false
open Go.RowKit

theorem Dr.cell {a b : World} (h : Dr a b) (g i : Nat) : b.cell? ⟨g, i, none⟩ = a.cell? ⟨g, i, none⟩ := by
  obtain ⟨q, rfl⟩ := h
  rfl
theorem four_cells {w : World} {g b0 b1 b2 b3 : Nat} (h : Rd w (some ⟨g, 0, none⟩) 4 (By [(b0 : Int), (b1 : Int), (b2 : Int), (b3 : Int)])) :
    w.cell? ⟨g, 0, none⟩ = some (.int .u8 (b0 : Int)) ∧ w.cell? ⟨g, 1, none⟩ = some (.int .u8 (b1 : Int)) ∧ w.cell? ⟨g, 2, none⟩ = some (.int .u8 (b2 : Int)) ∧ w.cell? ⟨g, 3, none⟩ = some (.int .u8 (b3 : Int)) := by
  obtain ⟨b, off, he, _, hc⟩ := h.2 (by omega)
  injection he with he
  injection he with e1 e2
  subst e1; subst e2
  have h0 := hc 0 _ rfl
  have h1 := hc 1 _ rfl
  have h2 := hc 2 _ rfl
  have h3 := hc 3 _ rfl
  simp only [Nat.zero_add] at h0 h1 h2 h3
  exact ⟨h0, h1, h2, h3⟩
theorem idx30 (b k : Nat) (h : k < 4) (W : World) : (Instr.indexAt 30 (.pointer (some ⟨b, 0, none⟩)) (.int .i64 (k : Int))).run Tryd.prog W = .ok (.pointer (some ⟨b, k, none⟩)) W := by
  have h1 : Tryd.prog.underlying 30 = some (.array (Tryd.prog.arrayLen 30) (Tryd.prog.elem 30)) := by kernel_rfl
  have h2 : Tryd.prog.arrayLen 30 = 4 := by kernel_rfl
  have h3 : Tryd.prog.elem 30 = 5 := by kernel_rfl
  rw [run_indexAt_array W 30 ⟨b, 0, none⟩ .i64 k h1, h3, Tryd.sizeOf5, h2, if_pos (by omega)]
  simp [Result.andThen, Addr.add]
  omega
def lenV : Value → Nat
  | .slice _ n _ => n
  | _ => 0
theorem rd_one0 (w : World) : Own (w.alloc (.cells #[.int .u8 0] 5)) w.heap.size 5 (some ⟨w.heap.size, 0, none⟩) 1 1 (By [0]) :=
  Own.of_block (heap_alloc_new w _) (Nat.le_refl _) rfl (by unfold maxLen; omega)
/-- Two slices in a block of their own. -/
theorem Bss.two {w : World} {A B : Option Addr} {n c m d : Nat} {xs ys : List Int} {t : TypeId} (h : Bs w A n xs) (hc : n ≤ c) (k : Bs w B m ys) (hd : m ≤ d) : Bss (w.alloc (.cells #[.slice A n c, .slice B m d] t)) (some ⟨w.heap.size, 0, none⟩) 2 [xs, ys] := by
  have hl := h.len
  have kl := k.len
  subst hl; subst kl
  refine ⟨rfl, [.slice A xs.length c, .slice B ys.length d], (Rd.of_block (cs := #[.slice A xs.length c, .slice B ys.length d]) (heap_alloc_new w _) rfl).rdP, fun i v zs hv hy => ?_⟩
  match i, hv, hy with
  | 0, hv, hy =>
    simp only [List.getElem?_cons_zero, Option.some.injEq] at hv hy
    subst hv; subst hy
    exact ⟨A, c, rfl, (h.keep (below_alloc w _)).bsP, hc⟩
  | 1, hv, hy =>
    simp only [List.getElem?_cons_succ, List.getElem?_cons_zero, Option.some.injEq] at hv hy
    subst hv; subst hy
    exact ⟨B, d, rfl, (k.keep (below_alloc w _)).bsP, hd⟩
theorem xl_take_succ : ∀ (l m : List Nat) (k u v : Nat), l[k]? = some u → m[k]? = some v → xl (l.take (k + 1)) (m.take (k + 1)) = xl (l.take k) (m.take k) ++ [u ^^^ v]
  | [], _, _, _, _, h, _ => by simp at h
  | _ :: _, [], _, _, _, _, h => by simp at h
  | a :: l, b :: m, 0, u, v, h1, h2 => by simp at h1 h2; subst h1; subst h2; simp [xl]
  | a :: l, b :: m, k + 1, u, v, h1, h2 => by
    simp only [List.getElem?_cons_succ] at h1 h2
    have ih := xl_take_succ l m k u v h1 h2
    simp only [List.take_succ_cons, xl, List.cons_append] at ih ⊢
    rw [ih]
theorem set_mid (p q : List Nat) (k u v : Nat) (hp : p.length = k) (hq : q[k]? = some u) : (p ++ q.drop k).set k v = (p ++ [v]) ++ q.drop (k + 1) := by
  obtain ⟨hk, e⟩ := List.getElem?_eq_some_iff.1 hq
  rw [List.drop_eq_getElem_cons hk, List.set_append, if_neg (by omega), hp, Nat.sub_self, List.set_cons_zero]
  simp

set_option maxRecDepth 100000 in
set_option maxHeartbeats 4000000 in
theorem adds_walk (A B : Option Addr) (n c m d : Nat) (xs ys : List Int) (q : Int) (w : World) (hx : Bs w A n xs) (hn : n ≤ maxLen) (hc : n ≤ c) (hy : Bs w B m ys) (hm : m ≤ maxLen) (hd : m ≤ d) (ht : Tabs w) :
    Calls Tryd.prog 10 #[.slice A n c, .slice B m d, .int .i64 q] w fun e w' => e = .returned (.bool true) ∧ Below w.heap.size w w' := by
  obtain ⟨i0, hi, hz0, hz1, hz2⟩ := info_parts info5
  go_enter Tryd.func10, Tryd.ntmps10
  go_wp2_with fail
  refine (awake_any _ ht).mono ?_
  rintro e w1 ⟨rfl, hb1⟩
  have hx1 := hx.keep hb1
  have hy1 := hy.keep hb1
  clear hx hy
  go_wp2_with fail
  refine (cut_any A n c 300 xs _ hx1 hn hc (by omega)).mono ?_
  rintro e w' ⟨n1, rfl, HM, hx2, rfl⟩
  have hn1 : n1 ≤ 300 := by have := HM.out; omega
  have hnc1 : n1 ≤ c := by have := HM.out; omega
  generalize xs.take 300 = us at *
  clear hx1 HM
  go_wp2_with fail
  refine (cut_any B m d 300 ys _ hy1 hm hd (by omega)).mono ?_
  rintro e w' ⟨m1, rfl, HM, hy2, rfl⟩
  have hm1 : m1 ≤ 300 := by have := HM.out; omega
  have hmd1 : m1 ≤ d := by have := HM.out; omega
  generalize ys.take 300 = vs at *
  clear hy1 HM hn hm hc hd
  go_wp2
  go_loopw [0] (fun v wr => ∃ (A' : Option Addr) (n' c' : Nat) (us' : List Int), v = .slice A' n' c' ∧ n' ≤ 300 ∧ n' ≤ c' ∧ Bs wr A' n' us' ∧ Below w1.heap.size w1 wr) (fun v _ => m1 - lenV v)
  case atStart => exact ⟨A, n1, c, us, rfl, hn1, hnc1, hx2, Below.refl _ _⟩
  case round =>
    obtain ⟨A', n', c', us', rfl, hn', hnc', hu', hbr⟩ := hrel
    have hsr := hbr.size
    by_cases hlt : n' < m1
    · have ho := rd_one0 wr
      have hu2 := (hu'.keep (below_alloc wr (.cells #[.int .u8 0] 5))).1
      go_wp2_with (at_builtin; refine wpList_append_rd rfl _ _ 28 rfl i0 (.int .u8 0) 1 Tryd.underlying28 hi hz0 hz1 hz2 rfl rfl ho A' n' c' (By us') rfl hu2 (By_one _) ?c1 ?c2 ?c3 ?_)
      case c1 => unfold maxLen; omega
      case c2 => omega
      case c3 => simp
      intro A2 c2 w2 ho2 hg2
      have hb2 : Below w1.heap.size w1 w2 := hbr.trans (((below_alloc wr _).trans (hg2.below (by simp) (fun k hk => (ho.lies k hk).1))).mono hsr)
      rw [← By_append] at ho2
      have hu3 := ho2.bs ((ran_of (by decide) : Ran [0]).append hu'.2)
      have hcap := ho2.cap
      clear hu' hu2 ho hg2 ho2 hbr
      go_wp2
      go_roundw
      case rel => exact ⟨A2, 1 + n', c2, _, rfl, by omega, hcap, hu3, hb2⟩
      case measure => simp [lenV]; omega
    · have hy3 := hy2.keep hbr
      clear hy2
      generalize hwB : wr = wB at *
      clear hwB
      go_wp2
      go_loopw [1] (fun v w2 => ∃ (B' : Option Addr) (m' d' : Nat) (vs' : List Int), v = .slice B' m' d' ∧ m' ≤ n' ∧ m' ≤ d' ∧ Bs w2 B' m' vs' ∧ Below wB.heap.size wB w2) (fun v _ => n' - lenV v)
      case atStart => exact ⟨B, m1, d, vs, rfl, by omega, hmd1, hy3, Below.refl _ _⟩
      case round =>
        obtain ⟨B', m', d', vs', rfl, hm', hmd', hv', hbs⟩ := hrel
        have hss := hbs.size
        by_cases hlt2 : m' < n'
        · have ho := rd_one0 wr
          have hu2 := (hv'.keep (below_alloc wr (.cells #[.int .u8 0] 5))).1
          go_wp2_with (at_builtin; refine wpList_append_rd rfl _ _ 28 rfl i0 (.int .u8 0) 1 Tryd.underlying28 hi hz0 hz1 hz2 rfl rfl ho B' m' d' (By vs') rfl hu2 (By_one _) ?d1 ?d2 ?d3 ?_)
          case d1 => unfold maxLen; omega
          case d2 => omega
          case d3 => simp
          intro A2 c2 w2 ho2 hg2
          have hb2 : Below wB.heap.size wB w2 := hbs.trans (((below_alloc wr _).trans (hg2.below (by simp) (fun k hk => (ho.lies k hk).1))).mono hss)
          rw [← By_append] at ho2
          have hu3 := ho2.bs ((ran_of (by decide) : Ran [0]).append hv'.2)
          have hcap := ho2.cap
          clear hv' hu2 ho hg2 ho2 hbs
          go_wp2
          go_roundw
          case rel => exact ⟨A2, 1 + m', c2, _, rfl, by omega, hcap, hu3, hb2⟩
          case measure => simp [lenV]; omega
        · obtain rfl : m' = n' := by omega
          have hu4 := hu'.keep hbs
          have hbw : Below w1.heap.size w1 wr := hbr.trans (hbs.mono hsr)
          have hsw := hbw.size
          have hb1s := hb1.size
          have hbt := hb1.trans (hbw.mono hb1s)
          clear hu' hbr hbs hss hsr hlt hlt2
          generalize hwC : wr = wC at *
          clear hwC
          have htC := ht.below hbt
          have hsC := hbt.size
          clear ht
          go_wp2_with fail
          refine (copy_any A' m' c' us' _ hu4 (by omega)).mono ?_
          rintro e w3 ⟨S, cS, rfl, hoS, hb3⟩
          have hu5 := hu4.keep hb3
          have hv5 := hv'.keep hb3
          have hb3s := hb3.size
          have ht3 := htC.below hb3
          have HLU := Lib.hid hu5.len
          have HLV := Lib.hid hv5.len
          have HRV := Lib.hid hv5.2
          have HBU : Hid (∀ b off, A' = some ⟨b, off, none⟩ → 0 < m' → b < wC.heap.size) := fun b off he h0 => (show Bs wC (some ⟨b, off, none⟩) m' us' from he ▸ hu4).blt h0
          have HBV : Hid (∀ b off, B' = some ⟨b, off, none⟩ → 0 < m' → b < wC.heap.size) := fun b off he h0 => (show Bs wC (some ⟨b, off, none⟩) m' vs' from he ▸ hv').blt h0
          clear hu4 hv'
          go_wp2
          go_loopw [39] (fun i wr => ∃ (k : Nat) (ss : List Int), i = .int .i64 k ∧ k ≤ m' ∧ Own wr wC.heap.size 5 S m' cS (By ss) ∧ Ran ss ∧ Bs wr A' m' us' ∧ Bs wr B' m' vs' ∧ Below wC.heap.size wC wr ∧ Hid (nl ss = xl ((nl us').take k) ((nl vs').take k) ++ (nl us').drop k)) (fun i _ => m' - (intOf i).toNat)
          case atStart => exact ⟨0, us', rfl, Nat.zero_le _, hoS, hu5.2, hu5, hv5, hb3, rfl⟩
          case round =>
            obtain ⟨k, ss, rfl, hk, hos, hrs, hu6, hv6, hbr, HSS⟩ := hrel
            have hsr := hbr.size
            by_cases hlt : k < m'
            · obtain ⟨gS, capS, hvS, hgSlo, hgSlt⟩ := World.ownsRow.form hos (by omega)
              obtain rfl : S = some ⟨gS, 0, none⟩ := by injection hvS
              obtain ⟨bv, offv, rfl, hbvlt, _⟩ := hv6.1.2 (by omega)
              obtain ⟨u, hu, hu0, HU⟩ : ∃ u : Nat, wr.cell? ⟨gS, k, none⟩ = some (.int .u8 (u : Int)) ∧ u < 256 ∧ Hid (ss[k]? = some (u : Int)) := by
                have := (hos.bs hrs).nat_at (k := k) hlt
                simpa using this
              obtain ⟨v, hv, hv0, HV⟩ := hv6.nat_at (k := k) hlt
              have hbv3 := HBV.out _ _ rfl (by omega)
              have hxor := xor_u8 u v hu0 hv0
              have hxl := xor_lt u v hu0 hv0
              have hu' : wr.drew.cell? ⟨gS, k, none⟩ = some (.int .u8 (u : Int)) := hu
              have hv' : wr.drew.cell? ⟨bv, offv + k, none⟩ = some (.int .u8 (v : Int)) := hv
              have hfz : wr.drew.frozen? ⟨gS, k, none⟩ = false := hos.frozenAt k
              have hfz' : wr.frozen? ⟨gS, k, none⟩ = false := hos.frozenAt k
              have hst := hos.stored k (.int .u8 ((u ^^^ v : Nat) : Int))
              have HN1 : Hid (Own (wr.drew.setCell ⟨gS, k, none⟩ (.int .u8 ((u ^^^ v : Nat) : Int))) wC.heap.size 5 (some ⟨gS, 0, none⟩) m' cS (By (ss.set k ((u ^^^ v : Nat) : Int)))) := by
                show Own _ _ _ _ _ _ _
                rw [By_set]; exact hst.1
              have hbn : Below wC.heap.size wr (wr.drew.setCell ⟨gS, k, none⟩ (.int .u8 ((u ^^^ v : Nat) : Int))) := ((Dr.refl wr).one.below _).setCell (by exact hgSlo) _
              have HN2 : Hid (Bs (wr.drew.setCell ⟨gS, k, none⟩ (.int .u8 ((u ^^^ v : Nat) : Int))) A' m' us') := hu6.keepB hbn (fun j hj => by
                obtain ⟨b, off, he, _, _⟩ := hu6.1.2 (by omega)
                subst he
                have : b = j := by injection hj
                subst this
                exact HBU.out _ _ rfl (by omega))
              have HN3 : Hid (Bs (wr.drew.setCell ⟨gS, k, none⟩ (.int .u8 ((u ^^^ v : Nat) : Int))) (some ⟨bv, offv, none⟩) m' vs') := hv6.keepB hbn (fun j hj => by
                have : bv = j := by injection hj
                subst this
                exact hbv3)
              have hbn2 := hbr.trans hbn
              have hrn := ran_set hrs k (u ^^^ v) hxl
              have HN4 : Hid (nl (ss.set k ((u ^^^ v : Nat) : Int)) = xl ((nl us').take (k + 1)) ((nl vs').take (k + 1)) ++ (nl us').drop (k + 1)) := by
                have huk : (nl us')[k]? = some u := by
                  have h1 : (nl ss)[k]? = some u := by simp [nl, HU.out]
                  rw [HSS.out] at h1
                  have hlx : (xl ((nl us').take k) ((nl vs').take k)).length = k := by
                    rw [xl_length _ _ (by simp only [List.length_take, nl_length, HLU.out, HLV.out]), List.length_take, nl_length, HLU.out]; omega
                  rw [List.getElem?_append_right (by omega), hlx, List.getElem?_drop] at h1
                  simpa using h1
                have hvk : (nl vs')[k]? = some v := by simp [nl, HV.out]
                have hlx : (xl ((nl us').take k) ((nl vs').take k)).length = k := by
                  rw [xl_length _ _ (by simp only [List.length_take, nl_length, HLU.out, HLV.out]), List.length_take, nl_length, HLU.out]; omega
                show _ = _
                rw [nl_set, HSS.out, set_mid _ _ k u _ hlx huk, xl_take_succ _ _ k u v huk hvk]
              clear hst hos hbr hbn HSS hvS hu6 hv6
              go_wp2
              go_region
              go_wp2
              go_roundw
              case rel => exact ⟨k + 1, _, by go_num, by omega, HN1.out, hrn, HN2.out, HN3.out, hbn2, HN4⟩
              case measure => simp [intOf]; omega
            · obtain rfl : m' = k := by omega
              have HSF := Lib.hid (show nl ss = xl (nl us') (nl vs') by
                rw [HSS.out, List.take_of_length_le (by rw [nl_length, HLU.out]; exact Nat.le_refl _), List.take_of_length_le (by rw [nl_length, HLV.out]; exact Nat.le_refl _), List.drop_eq_nil_of_le (by rw [nl_length, HLU.out]; exact Nat.le_refl _), List.append_nil])
              have hbS := hos.bs hrs
              have hcS := hos.cap
              have htx := htC.below hbr
              have hbw2 := hbt.trans (hbr.mono hsC)
              have hsw2 := hbw2.size
              clear hos HSS hbr hlt
              generalize hwD : wr = wD at *
              clear hwD
              have honex := Bss.one (t := 28) hu6 hnc'
              have hbAx := below_alloc wD (.cells #[.slice A' m' c'] 28)
              have HSx : Hid (∀ zs ∈ [us'], zs.length ≤ maxLen) := by
                intro zs hzs
                obtain rfl : zs = us' := by simpa using hzs
                rw [(hu6).len]; unfold maxLen; omega
              go_wp2_with fail
              refine (check_any _ 1 1 [us'] _ honex (by unfold maxLen; omega) HSx.out (htx.below hbAx)).mono ?_
              rintro e w5 ⟨x0, x1, x2, x3, rfl, Hx, lx, hbx⟩
              have hbnx := hbAx.trans (hbx.mono (by simp))
              clear honex hbAx hbx HSx
              have hv7 := hv6.keep hbnx
              have hs7 := hbS.keep hbnx
              have hu7 := hu6.keep hbnx
              have hty := htx.below hbnx
              have hbw3 := hbw2.trans (hbnx.mono hsw2)
              have hsw3 := hbw3.size
              clear hu6 hv6 hbS htx hbnx hbw2 hsw2
              have honey := Bss.one (t := 28) hv7 hmd'
              have hbAy := below_alloc w5 (.cells #[.slice B' m' d'] 28)
              have HSy : Hid (∀ zs ∈ [vs'], zs.length ≤ maxLen) := by
                intro zs hzs
                obtain rfl : zs = vs' := by simpa using hzs
                rw [(hv7).len]; unfold maxLen; omega
              go_wp2_with fail
              refine (check_any _ 1 1 [vs'] _ honey (by unfold maxLen; omega) HSy.out (hty.below hbAy)).mono ?_
              rintro e w6 ⟨y0, y1, y2, y3, rfl, Hy, ly, hby⟩
              have hbny := hbAy.trans (hby.mono (by simp))
              clear honey hbAy hby HSy
              have hs8 := hs7.keep hbny
              have hu8 := hu7.keep hbny
              have htz := hty.below hbny
              have hbw4 := hbw3.trans (hbny.mono hsw3)
              have hsw4 := hbw4.size
              clear hu7 hv7 hs7 hty hbny hbw3 hsw3
              have honez := Bss.one (t := 28) hs8 hcS
              have hbAz := below_alloc w6 (.cells #[.slice S m' cS] 28)
              have HSz : Hid (∀ zs ∈ [ss], zs.length ≤ maxLen) := by
                intro zs hzs
                obtain rfl : zs = ss := by simpa using hzs
                rw [(hs8).len]; unfold maxLen; omega
              go_wp2_with fail
              refine (check_any _ 1 1 [ss] _ honez (by unfold maxLen; omega) HSz.out (htz.below hbAz)).mono ?_
              rintro e w7 ⟨z0, z1, z2, z3, rfl, Hz, lz, hbz⟩
              have hbnz := hbAz.trans (hbz.mono (by simp))
              clear honez hbAz hbz HSz
              have hu9 := hu8.keep hbnz
              have ht9 := htz.below hbnz
              have hbw5 := hbw4.trans (hbnz.mono hsw4)
              have hsw5 := hbw5.size
              have hzs : [z0, z1, z2, z3] = [x0 ^^^ y0, x1 ^^^ y1, x2 ^^^ y2, x3 ^^^ y3] := by
                have e1 := Hz.out
                have e2 := Hx.out
                have e3 := Hy.out
                simp only [List.flatten_cons, List.flatten_nil, List.append_nil] at e1 e2 e3
                rw [← e1, HSF.out, chk_xl (by rw [nl_length, nl_length, HLU.out, HLV.out]) (nl_rn hu8.2) (nl_rn HRV.out), e2, e3]
                rfl
              simp only [List.cons.injEq, and_true] at hzs
              obtain ⟨rfl, rfl, rfl, rfl⟩ := hzs
              clear hu8 hs8 htz hbnz hbw4 hsw4 HSF Hy Hz
              unfold a4
              have hq0 := xor_u8 x0 y0 lx.1 ly.1
              have hq1 := xor_u8 x1 y1 lx.2.1 ly.2.1
              have hq2 := xor_u8 x2 y2 lx.2.2.1 ly.2.2.1
              have hq3 := xor_u8 x3 y3 lx.2.2.2 ly.2.2.2
              go_wp2
              have bX := below_alloc w7 (.cells #[.int .u8 (x0 : Int), .int .u8 (x1 : Int), .int .u8 (x2 : Int), .int .u8 (x3 : Int)] 30)
              have bY := below_alloc (w7.alloc (.cells #[.int .u8 (x0 : Int), .int .u8 (x1 : Int), .int .u8 (x2 : Int), .int .u8 (x3 : Int)] 30)) (.cells #[.int .u8 (y0 : Int), .int .u8 (y1 : Int), .int .u8 (y2 : Int), .int .u8 (y3 : Int)] 30)
              have bZ := below_alloc ((w7.alloc (.cells #[.int .u8 (x0 : Int), .int .u8 (x1 : Int), .int .u8 (x2 : Int), .int .u8 (x3 : Int)] 30)).alloc (.cells #[.int .u8 (y0 : Int), .int .u8 (y1 : Int), .int .u8 (y2 : Int), .int .u8 (y3 : Int)] 30)) (.cells #[.int .u8 ((x0 ^^^ y0 : Nat) : Int), .int .u8 ((x1 ^^^ y1 : Nat) : Int), .int .u8 ((x2 ^^^ y2 : Nat) : Int), .int .u8 ((x3 ^^^ y3 : Nat) : Int)] 30)
              have rX := ((rd_four w7 x0 x1 x2 x3).keep bY).keep bZ
              have rY := (rd_four (w7.alloc (.cells #[.int .u8 (x0 : Int), .int .u8 (x1 : Int), .int .u8 (x2 : Int), .int .u8 (x3 : Int)] 30)) y0 y1 y2 y3).keep bZ
              have rZ := rd_four ((w7.alloc (.cells #[.int .u8 (x0 : Int), .int .u8 (x1 : Int), .int .u8 (x2 : Int), .int .u8 (x3 : Int)] 30)).alloc (.cells #[.int .u8 (y0 : Int), .int .u8 (y1 : Int), .int .u8 (y2 : Int), .int .u8 (y3 : Int)] 30)) (x0 ^^^ y0) (x1 ^^^ y1) (x2 ^^^ y2) (x3 ^^^ y3)
              have e1 : (w7.alloc (.cells #[.int .u8 (x0 : Int), .int .u8 (x1 : Int), .int .u8 (x2 : Int), .int .u8 (x3 : Int)] 30)).heap.size = w7.heap.size + 1 := by simp
              have e2 : ((w7.alloc (.cells #[.int .u8 (x0 : Int), .int .u8 (x1 : Int), .int .u8 (x2 : Int), .int .u8 (x3 : Int)] 30)).alloc (.cells #[.int .u8 (y0 : Int), .int .u8 (y1 : Int), .int .u8 (y2 : Int), .int .u8 (y3 : Int)] 30)).heap.size = w7.heap.size + 1 + 1 := by simp
              rw [e1] at rY
              rw [e2] at rZ
              have hbE : Below w.heap.size w (((w7.alloc (.cells #[.int .u8 (x0 : Int), .int .u8 (x1 : Int), .int .u8 (x2 : Int), .int .u8 (x3 : Int)] 30)).alloc (.cells #[.int .u8 (y0 : Int), .int .u8 (y1 : Int), .int .u8 (y2 : Int), .int .u8 (y3 : Int)] 30)).alloc (.cells #[.int .u8 ((x0 ^^^ y0 : Nat) : Int), .int .u8 ((x1 ^^^ y1 : Nat) : Int), .int .u8 ((x2 ^^^ y2 : Nat) : Int), .int .u8 ((x3 ^^^ y3 : Nat) : Int)] 30)) := hbw5.trans (((bX.trans (bY.mono (by simp))).trans (bZ.mono (by simp; omega))).mono hsw5)
              have hu10 := ((hu9.keep bX).keep bY).keep bZ
              have ht10 := ((ht9.below bX).below bY).below bZ
              have hsE : w7.heap.size < (((w7.alloc (.cells #[.int .u8 (x0 : Int), .int .u8 (x1 : Int), .int .u8 (x2 : Int), .int .u8 (x3 : Int)] 30)).alloc (.cells #[.int .u8 (y0 : Int), .int .u8 (y1 : Int), .int .u8 (y2 : Int), .int .u8 (y3 : Int)] 30)).alloc (.cells #[.int .u8 ((x0 ^^^ y0 : Nat) : Int), .int .u8 ((x1 ^^^ y1 : Nat) : Int), .int .u8 ((x2 ^^^ y2 : Nat) : Int), .int .u8 ((x3 ^^^ y3 : Nat) : Int)] 30)).heap.size := by simp; omega
              generalize ((w7.alloc (.cells #[.int .u8 (x0 : Int), .int .u8 (x1 : Int), .int .u8 (x2 : Int), .int .u8 (x3 : Int)] 30)).alloc (.cells #[.int .u8 (y0 : Int), .int .u8 (y1 : Int), .int .u8 (y2 : Int), .int .u8 (y3 : Int)] 30)).alloc (.cells #[.int .u8 ((x0 ^^^ y0 : Nat) : Int), .int .u8 ((x1 ^^^ y1 : Nat) : Int), .int .u8 ((x2 ^^^ y2 : Nat) : Int), .int .u8 ((x3 ^^^ y3 : Nat) : Int)] 30) = wE at *
              clear bX bY bZ e1 e2 hu9 ht9 hbw5 hsw5
              have cx := four_cells rX
              have cy := four_cells rY
              have cz := four_cells rZ
              clear rX rY rZ
              generalize w7.heap.size = g at *
              obtain ⟨cx0, cx1, cx2, cx3⟩ := cx
              obtain ⟨cy0, cy1, cy2, cy3⟩ := cy
              obtain ⟨cz0, cz1, cz2, cz3⟩ := cz
              go_loopw [62] (fun i wr => ∃ k : Nat, k ≤ 4 ∧ i = .int .i64 k ∧ Dr wE wr) (fun i _ => 4 - (intOf i).toNat)
              case atStart => exact ⟨0, by omega, rfl, Dr.refl _⟩
              case round =>
                obtain ⟨k, hk4, rfl, hdr⟩ := hrel
                have hkk : k = 0 ∨ k = 1 ∨ k = 2 ∨ k = 3 ∨ k = 4 := by omega
                rcases hkk with rfl | rfl | rfl | rfl | rfl
                · have ix := fun W => idx30 g 0 (by omega) W
                  have iy := fun W => idx30 (g + 1) 0 (by omega) W
                  have iz := fun W => idx30 (g + 1 + 1) 0 (by omega) W
                  have dx : wr.cell? ⟨g, 0, none⟩ = some (.int .u8 (x0 : Int)) := hdr.cell _ _ |>.trans cx0
                  have dy : wr.cell? ⟨g + 1, 0, none⟩ = some (.int .u8 (y0 : Int)) := hdr.cell _ _ |>.trans cy0
                  have dz : wr.cell? ⟨g + 1 + 1, 0, none⟩ = some (.int .u8 ((x0 ^^^ y0 : Nat) : Int)) := hdr.cell _ _ |>.trans cz0
                  simp only [Int.cast_ofNat_Int] at ix iy iz
                  go_wp2
                  go_quiet (fail)
                  go_wp2
                  go_roundw
                  case rel => exact ⟨1, by omega, by go_num, hdr.n _⟩
                  case measure => simp [intOf]
                · have ix := fun W => idx30 g 1 (by omega) W
                  have iy := fun W => idx30 (g + 1) 1 (by omega) W
                  have iz := fun W => idx30 (g + 1 + 1) 1 (by omega) W
                  have dx : wr.cell? ⟨g, 1, none⟩ = some (.int .u8 (x1 : Int)) := hdr.cell _ _ |>.trans cx1
                  have dy : wr.cell? ⟨g + 1, 1, none⟩ = some (.int .u8 (y1 : Int)) := hdr.cell _ _ |>.trans cy1
                  have dz : wr.cell? ⟨g + 1 + 1, 1, none⟩ = some (.int .u8 ((x1 ^^^ y1 : Nat) : Int)) := hdr.cell _ _ |>.trans cz1
                  simp only [Int.cast_ofNat_Int] at ix iy iz
                  go_wp2
                  go_quiet (fail)
                  go_wp2
                  go_roundw
                  case rel => exact ⟨2, by omega, by go_num, hdr.n _⟩
                  case measure => simp [intOf]
                · have ix := fun W => idx30 g 2 (by omega) W
                  have iy := fun W => idx30 (g + 1) 2 (by omega) W
                  have iz := fun W => idx30 (g + 1 + 1) 2 (by omega) W
                  have dx : wr.cell? ⟨g, 2, none⟩ = some (.int .u8 (x2 : Int)) := hdr.cell _ _ |>.trans cx2
                  have dy : wr.cell? ⟨g + 1, 2, none⟩ = some (.int .u8 (y2 : Int)) := hdr.cell _ _ |>.trans cy2
                  have dz : wr.cell? ⟨g + 1 + 1, 2, none⟩ = some (.int .u8 ((x2 ^^^ y2 : Nat) : Int)) := hdr.cell _ _ |>.trans cz2
                  simp only [Int.cast_ofNat_Int] at ix iy iz
                  go_wp2
                  go_quiet (fail)
                  go_wp2
                  go_roundw
                  case rel => exact ⟨3, by omega, by go_num, hdr.n _⟩
                  case measure => simp [intOf]
                · have ix := fun W => idx30 g 3 (by omega) W
                  have iy := fun W => idx30 (g + 1) 3 (by omega) W
                  have iz := fun W => idx30 (g + 1 + 1) 3 (by omega) W
                  have dx : wr.cell? ⟨g, 3, none⟩ = some (.int .u8 (x3 : Int)) := hdr.cell _ _ |>.trans cx3
                  have dy : wr.cell? ⟨g + 1, 3, none⟩ = some (.int .u8 (y3 : Int)) := hdr.cell _ _ |>.trans cy3
                  have dz : wr.cell? ⟨g + 1 + 1, 3, none⟩ = some (.int .u8 ((x3 ^^^ y3 : Nat) : Int)) := hdr.cell _ _ |>.trans cz3
                  simp only [Int.cast_ofNat_Int] at ix iy iz
                  go_wp2
                  go_quiet (fail)
                  go_wp2
                  go_roundw
                  case rel => exact ⟨4, by omega, by go_num, hdr.n _⟩
                  case measure => simp [intOf]
                · have hgr : g < wr.heap.size := by rw [hdr.size]; exact hsE
                  have f0 : wr.cell? ⟨g, 0, none⟩ = some (.int .u8 (x0 : Int)) := hdr.cell _ _ |>.trans cx0
                  have f1 : wr.cell? ⟨g, 1, none⟩ = some (.int .u8 (x1 : Int)) := hdr.cell _ _ |>.trans cx1
                  have f2 : wr.cell? ⟨g, 2, none⟩ = some (.int .u8 (x2 : Int)) := hdr.cell _ _ |>.trans cx2
                  have f3 : wr.cell? ⟨g, 3, none⟩ = some (.int .u8 (x3 : Int)) := hdr.cell _ _ |>.trans cx3
                  have hu11 := hu10.dr hdr
                  have ht11 := ht10.dr hdr
                  have hbr' := hbE.trans (hdr.below _)
                  have hsr' := hbr'.size
                  clear cx0 cx1 cx2 cx3 cy0 cy1 cy2 cy3 cz0 cz1 cz2 cz3 hu10 ht10 hbE hdr hq0 hq1 hq2 hq3
                  by_cases hq : q < 0 ∨ 100 < q
                  · obtain ⟨Q, hQ⟩ : ∃ Q : Nat, Q = 3 := ⟨_, rfl⟩
                    have hQ1 : Q ≤ 100 := by omega
                    have hmk : ∀ W : World, (Instr.makeSlice 28 (.int .i64 3) (.int .i64 3)).run Tryd.prog W = .ok (.slice (some ⟨W.heap.size, 0, none⟩) Q Q) (W.alloc (.cells (zerA Q) 5)) := fun W => run_make_bytes (P := Tryd.prog) 28 5 i0 Tryd.underlying28 hi hz0 hz1 hz2 3 Q (by omega) (by omega) W
                    clear hQ
                    rcases hq with hq | hq
                    · have hd1 : decide (q < 0) = true := by simpa using hq
                      have hone5 : Bss ((wr.alloc (.cells (zerA Q) 5)).alloc (.cells #[.slice (some ⟨wr.heap.size, 0, none⟩) Q Q, .slice A' m' c'] 28)).drew (some ⟨wr.heap.size + 1, 0, none⟩) 2 [List.replicate Q 0, us'] := by
                        have hzz : Bs (wr.alloc (.cells (zerA Q) 5)) (some ⟨wr.heap.size, 0, none⟩) Q (List.replicate Q 0) := ⟨by
                          have := Rd.of_block (cs := zerA Q) (n := Q) (heap_alloc_new wr (.cells (zerA Q) 5)) (by simp [zerA, zer])
                          simpa [zerA, zer, By] using this, fun x hx => by have := List.eq_of_mem_replicate hx; omega⟩
                        have := (Bss.two (t := 28) hzz (Nat.le_refl _) (hu11.keep (below_alloc wr (.cells (zerA Q) 5))) hnc').dr (Dr.refl _).one
                        simpa using this
                      have hb5 : Below wr.heap.size wr ((wr.alloc (.cells (zerA Q) 5)).alloc (.cells #[.slice (some ⟨wr.heap.size, 0, none⟩) Q Q, .slice A' m' c'] 28)).drew := ((below_alloc wr _).alloc (by simp) _).trans ((Dr.refl _).one.below _)
                      have KA : Hid (∀ (o : Obj) (i : Nat), (wr.alloc o).drew.cell? ⟨g, i, none⟩ = wr.cell? ⟨g, i, none⟩) := fun o i => (below_alloc wr o).cell (p := ⟨g, i, none⟩) hgr
                      have KB : Hid (∀ (o o' : Obj) (i : Nat), ((wr.alloc o).alloc o').drew.cell? ⟨g, i, none⟩ = wr.cell? ⟨g, i, none⟩) := fun o o' i => ((below_alloc wr o).alloc (by simp) o').cell (p := ⟨g, i, none⟩) hgr
                      have HS5 : Hid (∀ zs ∈ [List.replicate Q (0 : Int), us'], zs.length ≤ maxLen) := by
                        intro zs hzs
                        have : zs = List.replicate Q 0 ∨ zs = us' := by simpa using hzs
                        rcases this with rfl | rfl
                        · rw [List.length_replicate]; unfold maxLen; omega
                        · rw [HLU.out]; unfold maxLen; omega
                      have HK2 : Hid (∀ (w9 : World) (i : Nat), Below ((wr.alloc (.cells (zerA Q) 5)).alloc (.cells #[.slice (some ⟨wr.heap.size, 0, none⟩) Q Q, .slice A' m' c'] 28)).drew.heap.size ((wr.alloc (.cells (zerA Q) 5)).alloc (.cells #[.slice (some ⟨wr.heap.size, 0, none⟩) Q Q, .slice A' m' c'] 28)).drew w9 → w9.cell? ⟨g, i, none⟩ = wr.cell? ⟨g, i, none⟩) := by
                        intro w9 i h
                        exact (h.cell (p := ⟨g, i, none⟩) (by simp; omega)).trans (KB.out _ _ _)
                      have HF : Hid (∀ c0 c1 c2 c3 : Nat, w4 (chk (nl [List.replicate Q (0 : Int), us'].flatten)) = [c0, c1, c2, c3] → eq4 [c0, c1, c2, c3] [x0, x1, x2, x3] = true) := by
                        intro c0 c1 c2 c3 h
                        have e2 := Hx.out
                        simp only [List.flatten_cons, List.flatten_nil, List.append_nil] at e2 h
                        have e3 : nl (List.replicate Q (0 : Int) ++ us') = List.replicate Q 0 ++ nl us' := by simp [nl]
                        rw [e3, chk_zeros, e2] at h
                        rw [← h]; exact eq4_self _
                      go_wp2
                      go_region_held3 (fun w' => w'.cell? ⟨g, 0, none⟩ = some (.int .u8 (x0 : Int)) ∧ w'.cell? ⟨g, 1, none⟩ = some (.int .u8 (x1 : Int)) ∧ w'.cell? ⟨g, 2, none⟩ = some (.int .u8 (x2 : Int)) ∧ w'.cell? ⟨g, 3, none⟩ = some (.int .u8 (x3 : Int))) (first | exact ⟨f0, f1, f2, f3⟩ | exact ⟨(KA.out _ _).trans f0, (KA.out _ _).trans f1, (KA.out _ _).trans f2, (KA.out _ _).trans f3⟩ | exact ⟨(KB.out _ _ _).trans f0, (KB.out _ _ _).trans f1, (KB.out _ _ _).trans f2, (KB.out _ _ _).trans f3⟩ | exact ⟨k0, k1, k2, k3⟩)
                        (first | (go_at_call 17; refine (check_any _ 2 2 [List.replicate Q 0, us'] _ hone5 (by unfold maxLen; omega) HS5.out (ht11.below hb5)).mono ?_; rintro e w9 ⟨c0, c1, c2, c3, rfl, H9, l9, hb9⟩; have k0 := (HK2.out w9 _ hb9).trans f0; have k1 := (HK2.out w9 _ hb9).trans f1; have k2 := (HK2.out w9 _ hb9).trans f2; have k3 := (HK2.out w9 _ hb9).trans f3; have he := fun W => eql30 l9 lx W; have het := HF.out _ _ _ _ H9.out; unfold a4))
                      all_goals
                        go_wp2
                        go_ret
                        exact ⟨by simp [het], hbr'.trans ((hb5.trans (hb9.mono hb5.size)).mono hsr')⟩
                    · have hd1 : decide (q < 0) = false := by simp; omega
                      have hd2 : decide ((100 : Int) < q) = true := by simpa using hq
                      have hone5 : Bss ((wr.alloc (.cells (zerA Q) 5)).alloc (.cells #[.slice (some ⟨wr.heap.size, 0, none⟩) Q Q, .slice A' m' c'] 28)).drew (some ⟨wr.heap.size + 1, 0, none⟩) 2 [List.replicate Q 0, us'] := by
                        have hzz : Bs (wr.alloc (.cells (zerA Q) 5)) (some ⟨wr.heap.size, 0, none⟩) Q (List.replicate Q 0) := ⟨by
                          have := Rd.of_block (cs := zerA Q) (n := Q) (heap_alloc_new wr (.cells (zerA Q) 5)) (by simp [zerA, zer])
                          simpa [zerA, zer, By] using this, fun x hx => by have := List.eq_of_mem_replicate hx; omega⟩
                        have := (Bss.two (t := 28) hzz (Nat.le_refl _) (hu11.keep (below_alloc wr (.cells (zerA Q) 5))) hnc').dr (Dr.refl _).one
                        simpa using this
                      have hb5 : Below wr.heap.size wr ((wr.alloc (.cells (zerA Q) 5)).alloc (.cells #[.slice (some ⟨wr.heap.size, 0, none⟩) Q Q, .slice A' m' c'] 28)).drew := ((below_alloc wr _).alloc (by simp) _).trans ((Dr.refl _).one.below _)
                      have KA : Hid (∀ (o : Obj) (i : Nat), (wr.alloc o).drew.cell? ⟨g, i, none⟩ = wr.cell? ⟨g, i, none⟩) := fun o i => (below_alloc wr o).cell (p := ⟨g, i, none⟩) hgr
                      have KB : Hid (∀ (o o' : Obj) (i : Nat), ((wr.alloc o).alloc o').drew.cell? ⟨g, i, none⟩ = wr.cell? ⟨g, i, none⟩) := fun o o' i => ((below_alloc wr o).alloc (by simp) o').cell (p := ⟨g, i, none⟩) hgr
                      have HS5 : Hid (∀ zs ∈ [List.replicate Q (0 : Int), us'], zs.length ≤ maxLen) := by
                        intro zs hzs
                        have : zs = List.replicate Q 0 ∨ zs = us' := by simpa using hzs
                        rcases this with rfl | rfl
                        · rw [List.length_replicate]; unfold maxLen; omega
                        · rw [HLU.out]; unfold maxLen; omega
                      have HK2 : Hid (∀ (w9 : World) (i : Nat), Below ((wr.alloc (.cells (zerA Q) 5)).alloc (.cells #[.slice (some ⟨wr.heap.size, 0, none⟩) Q Q, .slice A' m' c'] 28)).drew.heap.size ((wr.alloc (.cells (zerA Q) 5)).alloc (.cells #[.slice (some ⟨wr.heap.size, 0, none⟩) Q Q, .slice A' m' c'] 28)).drew w9 → w9.cell? ⟨g, i, none⟩ = wr.cell? ⟨g, i, none⟩) := by
                        intro w9 i h
                        exact (h.cell (p := ⟨g, i, none⟩) (by simp; omega)).trans (KB.out _ _ _)
                      have HF : Hid (∀ c0 c1 c2 c3 : Nat, w4 (chk (nl [List.replicate Q (0 : Int), us'].flatten)) = [c0, c1, c2, c3] → eq4 [c0, c1, c2, c3] [x0, x1, x2, x3] = true) := by
                        intro c0 c1 c2 c3 h
                        have e2 := Hx.out
                        simp only [List.flatten_cons, List.flatten_nil, List.append_nil] at e2 h
                        have e3 : nl (List.replicate Q (0 : Int) ++ us') = List.replicate Q 0 ++ nl us' := by simp [nl]
                        rw [e3, chk_zeros, e2] at h
                        rw [← h]; exact eq4_self _
                      go_wp2
                      go_region_held3 (fun w' => w'.cell? ⟨g, 0, none⟩ = some (.int .u8 (x0 : Int)) ∧ w'.cell? ⟨g, 1, none⟩ = some (.int .u8 (x1 : Int)) ∧ w'.cell? ⟨g, 2, none⟩ = some (.int .u8 (x2 : Int)) ∧ w'.cell? ⟨g, 3, none⟩ = some (.int .u8 (x3 : Int))) (first | exact ⟨f0, f1, f2, f3⟩ | exact ⟨(KA.out _ _).trans f0, (KA.out _ _).trans f1, (KA.out _ _).trans f2, (KA.out _ _).trans f3⟩ | exact ⟨(KB.out _ _ _).trans f0, (KB.out _ _ _).trans f1, (KB.out _ _ _).trans f2, (KB.out _ _ _).trans f3⟩ | exact ⟨k0, k1, k2, k3⟩)
                        (first | (go_at_call 17; refine (check_any _ 2 2 [List.replicate Q 0, us'] _ hone5 (by unfold maxLen; omega) HS5.out (ht11.below hb5)).mono ?_; rintro e w9 ⟨c0, c1, c2, c3, rfl, H9, l9, hb9⟩; have k0 := (HK2.out w9 _ hb9).trans f0; have k1 := (HK2.out w9 _ hb9).trans f1; have k2 := (HK2.out w9 _ hb9).trans f2; have k3 := (HK2.out w9 _ hb9).trans f3; have he := fun W => eql30 l9 lx W; have het := HF.out _ _ _ _ H9.out; unfold a4))
                      all_goals
                        go_wp2
                        go_ret
                        exact ⟨by simp [het], hbr'.trans ((hb5.trans (hb9.mono hb5.size)).mono hsr')⟩
                  · obtain ⟨Q, rfl⟩ : ∃ Q : Nat, q = (Q : Int) := ⟨q.toNat, by omega⟩
                    have hQ1 : Q ≤ 100 := by omega
                    have hmk : ∀ W : World, (Instr.makeSlice 28 (.int .i64 (Q : Int)) (.int .i64 (Q : Int))).run Tryd.prog W = .ok (.slice (some ⟨W.heap.size, 0, none⟩) Q Q) (W.alloc (.cells (zerA Q) 5)) := fun W => run_make_bytes (P := Tryd.prog) 28 5 i0 Tryd.underlying28 hi hz0 hz1 hz2 (Q : Int) Q rfl (by omega) W
                    have hd1 : decide ((Q : Int) < 0) = false := by simp
                    have hd2 : decide ((100 : Int) < (Q : Int)) = false := by simp; omega
                    clear hq
                    have hone5 : Bss ((wr.alloc (.cells (zerA Q) 5)).alloc (.cells #[.slice (some ⟨wr.heap.size, 0, none⟩) Q Q, .slice A' m' c'] 28)).drew (some ⟨wr.heap.size + 1, 0, none⟩) 2 [List.replicate Q 0, us'] := by
                      have hzz : Bs (wr.alloc (.cells (zerA Q) 5)) (some ⟨wr.heap.size, 0, none⟩) Q (List.replicate Q 0) := ⟨by
                        have := Rd.of_block (cs := zerA Q) (n := Q) (heap_alloc_new wr (.cells (zerA Q) 5)) (by simp [zerA, zer])
                        simpa [zerA, zer, By] using this, fun x hx => by have := List.eq_of_mem_replicate hx; omega⟩
                      have := (Bss.two (t := 28) hzz (Nat.le_refl _) (hu11.keep (below_alloc wr (.cells (zerA Q) 5))) hnc').dr (Dr.refl _).one
                      simpa using this
                    have hb5 : Below wr.heap.size wr ((wr.alloc (.cells (zerA Q) 5)).alloc (.cells #[.slice (some ⟨wr.heap.size, 0, none⟩) Q Q, .slice A' m' c'] 28)).drew := ((below_alloc wr _).alloc (by simp) _).trans ((Dr.refl _).one.below _)
                    have KA : Hid (∀ (o : Obj) (i : Nat), (wr.alloc o).drew.cell? ⟨g, i, none⟩ = wr.cell? ⟨g, i, none⟩) := fun o i => (below_alloc wr o).cell (p := ⟨g, i, none⟩) hgr
                    have KB : Hid (∀ (o o' : Obj) (i : Nat), ((wr.alloc o).alloc o').drew.cell? ⟨g, i, none⟩ = wr.cell? ⟨g, i, none⟩) := fun o o' i => ((below_alloc wr o).alloc (by simp) o').cell (p := ⟨g, i, none⟩) hgr
                    have HS5 : Hid (∀ zs ∈ [List.replicate Q (0 : Int), us'], zs.length ≤ maxLen) := by
                      intro zs hzs
                      have : zs = List.replicate Q 0 ∨ zs = us' := by simpa using hzs
                      rcases this with rfl | rfl
                      · rw [List.length_replicate]; unfold maxLen; omega
                      · rw [HLU.out]; unfold maxLen; omega
                    have HK2 : Hid (∀ (w9 : World) (i : Nat), Below ((wr.alloc (.cells (zerA Q) 5)).alloc (.cells #[.slice (some ⟨wr.heap.size, 0, none⟩) Q Q, .slice A' m' c'] 28)).drew.heap.size ((wr.alloc (.cells (zerA Q) 5)).alloc (.cells #[.slice (some ⟨wr.heap.size, 0, none⟩) Q Q, .slice A' m' c'] 28)).drew w9 → w9.cell? ⟨g, i, none⟩ = wr.cell? ⟨g, i, none⟩) := by
                      intro w9 i h
                      exact (h.cell (p := ⟨g, i, none⟩) (by simp; omega)).trans (KB.out _ _ _)
                    have HF : Hid (∀ c0 c1 c2 c3 : Nat, w4 (chk (nl [List.replicate Q (0 : Int), us'].flatten)) = [c0, c1, c2, c3] → eq4 [c0, c1, c2, c3] [x0, x1, x2, x3] = true) := by
                      intro c0 c1 c2 c3 h
                      have e2 := Hx.out
                      simp only [List.flatten_cons, List.flatten_nil, List.append_nil] at e2 h
                      have e3 : nl (List.replicate Q (0 : Int) ++ us') = List.replicate Q 0 ++ nl us' := by simp [nl]
                      rw [e3, chk_zeros, e2] at h
                      rw [← h]; exact eq4_self _
                    go_wp2
                    go_region_held3 (fun w' => w'.cell? ⟨g, 0, none⟩ = some (.int .u8 (x0 : Int)) ∧ w'.cell? ⟨g, 1, none⟩ = some (.int .u8 (x1 : Int)) ∧ w'.cell? ⟨g, 2, none⟩ = some (.int .u8 (x2 : Int)) ∧ w'.cell? ⟨g, 3, none⟩ = some (.int .u8 (x3 : Int))) (first | exact ⟨f0, f1, f2, f3⟩ | exact ⟨(KA.out _ _).trans f0, (KA.out _ _).trans f1, (KA.out _ _).trans f2, (KA.out _ _).trans f3⟩ | exact ⟨(KB.out _ _ _).trans f0, (KB.out _ _ _).trans f1, (KB.out _ _ _).trans f2, (KB.out _ _ _).trans f3⟩ | exact ⟨k0, k1, k2, k3⟩)
                      (first | (go_at_call 17; refine (check_any _ 2 2 [List.replicate Q 0, us'] _ hone5 (by unfold maxLen; omega) HS5.out (ht11.below hb5)).mono ?_; rintro e w9 ⟨c0, c1, c2, c3, rfl, H9, l9, hb9⟩; have k0 := (HK2.out w9 _ hb9).trans f0; have k1 := (HK2.out w9 _ hb9).trans f1; have k2 := (HK2.out w9 _ hb9).trans f2; have k3 := (HK2.out w9 _ hb9).trans f3; have he := fun W => eql30 l9 lx W; have het := HF.out _ _ _ _ H9.out; unfold a4))
                    all_goals
                      go_wp2
                      go_ret
                      exact ⟨by simp [het], hbr'.trans ((hb5.trans (hb9.mono hb5.size)).mono hsr')⟩
end Go.Proofs.YtmckgdjipkkklaaDoor
