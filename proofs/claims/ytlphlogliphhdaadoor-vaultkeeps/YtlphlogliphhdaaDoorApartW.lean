/- Apart of the reference: lists whose rows are their own are told to be apart. -/
import Derived.Test.YtlphlogliphhdaaDoorSpareW
import Derived.Test.YtlphlogliphhdaaDoorBss
namespace Go.Proofs.YtlphlogliphhdaaDoor
set_option linter.unusedVariables false
set_option linter.unusedSimpArgs false
open Go.RowKit

theorem info28 : (Tryd.prog.info? 28).map (fun i => (i.zero, i.size, i.bytes)) = some (some (.slice none 0 0), 1, 24) := by kernel_rfl

theorem stamp_at (i k : Nat) (x y : Int) (hx : x = (i : Int)) (hy : y = (k : Int)) (hi : i ≤ 1000000000) (hk : k ≤ 10000000000) (w : World) : Calls Tryd.prog 43 #[.int .i64 x, .int .i64 y] w fun e w' => e = .returned (.int .u8 (stp i k : Nat)) ∧ w = w' := by
  subst hx; subst hy; exact stamp_any i k hi hk w
/-- The row of headers. -/
def HdL (w : World) (L : Nat) (ent : List Tr) : Prop := ∃ cs fr, w.heap[L]? = some (.cells cs 28 fr) ∧ cs.toList = ent.map sv
theorem HdL.cell {w : World} {L : Nat} {ent : List Tr} {i : Nat} {A : Option Addr} {n c : Nat} (h : HdL w L ent) (he : ent[i]? = some (A, n, c)) : w.cell? ⟨L, i, none⟩ = some (.slice A n c) := by
  obtain ⟨cs, fr, h1, h2⟩ := h
  rw [cell_of_row w L i cs 28 fr h1]
  have : cs.toList[i]? = some (sv (A, n, c)) := by rw [h2, List.getElem?_map, he]; rfl
  simpa [sv] using this
theorem HdL.keep {w w' : World} {L : Nat} {ent : List Tr} (h : HdL w L ent) (hk : w'.heap[L]? = w.heap[L]?) : HdL w' L ent := by
  obtain ⟨cs, fr, h1, h2⟩ := h
  exact ⟨cs, fr, hk.trans h1, h2⟩
theorem HdL.lt {w : World} {L : Nat} {ent : List Tr} (h : HdL w L ent) : L < w.heap.size := by
  obtain ⟨cs, fr, h1, h2⟩ := h
  exact lt_of_heap h1
theorem HdL.ne {w : World} {L : Nat} {ent : List Tr} {base : Nat} {A : Option Addr} {n c : Nat} {vs : List Value} (h : HdL w L ent) (ho : Own w base 5 A n c vs) : blk A ≠ some L := by
  obtain ⟨cs, fr, h1, h2⟩ := h
  exact ho.ne_block h1 (by decide)
theorem HdL.below {w w' : World} {L : Nat} {ent : List Tr} (h : HdL w L ent) (hb : Below w.heap.size w w') : HdL w' L ent := h.keep (hb.block L h.lt)
theorem HdL.grown {w w' : World} {L : Nat} {ent : List Tr} {b : Option Nat} (h : HdL w L ent) (hg : w.grownBy w' b) (hne : b ≠ some L) : HdL w' L ent := h.keep (hg.block L h.lt (fun e => hne e.symm))
def lv (lst : List (Nat × Tr)) : List Value := lst.map (fun x => sv x.2)
theorem lv_push (lst : List (Nat × Tr)) (i : Nat) (A : Option Addr) (n c : Nat) : lv (lst ++ [(i, A, n, c)]) = lv lst ++ [.slice A n c] := by simp [lv, sv]
theorem grown_set {a w : World} {g k : Nat} {v : Value} (h : a.grownBy w (some g)) : a.grownBy (w.setCell ⟨g, k, none⟩ v) (some g) := World.grownBy.trans h (onl_set w g k v)
theorem grown_dr {a w w' : World} {b : Option Nat} (h : a.grownBy w b) (hd : Dr w w') : a.grownBy w' b := by
  obtain ⟨q, rfl⟩ := hd
  exact ⟨h.os, h.tape, h.output, h.size, h.block⟩
theorem Own.dr {w w' : World} {base : Nat} {e : TypeId} {A : Option Addr} {n c : Nat} {vs : List Value} (h : Own w base e A n c vs) (hd : Dr w w') : Own w' base e A n c vs := by
  obtain ⟨q, rfl⟩ := hd
  exact h
theorem HdL.dr {w w' : World} {L : Nat} {ent : List Tr} (h : HdL w L ent) (hd : Dr w w') : HdL w' L ent := by
  obtain ⟨q, rfl⟩ := hd
  exact h

/-- No list is too long. -/
def Bnd (lst : List (Nat × Tr)) : Prop := ∀ (t j : Nat) (G : Option Addr) (n d : Nat), lst[t]? = some (j, G, n, d) → n ≤ 2000000000
theorem Bnd.nil_ : Bnd [] := fun t j G n d ht => by simp at ht
theorem Bnd.push {lst : List (Nat × Tr)} {i : Nat} {G : Option Addr} {n d : Nat} (h : Bnd lst) (hn : n ≤ 2000000000) : Bnd (lst ++ [(i, G, n, d)]) := by
  intro t j B m e ht
  by_cases hlt : t < lst.length
  · rw [List.getElem?_append_left hlt] at ht
    exact h t j B m e ht
  · rw [List.getElem?_append_right (by omega)] at ht
    have h0 : t - lst.length = 0 := by
      have := (List.getElem?_eq_some_iff.1 ht).1
      simp at this; omega
    rw [h0] at ht
    simp only [List.getElem?_cons_zero, Option.some.injEq, Prod.mk.injEq] at ht
    obtain ⟨rfl, rfl, rfl, rfl⟩ := ht
    exact hn

/-- Only the rows that are handed in, and what is new, have turned. -/
structure FrE (ent : List Tr) (base : Nat) (w w' : World) : Prop where
  b : Below base w w'
  o : ∀ i, i < w.heap.size → (∀ (j : Nat) (A : Option Addr) (n c : Nat), ent[j]? = some (A, n, c) → blk A ≠ some i) → w'.heap[i]? = w.heap[i]?
theorem FrE.refl (ent : List Tr) (base : Nat) (w : World) : FrE ent base w w := ⟨Below.refl _ _, fun _ _ _ => rfl⟩
theorem FrE.below {ent : List Tr} {base B : Nat} {w w1 w2 : World} (h : FrE ent base w w1) (k : Below B w1 w2) (h1 : w.heap.size ≤ B) (h2 : base ≤ B) : FrE ent base w w2 :=
  ⟨h.b.trans (k.mono h2), fun i hi hn => (k.block i (by omega)).trans (h.o i hi hn)⟩
theorem FrE.inout {ent : List Tr} {base : Nat} {w w1 w2 : World} {G : Option Addr} (h : FrE ent base w w1) (k : Below base w1 w2) (hio : ∀ i, i < w1.heap.size → blk G ≠ some i → w2.heap[i]? = w1.heap[i]?)
    (hG : ∀ i, blk G = some i → w.heap.size ≤ i ∨ ∃ (j : Nat) (A : Option Addr) (n c : Nat), ent[j]? = some (A, n, c) ∧ blk A = some i) : FrE ent base w w2 :=
  ⟨h.b.trans k, fun i hi hn => by
    have hs := h.b.size
    refine (hio i (by omega) (fun e => ?_)).trans (h.o i hi hn)
    rcases hG i e with h1 | ⟨j, A, n, c, he, hb⟩
    · omega
    · exact hn j A n c he hb⟩
set_option maxRecDepth 100000 in
set_option maxHeartbeats 4000000 in
theorem apart_any (L q base : Nat) (ent : List Tr) (w : World) (hL : HdL w L ent) (hq : ent.length = q) (hq2 : q ≤ 1000000)
    (hown : ∀ (j : Nat) (A : Option Addr) (n c : Nat), ent[j]? = some (A, n, c) → (∃ xs, Own w base 5 A n c (By xs) ∧ Ran xs) ∧ n ≤ 1000000000) (hd : Dist ent) (hbase : base ≤ w.heap.size) :
    Calls Tryd.prog 32 #[.slice (some ⟨L, 0, none⟩) q q] w fun e w' => e = .returned (.bool true) ∧ FrE ent base w w' := by
  obtain ⟨i0, hi, hz0, hz1, hz2⟩ := info_parts info5
  obtain ⟨i8, hi8, hy0, hy1, hy2⟩ := info_parts info28
  have HQ := Lib.hid hq; clear hq
  have HNB := Lib.hid (fun j A n c he => (hown j A n c he).2)
  have E0 : Ent1 w base ent 0 := fun j A n c he => by
    obtain ⟨xs, h1, h2⟩ := (hown j A n c he).1
    exact ⟨xs, h1, h2, fun h => absurd h (by omega)⟩
  have hS : EntLt w.heap.size ent := EntLt.of (w := w) (base := base) (fun j A n c he => by
    obtain ⟨xs, h1, h2⟩ := (hown j A n c he).1
    exact ⟨_, h1⟩)
  have hLS := hL.lt
  clear hown
  go_enter Tryd.func32, Tryd.ntmps32
  go_wp2
  go_loopw [4] (fun v wr => ∃ i : Nat, v = .int .i64 i ∧ i ≤ q ∧ Ent1 wr base ent i ∧ HdL wr L ent ∧ FrE ent base w wr) (fun v _ => q - (intOf v).toNat)
  case atStart => exact ⟨0, rfl, Nat.zero_le _, E0, hL, FrE.refl _ _ _⟩
  case round =>
    obtain ⟨i, rfl, hiq, he1, hLr, hbr⟩ := hrel
    have hsr := hbr.b.size
    by_cases hlt : i < q
    · obtain ⟨⟨A, n, c⟩, he⟩ : ∃ x, ent[i]? = some x := ⟨_, List.getElem?_eq_getElem (by rw [HQ.out]; exact hlt)⟩
      obtain ⟨xs, ho, hr, _⟩ := he1 i A n c he
      have hnb := HNB.out i A n c he
      have HE := Lib.hid he; clear he
      generalize hwB : wr = wB at *
      clear hwB
      go_wp2
      go_loopw [5] (fun v w2 => ∃ (k : Nat) (ys : List Int), v = .int .i64 k ∧ k ≤ n ∧ Own w2 base 5 A n c (By ys) ∧ Ran ys ∧ Hid (ys.take k = sts i k) ∧ wB.grownBy w2 (blk A) ∧ HdL w2 L ent) (fun v _ => n - (intOf v).toNat)
      case atStart => exact ⟨0, xs, rfl, Nat.zero_le _, ho, hr, by show _ = _; simp [sts], ⟨rfl, rfl, rfl, Nat.le_refl _, fun _ _ _ => rfl⟩, hLr⟩
      case round =>
        obtain ⟨k, ys, rfl, hk, hoy, hry, HK, hg, hL2⟩ := hrel
        have hcell := hL2.cell HE.out
        by_cases hlt2 : k < n
        · obtain ⟨g, cap, hv, hglo, hglt⟩ := World.ownsRow.form hoy (by omega)
          obtain rfl : A = some ⟨g, 0, none⟩ := by injection hv
          have hyl : ys.length = n := by have := hoy.len; rwa [By_length] at this
          obtain ⟨u, hu⟩ : ∃ u, ys[k]? = some u := ⟨_, List.getElem?_eq_getElem (by rw [hyl]; exact hlt2)⟩
          have hcu := hoy.cellI hu
          have hfz : wr.frozen? ⟨g, k, none⟩ = false := hoy.frozenAt k
          have hcell' : wr.drew.cell? ⟨L, i, none⟩ = some (.slice (some ⟨g, 0, none⟩) n c) := hcell
          have hcu' : wr.drew.cell? ⟨g, k, none⟩ = some (.int .u8 u) := hcu
          have hfz' : wr.drew.frozen? ⟨g, k, none⟩ = false := hfz
          have hneL := hL2.ne hoy
          have hsl := stp_lt i k
          have HN : Hid (∀ W, Dr wr W → Own (W.setCell ⟨g, k, none⟩ (.int .u8 ((stp i k : Nat) : Int))) base 5 (some ⟨g, 0, none⟩) n c (By (ys.set k ((stp i k : Nat) : Int))) ∧ wB.grownBy (W.setCell ⟨g, k, none⟩ (.int .u8 ((stp i k : Nat) : Int))) (blk (some (⟨g, 0, none⟩ : Addr))) ∧ HdL (W.setCell ⟨g, k, none⟩ (.int .u8 ((stp i k : Nat) : Int))) L ent) := by
            intro W hW
            exact ⟨(hoy.dr hW).put _, grown_set (grown_dr hg hW), (hL2.dr hW).grown (onl_set W g k _) hneL⟩
          have hrn := ran_setI hry k (v := ((stp i k : Nat) : Int)) (by omega) (by omega)
          have HKN := Lib.hid (show (ys.set k ((stp i k : Nat) : Int)).take (k + 1) = sts i (k + 1) by rw [set_take _ (by rw [hyl]; exact hlt2), HK.out, sts_succ])
          clear hu hyl hoy hg hL2 hv hneL HK
          go_wp2
          go_region_with (go_at_call 43; refine (stamp_at i k _ _ rfl rfl (by omega) (by omega) _).mono ?_; rintro e w' ⟨rfl, rfl⟩)
          all_goals
            go_wp2
            go_roundw
            case rel => exact ⟨k + 1, _, by go_num, by omega, (HN.out _ (Dr.refl _).one).1, hrn, HKN, (HN.out _ (Dr.refl _).one).2.1, (HN.out _ (Dr.refl _).one).2.2⟩
            case measure => simp [intOf]; omega
        · obtain rfl : k = n := by omega
          have hon : Own wr base 5 A k c (By (sts i k)) := by
            have hyl : ys.length = k := by have := hoy.len; rwa [By_length] at this
            have := HK.out
            rw [List.take_of_length_le (by rw [hyl]; exact Nat.le_refl _)] at this
            rw [← this]; exact hoy
          have hnext := he1.step hd HE.out hg hon
          have hbn : FrE ent base w wr := hbr.inout (G := A) ((Below.refl base wB).grown hg (by omega) (fun j hj => (ho.lies j hj).1)) (fun j hj hne => hg.block j hj (fun e => hne e.symm)) (fun j hj => .inr ⟨i, A, _, c, HE.out, hj⟩)
          clear hoy HK hg hon he1 ho hbr
          go_wp2
          go_roundw
          case rel => exact ⟨i + 1, by go_num, by omega, hnext, hL2, hbn⟩
          case measure => simp [intOf]; omega
    · obtain rfl : q = i := by omega
      have hent := he1.done HQ.out
      clear he1 E0 hL
      go_wp2
      go_loopw [3, 6] (fun vl v wr => ∃ (i cl : Nat) (AL : Option Addr) (lst : List (Nat × Tr)), v = .int .i64 i ∧ vl = .slice AL i cl ∧ i ≤ q ∧ Hid (lst.length = i) ∧ Own wr w.heap.size 28 AL i cl (lv lst) ∧ EntOK wr base ent ∧ LngOK wr base w.heap.size ent lst ∧ Col q lst ∧ Bnd lst ∧ HdL wr L ent ∧ FrE ent base w wr ∧ w.heap.size ≤ wr.heap.size) (fun _ v _ => q - (intOf v).toNat)
      case atStart => exact ⟨0, 0, none, [], rfl, rfl, Nat.zero_le _, rfl, Own.nil_, hent, LngOK.nil_, Col.nil_, Bnd.nil_, hLr, hbr, hsr⟩
      case round =>
        clear hent hLr hbr hsr
        obtain ⟨i, cl, AL, lst, rfl, rfl, hiq, HLL, hlong, hent, hlng, hcol, hbnd, hLr, hbr, hsr⟩ := hrel
        by_cases hlt : i < q
        · obtain ⟨⟨A, n, c⟩, he⟩ : ∃ x, ent[i]? = some x := ⟨_, List.getElem?_eq_getElem (by rw [HQ.out]; exact hlt)⟩
          have hnb := HNB.out i A n c he
          have hcell := hLr.cell he
          have hoA := hent i A n c he
          have HE := Lib.hid he; clear he
          have hTl := hlng.lt
          have HI : Hid (∀ (t : Nat) (B : Option Addr) (p e : Nat), lst[t]? ≠ some (i, B, p, e)) := by
            intro t B p e ht
            have h1 := hcol t _ ht
            have h2 := (List.getElem?_eq_some_iff.1 ht).1
            rw [HLL.out] at h2
            rw [Nat.mod_eq_of_lt (by omega)] at h1
            simp only at h1
            omega
          generalize hwB : wr = wB at *
          clear hwB
          go_wp2
          go_loopw [7, 8] (fun vg v w2 => ∃ (k d : Nat) (G : Option Addr), v = .int .i64 k ∧ vg = .slice G (n + k) d ∧ k ≤ 9 ∧ Own w2 base 5 G (n + k) d (By (sts i (n + k))) ∧ GOK wB.heap.size A G c d ∧ EntOK w2 base ent ∧ LngOK w2 base w.heap.size ent lst ∧ Own w2 w.heap.size 28 AL i cl (lv lst) ∧ HdL w2 L ent ∧ FrE ent base w w2 ∧ wB.heap.size ≤ w2.heap.size) (fun _ v _ => 9 - (intOf v).toNat)
          case atStart => exact ⟨0, c, A, rfl, rfl, Nat.zero_le _, hoA, .inl ⟨rfl, rfl⟩, hent, hlng, hlong, hLr, hbr, Nat.le_refl _⟩
          case round =>
            clear hent hlng hlong hLr hbr hcell hoA
            obtain ⟨k, d, G, rfl, rfl, hk, hoG, hgok, hent, hlng, hlong, hLr, hbr, hsB⟩ := hrel
            have hcell := hLr.cell HE.out
            by_cases hlt2 : k < 9
            · have hba := below_alloc wr (.cells #[.int .u8 ((stp i (n + k) : Nat) : Int)] 5)
              have hoG1 := hoG.alloc (.cells #[.int .u8 ((stp i (n + k) : Nat) : Int)] 5)
              have hent1 := hent.k5 (K5.below hba)
              have hlng1 := hlng.k5 (K5.below hba)
              have hlong1 := hlong.alloc (.cells #[.int .u8 ((stp i (n + k) : Nat) : Int)] 5)
              have hL1 := hLr.below hba
              have hsz1 : (wr.alloc (.cells #[.int .u8 ((stp i (n + k) : Nat) : Int)] 5)).heap.size = wr.heap.size + 1 := by simp
              have hb1 : FrE ent base w (wr.alloc (.cells #[.int .u8 ((stp i (n + k) : Nat) : Int)] 5)) := hbr.below hba (by omega) (by omega)
              have hrd := rd_oneV wr (.int .u8 ((stp i (n + k) : Nat) : Int)) 5
              have HSZ := Lib.hid hsz1; clear hsz1
              clear hent hlng hlong hLr hoG hba
              go_wp2_with fail
              refine (stamp_at i (n + k) _ _ rfl (by omega) (by omega) (by omega) _).mono ?_
              rintro e w' ⟨rfl, rfl⟩
              go_wp2_with (at_builtin; refine wpList_append_in rfl _ _ 28 rfl i0 (.int .u8 0) 1 Tryd.underlying28 hi hz0 hz1 hz2 rfl rfl hoG1 (some ⟨wr.heap.size, 0, none⟩) 1 1 [.int .u8 ((stp i (n + k) : Nat) : Int)] rfl hrd (fun u hu => by obtain rfl := List.mem_singleton.1 hu; rfl) ?c1 ?c2 ?c3 (by omega) ?_)
              case c1 => unfold maxLen; omega
              case c2 => omega
              case c3 => rw [HSZ.out]; omega
              intro G' d' w3 ho3 hio3
              have ho3' : Own w3 base 5 G' (n + (k + 1)) d' (By (sts i (n + (k + 1)))) := by
                have e1 : By (sts i (n + (k + 1))) = By (sts i (n + k)) ++ [.int .u8 ((stp i (n + k) : Nat) : Int)] := by
                  rw [← Nat.add_assoc, sts_succ, By_append]; rfl
                rw [e1]; exact ho3
              obtain ⟨hent3, hlng3, hgok3⟩ := grow_one hent1 hlng1 hd hS hsr hTl (by rw [HSZ.out]; omega) HI.out HE.out hgok ho3' hio3
              have hlong3 := hio3.own hoG1 hlong1 (by decide)
              have hL3 := hL1.keep (hio3.block hL1.lt (hL1.ne hoG1))
              have hb3 := hb1.inout (G := G) (hio3.belowB hoG1 (by rw [HSZ.out]; omega)) (fun j hj hne => hio3.block hj hne) (fun j hj => by
                rcases hgok with ⟨rfl, rfl⟩ | ⟨b, hb, hT⟩
                · exact .inr ⟨i, _, n, _, HE.out, hj⟩
                · rw [hb] at hj; injection hj with hj; left; omega)
              have hs3 : wB.heap.size ≤ w3.heap.size := by have := hio3.size; rw [HSZ.out] at this; omega
              clear hent1 hlng1 hlong1 hL1 hb1 hoG1 hrd hio3 ho3 hgok hcell
              go_wp2
              go_roundw
              case rel => exact ⟨k + 1, d', G', by go_num, rfl, by omega, ho3', hgok3, hent3, hlng3, hlong3, hL3, hb3, hs3⟩
              case measure => simp [intOf]; omega
            · obtain rfl : k = 9 := by omega
              have hba := below_alloc wr (.cells #[.slice G (n + 9) d] 28)
              have hlong1 := hlong.alloc (.cells #[.slice G (n + 9) d] 28)
              have hL1 := hLr.below hba
              have hent1 := hent.k5 (K5.below hba)
              have hlng1 := (hlng.push hoG (by
                rcases hgok with ⟨rfl, rfl⟩ | ⟨b, hb, hT⟩
                · exact .inr ⟨n, HE.out, by omega⟩
                · exact .inl ⟨b, hb, by omega⟩)).k5 (K5.below hba)
              have hcol1 := hcol.push (x := (G, n + 9, d)) (show i = lst.length % q by rw [HLL.out, Nat.mod_eq_of_lt hlt])
              have hbnd1 := hbnd.push (i := i) (G := G) (n := n + 9) (d := d) (by omega)
              have HLL1 := Lib.hid (show (lst ++ [(i, G, n + 9, d)]).length = i + 1 by rw [List.length_append, HLL.out]; rfl)
              have hb1 := hbr.below hba (by omega) (by omega)
              have hsz1 : (wr.alloc (.cells #[.slice G (n + 9) d] 28)).heap.size = wr.heap.size + 1 := by simp
              have HSZ := Lib.hid hsz1; clear hsz1
              clear hent hlng hlong hLr hbr hba hgok hoG
              go_wp2_with (at_builtin; refine wpList_append_rd rfl _ _ 68 rfl i8 (.slice none 0 0) 24 Tryd.underlying68 hi8 hy0 hy1 hy2 rfl rfl hlong1 (some ⟨wr.heap.size, 0, none⟩) 1 1 [.slice G (n + 9) d] rfl (rd_oneV wr _ 28) (one_slice _ _ _) ?d1 ?d2 ?d3 ?_)
              case d1 => unfold maxLen; omega
              case d2 => omega
              case d3 => rw [HSZ.out]; omega
              intro AL' cl' w3 ho3 hg3
              rw [← lv_push lst i G (n + 9) d] at ho3
              have hk5 := K5.grown (base := base) hlong1 hg3.1
              have hent3 := hent1.k5 hk5
              have hlng3 := hlng1.k5 hk5
              have hL3 := hL1.grown hg3.1 (fun e => by have := (hlong1.lies L e).1; omega)
              have hb3 := hb1.below (hg3.below (by rw [HSZ.out]; omega) (fun k hk => (hlong1.lies k hk).1) : Below w.heap.size _ w3) (Nat.le_refl _) hbase
              have hs3 : w.heap.size ≤ w3.heap.size := by have := hg3.size; rw [HSZ.out] at this; omega
              clear hent1 hlng1 hlong1 hL1 hb1 hk5 hg3 hcell hcol
              go_wp2
              go_roundw
              case rel => exact ⟨i + 1, cl', AL', _, by go_num, rfl, by omega, HLL1, ho3, hent3, hlng3, hcol1, hbnd1, hL3, hb3, hs3⟩
              case measure => simp [intOf]; omega
        · obtain rfl : q = i := by omega
          have hmk33 : ∀ W, (Instr.makeSlice 28 (.int .i64 33) (.int .i64 33)).run Tryd.prog W = .ok (.slice (some ⟨W.heap.size, 0, none⟩) 33 33) (W.alloc (.cells (zerA 33) 5)) := fun W => run_make_bytes (P := Tryd.prog) 28 5 i0 Tryd.underlying28 hi hz0 hz1 hz2 33 33 rfl (by omega) W
          clear hlt
          go_wp2
          go_loopw [3, 9] (fun vl v wr => ∃ (i cl : Nat) (AL : Option Addr) (lst : List (Nat × Tr)), v = .int .i64 i ∧ vl = .slice AL (q + i) cl ∧ i ≤ q ∧ Hid (lst.length = q + i) ∧ Own wr w.heap.size 28 AL (q + i) cl (lv lst) ∧ EntOK wr base ent ∧ LngOK wr base w.heap.size ent lst ∧ Col q lst ∧ Bnd lst ∧ HdL wr L ent ∧ FrE ent base w wr ∧ w.heap.size ≤ wr.heap.size) (fun _ v _ => q - (intOf v).toNat)
          case atStart => exact ⟨0, cl, AL, lst, rfl, rfl, Nat.zero_le _, HLL, hlong, hent, hlng, hcol, hbnd, hLr, hbr, hsr⟩
          case round =>
            clear hent hLr hbr hsr hlong hlng hcol hbnd HLL
            obtain ⟨i, cl, AL, lst, rfl, rfl, hiq, HLL, hlong, hent, hlng, hcol, hbnd, hLr, hbr, hsr⟩ := hrel
            by_cases hlt : i < q
            · obtain ⟨⟨A, n, c⟩, he⟩ : ∃ x, ent[i]? = some x := ⟨_, List.getElem?_eq_getElem (by rw [HQ.out]; exact hlt)⟩
              have hnb := HNB.out i A n c he
              have HE := Lib.hid he; clear he
              have hTl := hlng.lt
              have hTT : EntLt wr.heap.size ent := fun j B p e hj b' hb' => Nat.lt_of_lt_of_le (hS j B p e hj b' hb') hsr
              have HLies := Lib.hid (fun k hk => (hlong.lies k hk).2)
              have hba := below_alloc wr (.cells (zerA 33) 5)
              have hlong1 := hlong.alloc (.cells (zerA 33) 5)
              have hL1 := hLr.below hba
              have hent1 := hent.k5 (K5.below hba)
              have hlng1 := hlng.k5 (K5.below hba)
              have hb1 : FrE ent base w (wr.alloc (.cells (zerA 33) 5)) := hbr.below hba (by omega) (by omega)
              have hot : Own (wr.alloc (.cells (zerA 33) 5)) wr.heap.size 5 (some ⟨wr.heap.size, 0, none⟩) 33 33 (By (List.replicate 33 0)) := by
                have : By (List.replicate 33 0) = zer 33 := by simp [By, zer]
                rw [this]
                exact Own.of_block (heap_alloc_new wr _) (Nat.le_refl _) (by simp [zer]) (by unfold maxLen; omega)
              have hrt : Ran (List.replicate 33 0) := by
                intro x hx
                have := List.eq_of_mem_replicate hx
                omega
              have hszT : wr.heap.size + 1 = (wr.alloc (.cells (zerA 33) 5)).heap.size := by simp
              clear hent hlng hlong hLr hbr hba
              go_wp2
              generalize hwB : wr = wB at *
              clear hwB
              generalize hwT : wB.alloc (.cells (zerA 33) 5) = wT at *
              clear hwT
              have HSZT := Lib.hid hszT; clear hszT
              go_loopw [11] (fun v w2 => ∃ (k : Nat) (ts : List Int), v = .int .i64 k ∧ k ≤ 33 ∧ Own w2 wB.heap.size 5 (some ⟨wB.heap.size, 0, none⟩) 33 33 (By ts) ∧ Ran ts ∧ Hid (ts.take k = ((sts i (n + 33)).drop n).take k) ∧ Onl wB.heap.size wT w2 ∧ HdL w2 L ent) (fun v _ => 33 - (intOf v).toNat)
              case atStart => exact ⟨0, _, rfl, Nat.zero_le _, hot, hrt, by show _ = _; simp, Onl.refl _ _, hL1⟩
              case round =>
                clear hL1
                obtain ⟨k, ts, rfl, hk, hot2, hrt2, HK, hon, hL2⟩ := hrel
                have hcell := hL2.cell HE.out
                have htl : ts.length = 33 := by have := hot2.len; rwa [By_length] at this
                have HTL := Lib.hid htl; clear htl
                by_cases hlt2 : k < 33
                · obtain ⟨u, hu⟩ : ∃ u, ts[k]? = some u := ⟨_, List.getElem?_eq_getElem (by rw [HTL.out]; exact hlt2)⟩
                  have hcu := hot2.cellI hu
                  have hfz : wr.frozen? ⟨wB.heap.size, k, none⟩ = false := hot2.frozenAt k
                  have hsl := stp_lt i (n + k)
                  have ho3 := hot2.put (k := k) ((stp i (n + k) : Nat) : Int)
                  have hr3 := ran_setI hrt2 k (v := ((stp i (n + k) : Nat) : Int)) (by omega) (by omega)
                  have hon3 := hon.trans (onl_set wr wB.heap.size k (.int .u8 ((stp i (n + k) : Nat) : Int)))
                  have hL3 := hL2.grown (onl_set wr wB.heap.size k (.int .u8 ((stp i (n + k) : Nat) : Int))) (hL2.ne hot2)
                  have HK3 := Lib.hid (show (ts.set k ((stp i (n + k) : Nat) : Int)).take (k + 1) = ((sts i (n + 33)).drop n).take (k + 1) by
                    rw [set_take _ (by rw [HTL.out]; exact hlt2), HK.out, take_next (show ((sts i (n + 33)).drop n)[k]? = some ((stp i (n + k) : Nat) : Int) by rw [List.getElem?_drop]; exact sts_get (by omega))])
                  clear hu hot2 hon hL2 HK hrt2
                  go_wp2_with fail
                  refine (stamp_at i (n + k) _ _ rfl (by omega) (by omega) (by omega) _).mono ?_
                  rintro e w' ⟨rfl, rfl⟩
                  go_wp2
                  go_roundw
                  case rel => exact ⟨k + 1, _, by go_num, by omega, ho3, hr3, HK3, hon3, hL3⟩
                  case measure => simp [intOf]; omega
                · obtain rfl : 33 = k := by omega
                  have HT := Lib.hid (show ts = (sts i (n + 33)).drop n by
                    have := HK.out
                    rwa [List.take_of_length_le (by rw [HTL.out]; exact Nat.le_refl _), List.take_of_length_le (by rw [List.length_drop, sts_length]; omega)] at this)
                  have hentE : EntOK wr base ent := hent1.apart (G := some ⟨wB.heap.size, 0, none⟩) (b := wB.heap.size) hTT rfl (Nat.le_refl _) hon
                  have hlngE : LngOK wr base w.heap.size ent lst := hlng1.apart (G := some ⟨wB.heap.size, 0, none⟩) (b := wB.heap.size) hTl rfl (Nat.le_refl _) hon
                  have hlongE := hlong1.onl hon (fun e => by have := HLies.out _ e; omega)
                  have hbE : FrE ent base w wr := hb1.below (Onl.below hon (by rw [← HSZT.out]; omega)) (by omega) (by omega)
                  have hoA := hentE i A n c HE.out
                  have hrdT := hot2.rd
                  have hsE : wB.heap.size < wr.heap.size := by have := hon.size; rw [← HSZT.out] at this; omega
                  clear hent1 hlng1 hlong1 hb1 hot hrt hot2 hrt2 hon HK HTL
                  go_wp2_with (at_builtin; refine wpList_append_in rfl _ _ 28 rfl i0 (.int .u8 0) 1 Tryd.underlying28 hi hz0 hz1 hz2 rfl rfl hoA (some ⟨wB.heap.size, 0, none⟩) 33 33 (By ts) rfl hrdT (By_one _) ?c1 ?c2 ?c3 (by omega) ?_)
                  case c1 => unfold maxLen; omega
                  case c2 => omega
                  case c3 => omega
                  intro G d w3 ho3 hio3
                  have ho3' : Own w3 base 5 G (n + 33) d (By (sts i (n + 33))) := by
                    have e1 : By (sts i (n + 33)) = By (sts i n) ++ By ts := by
                      rw [← By_append, HT.out, ← sts_take (i := i) (show n ≤ n + 33 by omega), List.take_append_drop]
                    rw [e1]; exact ho3
                  obtain ⟨hent3, hlng3⟩ := grow_all hentE hlngE hd hS (by omega) HE.out ho3' hio3
                  have hlong3 := hio3.own hoA hlongE (by decide)
                  have hL3 := hL2.keep (hio3.block hL2.lt (hL2.ne hoA))
                  have hb3 := hbE.inout (G := A) (hio3.belowB hoA (by omega)) (fun j hj hne => hio3.block hj hne) (fun j hj => .inr ⟨i, A, _, c, HE.out, hj⟩)
                  have hs3 : wB.heap.size < w3.heap.size := by have := hio3.size; omega
                  have hba := below_alloc w3 (.cells #[.slice G (n + 33) d] 28)
                  have hlong4 := hlong3.alloc (.cells #[.slice G (n + 33) d] 28)
                  have hL4 := hL3.below hba
                  have hent4 := hent3.k5 (K5.below hba)
                  have hlng4 := hlng3.k5 (K5.below hba)
                  have hcol4 := hcol.push (x := (G, n + 33, d)) (show i = lst.length % q by rw [HLL.out, Nat.add_mod_left, Nat.mod_eq_of_lt hlt])
                  have hbnd4 := hbnd.push (i := i) (G := G) (n := n + 33) (d := d) (by omega)
                  have HLL4 := Lib.hid (show (lst ++ [(i, G, n + 33, d)]).length = q + (i + 1) by rw [List.length_append, HLL.out]; rfl)
                  have hb4 := hb3.below hba (by omega) (by omega)
                  have hsz4 : (w3.alloc (.cells #[.slice G (n + 33) d] 28)).heap.size = w3.heap.size + 1 := by simp
                  have HSZ := Lib.hid hsz4; clear hsz4
                  clear hentE hlngE hlongE hbE hoA hrdT hio3 ho3 ho3' hent3 hlng3 hlong3 hL3 hb3 hL2 hba HT hcell
                  go_wp2_with (at_builtin; refine wpList_append_rd rfl _ _ 68 rfl i8 (.slice none 0 0) 24 Tryd.underlying68 hi8 hy0 hy1 hy2 rfl rfl hlong4 (some ⟨w3.heap.size, 0, none⟩) 1 1 [.slice G (n + 33) d] rfl (rd_oneV w3 _ 28) (one_slice _ _ _) ?d1 ?d2 ?d3 ?_)
                  case d1 => unfold maxLen; omega
                  case d2 => omega
                  case d3 => rw [HSZ.out]; omega
                  intro AL' cl' w5 ho5 hg5
                  rw [← lv_push lst i G (n + 33) d] at ho5
                  have hk5 := K5.grown (base := base) hlong4 hg5.1
                  have hent5 := hent4.k5 hk5
                  have hlng5 := hlng4.k5 hk5
                  have hL5 := hL4.grown hg5.1 (fun e => by have := (hlong4.lies L e).1; omega)
                  have hb5 := hb4.below (hg5.below (by rw [HSZ.out]; omega) (fun k hk => (hlong4.lies k hk).1) : Below w.heap.size _ w5) (Nat.le_refl _) hbase
                  have hs5 : w.heap.size ≤ w5.heap.size := by have := hg5.size; rw [HSZ.out] at this; omega
                  clear hent4 hlng4 hlong4 hL4 hb4 hk5 hg5 hcol hbnd
                  go_wp2
                  go_roundw
                  case rel => exact ⟨i + 1, cl', AL', _, by go_num, rfl, by omega, HLL4, ho5, hent5, hlng5, hcol4, hbnd4, hL5, hb5, hs5⟩
                  case measure => simp [intOf]; omega
            · obtain rfl : q = i := by omega
              clear hlt hLr hent hmk33
              generalize hwF : wr = wF at *
              clear hwF
              go_wp2
              go_loopw [12] (fun v w2 => ∃ (i p : Nat), v = .int .i64 i ∧ i ≤ q + q ∧ w2 = wF.drewN p) (fun v _ => q + q - (intOf v).toNat)
              case atStart => exact ⟨0, 0, rfl, Nat.zero_le _, rfl⟩
              case round =>
                obtain ⟨i, p, rfl, hiq2, rfl⟩ := hrel
                by_cases hlt : i < q + q
                · obtain ⟨⟨j, G, m, d⟩, hx⟩ : ∃ x, lst[i]? = some x := ⟨_, List.getElem?_eq_getElem (by rw [HLL.out]; exact hlt)⟩
                  obtain rfl : i % q = j := (hcol i _ hx).symm
                  obtain ⟨hoG, _⟩ := hlng i (i % q) G m d hx
                  have hmb := hbnd i (i % q) G m d hx
                  obtain ⟨gl, capl, hvl, hgllo, hgllt⟩ := World.ownsRow.form hlong (by omega)
                  obtain rfl : AL = some ⟨gl, 0, none⟩ := by injection hvl
                  have hcell : wF.cell? ⟨gl, i, none⟩ = some (.slice G m d) := by
                    rw [World.ownsRow.cellAt hlong i (by omega)]
                    simp [lv, hx, sv]
                  have hcell' : (wF.drewN p).cell? ⟨gl, i, none⟩ = some (.slice G m d) := hcell
                  have hq0 : 0 < q := by omega
                  have hmod : i % q ≤ 1000000 := by have := Nat.mod_lt i hq0; omega
                  have HR1 := Lib.hid (show (i : Int) % (q : Int) = ((i % q : Nat) : Int) by omega)
                  have HR2 := Lib.hid (show (i : Int).tmod (q : Int) = ((i % q : Nat) : Int) by rw [Int.tmod_eq_emod_of_nonneg (by omega)]; omega)
                  clear hx
                  go_wp2
                  go_loopw [13] (fun v w3 => ∃ (k p2 : Nat), v = .int .i64 k ∧ k ≤ m ∧ w3 = wF.drewN p2) (fun v _ => m - (intOf v).toNat)
                  case atStart => exact ⟨0, p, rfl, Nat.zero_le _, rfl⟩
                  case round =>
                    clear hcell'
                    obtain ⟨k, p2, rfl, hk, rfl⟩ := hrel
                    have hcell' : (wF.drewN p2).cell? ⟨gl, i, none⟩ = some (.slice G m d) := hcell
                    by_cases hlt2 : k < m
                    · obtain ⟨gg, capg, hvg, hgglo, hgglt⟩ := World.ownsRow.form hoG (by omega)
                      obtain rfl : G = some ⟨gg, 0, none⟩ := by injection hvg
                      have hcg : wF.cell? ⟨gg, k, none⟩ = some (.int .u8 ((stp (i % q) k : Nat) : Int)) := hoG.cellI (sts_get hlt2)
                      have hcg' : (wF.drewN p2).cell? ⟨gg, k, none⟩ = some (.int .u8 ((stp (i % q) k : Nat) : Int)) := hcg
                      go_wp2
                      go_quiet ((go_at_call 43; first | exact still_call_add (fun W => stamp_at (i % q) k _ _ (by first | exact HR1.out | exact HR2.out | rfl) rfl (by omega) (by omega) W) | exact still_call (fun W => stamp_at (i % q) k _ _ (by first | exact HR1.out | exact HR2.out | rfl) rfl (by omega) (by omega) W)))
                      go_wp2
                      go_roundw
                      case rel => exact ⟨k + 1, _, by go_num, by omega, rfl⟩
                      case measure => simp [intOf]; omega
                    · obtain rfl : k = m := by omega
                      go_wp2
                      go_roundw
                      case rel => exact ⟨i + 1, _, by go_num, by omega, rfl⟩
                      case measure => simp [intOf]; omega
                · obtain rfl : q + q = i := by omega
                  go_wp2
                  go_ret
                  exact ⟨rfl, below_n hbr.b _, hbr.o⟩
end Go.Proofs.YtlphlogliphhdaaDoor
