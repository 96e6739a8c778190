/- leaf.Split. -/
import Derived.Test.YtmjjbfcblmmipaaMiddleW
import Derived.Deep.Cut
namespace Go.Proofs.Ytmjjbfcblmmipaa
set_option linter.unusedVariables false
set_option linter.unusedSimpArgs false
open Go.RowKit
set_option maxHeartbeats 2000000 in
/-- leaf.parted of nothing. -/
theorem parted62_zero (A : Option Addr) (c k : Nat) (w : World) (hk : k ≤ 1000000) :
    Calls Try.prog 97 #[.slice A 0 c, .int .i64 (k : Int)] w fun e w' => e = .returned (.tuple #[.slice A 0 c, .slice A 0 c]) ∧ Dr w w' := by
  have s1 := slice62_h A 0 c 0 (by omega)
  have hmin : min (k : Int) 0 = 0 := by omega
  go_enter Try.func97, Try.ntmps97
  go_wp2
  go_quiet (fail)
  go_wp2
  go_ret2
  exact ⟨rfl, (Dr.refl w).n _⟩
set_option maxHeartbeats 2000000 in
/-- leaf.parted of nothing. -/
theorem parted27_zero (A : Option Addr) (c k : Nat) (w : World) (hk : k ≤ 1000000) :
    Calls Try.prog 98 #[.slice A 0 c, .int .i64 (k : Int)] w fun e w' => e = .returned (.tuple #[.slice A 0 c, .slice A 0 c]) ∧ Dr w w' := by
  have s1 := slice27_h A 0 c 0 (by omega)
  have hmin : min (k : Int) 0 = 0 := by omega
  go_enter Try.func98, Try.ntmps98
  go_wp2
  go_quiet (fail)
  go_wp2
  go_ret2
  exact ⟨rfl, (Dr.refl w).n _⟩
theorem parted27_is (A : Option Addr) (n c k : Nat) (z : Int) (hz : z = ((k : Nat) : Int)) (w : World) (hk : k ≤ n) (hc : n ≤ c) (hn : n ≤ 100000) :
    Calls Try.prog 98 #[.slice A n c, .int .i64 z] w fun e w' => e = .returned (.tuple #[.slice A k c, .slice (cutA A c k) (n - k) (c - k)]) ∧ Dr w w' := by subst hz; exact parted27_any A n c k w hk hc hn
theorem parted27_zis (A : Option Addr) (c k : Nat) (z : Int) (hz : z = ((k : Nat) : Int)) (w : World) (hk : k ≤ 1000000) :
    Calls Try.prog 98 #[.slice A 0 c, .int .i64 z] w fun e w' => e = .returned (.tuple #[.slice A 0 c, .slice A 0 c]) ∧ Dr w w' := by subst hz; exact parted27_zero A c k w hk
theorem Shp.short {A : Option Addr} {n m : Nat} (h : Shp A n) (hm : m ≤ n) : Shp A m := by
  rcases h with ⟨h1, h2⟩ | h
  · exact .inl ⟨h1, by omega⟩
  · exact .inr h
theorem Shp.cut {A : Option Addr} {n c lo : Nat} (h : Shp A n) : Shp (cutA A c lo) (n - lo) := by
  rcases h with ⟨rfl, rfl⟩ | ⟨b, off, rfl⟩
  · left; unfold cutA; simp
  · right; unfold cutA; split
    · exact ⟨b, off, rfl⟩
    · exact ⟨b, off + lo, by simp [Addr.add]⟩
theorem Ins.cut {w : World} {A : Option Addr} {n c lo : Nat} {ls : List Int} (h : Ins w A n ls) (h2 : lo ≤ n) (h3 : n ≤ c) : Ins w (cutA A c lo) (n - lo) (ls.drop lo) := by
  refine ⟨?_, fun x hx => h.2 x (List.mem_of_mem_drop hx)⟩
  rw [List.map_drop]
  exact Rd.cut h.1 h2 h3
theorem Ins.own {w : World} {base n c : Nat} {A : Option Addr} {ls : List Int} (h : Own w base 3 A n c (ls.map (Value.int .i64))) (hl : ∀ x ∈ ls, -9223372036854775808 ≤ x ∧ x ≤ 9223372036854775807) : Ins w A n ls := ⟨h.rd, hl⟩
theorem nd4 {W : World} {g : Nat} {v0 v1 v2 v3 : Value} {T : TypeId} {p : Prop} (h : W.heap[g]? = some (.cells #[v0, v1, v2, v3] T (0, 0))) (hp : p) : W.cell? ⟨g, 0, none⟩ = some v0 ∧ W.cell? ⟨g, 1, none⟩ = some v1 ∧ W.cell? ⟨g, 2, none⟩ = some v2 ∧ W.cell? ⟨g, 3, none⟩ = some v3 ∧ p := ⟨rc_cell 0 _ h rfl, rc_cell 1 _ h rfl, rc_cell 2 _ h rfl, rc_cell 3 _ h rfl, hp⟩
set_option maxRecDepth 100000 in
set_option maxHeartbeats 16000000 in
theorem psplitL_any (AK : Option Addr) (nK cK : Nat) (AV : Option Addr) (nV cV : Nat) (AD : Option Addr) (nD cD : Nat) (ks vs : List (List Int)) (ds : List Int) (w : World) (hx : Bss w AK nK ks) (hy : Bss w AV nV vs) (hz : Ins w AD nD ds) (sD : Shp AD nD) (hKc : nK ≤ cK) (hVc : nV ≤ cV) (hDc : nD ≤ cD)
    (hn : 2 ≤ nK) (hV : nV = nK) (hD : nD = 0) (bK : nK ≤ 99999) (lK : ∀ xs ∈ ks, xs.length ≤ 140737488355328) (lV : ∀ xs ∈ vs, xs.length ≤ 140737488355328) (sK : szW 1 ks ≤ 100000000000000000) (sV : szW 2 vs ≤ 100000000000000000) :
    Calls Try.prog 48 #[.agg (ndV true AK nK cK AV nV cV AD nD cD)] w fun e w' => ∃ (i : Nat) (A1 : Option Addr) (c1 : Nat) (A2 : Option Addr) (c2 : Nat) (A3 : Option Addr) (c3 : Nat) (A' : Option Addr) (xs : List Int) (c' : Nat) (B1 : Option Addr) (d1 : Nat) (B2 : Option Addr) (d2 : Nat) (B3 : Option Addr) (d3 : Nat),
      e = .returned (.tuple #[.agg (ndV true A1 i c1 A2 i c2 A3 0 c3), .slice A' xs.length c', .agg (ndV true B1 (nK - i) d1 B2 (nV - i) d2 B3 0 d3)]) ∧ i = bestN (gtr true ks vs nD) (nK - 2) ∧ ks[i]? = some xs ∧ Bs w' A' xs.length xs ∧
      Bss w' A1 i (ks.take i) ∧ Bss w' A2 i (vs.take i) ∧ Ins w' A3 0 (ds.take (i + 1)) ∧ Bss w' B1 (nK - i) (ks.drop i) ∧ Bss w' B2 (nV - i) (vs.drop i) ∧ Ins w' B3 0 (ds.drop (i + 1)) ∧ Below w.heap.size w w' := by
  have HX := Lib.hid hx; have HY := Lib.hid hy; have HZ := Lib.hid hz; have HSD := Lib.hid sD; have HLK := Lib.hid hx.len; have HLV := Lib.hid hy.len; have HLD := Lib.hid hz.len; have HMK := Lib.hid lK; have HMV := Lib.hid lV
  have A3 := Lib.hid (alloc3 w (ndV true AK nK cK AV nV cV AD nD cD) ndZ ndZ 70)
  have hsy : (((w.alloc (.cells (ndV true AK nK cK AV nV cV AD nD cD) 70)).alloc (.cells ndZ 70)).alloc (.cells ndZ 70)).heap.size = w.heap.size + 3 := by simp
  have BX := Lib.hid A3.out.1; have RA := Lib.hid A3.out.2.1; have RB := Lib.hid A3.out.2.2.1; have HB := Lib.hid A3.out.2.2.2
  have q0 := rc_cell 0 (.bool true) BX.out rfl; have q1 := rc_cell 1 (.slice AK nK cK) BX.out rfl; have q2 := rc_cell 2 (.slice AV nV cV) BX.out rfl; have q3 := rc_cell 3 (.slice AD nD cD) BX.out rfl
  have d1 : decide ((nK : Int) < 2) = false := by simp; omega
  have bV : nV ≤ 100000 := by omega
  have bD : nD ≤ 100000 := by omega
  have HVD := Lib.hid hV; have HDD := Lib.hid hD
  clear hx hy hz sD hV hD A3 lK lV
  go_enter Try.func48, Try.ntmps48
  go_wp2_with fail
  clear q0 q1 q2 q3
  generalize ((w.alloc (.cells (ndV true AK nK cK AV nV cV AD nD cD) 70)).alloc (.cells ndZ 70)).alloc (.cells ndZ 70) = y at *
  refine (middleL_any AK nK cK AV nV cV AD nD cD ks vs y (HX.out.keep HB.out) (HY.out.keep HB.out) hn HVD.out HDD.out (by omega) sK sV).mono ?_
  rintro e x1 ⟨rfl, hb1⟩
  have hin := bestN_in (gtr true ks vs nD) (nK - 2)
  obtain ⟨i, HI⟩ : ∃ i : Nat, Hid (bestN (gtr true ks vs nD) (nK - 2) = i) := ⟨_, rfl⟩
  rw [HI.out] at hin ⊢
  have hi1 : 1 ≤ i := hin.1
  have hi2 : i + 1 ≤ nK := by have := hin.2; omega
  have BX1 := Lib.hid ((hb1.block _ (lt_of_heap BX.out)).trans BX.out)
  have RA1 := Lib.hid ((hb1.block _ (lt_of_heap RA.out)).trans RA.out)
  have RB1 := Lib.hid ((hb1.block _ (lt_of_heap RB.out)).trans RB.out)
  have HB1 := Lib.hid (HB.out.trans (hb1.mono HB.out.size)); have hs1 := hb1.size; rw [hsy] at hs1
  clear hb1 hin hsy BX RA RB HB
  obtain ⟨b, off, A', n', c', xs, hA, hbl, hcl, hxs, hnc, HXK⟩ := HX.out.at_ (k := i) (by omega)
  have HXS := Lib.hid hxs; have HNL := Lib.hid hxs.len; have hnb : n' ≤ 140737488355328 := by rw [← hxs.len]; exact HMK.out _ (List.mem_of_getElem? HXK.out)
  subst hA; clear hxs hnc
  have q0 := rc_cell 0 (.bool true) BX1.out rfl; have q1 := rc_cell 1 (.slice (some ⟨b, off, none⟩) nK cK) BX1.out rfl; have q2 := rc_cell 2 (.slice AV nV cV) BX1.out rfl; have q3 := rc_cell 3 (.slice AD nD cD) BX1.out rfl
  have s1 := slice62_h (some ⟨b, off, none⟩) nK cK i (by omega)
  have s2 : ∀ W, _ := slice62_lo (some ⟨b, off, none⟩) nK cK i (by omega)
  have hwi : IntKind.i64.wrap ((i : Int) + 1) = (i : Int) + 1 := IntWalk.i64_in _ (by omega)
  go_upto_region 7 with fail
  clear q0 q1 q2 q3
  go_cut [7, 8] from 35 (fun p q wx => ∃ g7 g8 : Nat, p = .pointer (some ⟨g7, 0, none⟩) ∧ q = .pointer (some ⟨g8, 0, none⟩) ∧ g7 ≠ g8 ∧ x1.heap.size ≤ g7 ∧ x1.heap.size ≤ g8 ∧ Hid (wx.heap[g7]? = some (.cells #[.bool true, .slice (some ⟨b, off, none⟩) i cK, .slice none 0 0, .slice none 0 0] 70 (0, 0))) ∧ Hid (wx.heap[g8]? = some (.cells #[.bool true, .slice (cutA (some ⟨b, off, none⟩) cK i) (nK - i) (cK - i), .slice none 0 0, .slice none 0 0] 70 (0, 0))) ∧ Hid (Below x1.heap.size x1 wx))
  case first =>
    have HBd : Hid (Below x1.heap.size x1 x1.drew) := Lib.hid ((Dr.refl x1).one.below _)
    have BXd : Hid (x1.drew.heap[w.heap.size]? = some (.cells (ndV true (some ⟨b, off, none⟩) nK cK AV nV cV AD nD cD) 70 (0, 0))) := BX1
    have hds : x1.drew.heap.size = x1.heap.size := rfl
    refine wp_region_held_drew (S := fun w' => w'.cell? ⟨w.heap.size, 0, none⟩ = some (.bool true) ∧ w'.cell? ⟨w.heap.size, 1, none⟩ = some (.slice (some ⟨b, off, none⟩) nK cK) ∧ w'.cell? ⟨w.heap.size, 2, none⟩ = some (.slice AV nV cV) ∧ w'.cell? ⟨w.heap.size, 3, none⟩ = some (.slice AD nD cD) ∧ True) (by kernel_rfl) (nd4 BXd.out trivial) (fun hH0 => ?_)
    generalize x1.drew = yd at *
    refine wpAnyH_take (i := 0) (oi := { dst := some 35, op := Op.fieldAddr 70 (Operand.tmp 1) 0, type := 0, pos := _, after := #[], guard := none }) (v := ?vaL1_0) rfl (by kernel_rfl) (by kernel_rfl) (by kernel_rfl) (fun _ _ _ h => h) (Or.inl ⟨by rfl, ?yaL1_0⟩) hH0 ?raL1_0
    case yaL1_0 => (intro w hSw; (try dsimp only at hSw); go_simp; try (with_reducible rfl))
    try simp only [Act.put, List.setIfInBounds_toArray, List.set_cons_zero, List.set_cons_succ]
    refine wpAnyH_take (i := 1) (oi := { dst := some 36, op := Op.load 4 (Operand.tmp 35), type := 4, pos := _, after := #[{ on := 0, ground := Ground.data }], guard := none }) (v := ?vaL1_1) rfl (by kernel_rfl) (by kernel_rfl) (by kernel_rfl) (fun _ _ _ h => h) (Or.inl ⟨by rfl, ?yaL1_1⟩) hH0 ?raL1_1
    case yaL1_1 => (intro w hSw; (try dsimp only at hSw); go_simp; try (with_reducible rfl))
    try simp only [Act.put, List.setIfInBounds_toArray, List.set_cons_zero, List.set_cons_succ]
    refine wpAnyH_take (i := 2) (oi := { dst := some 37, op := Op.fieldAddr 70 (Operand.tmp 1) 1, type := 0, pos := _, after := #[], guard := none }) (v := ?vaL1_2) rfl (by kernel_rfl) (by kernel_rfl) (by kernel_rfl) (fun _ _ _ h => h) (Or.inl ⟨by rfl, ?yaL1_2⟩) hH0 ?raL1_2
    case yaL1_2 => (intro w hSw; (try dsimp only at hSw); go_simp; try (with_reducible rfl))
    try simp only [Act.put, List.setIfInBounds_toArray, List.set_cons_zero, List.set_cons_succ]
    refine wpAnyH_take (i := 3) (oi := { dst := some 38, op := Op.load 62 (Operand.tmp 37), type := 62, pos := _, after := #[{ on := 2, ground := Ground.data }], guard := none }) (v := ?vaL1_3) rfl (by kernel_rfl) (by kernel_rfl) (by kernel_rfl) (fun _ _ _ h => h) (Or.inl ⟨by rfl, ?yaL1_3⟩) hH0 ?raL1_3
    case yaL1_3 => (intro w hSw; (try dsimp only at hSw); go_simp; try (with_reducible rfl))
    try simp only [Act.put, List.setIfInBounds_toArray, List.set_cons_zero, List.set_cons_succ]
    refine wpAnyH_take (i := 4) (oi := { dst := some 39, op := Op.move (Operand.tmp 5), type := 3, pos := _, after := #[], guard := none }) (v := ?vaL1_4) rfl (by kernel_rfl) (by kernel_rfl) (by kernel_rfl) (fun _ _ _ h => h) (Or.inl ⟨by rfl, ?yaL1_4⟩) hH0 ?raL1_4
    case yaL1_4 => (intro w hSw; (try dsimp only at hSw); go_simp; try (with_reducible rfl))
    try simp only [Act.put, List.setIfInBounds_toArray, List.set_cons_zero, List.set_cons_succ]
    refine wpAnyH_take (i := 5) (oi := { dst := some 40, op := Op.slice 62 (Operand.tmp 38) none (some (Operand.tmp 39)) none, type := 62, pos := _, after := #[{ on := 3, ground := Ground.data }, { on := 4, ground := Ground.data }], guard := none }) (v := ?vaL1_5) rfl (by kernel_rfl) (by kernel_rfl) (by kernel_rfl) (fun _ _ _ h => h) (Or.inl ⟨by rfl, ?yaL1_5⟩) hH0 ?raL1_5
    case yaL1_5 => (intro w hSw; (try dsimp only at hSw); go_simp; try (with_reducible rfl))
    try simp only [Act.put, List.setIfInBounds_toArray, List.set_cons_zero, List.set_cons_succ]
    refine wpAnyH_take (i := 6) (oi := { dst := some 41, op := Op.build 70 #[(0, Operand.tmp 36), (1, Operand.tmp 40)], type := 70, pos := _, after := #[{ on := 1, ground := Ground.data }, { on := 5, ground := Ground.data }], guard := none }) (v := ?vaL1_6) rfl (by kernel_rfl) (by kernel_rfl) (by kernel_rfl) (fun _ _ _ h => h) (Or.inl ⟨by rfl, ?yaL1_6⟩) hH0 ?raL1_6
    case yaL1_6 => (intro w hSw; (try dsimp only at hSw); go_simp; try (with_reducible rfl))
    try simp only [Act.put, List.setIfInBounds_toArray, List.set_cons_zero, List.set_cons_succ]
    refine wpAnyH_take (i := 7) (oi := { dst := some 42, op := Op.fieldAddr 70 (Operand.tmp 1) 0, type := 0, pos := _, after := #[{ on := 16, ground := Ground.gcOnly Departure.lateStores }], guard := none }) (v := ?vaL1_7) rfl (by kernel_rfl) (by kernel_rfl) (by kernel_rfl) (fun _ _ _ h => h) (Or.inl ⟨by rfl, ?yaL1_7⟩) hH0 ?raL1_7
    case yaL1_7 => (intro w hSw; (try dsimp only at hSw); go_simp; try (with_reducible rfl))
    try simp only [Act.put, List.setIfInBounds_toArray, List.set_cons_zero, List.set_cons_succ]
    refine wpAnyH_take (i := 8) (oi := { dst := some 43, op := Op.load 4 (Operand.tmp 42), type := 4, pos := _, after := #[{ on := 7, ground := Ground.data }, { on := 16, ground := Ground.gcOnly Departure.lateStores }], guard := none }) (v := ?vaL1_8) rfl (by kernel_rfl) (by kernel_rfl) (by kernel_rfl) (fun _ _ _ h => h) (Or.inl ⟨by rfl, ?yaL1_8⟩) hH0 ?raL1_8
    case yaL1_8 => (intro w hSw; (try dsimp only at hSw); go_simp; try (with_reducible rfl))
    try simp only [Act.put, List.setIfInBounds_toArray, List.set_cons_zero, List.set_cons_succ]
    refine wpAnyH_take (i := 9) (oi := { dst := some 44, op := Op.fieldAddr 70 (Operand.tmp 1) 1, type := 0, pos := _, after := #[], guard := none }) (v := ?vaL1_9) rfl (by kernel_rfl) (by kernel_rfl) (by kernel_rfl) (fun _ _ _ h => h) (Or.inl ⟨by rfl, ?yaL1_9⟩) hH0 ?raL1_9
    case yaL1_9 => (intro w hSw; (try dsimp only at hSw); go_simp; try (with_reducible rfl))
    try simp only [Act.put, List.setIfInBounds_toArray, List.set_cons_zero, List.set_cons_succ]
    refine wpAnyH_take (i := 10) (oi := { dst := some 45, op := Op.load 62 (Operand.tmp 44), type := 62, pos := _, after := #[{ on := 9, ground := Ground.data }], guard := none }) (v := ?vaL1_10) rfl (by kernel_rfl) (by kernel_rfl) (by kernel_rfl) (fun _ _ _ h => h) (Or.inl ⟨by rfl, ?yaL1_10⟩) hH0 ?raL1_10
    case yaL1_10 => (intro w hSw; (try dsimp only at hSw); go_simp; try (with_reducible rfl))
    try simp only [Act.put, List.setIfInBounds_toArray, List.set_cons_zero, List.set_cons_succ]
    refine wpAnyH_take (i := 11) (oi := { dst := some 46, op := Op.move (Operand.tmp 6), type := 3, pos := _, after := #[], guard := none }) (v := ?vaL1_11) rfl (by kernel_rfl) (by kernel_rfl) (by kernel_rfl) (fun _ _ _ h => h) (Or.inl ⟨by rfl, ?yaL1_11⟩) hH0 ?raL1_11
    case yaL1_11 => (intro w hSw; (try dsimp only at hSw); go_simp; try (with_reducible rfl))
    try simp only [Act.put, List.setIfInBounds_toArray, List.set_cons_zero, List.set_cons_succ]
    refine wpAnyH_take (i := 12) (oi := { dst := some 47, op := Op.slice 62 (Operand.tmp 45) (some (Operand.tmp 46)) none none, type := 62, pos := _, after := #[{ on := 10, ground := Ground.data }, { on := 11, ground := Ground.data }], guard := none }) (v := ?vaL1_12) rfl (by kernel_rfl) (by kernel_rfl) (by kernel_rfl) (fun _ _ _ h => h) (Or.inl ⟨by rfl, ?yaL1_12⟩) hH0 ?raL1_12
    case yaL1_12 => (intro w hSw; (try dsimp only at hSw); go_simp; try (with_reducible rfl))
    try simp only [Act.put, List.setIfInBounds_toArray, List.set_cons_zero, List.set_cons_succ]
    refine wpAnyH_take (i := 13) (oi := { dst := some 48, op := Op.build 70 #[(0, Operand.tmp 43), (1, Operand.tmp 47)], type := 70, pos := _, after := #[{ on := 8, ground := Ground.data }, { on := 12, ground := Ground.data }, { on := 16, ground := Ground.gcOnly Departure.lateStores }], guard := none }) (v := ?vaL1_13) rfl (by kernel_rfl) (by kernel_rfl) (by kernel_rfl) (fun _ _ _ h => h) (Or.inl ⟨by rfl, ?yaL1_13⟩) hH0 ?raL1_13
    case yaL1_13 => (intro w hSw; (try dsimp only at hSw); go_simp; try (with_reducible rfl))
    try simp only [Act.put, List.setIfInBounds_toArray, List.set_cons_zero, List.set_cons_succ]
    refine wpAnyH_ready (rs := [14, 15]) (by kernel_rfl) (by simp) ?_
    refine (AllReadyH.cons (o := { dst := some 7, op := Op.alloc 70, type := 0, pos := _, after := #[], guard := none }) rfl (fun K hK => ?_) (AllReadyH.cons (o := { dst := some 8, op := Op.alloc 70, type := 0, pos := _, after := #[], guard := none }) rfl (fun K hK => ?_) AllReadyH.nil))
    · go_simp
      have ba2 := below_alloc yd (.cells ndZ 70)
      have BX2 := Lib.hid ((ba2.block _ (lt_of_heap BXd.out)).trans BXd.out)
      have N2 : Hid ((yd.alloc (.cells ndZ 70)).heap[x1.heap.size]? = some (.cells ndZ 70 (0, 0))) := Lib.hid (by have := heap_alloc_new yd (.cells ndZ 70); rw [hds] at this; exact this)
      have BL2 := Lib.hid (HBd.out.trans (ba2.mono HBd.out.size))
      have sz2 : (yd.alloc (.cells ndZ 70)).heap.size = x1.heap.size + 1 := by simp [hds]
      clear ba2
      refine hK.out _ _ (nd4 BX2.out trivial) (fun hH2 => ?_)
      clear hK K
      try simp only [Act.put, List.setIfInBounds_toArray, List.set_cons_zero, List.set_cons_succ]
      generalize yd.alloc (.cells ndZ 70) = x2 at *
      refine wpAnyH_ready (rs := [15]) (by kernel_rfl) (by simp) ?_
      refine (AllReadyH.cons (o := { dst := some 8, op := Op.alloc 70, type := 0, pos := _, after := #[], guard := none }) rfl (fun K hK => ?_) AllReadyH.nil)
      go_simp
      have ba4 := below_alloc x2 (.cells ndZ 70)
      have BX4 := Lib.hid ((ba4.block _ (lt_of_heap BX2.out)).trans BX2.out)
      have N4 : Hid ((x2.alloc (.cells ndZ 70)).heap[x1.heap.size + 1]? = some (.cells ndZ 70 (0, 0))) := Lib.hid (by have := heap_alloc_new x2 (.cells ndZ 70); rw [sz2] at this; exact this)
      have BL4 := Lib.hid (BL2.out.trans (ba4.mono BL2.out.size))
      have sz4 : (x2.alloc (.cells ndZ 70)).heap.size = x1.heap.size + 1 + 1 := by simp [sz2]
      have O4 := Lib.hid ((ba4.block _ (lt_of_heap N2.out)).trans N2.out)
      clear ba4
      refine hK.out _ _ (nd4 BX4.out trivial) (fun hH4 => ?_)
      clear hK K
      try simp only [Act.put, List.setIfInBounds_toArray, List.set_cons_zero, List.set_cons_succ]
      generalize x2.alloc (.cells ndZ 70) = x4 at *
      refine wpAnyH_ready (rs := [16]) (by kernel_rfl) (by simp) ?_
      refine (AllReadyH.cons (o := { dst := none, op := Op.store 70 (Operand.tmp 7) (Operand.tmp 41), type := 0, pos := _, after := #[{ on := 14, ground := Ground.data }, { on := 6, ground := Ground.data }, { on := 0, ground := Ground.phase }, { on := 1, ground := Ground.phase }, { on := 2, ground := Ground.phase }, { on := 3, ground := Ground.phase }, { on := 4, ground := Ground.phase }, { on := 5, ground := Ground.phase }, { on := 6, ground := Ground.phase }, { on := 7, ground := Ground.textOnly Departure.lateStores }, { on := 8, ground := Ground.textOnly Departure.lateStores }, { on := 9, ground := Ground.textOnly Departure.lateStores }, { on := 10, ground := Ground.textOnly Departure.lateStores }, { on := 11, ground := Ground.textOnly Departure.lateStores }, { on := 12, ground := Ground.textOnly Departure.lateStoresUnsure }, { on := 13, ground := Ground.textOnly Departure.lateStores }, { on := 14, ground := Ground.phase }, { on := 15, ground := Ground.phase }], guard := none }) rfl (fun K hK => ?_) AllReadyH.nil)
      have zz6 := BL4.out.size
      have z6_0 := rc_cell 0 (.bool false) O4.out rfl; have y6_0 := two_frozen (i := 0) O4.out
      have z6_1 := rc_cell 1 (.slice none 0 0) O4.out rfl; have y6_1 := two_frozen (i := 1) O4.out
      have z6_2 := rc_cell 2 (.slice none 0 0) O4.out rfl; have y6_2 := two_frozen (i := 2) O4.out
      have z6_3 := rc_cell 3 (.slice none 0 0) O4.out rfl; have y6_3 := two_frozen (i := 3) O4.out
      have HZ6 := Lib.hid (set4 x4 (x1.heap.size) (.bool true) (.slice (some ⟨b, off, none⟩) i cK) (.slice none 0 0) (.slice none 0 0) O4.out)
      have BX6 := Lib.hid ((HZ6.out.2.block w.heap.size (lt_of_heap BX4.out) (by intro e; injection e with e; omega)).trans BX4.out)
      have O6 := Lib.hid ((HZ6.out.2.block (x1.heap.size + 1) (lt_of_heap N4.out) (by intro e; injection e with e; omega)).trans N4.out)
      have BL6 := Lib.hid (BL4.out.trans ((HZ6.out.2.below (Nat.le_of_lt (lt_of_heap O4.out))).mono (by omega)))
      have N6 := Lib.hid HZ6.out.1
      go_simp
      refine hK.out _ _ (nd4 BX6.out trivial) (fun hH6 => ?_)
      clear hK K
      try simp only [Act.put, List.setIfInBounds_toArray, List.set_cons_zero, List.set_cons_succ]
      clear HZ6 z6_0 y6_0 z6_1 y6_1 z6_2 y6_2 z6_3 y6_3
      generalize ((((x4.setCell ⟨x1.heap.size, 0, none⟩ (.bool true)).setCell ⟨x1.heap.size, 1, none⟩ (.slice (some ⟨b, off, none⟩) i cK)).setCell ⟨x1.heap.size, 2, none⟩ (.slice none 0 0)).setCell ⟨x1.heap.size, 3, none⟩ (.slice none 0 0)) = s6 at *
      refine wpAnyH_ready (rs := [17]) (by kernel_rfl) (by simp) ?_
      refine (AllReadyH.cons (o := { dst := none, op := Op.store 70 (Operand.tmp 8) (Operand.tmp 48), type := 0, pos := _, after := #[{ on := 15, ground := Ground.data }, { on := 13, ground := Ground.data }, { on := 16, ground := Ground.chain }, { on := 0, ground := Ground.phase }, { on := 1, ground := Ground.phase }, { on := 2, ground := Ground.phase }, { on := 3, ground := Ground.phase }, { on := 4, ground := Ground.phase }, { on := 5, ground := Ground.phase }, { on := 6, ground := Ground.phase }, { on := 7, ground := Ground.phase }, { on := 8, ground := Ground.phase }, { on := 9, ground := Ground.phase }, { on := 10, ground := Ground.phase }, { on := 11, ground := Ground.phase }, { on := 12, ground := Ground.phase }, { on := 13, ground := Ground.phase }, { on := 14, ground := Ground.phase }, { on := 15, ground := Ground.phase }, { on := 16, ground := Ground.phase }], guard := none }) rfl (fun K hK => ?_) AllReadyH.nil)
      have zz8 := BL6.out.size
      have z8_0 := rc_cell 0 (.bool false) O6.out rfl; have y8_0 := two_frozen (i := 0) O6.out
      have z8_1 := rc_cell 1 (.slice none 0 0) O6.out rfl; have y8_1 := two_frozen (i := 1) O6.out
      have z8_2 := rc_cell 2 (.slice none 0 0) O6.out rfl; have y8_2 := two_frozen (i := 2) O6.out
      have z8_3 := rc_cell 3 (.slice none 0 0) O6.out rfl; have y8_3 := two_frozen (i := 3) O6.out
      have HZ8 := Lib.hid (set4 s6 (x1.heap.size + 1) (.bool true) (.slice (cutA (some ⟨b, off, none⟩) cK i) (nK - i) (cK - i)) (.slice none 0 0) (.slice none 0 0) O6.out)
      have BX8 := Lib.hid ((HZ8.out.2.block w.heap.size (lt_of_heap BX6.out) (by intro e; injection e with e; omega)).trans BX6.out)
      have O8 := Lib.hid ((HZ8.out.2.block (x1.heap.size) (lt_of_heap N6.out) (by intro e; injection e with e; omega)).trans N6.out)
      have BL8 := Lib.hid (BL6.out.trans ((HZ8.out.2.below (Nat.le_of_lt (lt_of_heap O6.out))).mono (by omega)))
      have N8 := Lib.hid HZ8.out.1
      go_simp
      refine hK.out _ _ (nd4 BX8.out trivial) (fun hH8 => ?_)
      clear hK K
      try simp only [Act.put, List.setIfInBounds_toArray, List.set_cons_zero, List.set_cons_succ]
      clear HZ8 z8_0 y8_0 z8_1 y8_1 z8_2 y8_2 z8_3 y8_3
      generalize ((((s6.setCell ⟨x1.heap.size + 1, 0, none⟩ (.bool true)).setCell ⟨x1.heap.size + 1, 1, none⟩ (.slice (cutA (some ⟨b, off, none⟩) cK i) (nK - i) (cK - i))).setCell ⟨x1.heap.size + 1, 2, none⟩ (.slice none 0 0)).setCell ⟨x1.heap.size + 1, 3, none⟩ (.slice none 0 0)) = s8 at *
      refine wpAnyH_done (by kernel_rfl) ?_ _
      go_wp2_with fail
      go_meet
      case rel => exact ⟨x1.heap.size, x1.heap.size + 1, rfl, rfl, by omega, by omega, by omega, O8, N8, BL8⟩
    · go_simp
      have ba10 := below_alloc yd (.cells ndZ 70)
      have BX10 := Lib.hid ((ba10.block _ (lt_of_heap BXd.out)).trans BXd.out)
      have N10 : Hid ((yd.alloc (.cells ndZ 70)).heap[x1.heap.size]? = some (.cells ndZ 70 (0, 0))) := Lib.hid (by have := heap_alloc_new yd (.cells ndZ 70); rw [hds] at this; exact this)
      have BL10 := Lib.hid (HBd.out.trans (ba10.mono HBd.out.size))
      have sz10 : (yd.alloc (.cells ndZ 70)).heap.size = x1.heap.size + 1 := by simp [hds]
      clear ba10
      refine hK.out _ _ (nd4 BX10.out trivial) (fun hH10 => ?_)
      clear hK K
      try simp only [Act.put, List.setIfInBounds_toArray, List.set_cons_zero, List.set_cons_succ]
      generalize yd.alloc (.cells ndZ 70) = x10 at *
      refine wpAnyH_ready (rs := [14]) (by kernel_rfl) (by simp) ?_
      refine (AllReadyH.cons (o := { dst := some 7, op := Op.alloc 70, type := 0, pos := _, after := #[], guard := none }) rfl (fun K hK => ?_) AllReadyH.nil)
      go_simp
      have ba12 := below_alloc x10 (.cells ndZ 70)
      have BX12 := Lib.hid ((ba12.block _ (lt_of_heap BX10.out)).trans BX10.out)
      have N12 : Hid ((x10.alloc (.cells ndZ 70)).heap[x1.heap.size + 1]? = some (.cells ndZ 70 (0, 0))) := Lib.hid (by have := heap_alloc_new x10 (.cells ndZ 70); rw [sz10] at this; exact this)
      have BL12 := Lib.hid (BL10.out.trans (ba12.mono BL10.out.size))
      have sz12 : (x10.alloc (.cells ndZ 70)).heap.size = x1.heap.size + 1 + 1 := by simp [sz10]
      have O12 := Lib.hid ((ba12.block _ (lt_of_heap N10.out)).trans N10.out)
      clear ba12
      refine hK.out _ _ (nd4 BX12.out trivial) (fun hH12 => ?_)
      clear hK K
      try simp only [Act.put, List.setIfInBounds_toArray, List.set_cons_zero, List.set_cons_succ]
      generalize x10.alloc (.cells ndZ 70) = x12 at *
      refine wpAnyH_ready (rs := [16]) (by kernel_rfl) (by simp) ?_
      refine (AllReadyH.cons (o := { dst := none, op := Op.store 70 (Operand.tmp 7) (Operand.tmp 41), type := 0, pos := _, after := #[{ on := 14, ground := Ground.data }, { on := 6, ground := Ground.data }, { on := 0, ground := Ground.phase }, { on := 1, ground := Ground.phase }, { on := 2, ground := Ground.phase }, { on := 3, ground := Ground.phase }, { on := 4, ground := Ground.phase }, { on := 5, ground := Ground.phase }, { on := 6, ground := Ground.phase }, { on := 7, ground := Ground.textOnly Departure.lateStores }, { on := 8, ground := Ground.textOnly Departure.lateStores }, { on := 9, ground := Ground.textOnly Departure.lateStores }, { on := 10, ground := Ground.textOnly Departure.lateStores }, { on := 11, ground := Ground.textOnly Departure.lateStores }, { on := 12, ground := Ground.textOnly Departure.lateStoresUnsure }, { on := 13, ground := Ground.textOnly Departure.lateStores }, { on := 14, ground := Ground.phase }, { on := 15, ground := Ground.phase }], guard := none }) rfl (fun K hK => ?_) AllReadyH.nil)
      have zz14 := BL12.out.size
      have z14_0 := rc_cell 0 (.bool false) N12.out rfl; have y14_0 := two_frozen (i := 0) N12.out
      have z14_1 := rc_cell 1 (.slice none 0 0) N12.out rfl; have y14_1 := two_frozen (i := 1) N12.out
      have z14_2 := rc_cell 2 (.slice none 0 0) N12.out rfl; have y14_2 := two_frozen (i := 2) N12.out
      have z14_3 := rc_cell 3 (.slice none 0 0) N12.out rfl; have y14_3 := two_frozen (i := 3) N12.out
      have HZ14 := Lib.hid (set4 x12 (x1.heap.size + 1) (.bool true) (.slice (some ⟨b, off, none⟩) i cK) (.slice none 0 0) (.slice none 0 0) N12.out)
      have BX14 := Lib.hid ((HZ14.out.2.block w.heap.size (lt_of_heap BX12.out) (by intro e; injection e with e; omega)).trans BX12.out)
      have O14 := Lib.hid ((HZ14.out.2.block (x1.heap.size) (lt_of_heap O12.out) (by intro e; injection e with e; omega)).trans O12.out)
      have BL14 := Lib.hid (BL12.out.trans ((HZ14.out.2.below (Nat.le_of_lt (lt_of_heap N12.out))).mono (by omega)))
      have N14 := Lib.hid HZ14.out.1
      go_simp
      refine hK.out _ _ (nd4 BX14.out trivial) (fun hH14 => ?_)
      clear hK K
      try simp only [Act.put, List.setIfInBounds_toArray, List.set_cons_zero, List.set_cons_succ]
      clear HZ14 z14_0 y14_0 z14_1 y14_1 z14_2 y14_2 z14_3 y14_3
      generalize ((((x12.setCell ⟨x1.heap.size + 1, 0, none⟩ (.bool true)).setCell ⟨x1.heap.size + 1, 1, none⟩ (.slice (some ⟨b, off, none⟩) i cK)).setCell ⟨x1.heap.size + 1, 2, none⟩ (.slice none 0 0)).setCell ⟨x1.heap.size + 1, 3, none⟩ (.slice none 0 0)) = s14 at *
      refine wpAnyH_ready (rs := [17]) (by kernel_rfl) (by simp) ?_
      refine (AllReadyH.cons (o := { dst := none, op := Op.store 70 (Operand.tmp 8) (Operand.tmp 48), type := 0, pos := _, after := #[{ on := 15, ground := Ground.data }, { on := 13, ground := Ground.data }, { on := 16, ground := Ground.chain }, { on := 0, ground := Ground.phase }, { on := 1, ground := Ground.phase }, { on := 2, ground := Ground.phase }, { on := 3, ground := Ground.phase }, { on := 4, ground := Ground.phase }, { on := 5, ground := Ground.phase }, { on := 6, ground := Ground.phase }, { on := 7, ground := Ground.phase }, { on := 8, ground := Ground.phase }, { on := 9, ground := Ground.phase }, { on := 10, ground := Ground.phase }, { on := 11, ground := Ground.phase }, { on := 12, ground := Ground.phase }, { on := 13, ground := Ground.phase }, { on := 14, ground := Ground.phase }, { on := 15, ground := Ground.phase }, { on := 16, ground := Ground.phase }], guard := none }) rfl (fun K hK => ?_) AllReadyH.nil)
      have zz16 := BL14.out.size
      have z16_0 := rc_cell 0 (.bool false) O14.out rfl; have y16_0 := two_frozen (i := 0) O14.out
      have z16_1 := rc_cell 1 (.slice none 0 0) O14.out rfl; have y16_1 := two_frozen (i := 1) O14.out
      have z16_2 := rc_cell 2 (.slice none 0 0) O14.out rfl; have y16_2 := two_frozen (i := 2) O14.out
      have z16_3 := rc_cell 3 (.slice none 0 0) O14.out rfl; have y16_3 := two_frozen (i := 3) O14.out
      have HZ16 := Lib.hid (set4 s14 (x1.heap.size) (.bool true) (.slice (cutA (some ⟨b, off, none⟩) cK i) (nK - i) (cK - i)) (.slice none 0 0) (.slice none 0 0) O14.out)
      have BX16 := Lib.hid ((HZ16.out.2.block w.heap.size (lt_of_heap BX14.out) (by intro e; injection e with e; omega)).trans BX14.out)
      have O16 := Lib.hid ((HZ16.out.2.block (x1.heap.size + 1) (lt_of_heap N14.out) (by intro e; injection e with e; omega)).trans N14.out)
      have BL16 := Lib.hid (BL14.out.trans ((HZ16.out.2.below (Nat.le_of_lt (lt_of_heap O14.out))).mono (by omega)))
      have N16 := Lib.hid HZ16.out.1
      go_simp
      refine hK.out _ _ (nd4 BX16.out trivial) (fun hH16 => ?_)
      clear hK K
      try simp only [Act.put, List.setIfInBounds_toArray, List.set_cons_zero, List.set_cons_succ]
      clear HZ16 z16_0 y16_0 z16_1 y16_1 z16_2 y16_2 z16_3 y16_3
      generalize ((((s14.setCell ⟨x1.heap.size, 0, none⟩ (.bool true)).setCell ⟨x1.heap.size, 1, none⟩ (.slice (cutA (some ⟨b, off, none⟩) cK i) (nK - i) (cK - i))).setCell ⟨x1.heap.size, 2, none⟩ (.slice none 0 0)).setCell ⟨x1.heap.size, 3, none⟩ (.slice none 0 0)) = s16 at *
      refine wpAnyH_done (by kernel_rfl) ?_ _
      go_wp2_with fail
      go_meet
      case rel => exact ⟨x1.heap.size + 1, x1.heap.size, rfl, rfl, by omega, by omega, by omega, O16, N16, BL16⟩
  obtain ⟨g7, g8, rfl, rfl, hne, h7, h8, H7, H8, HBC⟩ := hcut
  have hsc := HBC.out.size
  have BX2 := Lib.hid ((HBC.out.block _ (lt_of_heap BX1.out)).trans BX1.out)
  have RA2 := Lib.hid ((HBC.out.block _ (lt_of_heap RA1.out)).trans RA1.out)
  have RB2 := Lib.hid ((HBC.out.block _ (lt_of_heap RB1.out)).trans RB1.out)
  have HB2 := Lib.hid (HB1.out.trans (HBC.out.mono HB1.out.size))
  clear BX1 RA1 RB1 HB1 HBC s1 s2
  have hD0 := HDD.out
  subst hD0
  have q0 := rc_cell 0 (.bool true) BX2.out rfl; have q1 := rc_cell 1 (.slice (some ⟨b, off, none⟩) nK cK) BX2.out rfl; have q2 := rc_cell 2 (.slice AV nV cV) BX2.out rfl; have q3 := rc_cell 3 (.slice AD 0 cD) BX2.out rfl
  go_wp2_with fail
  clear q0 q1 q2 q3
  refine (parted62_any AV nV cV i _ (by have := HVD.out; omega) hVc (by omega)).mono ?_
  rintro e w3 ⟨rfl, qa, rfl⟩
  have K7 : Hid ((wc.drewN qa).heap[g7]? = some (.cells #[.bool true, .slice (some ⟨b, off, none⟩) i cK, .slice none 0 0, .slice none 0 0] 70 (0, 0))) := H7; have K8 : Hid ((wc.drewN qa).heap[g8]? = some (.cells #[.bool true, .slice (cutA (some ⟨b, off, none⟩) cK i) (nK - i) (cK - i), .slice none 0 0, .slice none 0 0] 70 (0, 0))) := H8
  have f7 := two_frozen (i := 2) K7.out
  have c7 := rc_cell 2 (.slice none 0 0) K7.out rfl
  have M7 := rc_set (cs' := #[.bool true, .slice (some ⟨b, off, none⟩) i cK, .slice AV i cV, .slice none 0 0]) 2 (.slice AV i cV) K7.out rfl
  have o7 := onl_set (wc.drewN qa) g7 2 (.slice AV i cV)
  have M8 := (o7.block g8 (lt_of_heap K8.out) (by intro e; injection e with e; omega)).trans K8.out
  have f8 := two_frozen (i := 2) M8; have c8 := rc_cell 2 (.slice none 0 0) M8 rfl
  have P8 := rc_set (cs' := #[.bool true, .slice (cutA (some ⟨b, off, none⟩) cK i) (nK - i) (cK - i), .slice (cutA AV cV i) (nV - i) (cV - i), .slice none 0 0]) 2 (.slice (cutA AV cV i) (nV - i) (cV - i)) M8 rfl
  have o8 := onl_set ((wc.drewN qa).setCell ⟨g7, 2, none⟩ (.slice AV i cV)) g8 2 (.slice (cutA AV cV i) (nV - i) (cV - i))
  have P7 := (o8.block g7 (lt_of_heap M7) (by intro e; injection e with e; omega)).trans M7
  have OO := (On2.left (g2 := g8) o7).trans (On2.right (g1 := g7) o8)
  have HD : Hid (On2 g7 g8 wc (wc.drewN qa)) := Lib.hid (On2.dr ⟨qa, rfl⟩)
  have OT := HD.out.trans OO
  have BX3 := Lib.hid ((OT.block w.heap.size (lt_of_heap BX2.out) (by omega) (by omega)).trans BX2.out)
  have RA3 := Lib.hid ((OT.block (w.heap.size + 1) (lt_of_heap RA2.out) (by omega) (by omega)).trans RA2.out)
  have RB3 := Lib.hid ((OT.block (w.heap.size + 1 + 1) (lt_of_heap RB2.out) (by omega) (by omega)).trans RB2.out)
  have HB3 := Lib.hid (HB2.out.trans (OT.below (B := w.heap.size) (by omega) (by omega) (by have := HB2.out.size; omega)))
  have Q7 := Lib.hid P7; have Q8 := Lib.hid P8
  have ZZ := Lib.hid OT.size
  clear K7 K8 M7 M8 P7 P8 o7 o8 OO HD OT
  have hZ3 := ZZ.out; clear ZZ H7 H8 BX2 RA2 RB2
  have q0 := rc_cell 0 (.bool true) BX3.out rfl; have q1 := rc_cell 1 (.slice (some ⟨b, off, none⟩) nK cK) BX3.out rfl; have q2 := rc_cell 2 (.slice AV nV cV) BX3.out rfl; have q3 := rc_cell 3 (.slice AD 0 cD) BX3.out rfl
  go_wp2_with fail
  clear q0 q1 q2 q3 f7 c7 f8 c8
  generalize (((wc.drewN qa).setCell ⟨g7, 2, none⟩ (.slice AV i cV)).setCell ⟨g8, 2, none⟩ (.slice (cutA AV cV i) (nV - i) (cV - i))) = y8 at *
  refine (parted27_zis AD cD (i + 1) _ (by omega) _ (by omega)).mono ?_
  rintro e w4 ⟨rfl, qb, rfl⟩
  have K7 : Hid ((y8.drewN qb).heap[g7]? = some (.cells #[.bool true, .slice (some ⟨b, off, none⟩) i cK, .slice AV i cV, .slice none 0 0] 70 (0, 0))) := Q7; have K8 : Hid ((y8.drewN qb).heap[g8]? = some (.cells #[.bool true, .slice (cutA (some ⟨b, off, none⟩) cK i) (nK - i) (cK - i), .slice (cutA AV cV i) (nV - i) (cV - i), .slice none 0 0] 70 (0, 0))) := Q8
  have f7 := two_frozen (i := 3) K7.out
  have c7 := rc_cell 3 (.slice none 0 0) K7.out rfl
  have M7 := rc_set (cs' := #[.bool true, .slice (some ⟨b, off, none⟩) i cK, .slice AV i cV, .slice AD 0 cD]) 3 (.slice AD 0 cD) K7.out rfl
  have o7 := onl_set (y8.drewN qb) g7 3 (.slice AD 0 cD)
  have M8 := (o7.block g8 (lt_of_heap K8.out) (by intro e; injection e with e; omega)).trans K8.out
  have f8 := two_frozen (i := 3) M8; have c8 := rc_cell 3 (.slice none 0 0) M8 rfl
  have P8 := rc_set (cs' := #[.bool true, .slice (cutA (some ⟨b, off, none⟩) cK i) (nK - i) (cK - i), .slice (cutA AV cV i) (nV - i) (cV - i), .slice AD 0 cD]) 3 (.slice AD 0 cD) M8 rfl
  have o8 := onl_set ((y8.drewN qb).setCell ⟨g7, 3, none⟩ (.slice AD 0 cD)) g8 3 (.slice AD 0 cD)
  have P7 := (o8.block g7 (lt_of_heap M7) (by intro e; injection e with e; omega)).trans M7
  have OO := (On2.left (g2 := g8) o7).trans (On2.right (g1 := g7) o8)
  have HD : Hid (On2 g7 g8 y8 (y8.drewN qb)) := Lib.hid (On2.dr ⟨qb, rfl⟩)
  have OT := HD.out.trans OO
  have BX4 := Lib.hid ((OT.block w.heap.size (lt_of_heap BX3.out) (by omega) (by omega)).trans BX3.out)
  have RA4 := Lib.hid ((OT.block (w.heap.size + 1) (lt_of_heap RA3.out) (by omega) (by omega)).trans RA3.out)
  have RB4 := Lib.hid ((OT.block (w.heap.size + 1 + 1) (lt_of_heap RB3.out) (by omega) (by omega)).trans RB3.out)
  have HB4 := Lib.hid (HB3.out.trans (OT.below (B := w.heap.size) (by omega) (by omega) (by have := HB3.out.size; omega)))
  have U7 := Lib.hid P7; have U8 := Lib.hid P8
  have ZZ := Lib.hid OT.size
  clear K7 K8 M7 M8 P7 P8 o7 o8 OO HD OT
  have hZ4 := ZZ.out; clear ZZ Q7 Q8 BX3 RA3 RB3
  go_upto_region 10 with fail
  clear f7 c7 f8 c8
  generalize (((y8.drewN qb).setCell ⟨g7, 3, none⟩ (.slice AD 0 cD)).setCell ⟨g8, 3, none⟩ (.slice AD 0 cD)) = y9 at *
  have BXe : Hid (y9.drew.heap[w.heap.size]? = some (.cells #[.bool true, .slice (some ⟨b, off, none⟩) nK cK, .slice AV nV cV, .slice AD 0 cD] 70 (0, 0))) := BX4
  have RAe : Hid (y9.drew.heap[w.heap.size + 1]? = some (.cells ndZ 70 (0, 0))) := RA4; have RBe : Hid (y9.drew.heap[w.heap.size + 1 + 1]? = some (.cells ndZ 70 (0, 0))) := RB4
  have V7 : Hid (y9.drew.heap[g7]? = some (.cells #[.bool true, .slice (some ⟨b, off, none⟩) i cK, .slice AV i cV, .slice AD 0 cD] 70 (0, 0))) := U7; have V8 : Hid (y9.drew.heap[g8]? = some (.cells #[.bool true, .slice (cutA (some ⟨b, off, none⟩) cK i) (nK - i) (cK - i), .slice (cutA AV cV i) (nV - i) (cV - i), .slice AD 0 cD] 70 (0, 0))) := U8
  have HBe := Lib.hid (HB4.out.trans ((Dr.refl y9).one.below _)); have hse : y9.drew.heap.size = y9.heap.size := rfl
  have HCe := (World.cell?_of_block (a := ⟨b, off + i, none⟩) (HBe.out.block b hbl)).trans hcl
  have z0 : (0 : Int) ≤ (i : Int) := by omega
  have z1 : (i : Int) < (nK : Int) := by omega
  clear BX4 RA4 RB4 U7 U8
  refine wp_region_held_drew (S := fun w' => w'.cell? ⟨g7, 0, none⟩ = some (.bool true) ∧ w'.cell? ⟨g7, 1, none⟩ = some (.slice (some ⟨b, off, none⟩) i cK) ∧ w'.cell? ⟨g7, 2, none⟩ = some (.slice AV i cV) ∧ w'.cell? ⟨g7, 3, none⟩ = some (.slice AD 0 cD) ∧ w'.cell? ⟨g8, 0, none⟩ = some (.bool true) ∧ w'.cell? ⟨g8, 1, none⟩ = some (.slice (cutA (some ⟨b, off, none⟩) cK i) (nK - i) (cK - i)) ∧ w'.cell? ⟨g8, 2, none⟩ = some (.slice (cutA AV cV i) (nV - i) (cV - i)) ∧ w'.cell? ⟨g8, 3, none⟩ = some (.slice AD 0 cD) ∧ w'.cell? ⟨w.heap.size, 1, none⟩ = some (.slice (some ⟨b, off, none⟩) nK cK) ∧ w'.cell? ⟨b, off + i, none⟩ = some (.slice A' n' c')) (by kernel_rfl) (nd4 V7.out (nd4 V8.out ⟨rc_cell 1 _ BXe.out rfl, HCe⟩)) (fun hH0 => ?_)
  generalize y9.drew = ye at *
  refine wpAnyH_take (i := 0) (oi := { dst := some 68, op := Op.load 70 (Operand.tmp 7), type := 70, pos := _, after := #[], guard := none }) (v := ?vbL1_0) rfl (by kernel_rfl) (by kernel_rfl) (by kernel_rfl) (fun _ _ _ h => h) (Or.inl ⟨by rfl, ?ybL1_0⟩) hH0 ?rbL1_0
  case ybL1_0 => (intro w hSw; (try dsimp only at hSw); go_simp; try (with_reducible rfl))
  try simp only [Act.put, List.setIfInBounds_toArray, List.set_cons_zero, List.set_cons_succ]
  refine wpAnyH_take (i := 2) (oi := { dst := some 70, op := Op.fieldAddr 70 (Operand.tmp 1) 1, type := 0, pos := _, after := #[], guard := none }) (v := ?vbL1_2) rfl (by kernel_rfl) (by kernel_rfl) (by kernel_rfl) (fun _ _ _ h => h) (Or.inl ⟨by rfl, ?ybL1_2⟩) hH0 ?rbL1_2
  case ybL1_2 => (intro w hSw; (try dsimp only at hSw); go_simp; try (with_reducible rfl))
  try simp only [Act.put, List.setIfInBounds_toArray, List.set_cons_zero, List.set_cons_succ]
  refine wpAnyH_take (i := 3) (oi := { dst := some 71, op := Op.load 62 (Operand.tmp 70), type := 62, pos := _, after := #[{ on := 2, ground := Ground.data }], guard := none }) (v := ?vbL1_3) rfl (by kernel_rfl) (by kernel_rfl) (by kernel_rfl) (fun _ _ _ h => h) (Or.inl ⟨by rfl, ?ybL1_3⟩) hH0 ?rbL1_3
  case ybL1_3 => (intro w hSw; (try dsimp only at hSw); go_simp; try (with_reducible rfl))
  try simp only [Act.put, List.setIfInBounds_toArray, List.set_cons_zero, List.set_cons_succ]
  refine wpAnyH_take (i := 4) (oi := { dst := some 72, op := Op.move (Operand.tmp 5), type := 3, pos := _, after := #[], guard := none }) (v := ?vbL1_4) rfl (by kernel_rfl) (by kernel_rfl) (by kernel_rfl) (fun _ _ _ h => h) (Or.inl ⟨by rfl, ?ybL1_4⟩) hH0 ?rbL1_4
  case ybL1_4 => (intro w hSw; (try dsimp only at hSw); go_simp; try (with_reducible rfl))
  try simp only [Act.put, List.setIfInBounds_toArray, List.set_cons_zero, List.set_cons_succ]
  refine wpAnyH_take (i := 5) (oi := { dst := some 73, op := Op.indexAddr 62 (Operand.tmp 71) (Operand.tmp 72), type := 0, pos := _, after := #[{ on := 3, ground := Ground.data }, { on := 4, ground := Ground.data }], guard := none }) (v := ?vbL1_5) rfl (by kernel_rfl) (by kernel_rfl) (by kernel_rfl) (fun _ _ _ h => h) (Or.inl ⟨by rfl, ?ybL1_5⟩) hH0 ?rbL1_5
  case ybL1_5 => (intro w hSw; (try dsimp only at hSw); go_simp; try (with_reducible rfl))
  try simp only [Act.put, List.setIfInBounds_toArray, List.set_cons_zero, List.set_cons_succ]
  refine wpAnyH_take (i := 6) (oi := { dst := some 74, op := Op.load 28 (Operand.tmp 73), type := 28, pos := _, after := #[{ on := 5, ground := Ground.data }], guard := none }) (v := ?vbL1_6) rfl (by kernel_rfl) (by kernel_rfl) (by kernel_rfl) (fun _ _ _ h => h) (Or.inl ⟨by rfl, ?ybL1_6⟩) hH0 ?rbL1_6
  case ybL1_6 => (intro w hSw; (try dsimp only at hSw); go_simp; try (with_reducible rfl))
  try simp only [Act.put, List.setIfInBounds_toArray, List.set_cons_zero, List.set_cons_succ]
  refine wpAnyH_take (i := 8) (oi := { dst := some 76, op := Op.load 70 (Operand.tmp 8), type := 70, pos := _, after := #[], guard := none }) (v := ?vbL1_8) rfl (by kernel_rfl) (by kernel_rfl) (by kernel_rfl) (fun _ _ _ h => h) (Or.inl ⟨by rfl, ?ybL1_8⟩) hH0 ?rbL1_8
  case ybL1_8 => (intro w hSw; (try dsimp only at hSw); go_simp; try (with_reducible rfl))
  try simp only [Act.put, List.setIfInBounds_toArray, List.set_cons_zero, List.set_cons_succ]
  refine wpAnyH_ready (rs := [1]) (by kernel_rfl) (by simp) ?_
  refine (AllReadyH.cons (o := { dst := some 69, op := Op.call { callee := Callee.value (Operand.func 92), args := #[Operand.tmp 68], argTypes := #[70] }, type := 70, pos := _, after := #[{ on := 0, ground := Ground.data }], guard := none }) rfl (fun K hK => ?_) AllReadyH.nil)
  go_simp
  refine (copied_any true (some ⟨b, off, none⟩) i cK AV i cV AD 0 cD (ks.take i) (vs.take i) (ds.take 0) _ ((HX.out.keep HBe.out).pre (by omega)) ((HY.out.keep HBe.out).pre (by have := HVD.out; omega)) (Ins.short (HZ.out.keep HBe.out) (by omega)) (HSD.out.short (by omega)) (by omega) (by omega) (by omega) (fun x hx => HMK.out x (List.mem_of_mem_take hx)) (fun x hx => HMV.out x (List.mem_of_mem_take hx))).mono ?_
  rintro e x2 ⟨D1, f1, D2, f2, D3, f3, rfl, p1, p2, p3, hb2⟩
  have PA1 := Lib.hid p1; have PA2 := Lib.hid p2; have PA3 := Lib.hid p3
  clear p1 p2 p3
  have BX_2 := Lib.hid ((hb2.block _ (lt_of_heap BXe.out)).trans BXe.out)
  have RA_2 := Lib.hid ((hb2.block _ (lt_of_heap RAe.out)).trans RAe.out)
  have RB_2 := Lib.hid ((hb2.block _ (lt_of_heap RBe.out)).trans RBe.out)
  have G7_2 := Lib.hid ((hb2.block _ (lt_of_heap V7.out)).trans V7.out)
  have G8_2 := Lib.hid ((hb2.block _ (lt_of_heap V8.out)).trans V8.out)
  have HB_2 := Lib.hid (HBe.out.trans (hb2.mono HBe.out.size))
  have sz_2 := hb2.size
  have HC_2 := (World.cell?_of_block (a := ⟨b, off + i, none⟩) (HB_2.out.block b hbl)).trans hcl
  clear hb2
  go_wp2_with fail
  refine hK.out _ _ (nd4 G7_2.out (nd4 G8_2.out ⟨rc_cell 1 _ BX_2.out rfl, HC_2⟩)) (fun hH2 => ?_)
  clear hK K
  try simp only [Act.put, List.setIfInBounds_toArray, List.set_cons_zero, List.set_cons_succ]
  refine wpAnyH_ready (rs := [7]) (by kernel_rfl) (by simp) ?_
  refine (AllReadyH.cons (o := { dst := some 75, op := Op.call { callee := Callee.value (Operand.func 94), args := #[Operand.tmp 74], argTypes := #[28] }, type := 28, pos := _, after := #[{ on := 6, ground := Ground.data }, { on := 1, ground := Ground.chain }], guard := none }) rfl (fun K hK => ?_) AllReadyH.nil)
  go_simp
  refine (clone_any A' n' c' xs _ (HXS.out.keep HB_2.out) hnb).mono ?_
  rintro e x4 ⟨D4, f4, rfl, p1, hb4⟩
  have PC := Lib.hid p1
  clear p1
  have PA1_4 := Lib.hid (PA1.out.keep hb4)
  have PA2_4 := Lib.hid (PA2.out.keep hb4)
  have PA3_4 := Lib.hid (PA3.out.below hb4 (fun k hk => (PA3.out.lies k hk).2))
  have BX_4 := Lib.hid ((hb4.block _ (lt_of_heap BX_2.out)).trans BX_2.out)
  have RA_4 := Lib.hid ((hb4.block _ (lt_of_heap RA_2.out)).trans RA_2.out)
  have RB_4 := Lib.hid ((hb4.block _ (lt_of_heap RB_2.out)).trans RB_2.out)
  have G7_4 := Lib.hid ((hb4.block _ (lt_of_heap G7_2.out)).trans G7_2.out)
  have G8_4 := Lib.hid ((hb4.block _ (lt_of_heap G8_2.out)).trans G8_2.out)
  have HB_4 := Lib.hid (HB_2.out.trans (hb4.mono HB_2.out.size))
  have sz_4 := hb4.size
  have HC_4 := (World.cell?_of_block (a := ⟨b, off + i, none⟩) (HB_4.out.block b hbl)).trans hcl
  clear hb4
  go_wp2_with fail
  refine hK.out _ _ (nd4 G7_4.out (nd4 G8_4.out ⟨rc_cell 1 _ BX_4.out rfl, HC_4⟩)) (fun hH4 => ?_)
  clear hK K
  try simp only [Act.put, List.setIfInBounds_toArray, List.set_cons_zero, List.set_cons_succ]
  refine wpAnyH_ready (rs := [9]) (by kernel_rfl) (by simp) ?_
  refine (AllReadyH.cons (o := { dst := some 77, op := Op.call { callee := Callee.value (Operand.func 92), args := #[Operand.tmp 76], argTypes := #[70] }, type := 70, pos := _, after := #[{ on := 8, ground := Ground.data }, { on := 7, ground := Ground.chain }], guard := none }) rfl (fun K hK => ?_) AllReadyH.nil)
  go_simp
  refine (copied_any true (cutA (some ⟨b, off, none⟩) cK i) (nK - i) (cK - i) (cutA AV cV i) (nV - i) (cV - i) AD 0 cD (ks.drop i) (vs.drop i) (ds.take 0) _ ((HX.out.keep HB_4.out).cut hKc) ((HY.out.keep HB_4.out).cut hVc) (Ins.short (HZ.out.keep HB_4.out) (by omega)) (HSD.out.short (by omega)) (by omega) (by omega) (by omega) (fun x hx => HMK.out x (List.mem_of_mem_drop hx)) (fun x hx => HMV.out x (List.mem_of_mem_drop hx))).mono ?_
  rintro e x6 ⟨E1, g1, E2, g2, E3, g3, rfl, p1, p2, p3, hb6⟩
  have PB1 := Lib.hid p1; have PB2 := Lib.hid p2; have PB3 := Lib.hid p3
  clear p1 p2 p3
  have PA1_6 := Lib.hid (PA1_4.out.keep hb6)
  have PA2_6 := Lib.hid (PA2_4.out.keep hb6)
  have PA3_6 := Lib.hid (PA3_4.out.below hb6 (fun k hk => (PA3_4.out.lies k hk).2))
  have PC_6 := Lib.hid (PC.out.below hb6 (fun k hk => (PC.out.lies k hk).2))
  have BX_6 := Lib.hid ((hb6.block _ (lt_of_heap BX_4.out)).trans BX_4.out)
  have RA_6 := Lib.hid ((hb6.block _ (lt_of_heap RA_4.out)).trans RA_4.out)
  have RB_6 := Lib.hid ((hb6.block _ (lt_of_heap RB_4.out)).trans RB_4.out)
  have G7_6 := Lib.hid ((hb6.block _ (lt_of_heap G7_4.out)).trans G7_4.out)
  have G8_6 := Lib.hid ((hb6.block _ (lt_of_heap G8_4.out)).trans G8_4.out)
  have HB_6 := Lib.hid (HB_4.out.trans (hb6.mono HB_4.out.size))
  have sz_6 := hb6.size
  have HC_6 := (World.cell?_of_block (a := ⟨b, off + i, none⟩) (HB_6.out.block b hbl)).trans hcl
  clear hb6
  go_wp2_with fail
  refine hK.out _ _ (nd4 G7_6.out (nd4 G8_6.out ⟨rc_cell 1 _ BX_6.out rfl, HC_6⟩)) (fun hH6 => ?_)
  clear hK K
  try simp only [Act.put, List.setIfInBounds_toArray, List.set_cons_zero, List.set_cons_succ]
  refine wpAnyH_ready (rs := [10]) (by kernel_rfl) (by simp) ?_
  refine (AllReadyH.cons (o := { dst := none, op := Op.store 70 (Operand.tmp 2) (Operand.tmp 69), type := 0, pos := _, after := #[{ on := 1, ground := Ground.data }, { on := 9, ground := Ground.chain }, { on := 0, ground := Ground.phase }, { on := 1, ground := Ground.phase }, { on := 2, ground := Ground.textOnly Departure.lateStores }, { on := 3, ground := Ground.textOnly Departure.lateStores }, { on := 4, ground := Ground.textOnly Departure.lateStores }, { on := 5, ground := Ground.textOnly Departure.lateStores }, { on := 6, ground := Ground.textOnly Departure.lateStores }, { on := 7, ground := Ground.textOnly Departure.lateStoresUnsure }, { on := 8, ground := Ground.textOnly Departure.lateStores }, { on := 9, ground := Ground.textOnly Departure.lateStoresUnsure }], guard := none }) rfl (fun K hK => ?_) AllReadyH.nil)
  have z8_0 := rc_cell 0 (.bool false) RA_6.out rfl; have y8_0 := two_frozen (i := 0) RA_6.out
  have z8_1 := rc_cell 1 (.slice none 0 0) RA_6.out rfl; have y8_1 := two_frozen (i := 1) RA_6.out
  have z8_2 := rc_cell 2 (.slice none 0 0) RA_6.out rfl; have y8_2 := two_frozen (i := 2) RA_6.out
  have z8_3 := rc_cell 3 (.slice none 0 0) RA_6.out rfl; have y8_3 := two_frozen (i := 3) RA_6.out
  have HZ8 := Lib.hid (set4 x6 (w.heap.size + 1) (.bool true) (.slice D1 i f1) (.slice D2 i f2) (.slice D3 0 f3) RA_6.out)
  have BX_8 := Lib.hid ((HZ8.out.2.block (w.heap.size) (lt_of_heap BX_6.out) (by intro e; injection e with e; omega)).trans BX_6.out)
  have RB_8 := Lib.hid ((HZ8.out.2.block (w.heap.size + 1 + 1) (lt_of_heap RB_6.out) (by intro e; injection e with e; omega)).trans RB_6.out)
  have G7_8 := Lib.hid ((HZ8.out.2.block (g7) (lt_of_heap G7_6.out) (by intro e; injection e with e; omega)).trans G7_6.out)
  have G8_8 := Lib.hid ((HZ8.out.2.block (g8) (lt_of_heap G8_6.out) (by intro e; injection e with e; omega)).trans G8_6.out)
  have PA1_8 := Lib.hid (PA1_6.out.set HZ8.out.2 RA_6.out (by decide) (by decide))
  have PA2_8 := Lib.hid (PA2_6.out.set HZ8.out.2 RA_6.out (by decide) (by decide))
  have PA3_8 := Lib.hid (PA3_6.out.onl HZ8.out.2 (PA3_6.out.ne_blk RA_6.out (by decide)))
  have PC_8 := Lib.hid (PC_6.out.onl HZ8.out.2 (PC_6.out.ne_blk RA_6.out (by decide)))
  have PB1_8 := Lib.hid (PB1.out.set HZ8.out.2 RA_6.out (by decide) (by decide))
  have PB2_8 := Lib.hid (PB2.out.set HZ8.out.2 RA_6.out (by decide) (by decide))
  have PB3_8 := Lib.hid (PB3.out.onl HZ8.out.2 (PB3.out.ne_blk RA_6.out (by decide)))
  have HB_8 := Lib.hid (HB_6.out.trans ((HZ8.out.2.below (Nat.le_of_lt (lt_of_heap RA_6.out))).mono (by omega)))
  have HC_8 := (World.cell?_of_block (a := ⟨b, off + i, none⟩) (HB_8.out.block b hbl)).trans hcl
  have N8 := Lib.hid HZ8.out.1
  go_simp
  refine hK.out _ _ (nd4 G7_8.out (nd4 G8_8.out ⟨rc_cell 1 _ BX_8.out rfl, HC_8⟩)) (fun hH8 => ?_)
  clear hK K
  try simp only [Act.put, List.setIfInBounds_toArray, List.set_cons_zero, List.set_cons_succ]
  clear HZ8 z8_0 y8_0 z8_1 y8_1 z8_2 y8_2 z8_3 y8_3
  generalize ((((x6.setCell ⟨w.heap.size + 1, 0, none⟩ (.bool true)).setCell ⟨w.heap.size + 1, 1, none⟩ (.slice D1 i f1)).setCell ⟨w.heap.size + 1, 2, none⟩ (.slice D2 i f2)).setCell ⟨w.heap.size + 1, 3, none⟩ (.slice D3 0 f3)) = s8 at *
  refine wpAnyH_take (i := 11) (oi := { dst := some 3, op := Op.assign (Operand.tmp 75), type := 28, pos := _, after := #[{ on := 7, ground := Ground.data }, { on := 10, ground := Ground.chain }, { on := 0, ground := Ground.phase }, { on := 1, ground := Ground.phase }, { on := 2, ground := Ground.phase }, { on := 3, ground := Ground.phase }, { on := 4, ground := Ground.phase }, { on := 5, ground := Ground.phase }, { on := 6, ground := Ground.phase }, { on := 7, ground := Ground.phase }, { on := 8, ground := Ground.textOnly Departure.lateStores }, { on := 9, ground := Ground.textOnly Departure.lateStoresUnsure }, { on := 10, ground := Ground.phase }], guard := none }) (v := ?vbL9_11) rfl (by kernel_rfl) (by kernel_rfl) (by kernel_rfl) (fun _ _ _ h => h) (Or.inl ⟨by rfl, ?ybL9_11⟩) hH8 ?rbL9_11
  case ybL9_11 => (intro w hSw; (try dsimp only at hSw); go_simp; try (with_reducible rfl))
  try simp only [Act.put, List.setIfInBounds_toArray, List.set_cons_zero, List.set_cons_succ]
  refine wpAnyH_ready (rs := [12]) (by kernel_rfl) (by simp) ?_
  refine (AllReadyH.cons (o := { dst := none, op := Op.store 70 (Operand.tmp 4) (Operand.tmp 77), type := 0, pos := _, after := #[{ on := 9, ground := Ground.data }, { on := 11, ground := Ground.chain }, { on := 0, ground := Ground.phase }, { on := 1, ground := Ground.phase }, { on := 2, ground := Ground.phase }, { on := 3, ground := Ground.phase }, { on := 4, ground := Ground.phase }, { on := 5, ground := Ground.phase }, { on := 6, ground := Ground.phase }, { on := 7, ground := Ground.phase }, { on := 8, ground := Ground.phase }, { on := 9, ground := Ground.phase }, { on := 10, ground := Ground.phase }, { on := 11, ground := Ground.phase }], guard := none }) rfl (fun K hK => ?_) AllReadyH.nil)
  have z10_0 := rc_cell 0 (.bool false) RB_8.out rfl; have y10_0 := two_frozen (i := 0) RB_8.out
  have z10_1 := rc_cell 1 (.slice none 0 0) RB_8.out rfl; have y10_1 := two_frozen (i := 1) RB_8.out
  have z10_2 := rc_cell 2 (.slice none 0 0) RB_8.out rfl; have y10_2 := two_frozen (i := 2) RB_8.out
  have z10_3 := rc_cell 3 (.slice none 0 0) RB_8.out rfl; have y10_3 := two_frozen (i := 3) RB_8.out
  have HZ10 := Lib.hid (set4 s8 (w.heap.size + 1 + 1) (.bool true) (.slice E1 (nK - i) g1) (.slice E2 (nV - i) g2) (.slice E3 0 g3) RB_8.out)
  have BX_10 := Lib.hid ((HZ10.out.2.block (w.heap.size) (lt_of_heap BX_8.out) (by intro e; injection e with e; omega)).trans BX_8.out)
  have RA_10 := Lib.hid ((HZ10.out.2.block (w.heap.size + 1) (lt_of_heap N8.out) (by intro e; injection e with e; omega)).trans N8.out)
  have G7_10 := Lib.hid ((HZ10.out.2.block (g7) (lt_of_heap G7_8.out) (by intro e; injection e with e; omega)).trans G7_8.out)
  have G8_10 := Lib.hid ((HZ10.out.2.block (g8) (lt_of_heap G8_8.out) (by intro e; injection e with e; omega)).trans G8_8.out)
  have PA1_10 := Lib.hid (PA1_8.out.set HZ10.out.2 RB_8.out (by decide) (by decide))
  have PA2_10 := Lib.hid (PA2_8.out.set HZ10.out.2 RB_8.out (by decide) (by decide))
  have PA3_10 := Lib.hid (PA3_8.out.onl HZ10.out.2 (PA3_8.out.ne_blk RB_8.out (by decide)))
  have PC_10 := Lib.hid (PC_8.out.onl HZ10.out.2 (PC_8.out.ne_blk RB_8.out (by decide)))
  have PB1_10 := Lib.hid (PB1_8.out.set HZ10.out.2 RB_8.out (by decide) (by decide))
  have PB2_10 := Lib.hid (PB2_8.out.set HZ10.out.2 RB_8.out (by decide) (by decide))
  have PB3_10 := Lib.hid (PB3_8.out.onl HZ10.out.2 (PB3_8.out.ne_blk RB_8.out (by decide)))
  have HB_10 := Lib.hid (HB_8.out.trans ((HZ10.out.2.below (Nat.le_of_lt (lt_of_heap RB_8.out))).mono (by omega)))
  have HC_10 := (World.cell?_of_block (a := ⟨b, off + i, none⟩) (HB_10.out.block b hbl)).trans hcl
  have N10 := Lib.hid HZ10.out.1
  go_simp
  refine hK.out _ _ (nd4 G7_10.out (nd4 G8_10.out ⟨rc_cell 1 _ BX_10.out rfl, HC_10⟩)) (fun hH10 => ?_)
  clear hK K
  try simp only [Act.put, List.setIfInBounds_toArray, List.set_cons_zero, List.set_cons_succ]
  clear HZ10 z10_0 y10_0 z10_1 y10_1 z10_2 y10_2 z10_3 y10_3
  generalize ((((s8.setCell ⟨w.heap.size + 1 + 1, 0, none⟩ (.bool true)).setCell ⟨w.heap.size + 1 + 1, 1, none⟩ (.slice E1 (nK - i) g1)).setCell ⟨w.heap.size + 1 + 1, 2, none⟩ (.slice E2 (nV - i) g2)).setCell ⟨w.heap.size + 1 + 1, 3, none⟩ (.slice E3 0 g3)) = s10 at *
  refine wpAnyH_done (by kernel_rfl) ?_ _
  have e0 := rc_cell 0 (.bool true) RA_10.out rfl
  have e1 := rc_cell 1 (.slice D1 i f1) RA_10.out rfl
  have e2 := rc_cell 2 (.slice D2 i f2) RA_10.out rfl
  have e3 := rc_cell 3 (.slice D3 0 f3) RA_10.out rfl
  have h0 := rc_cell 0 (.bool true) N10.out rfl
  have h1 := rc_cell 1 (.slice E1 (nK - i) g1) N10.out rfl
  have h2 := rc_cell 2 (.slice E2 (nV - i) g2) N10.out rfl
  have h3 := rc_cell 3 (.slice E3 0 g3) N10.out rfl
  have ZPA1 := Lib.hid PA1_10.out.bss
  have ZPA2 := Lib.hid PA2_10.out.bss
  have ZPA3 := Lib.hid (Ins.own PA3_10.out (fun x hx => HZ.out.2 x (List.mem_of_mem_take hx)))
  have ZPC := Lib.hid (PC_10.out.bs HXS.out.2)
  have ZPB1 := Lib.hid PB1_10.out.bss
  have ZPB2 := Lib.hid PB2_10.out.bss
  have ZPB3 := Lib.hid (Ins.own PB3_10.out (fun x hx => HZ.out.2 x (List.mem_of_mem_take hx)))
  have hvl := HLV.out; have hdl := HLD.out
  have hd0 : ds = [] := List.eq_nil_of_length_eq_zero hdl
  go_wp2
  refine bodyPost_ret (v := .tuple #[.agg #[.bool true, .slice D1 i f1, .slice D2 i f2, .slice D3 0 f3], .slice D4 n' f4, .agg #[.bool true, .slice E1 (nK - i) g1, .slice E2 (nV - i) g2, .slice E3 0 g3]]) (by simp [results, Try.f48, go_sem, Try.isAgg70, Try.sizeOf70, e0, e1, e2, e3, h0, h1, h2, h3]) rfl ⟨i, D1, f1, D2, f2, D3, f3, D4, xs, f4, E1, g1, E2, g2, E3, g3, by rw [HNL.out], HI.out.symm, HXK.out, by rw [HNL.out]; exact ZPC.out, ZPA1.out, ZPA2.out, by have := ZPA3.out; subst hd0; simpa using this, ZPB1.out, ZPB2.out, by have := ZPB3.out; subst hd0; simpa using this, HB_10.out⟩
set_option maxRecDepth 100000 in
set_option maxHeartbeats 16000000 in
theorem psplitF_any (AK : Option Addr) (nK cK : Nat) (AV : Option Addr) (nV cV : Nat) (AD : Option Addr) (nD cD : Nat) (ks vs : List (List Int)) (ds : List Int) (w : World) (hx : Bss w AK nK ks) (hy : Bss w AV nV vs) (hz : Ins w AD nD ds) (sD : Shp AD nD) (hKc : nK ≤ cK) (hVc : nV ≤ cV) (hDc : nD ≤ cD)
    (hn : 3 ≤ nK) (hV : nV = 0) (hD : nD = nK + 1) (bK : nK ≤ 99999) (lK : ∀ xs ∈ ks, xs.length ≤ 140737488355328) (lV : ∀ xs ∈ vs, xs.length ≤ 140737488355328) (sK : szW 1 ks ≤ 100000000000000000) (sV : szW 2 vs ≤ 100000000000000000) :
    Calls Try.prog 48 #[.agg (ndV false AK nK cK AV nV cV AD nD cD)] w fun e w' => ∃ (i : Nat) (A1 : Option Addr) (c1 : Nat) (A2 : Option Addr) (c2 : Nat) (A3 : Option Addr) (c3 : Nat) (A' : Option Addr) (xs : List Int) (c' : Nat) (B1 : Option Addr) (d1 : Nat) (B2 : Option Addr) (d2 : Nat) (B3 : Option Addr) (d3 : Nat),
      e = .returned (.tuple #[.agg (ndV false A1 i c1 A2 0 c2 A3 (i + 1) c3), .slice A' xs.length c', .agg (ndV false B1 (nK - (i + 1)) d1 B2 0 d2 B3 (nD - (i + 1)) d3)]) ∧ i = bestN (gtr false ks vs nD) (nK - 3) ∧ ks[i]? = some xs ∧ Bs w' A' xs.length xs ∧
      Bss w' A1 i (ks.take i) ∧ Bss w' A2 0 (vs.take i) ∧ Ins w' A3 (i + 1) (ds.take (i + 1)) ∧ Bss w' B1 (nK - (i + 1)) (ks.drop (i + 1)) ∧ Bss w' B2 0 (vs.drop i) ∧ Ins w' B3 (nD - (i + 1)) (ds.drop (i + 1)) ∧ Below w.heap.size w w' := by
  have HX := Lib.hid hx; have HY := Lib.hid hy; have HZ := Lib.hid hz; have HSD := Lib.hid sD; have HLK := Lib.hid hx.len; have HLV := Lib.hid hy.len; have HLD := Lib.hid hz.len; have HMK := Lib.hid lK; have HMV := Lib.hid lV
  have A3 := Lib.hid (alloc3 w (ndV false AK nK cK AV nV cV AD nD cD) ndZ ndZ 70)
  have hsy : (((w.alloc (.cells (ndV false AK nK cK AV nV cV AD nD cD) 70)).alloc (.cells ndZ 70)).alloc (.cells ndZ 70)).heap.size = w.heap.size + 3 := by simp
  have BX := Lib.hid A3.out.1; have RA := Lib.hid A3.out.2.1; have RB := Lib.hid A3.out.2.2.1; have HB := Lib.hid A3.out.2.2.2
  have q0 := rc_cell 0 (.bool false) BX.out rfl; have q1 := rc_cell 1 (.slice AK nK cK) BX.out rfl; have q2 := rc_cell 2 (.slice AV nV cV) BX.out rfl; have q3 := rc_cell 3 (.slice AD nD cD) BX.out rfl
  have d1 : decide ((nK : Int) < 2) = false := by simp; omega
  have d2 : decide ((nK : Int) < 3) = false := by simp; omega
  have bV : nV ≤ 100000 := by omega
  have bD : nD ≤ 100000 := by omega
  have HVD := Lib.hid hV; have HDD := Lib.hid hD
  clear hx hy hz sD hV hD A3 lK lV
  go_enter Try.func48, Try.ntmps48
  go_wp2_with fail
  clear q0 q1 q2 q3
  generalize ((w.alloc (.cells (ndV false AK nK cK AV nV cV AD nD cD) 70)).alloc (.cells ndZ 70)).alloc (.cells ndZ 70) = y at *
  refine (middleF_any AK nK cK AV nV cV AD nD cD ks vs y (HX.out.keep HB.out) (HY.out.keep HB.out) hn HVD.out HDD.out (by omega) sK sV).mono ?_
  rintro e x1 ⟨rfl, hb1⟩
  have hin := bestN_in (gtr false ks vs nD) (nK - 3)
  obtain ⟨i, HI⟩ : ∃ i : Nat, Hid (bestN (gtr false ks vs nD) (nK - 3) = i) := ⟨_, rfl⟩
  rw [HI.out] at hin ⊢
  have hi1 : 1 ≤ i := hin.1
  have hi2 : i + 2 ≤ nK := by have := hin.2; omega
  have BX1 := Lib.hid ((hb1.block _ (lt_of_heap BX.out)).trans BX.out)
  have RA1 := Lib.hid ((hb1.block _ (lt_of_heap RA.out)).trans RA.out)
  have RB1 := Lib.hid ((hb1.block _ (lt_of_heap RB.out)).trans RB.out)
  have HB1 := Lib.hid (HB.out.trans (hb1.mono HB.out.size)); have hs1 := hb1.size; rw [hsy] at hs1
  clear hb1 hin hsy BX RA RB HB
  obtain ⟨b, off, A', n', c', xs, hA, hbl, hcl, hxs, hnc, HXK⟩ := HX.out.at_ (k := i) (by omega)
  have HXS := Lib.hid hxs; have HNL := Lib.hid hxs.len; have hnb : n' ≤ 140737488355328 := by rw [← hxs.len]; exact HMK.out _ (List.mem_of_getElem? HXK.out)
  subst hA; clear hxs hnc
  have q0 := rc_cell 0 (.bool false) BX1.out rfl; have q1 := rc_cell 1 (.slice (some ⟨b, off, none⟩) nK cK) BX1.out rfl; have q2 := rc_cell 2 (.slice AV nV cV) BX1.out rfl; have q3 := rc_cell 3 (.slice AD nD cD) BX1.out rfl
  have s1 := slice62_h (some ⟨b, off, none⟩) nK cK i (by omega)
  have s2 : ∀ W, _ := slice62_lo (some ⟨b, off, none⟩) nK cK (i + 1) (by omega)
  have hwi : IntKind.i64.wrap ((i : Int) + 1) = (i : Int) + 1 := IntWalk.i64_in _ (by omega)
  rw [show (((i + 1 : Nat) : Int)) = (i : Int) + 1 by omega] at s2
  go_upto_region 7 with fail
  clear q0 q1 q2 q3
  go_cut [7, 8] from 35 (fun p q wx => ∃ g7 g8 : Nat, p = .pointer (some ⟨g7, 0, none⟩) ∧ q = .pointer (some ⟨g8, 0, none⟩) ∧ g7 ≠ g8 ∧ x1.heap.size ≤ g7 ∧ x1.heap.size ≤ g8 ∧ Hid (wx.heap[g7]? = some (.cells #[.bool false, .slice (some ⟨b, off, none⟩) i cK, .slice none 0 0, .slice none 0 0] 70 (0, 0))) ∧ Hid (wx.heap[g8]? = some (.cells #[.bool false, .slice (cutA (some ⟨b, off, none⟩) cK (i + 1)) (nK - (i + 1)) (cK - (i + 1)), .slice none 0 0, .slice none 0 0] 70 (0, 0))) ∧ Hid (Below x1.heap.size x1 wx))
  case first =>
    have HBd : Hid (Below x1.heap.size x1 x1.drew) := Lib.hid ((Dr.refl x1).one.below _)
    have BXd : Hid (x1.drew.heap[w.heap.size]? = some (.cells (ndV false (some ⟨b, off, none⟩) nK cK AV nV cV AD nD cD) 70 (0, 0))) := BX1
    have hds : x1.drew.heap.size = x1.heap.size := rfl
    refine wp_region_held_drew (S := fun w' => w'.cell? ⟨w.heap.size, 0, none⟩ = some (.bool false) ∧ w'.cell? ⟨w.heap.size, 1, none⟩ = some (.slice (some ⟨b, off, none⟩) nK cK) ∧ w'.cell? ⟨w.heap.size, 2, none⟩ = some (.slice AV nV cV) ∧ w'.cell? ⟨w.heap.size, 3, none⟩ = some (.slice AD nD cD) ∧ True) (by kernel_rfl) (nd4 BXd.out trivial) (fun hH0 => ?_)
    generalize x1.drew = yd at *
    refine wpAnyH_take (i := 0) (oi := { dst := some 35, op := Op.fieldAddr 70 (Operand.tmp 1) 0, type := 0, pos := _, after := #[], guard := none }) (v := ?vaF1_0) rfl (by kernel_rfl) (by kernel_rfl) (by kernel_rfl) (fun _ _ _ h => h) (Or.inl ⟨by rfl, ?yaF1_0⟩) hH0 ?raF1_0
    case yaF1_0 => (intro w hSw; (try dsimp only at hSw); go_simp; try (with_reducible rfl))
    try simp only [Act.put, List.setIfInBounds_toArray, List.set_cons_zero, List.set_cons_succ]
    refine wpAnyH_take (i := 1) (oi := { dst := some 36, op := Op.load 4 (Operand.tmp 35), type := 4, pos := _, after := #[{ on := 0, ground := Ground.data }], guard := none }) (v := ?vaF1_1) rfl (by kernel_rfl) (by kernel_rfl) (by kernel_rfl) (fun _ _ _ h => h) (Or.inl ⟨by rfl, ?yaF1_1⟩) hH0 ?raF1_1
    case yaF1_1 => (intro w hSw; (try dsimp only at hSw); go_simp; try (with_reducible rfl))
    try simp only [Act.put, List.setIfInBounds_toArray, List.set_cons_zero, List.set_cons_succ]
    refine wpAnyH_take (i := 2) (oi := { dst := some 37, op := Op.fieldAddr 70 (Operand.tmp 1) 1, type := 0, pos := _, after := #[], guard := none }) (v := ?vaF1_2) rfl (by kernel_rfl) (by kernel_rfl) (by kernel_rfl) (fun _ _ _ h => h) (Or.inl ⟨by rfl, ?yaF1_2⟩) hH0 ?raF1_2
    case yaF1_2 => (intro w hSw; (try dsimp only at hSw); go_simp; try (with_reducible rfl))
    try simp only [Act.put, List.setIfInBounds_toArray, List.set_cons_zero, List.set_cons_succ]
    refine wpAnyH_take (i := 3) (oi := { dst := some 38, op := Op.load 62 (Operand.tmp 37), type := 62, pos := _, after := #[{ on := 2, ground := Ground.data }], guard := none }) (v := ?vaF1_3) rfl (by kernel_rfl) (by kernel_rfl) (by kernel_rfl) (fun _ _ _ h => h) (Or.inl ⟨by rfl, ?yaF1_3⟩) hH0 ?raF1_3
    case yaF1_3 => (intro w hSw; (try dsimp only at hSw); go_simp; try (with_reducible rfl))
    try simp only [Act.put, List.setIfInBounds_toArray, List.set_cons_zero, List.set_cons_succ]
    refine wpAnyH_take (i := 4) (oi := { dst := some 39, op := Op.move (Operand.tmp 5), type := 3, pos := _, after := #[], guard := none }) (v := ?vaF1_4) rfl (by kernel_rfl) (by kernel_rfl) (by kernel_rfl) (fun _ _ _ h => h) (Or.inl ⟨by rfl, ?yaF1_4⟩) hH0 ?raF1_4
    case yaF1_4 => (intro w hSw; (try dsimp only at hSw); go_simp; try (with_reducible rfl))
    try simp only [Act.put, List.setIfInBounds_toArray, List.set_cons_zero, List.set_cons_succ]
    refine wpAnyH_take (i := 5) (oi := { dst := some 40, op := Op.slice 62 (Operand.tmp 38) none (some (Operand.tmp 39)) none, type := 62, pos := _, after := #[{ on := 3, ground := Ground.data }, { on := 4, ground := Ground.data }], guard := none }) (v := ?vaF1_5) rfl (by kernel_rfl) (by kernel_rfl) (by kernel_rfl) (fun _ _ _ h => h) (Or.inl ⟨by rfl, ?yaF1_5⟩) hH0 ?raF1_5
    case yaF1_5 => (intro w hSw; (try dsimp only at hSw); go_simp; try (with_reducible rfl))
    try simp only [Act.put, List.setIfInBounds_toArray, List.set_cons_zero, List.set_cons_succ]
    refine wpAnyH_take (i := 6) (oi := { dst := some 41, op := Op.build 70 #[(0, Operand.tmp 36), (1, Operand.tmp 40)], type := 70, pos := _, after := #[{ on := 1, ground := Ground.data }, { on := 5, ground := Ground.data }], guard := none }) (v := ?vaF1_6) rfl (by kernel_rfl) (by kernel_rfl) (by kernel_rfl) (fun _ _ _ h => h) (Or.inl ⟨by rfl, ?yaF1_6⟩) hH0 ?raF1_6
    case yaF1_6 => (intro w hSw; (try dsimp only at hSw); go_simp; try (with_reducible rfl))
    try simp only [Act.put, List.setIfInBounds_toArray, List.set_cons_zero, List.set_cons_succ]
    refine wpAnyH_take (i := 7) (oi := { dst := some 42, op := Op.fieldAddr 70 (Operand.tmp 1) 0, type := 0, pos := _, after := #[{ on := 16, ground := Ground.gcOnly Departure.lateStores }], guard := none }) (v := ?vaF1_7) rfl (by kernel_rfl) (by kernel_rfl) (by kernel_rfl) (fun _ _ _ h => h) (Or.inl ⟨by rfl, ?yaF1_7⟩) hH0 ?raF1_7
    case yaF1_7 => (intro w hSw; (try dsimp only at hSw); go_simp; try (with_reducible rfl))
    try simp only [Act.put, List.setIfInBounds_toArray, List.set_cons_zero, List.set_cons_succ]
    refine wpAnyH_take (i := 8) (oi := { dst := some 43, op := Op.load 4 (Operand.tmp 42), type := 4, pos := _, after := #[{ on := 7, ground := Ground.data }, { on := 16, ground := Ground.gcOnly Departure.lateStores }], guard := none }) (v := ?vaF1_8) rfl (by kernel_rfl) (by kernel_rfl) (by kernel_rfl) (fun _ _ _ h => h) (Or.inl ⟨by rfl, ?yaF1_8⟩) hH0 ?raF1_8
    case yaF1_8 => (intro w hSw; (try dsimp only at hSw); go_simp; try (with_reducible rfl))
    try simp only [Act.put, List.setIfInBounds_toArray, List.set_cons_zero, List.set_cons_succ]
    refine wpAnyH_take (i := 9) (oi := { dst := some 44, op := Op.fieldAddr 70 (Operand.tmp 1) 1, type := 0, pos := _, after := #[], guard := none }) (v := ?vaF1_9) rfl (by kernel_rfl) (by kernel_rfl) (by kernel_rfl) (fun _ _ _ h => h) (Or.inl ⟨by rfl, ?yaF1_9⟩) hH0 ?raF1_9
    case yaF1_9 => (intro w hSw; (try dsimp only at hSw); go_simp; try (with_reducible rfl))
    try simp only [Act.put, List.setIfInBounds_toArray, List.set_cons_zero, List.set_cons_succ]
    refine wpAnyH_take (i := 10) (oi := { dst := some 45, op := Op.load 62 (Operand.tmp 44), type := 62, pos := _, after := #[{ on := 9, ground := Ground.data }], guard := none }) (v := ?vaF1_10) rfl (by kernel_rfl) (by kernel_rfl) (by kernel_rfl) (fun _ _ _ h => h) (Or.inl ⟨by rfl, ?yaF1_10⟩) hH0 ?raF1_10
    case yaF1_10 => (intro w hSw; (try dsimp only at hSw); go_simp; try (with_reducible rfl))
    try simp only [Act.put, List.setIfInBounds_toArray, List.set_cons_zero, List.set_cons_succ]
    refine wpAnyH_take (i := 11) (oi := { dst := some 46, op := Op.move (Operand.tmp 6), type := 3, pos := _, after := #[], guard := none }) (v := ?vaF1_11) rfl (by kernel_rfl) (by kernel_rfl) (by kernel_rfl) (fun _ _ _ h => h) (Or.inl ⟨by rfl, ?yaF1_11⟩) hH0 ?raF1_11
    case yaF1_11 => (intro w hSw; (try dsimp only at hSw); go_simp; try (with_reducible rfl))
    try simp only [Act.put, List.setIfInBounds_toArray, List.set_cons_zero, List.set_cons_succ]
    refine wpAnyH_take (i := 12) (oi := { dst := some 47, op := Op.slice 62 (Operand.tmp 45) (some (Operand.tmp 46)) none none, type := 62, pos := _, after := #[{ on := 10, ground := Ground.data }, { on := 11, ground := Ground.data }], guard := none }) (v := ?vaF1_12) rfl (by kernel_rfl) (by kernel_rfl) (by kernel_rfl) (fun _ _ _ h => h) (Or.inl ⟨by rfl, ?yaF1_12⟩) hH0 ?raF1_12
    case yaF1_12 => (intro w hSw; (try dsimp only at hSw); go_simp; try (with_reducible rfl))
    try simp only [Act.put, List.setIfInBounds_toArray, List.set_cons_zero, List.set_cons_succ]
    refine wpAnyH_take (i := 13) (oi := { dst := some 48, op := Op.build 70 #[(0, Operand.tmp 43), (1, Operand.tmp 47)], type := 70, pos := _, after := #[{ on := 8, ground := Ground.data }, { on := 12, ground := Ground.data }, { on := 16, ground := Ground.gcOnly Departure.lateStores }], guard := none }) (v := ?vaF1_13) rfl (by kernel_rfl) (by kernel_rfl) (by kernel_rfl) (fun _ _ _ h => h) (Or.inl ⟨by rfl, ?yaF1_13⟩) hH0 ?raF1_13
    case yaF1_13 => (intro w hSw; (try dsimp only at hSw); go_simp; try (with_reducible rfl))
    try simp only [Act.put, List.setIfInBounds_toArray, List.set_cons_zero, List.set_cons_succ]
    refine wpAnyH_ready (rs := [14, 15]) (by kernel_rfl) (by simp) ?_
    refine (AllReadyH.cons (o := { dst := some 7, op := Op.alloc 70, type := 0, pos := _, after := #[], guard := none }) rfl (fun K hK => ?_) (AllReadyH.cons (o := { dst := some 8, op := Op.alloc 70, type := 0, pos := _, after := #[], guard := none }) rfl (fun K hK => ?_) AllReadyH.nil))
    · go_simp
      have ba2 := below_alloc yd (.cells ndZ 70)
      have BX2 := Lib.hid ((ba2.block _ (lt_of_heap BXd.out)).trans BXd.out)
      have N2 : Hid ((yd.alloc (.cells ndZ 70)).heap[x1.heap.size]? = some (.cells ndZ 70 (0, 0))) := Lib.hid (by have := heap_alloc_new yd (.cells ndZ 70); rw [hds] at this; exact this)
      have BL2 := Lib.hid (HBd.out.trans (ba2.mono HBd.out.size))
      have sz2 : (yd.alloc (.cells ndZ 70)).heap.size = x1.heap.size + 1 := by simp [hds]
      clear ba2
      refine hK.out _ _ (nd4 BX2.out trivial) (fun hH2 => ?_)
      clear hK K
      try simp only [Act.put, List.setIfInBounds_toArray, List.set_cons_zero, List.set_cons_succ]
      generalize yd.alloc (.cells ndZ 70) = x2 at *
      refine wpAnyH_ready (rs := [15]) (by kernel_rfl) (by simp) ?_
      refine (AllReadyH.cons (o := { dst := some 8, op := Op.alloc 70, type := 0, pos := _, after := #[], guard := none }) rfl (fun K hK => ?_) AllReadyH.nil)
      go_simp
      have ba4 := below_alloc x2 (.cells ndZ 70)
      have BX4 := Lib.hid ((ba4.block _ (lt_of_heap BX2.out)).trans BX2.out)
      have N4 : Hid ((x2.alloc (.cells ndZ 70)).heap[x1.heap.size + 1]? = some (.cells ndZ 70 (0, 0))) := Lib.hid (by have := heap_alloc_new x2 (.cells ndZ 70); rw [sz2] at this; exact this)
      have BL4 := Lib.hid (BL2.out.trans (ba4.mono BL2.out.size))
      have sz4 : (x2.alloc (.cells ndZ 70)).heap.size = x1.heap.size + 1 + 1 := by simp [sz2]
      have O4 := Lib.hid ((ba4.block _ (lt_of_heap N2.out)).trans N2.out)
      clear ba4
      refine hK.out _ _ (nd4 BX4.out trivial) (fun hH4 => ?_)
      clear hK K
      try simp only [Act.put, List.setIfInBounds_toArray, List.set_cons_zero, List.set_cons_succ]
      generalize x2.alloc (.cells ndZ 70) = x4 at *
      refine wpAnyH_ready (rs := [16]) (by kernel_rfl) (by simp) ?_
      refine (AllReadyH.cons (o := { dst := none, op := Op.store 70 (Operand.tmp 7) (Operand.tmp 41), type := 0, pos := _, after := #[{ on := 14, ground := Ground.data }, { on := 6, ground := Ground.data }, { on := 0, ground := Ground.phase }, { on := 1, ground := Ground.phase }, { on := 2, ground := Ground.phase }, { on := 3, ground := Ground.phase }, { on := 4, ground := Ground.phase }, { on := 5, ground := Ground.phase }, { on := 6, ground := Ground.phase }, { on := 7, ground := Ground.textOnly Departure.lateStores }, { on := 8, ground := Ground.textOnly Departure.lateStores }, { on := 9, ground := Ground.textOnly Departure.lateStores }, { on := 10, ground := Ground.textOnly Departure.lateStores }, { on := 11, ground := Ground.textOnly Departure.lateStores }, { on := 12, ground := Ground.textOnly Departure.lateStoresUnsure }, { on := 13, ground := Ground.textOnly Departure.lateStores }, { on := 14, ground := Ground.phase }, { on := 15, ground := Ground.phase }], guard := none }) rfl (fun K hK => ?_) AllReadyH.nil)
      have zz6 := BL4.out.size
      have z6_0 := rc_cell 0 (.bool false) O4.out rfl; have y6_0 := two_frozen (i := 0) O4.out
      have z6_1 := rc_cell 1 (.slice none 0 0) O4.out rfl; have y6_1 := two_frozen (i := 1) O4.out
      have z6_2 := rc_cell 2 (.slice none 0 0) O4.out rfl; have y6_2 := two_frozen (i := 2) O4.out
      have z6_3 := rc_cell 3 (.slice none 0 0) O4.out rfl; have y6_3 := two_frozen (i := 3) O4.out
      have HZ6 := Lib.hid (set4 x4 (x1.heap.size) (.bool false) (.slice (some ⟨b, off, none⟩) i cK) (.slice none 0 0) (.slice none 0 0) O4.out)
      have BX6 := Lib.hid ((HZ6.out.2.block w.heap.size (lt_of_heap BX4.out) (by intro e; injection e with e; omega)).trans BX4.out)
      have O6 := Lib.hid ((HZ6.out.2.block (x1.heap.size + 1) (lt_of_heap N4.out) (by intro e; injection e with e; omega)).trans N4.out)
      have BL6 := Lib.hid (BL4.out.trans ((HZ6.out.2.below (Nat.le_of_lt (lt_of_heap O4.out))).mono (by omega)))
      have N6 := Lib.hid HZ6.out.1
      go_simp
      refine hK.out _ _ (nd4 BX6.out trivial) (fun hH6 => ?_)
      clear hK K
      try simp only [Act.put, List.setIfInBounds_toArray, List.set_cons_zero, List.set_cons_succ]
      clear HZ6 z6_0 y6_0 z6_1 y6_1 z6_2 y6_2 z6_3 y6_3
      generalize ((((x4.setCell ⟨x1.heap.size, 0, none⟩ (.bool false)).setCell ⟨x1.heap.size, 1, none⟩ (.slice (some ⟨b, off, none⟩) i cK)).setCell ⟨x1.heap.size, 2, none⟩ (.slice none 0 0)).setCell ⟨x1.heap.size, 3, none⟩ (.slice none 0 0)) = s6 at *
      refine wpAnyH_ready (rs := [17]) (by kernel_rfl) (by simp) ?_
      refine (AllReadyH.cons (o := { dst := none, op := Op.store 70 (Operand.tmp 8) (Operand.tmp 48), type := 0, pos := _, after := #[{ on := 15, ground := Ground.data }, { on := 13, ground := Ground.data }, { on := 16, ground := Ground.chain }, { on := 0, ground := Ground.phase }, { on := 1, ground := Ground.phase }, { on := 2, ground := Ground.phase }, { on := 3, ground := Ground.phase }, { on := 4, ground := Ground.phase }, { on := 5, ground := Ground.phase }, { on := 6, ground := Ground.phase }, { on := 7, ground := Ground.phase }, { on := 8, ground := Ground.phase }, { on := 9, ground := Ground.phase }, { on := 10, ground := Ground.phase }, { on := 11, ground := Ground.phase }, { on := 12, ground := Ground.phase }, { on := 13, ground := Ground.phase }, { on := 14, ground := Ground.phase }, { on := 15, ground := Ground.phase }, { on := 16, ground := Ground.phase }], guard := none }) rfl (fun K hK => ?_) AllReadyH.nil)
      have zz8 := BL6.out.size
      have z8_0 := rc_cell 0 (.bool false) O6.out rfl; have y8_0 := two_frozen (i := 0) O6.out
      have z8_1 := rc_cell 1 (.slice none 0 0) O6.out rfl; have y8_1 := two_frozen (i := 1) O6.out
      have z8_2 := rc_cell 2 (.slice none 0 0) O6.out rfl; have y8_2 := two_frozen (i := 2) O6.out
      have z8_3 := rc_cell 3 (.slice none 0 0) O6.out rfl; have y8_3 := two_frozen (i := 3) O6.out
      have HZ8 := Lib.hid (set4 s6 (x1.heap.size + 1) (.bool false) (.slice (cutA (some ⟨b, off, none⟩) cK (i + 1)) (nK - (i + 1)) (cK - (i + 1))) (.slice none 0 0) (.slice none 0 0) O6.out)
      have BX8 := Lib.hid ((HZ8.out.2.block w.heap.size (lt_of_heap BX6.out) (by intro e; injection e with e; omega)).trans BX6.out)
      have O8 := Lib.hid ((HZ8.out.2.block (x1.heap.size) (lt_of_heap N6.out) (by intro e; injection e with e; omega)).trans N6.out)
      have BL8 := Lib.hid (BL6.out.trans ((HZ8.out.2.below (Nat.le_of_lt (lt_of_heap O6.out))).mono (by omega)))
      have N8 := Lib.hid HZ8.out.1
      go_simp
      refine hK.out _ _ (nd4 BX8.out trivial) (fun hH8 => ?_)
      clear hK K
      try simp only [Act.put, List.setIfInBounds_toArray, List.set_cons_zero, List.set_cons_succ]
      clear HZ8 z8_0 y8_0 z8_1 y8_1 z8_2 y8_2 z8_3 y8_3
      generalize ((((s6.setCell ⟨x1.heap.size + 1, 0, none⟩ (.bool false)).setCell ⟨x1.heap.size + 1, 1, none⟩ (.slice (cutA (some ⟨b, off, none⟩) cK (i + 1)) (nK - (i + 1)) (cK - (i + 1)))).setCell ⟨x1.heap.size + 1, 2, none⟩ (.slice none 0 0)).setCell ⟨x1.heap.size + 1, 3, none⟩ (.slice none 0 0)) = s8 at *
      refine wpAnyH_done (by kernel_rfl) ?_ _
      go_wp2_with fail
      go_meet
      case rel => exact ⟨x1.heap.size, x1.heap.size + 1, rfl, rfl, by omega, by omega, by omega, O8, N8, BL8⟩
    · go_simp
      have ba10 := below_alloc yd (.cells ndZ 70)
      have BX10 := Lib.hid ((ba10.block _ (lt_of_heap BXd.out)).trans BXd.out)
      have N10 : Hid ((yd.alloc (.cells ndZ 70)).heap[x1.heap.size]? = some (.cells ndZ 70 (0, 0))) := Lib.hid (by have := heap_alloc_new yd (.cells ndZ 70); rw [hds] at this; exact this)
      have BL10 := Lib.hid (HBd.out.trans (ba10.mono HBd.out.size))
      have sz10 : (yd.alloc (.cells ndZ 70)).heap.size = x1.heap.size + 1 := by simp [hds]
      clear ba10
      refine hK.out _ _ (nd4 BX10.out trivial) (fun hH10 => ?_)
      clear hK K
      try simp only [Act.put, List.setIfInBounds_toArray, List.set_cons_zero, List.set_cons_succ]
      generalize yd.alloc (.cells ndZ 70) = x10 at *
      refine wpAnyH_ready (rs := [14]) (by kernel_rfl) (by simp) ?_
      refine (AllReadyH.cons (o := { dst := some 7, op := Op.alloc 70, type := 0, pos := _, after := #[], guard := none }) rfl (fun K hK => ?_) AllReadyH.nil)
      go_simp
      have ba12 := below_alloc x10 (.cells ndZ 70)
      have BX12 := Lib.hid ((ba12.block _ (lt_of_heap BX10.out)).trans BX10.out)
      have N12 : Hid ((x10.alloc (.cells ndZ 70)).heap[x1.heap.size + 1]? = some (.cells ndZ 70 (0, 0))) := Lib.hid (by have := heap_alloc_new x10 (.cells ndZ 70); rw [sz10] at this; exact this)
      have BL12 := Lib.hid (BL10.out.trans (ba12.mono BL10.out.size))
      have sz12 : (x10.alloc (.cells ndZ 70)).heap.size = x1.heap.size + 1 + 1 := by simp [sz10]
      have O12 := Lib.hid ((ba12.block _ (lt_of_heap N10.out)).trans N10.out)
      clear ba12
      refine hK.out _ _ (nd4 BX12.out trivial) (fun hH12 => ?_)
      clear hK K
      try simp only [Act.put, List.setIfInBounds_toArray, List.set_cons_zero, List.set_cons_succ]
      generalize x10.alloc (.cells ndZ 70) = x12 at *
      refine wpAnyH_ready (rs := [16]) (by kernel_rfl) (by simp) ?_
      refine (AllReadyH.cons (o := { dst := none, op := Op.store 70 (Operand.tmp 7) (Operand.tmp 41), type := 0, pos := _, after := #[{ on := 14, ground := Ground.data }, { on := 6, ground := Ground.data }, { on := 0, ground := Ground.phase }, { on := 1, ground := Ground.phase }, { on := 2, ground := Ground.phase }, { on := 3, ground := Ground.phase }, { on := 4, ground := Ground.phase }, { on := 5, ground := Ground.phase }, { on := 6, ground := Ground.phase }, { on := 7, ground := Ground.textOnly Departure.lateStores }, { on := 8, ground := Ground.textOnly Departure.lateStores }, { on := 9, ground := Ground.textOnly Departure.lateStores }, { on := 10, ground := Ground.textOnly Departure.lateStores }, { on := 11, ground := Ground.textOnly Departure.lateStores }, { on := 12, ground := Ground.textOnly Departure.lateStoresUnsure }, { on := 13, ground := Ground.textOnly Departure.lateStores }, { on := 14, ground := Ground.phase }, { on := 15, ground := Ground.phase }], guard := none }) rfl (fun K hK => ?_) AllReadyH.nil)
      have zz14 := BL12.out.size
      have z14_0 := rc_cell 0 (.bool false) N12.out rfl; have y14_0 := two_frozen (i := 0) N12.out
      have z14_1 := rc_cell 1 (.slice none 0 0) N12.out rfl; have y14_1 := two_frozen (i := 1) N12.out
      have z14_2 := rc_cell 2 (.slice none 0 0) N12.out rfl; have y14_2 := two_frozen (i := 2) N12.out
      have z14_3 := rc_cell 3 (.slice none 0 0) N12.out rfl; have y14_3 := two_frozen (i := 3) N12.out
      have HZ14 := Lib.hid (set4 x12 (x1.heap.size + 1) (.bool false) (.slice (some ⟨b, off, none⟩) i cK) (.slice none 0 0) (.slice none 0 0) N12.out)
      have BX14 := Lib.hid ((HZ14.out.2.block w.heap.size (lt_of_heap BX12.out) (by intro e; injection e with e; omega)).trans BX12.out)
      have O14 := Lib.hid ((HZ14.out.2.block (x1.heap.size) (lt_of_heap O12.out) (by intro e; injection e with e; omega)).trans O12.out)
      have BL14 := Lib.hid (BL12.out.trans ((HZ14.out.2.below (Nat.le_of_lt (lt_of_heap N12.out))).mono (by omega)))
      have N14 := Lib.hid HZ14.out.1
      go_simp
      refine hK.out _ _ (nd4 BX14.out trivial) (fun hH14 => ?_)
      clear hK K
      try simp only [Act.put, List.setIfInBounds_toArray, List.set_cons_zero, List.set_cons_succ]
      clear HZ14 z14_0 y14_0 z14_1 y14_1 z14_2 y14_2 z14_3 y14_3
      generalize ((((x12.setCell ⟨x1.heap.size + 1, 0, none⟩ (.bool false)).setCell ⟨x1.heap.size + 1, 1, none⟩ (.slice (some ⟨b, off, none⟩) i cK)).setCell ⟨x1.heap.size + 1, 2, none⟩ (.slice none 0 0)).setCell ⟨x1.heap.size + 1, 3, none⟩ (.slice none 0 0)) = s14 at *
      refine wpAnyH_ready (rs := [17]) (by kernel_rfl) (by simp) ?_
      refine (AllReadyH.cons (o := { dst := none, op := Op.store 70 (Operand.tmp 8) (Operand.tmp 48), type := 0, pos := _, after := #[{ on := 15, ground := Ground.data }, { on := 13, ground := Ground.data }, { on := 16, ground := Ground.chain }, { on := 0, ground := Ground.phase }, { on := 1, ground := Ground.phase }, { on := 2, ground := Ground.phase }, { on := 3, ground := Ground.phase }, { on := 4, ground := Ground.phase }, { on := 5, ground := Ground.phase }, { on := 6, ground := Ground.phase }, { on := 7, ground := Ground.phase }, { on := 8, ground := Ground.phase }, { on := 9, ground := Ground.phase }, { on := 10, ground := Ground.phase }, { on := 11, ground := Ground.phase }, { on := 12, ground := Ground.phase }, { on := 13, ground := Ground.phase }, { on := 14, ground := Ground.phase }, { on := 15, ground := Ground.phase }, { on := 16, ground := Ground.phase }], guard := none }) rfl (fun K hK => ?_) AllReadyH.nil)
      have zz16 := BL14.out.size
      have z16_0 := rc_cell 0 (.bool false) O14.out rfl; have y16_0 := two_frozen (i := 0) O14.out
      have z16_1 := rc_cell 1 (.slice none 0 0) O14.out rfl; have y16_1 := two_frozen (i := 1) O14.out
      have z16_2 := rc_cell 2 (.slice none 0 0) O14.out rfl; have y16_2 := two_frozen (i := 2) O14.out
      have z16_3 := rc_cell 3 (.slice none 0 0) O14.out rfl; have y16_3 := two_frozen (i := 3) O14.out
      have HZ16 := Lib.hid (set4 s14 (x1.heap.size) (.bool false) (.slice (cutA (some ⟨b, off, none⟩) cK (i + 1)) (nK - (i + 1)) (cK - (i + 1))) (.slice none 0 0) (.slice none 0 0) O14.out)
      have BX16 := Lib.hid ((HZ16.out.2.block w.heap.size (lt_of_heap BX14.out) (by intro e; injection e with e; omega)).trans BX14.out)
      have O16 := Lib.hid ((HZ16.out.2.block (x1.heap.size + 1) (lt_of_heap N14.out) (by intro e; injection e with e; omega)).trans N14.out)
      have BL16 := Lib.hid (BL14.out.trans ((HZ16.out.2.below (Nat.le_of_lt (lt_of_heap O14.out))).mono (by omega)))
      have N16 := Lib.hid HZ16.out.1
      go_simp
      refine hK.out _ _ (nd4 BX16.out trivial) (fun hH16 => ?_)
      clear hK K
      try simp only [Act.put, List.setIfInBounds_toArray, List.set_cons_zero, List.set_cons_succ]
      clear HZ16 z16_0 y16_0 z16_1 y16_1 z16_2 y16_2 z16_3 y16_3
      generalize ((((s14.setCell ⟨x1.heap.size, 0, none⟩ (.bool false)).setCell ⟨x1.heap.size, 1, none⟩ (.slice (cutA (some ⟨b, off, none⟩) cK (i + 1)) (nK - (i + 1)) (cK - (i + 1)))).setCell ⟨x1.heap.size, 2, none⟩ (.slice none 0 0)).setCell ⟨x1.heap.size, 3, none⟩ (.slice none 0 0)) = s16 at *
      refine wpAnyH_done (by kernel_rfl) ?_ _
      go_wp2_with fail
      go_meet
      case rel => exact ⟨x1.heap.size + 1, x1.heap.size, rfl, rfl, by omega, by omega, by omega, O16, N16, BL16⟩
  obtain ⟨g7, g8, rfl, rfl, hne, h7, h8, H7, H8, HBC⟩ := hcut
  have hsc := HBC.out.size
  have BX2 := Lib.hid ((HBC.out.block _ (lt_of_heap BX1.out)).trans BX1.out)
  have RA2 := Lib.hid ((HBC.out.block _ (lt_of_heap RA1.out)).trans RA1.out)
  have RB2 := Lib.hid ((HBC.out.block _ (lt_of_heap RB1.out)).trans RB1.out)
  have HB2 := Lib.hid (HB1.out.trans (HBC.out.mono HB1.out.size))
  clear BX1 RA1 RB1 HB1 HBC s1 s2
  have hV0 := HVD.out
  subst hV0
  have q0 := rc_cell 0 (.bool false) BX2.out rfl; have q1 := rc_cell 1 (.slice (some ⟨b, off, none⟩) nK cK) BX2.out rfl; have q2 := rc_cell 2 (.slice AV 0 cV) BX2.out rfl; have q3 := rc_cell 3 (.slice AD nD cD) BX2.out rfl
  go_wp2_with fail
  clear q0 q1 q2 q3
  refine (parted62_zero AV cV i _ (by omega)).mono ?_
  rintro e w3 ⟨rfl, qa, rfl⟩
  have K7 : Hid ((wc.drewN qa).heap[g7]? = some (.cells #[.bool false, .slice (some ⟨b, off, none⟩) i cK, .slice none 0 0, .slice none 0 0] 70 (0, 0))) := H7; have K8 : Hid ((wc.drewN qa).heap[g8]? = some (.cells #[.bool false, .slice (cutA (some ⟨b, off, none⟩) cK (i + 1)) (nK - (i + 1)) (cK - (i + 1)), .slice none 0 0, .slice none 0 0] 70 (0, 0))) := H8
  have f7 := two_frozen (i := 2) K7.out
  have c7 := rc_cell 2 (.slice none 0 0) K7.out rfl
  have M7 := rc_set (cs' := #[.bool false, .slice (some ⟨b, off, none⟩) i cK, .slice AV 0 cV, .slice none 0 0]) 2 (.slice AV 0 cV) K7.out rfl
  have o7 := onl_set (wc.drewN qa) g7 2 (.slice AV 0 cV)
  have M8 := (o7.block g8 (lt_of_heap K8.out) (by intro e; injection e with e; omega)).trans K8.out
  have f8 := two_frozen (i := 2) M8; have c8 := rc_cell 2 (.slice none 0 0) M8 rfl
  have P8 := rc_set (cs' := #[.bool false, .slice (cutA (some ⟨b, off, none⟩) cK (i + 1)) (nK - (i + 1)) (cK - (i + 1)), .slice AV 0 cV, .slice none 0 0]) 2 (.slice AV 0 cV) M8 rfl
  have o8 := onl_set ((wc.drewN qa).setCell ⟨g7, 2, none⟩ (.slice AV 0 cV)) g8 2 (.slice AV 0 cV)
  have P7 := (o8.block g7 (lt_of_heap M7) (by intro e; injection e with e; omega)).trans M7
  have OO := (On2.left (g2 := g8) o7).trans (On2.right (g1 := g7) o8)
  have HD : Hid (On2 g7 g8 wc (wc.drewN qa)) := Lib.hid (On2.dr ⟨qa, rfl⟩)
  have OT := HD.out.trans OO
  have BX3 := Lib.hid ((OT.block w.heap.size (lt_of_heap BX2.out) (by omega) (by omega)).trans BX2.out)
  have RA3 := Lib.hid ((OT.block (w.heap.size + 1) (lt_of_heap RA2.out) (by omega) (by omega)).trans RA2.out)
  have RB3 := Lib.hid ((OT.block (w.heap.size + 1 + 1) (lt_of_heap RB2.out) (by omega) (by omega)).trans RB2.out)
  have HB3 := Lib.hid (HB2.out.trans (OT.below (B := w.heap.size) (by omega) (by omega) (by have := HB2.out.size; omega)))
  have Q7 := Lib.hid P7; have Q8 := Lib.hid P8
  have ZZ := Lib.hid OT.size
  clear K7 K8 M7 M8 P7 P8 o7 o8 OO HD OT
  have hZ3 := ZZ.out; clear ZZ H7 H8 BX2 RA2 RB2
  have q0 := rc_cell 0 (.bool false) BX3.out rfl; have q1 := rc_cell 1 (.slice (some ⟨b, off, none⟩) nK cK) BX3.out rfl; have q2 := rc_cell 2 (.slice AV 0 cV) BX3.out rfl; have q3 := rc_cell 3 (.slice AD nD cD) BX3.out rfl
  go_wp2_with fail
  clear q0 q1 q2 q3 f7 c7 f8 c8
  generalize (((wc.drewN qa).setCell ⟨g7, 2, none⟩ (.slice AV 0 cV)).setCell ⟨g8, 2, none⟩ (.slice AV 0 cV)) = y8 at *
  refine (parted27_is AD nD cD (i + 1) _ (by omega) _ (by have := HDD.out; omega) hDc (by have := HDD.out; omega)).mono ?_
  rintro e w4 ⟨rfl, qb, rfl⟩
  have K7 : Hid ((y8.drewN qb).heap[g7]? = some (.cells #[.bool false, .slice (some ⟨b, off, none⟩) i cK, .slice AV 0 cV, .slice none 0 0] 70 (0, 0))) := Q7; have K8 : Hid ((y8.drewN qb).heap[g8]? = some (.cells #[.bool false, .slice (cutA (some ⟨b, off, none⟩) cK (i + 1)) (nK - (i + 1)) (cK - (i + 1)), .slice AV 0 cV, .slice none 0 0] 70 (0, 0))) := Q8
  have f7 := two_frozen (i := 3) K7.out
  have c7 := rc_cell 3 (.slice none 0 0) K7.out rfl
  have M7 := rc_set (cs' := #[.bool false, .slice (some ⟨b, off, none⟩) i cK, .slice AV 0 cV, .slice AD (i + 1) cD]) 3 (.slice AD (i + 1) cD) K7.out rfl
  have o7 := onl_set (y8.drewN qb) g7 3 (.slice AD (i + 1) cD)
  have M8 := (o7.block g8 (lt_of_heap K8.out) (by intro e; injection e with e; omega)).trans K8.out
  have f8 := two_frozen (i := 3) M8; have c8 := rc_cell 3 (.slice none 0 0) M8 rfl
  have P8 := rc_set (cs' := #[.bool false, .slice (cutA (some ⟨b, off, none⟩) cK (i + 1)) (nK - (i + 1)) (cK - (i + 1)), .slice AV 0 cV, .slice (cutA AD cD (i + 1)) (nD - (i + 1)) (cD - (i + 1))]) 3 (.slice (cutA AD cD (i + 1)) (nD - (i + 1)) (cD - (i + 1))) M8 rfl
  have o8 := onl_set ((y8.drewN qb).setCell ⟨g7, 3, none⟩ (.slice AD (i + 1) cD)) g8 3 (.slice (cutA AD cD (i + 1)) (nD - (i + 1)) (cD - (i + 1)))
  have P7 := (o8.block g7 (lt_of_heap M7) (by intro e; injection e with e; omega)).trans M7
  have OO := (On2.left (g2 := g8) o7).trans (On2.right (g1 := g7) o8)
  have HD : Hid (On2 g7 g8 y8 (y8.drewN qb)) := Lib.hid (On2.dr ⟨qb, rfl⟩)
  have OT := HD.out.trans OO
  have BX4 := Lib.hid ((OT.block w.heap.size (lt_of_heap BX3.out) (by omega) (by omega)).trans BX3.out)
  have RA4 := Lib.hid ((OT.block (w.heap.size + 1) (lt_of_heap RA3.out) (by omega) (by omega)).trans RA3.out)
  have RB4 := Lib.hid ((OT.block (w.heap.size + 1 + 1) (lt_of_heap RB3.out) (by omega) (by omega)).trans RB3.out)
  have HB4 := Lib.hid (HB3.out.trans (OT.below (B := w.heap.size) (by omega) (by omega) (by have := HB3.out.size; omega)))
  have U7 := Lib.hid P7; have U8 := Lib.hid P8
  have ZZ := Lib.hid OT.size
  clear K7 K8 M7 M8 P7 P8 o7 o8 OO HD OT
  have hZ4 := ZZ.out; clear ZZ Q7 Q8 BX3 RA3 RB3
  go_upto_region 10 with fail
  clear f7 c7 f8 c8
  generalize (((y8.drewN qb).setCell ⟨g7, 3, none⟩ (.slice AD (i + 1) cD)).setCell ⟨g8, 3, none⟩ (.slice (cutA AD cD (i + 1)) (nD - (i + 1)) (cD - (i + 1)))) = y9 at *
  have BXe : Hid (y9.drew.heap[w.heap.size]? = some (.cells #[.bool false, .slice (some ⟨b, off, none⟩) nK cK, .slice AV 0 cV, .slice AD nD cD] 70 (0, 0))) := BX4
  have RAe : Hid (y9.drew.heap[w.heap.size + 1]? = some (.cells ndZ 70 (0, 0))) := RA4; have RBe : Hid (y9.drew.heap[w.heap.size + 1 + 1]? = some (.cells ndZ 70 (0, 0))) := RB4
  have V7 : Hid (y9.drew.heap[g7]? = some (.cells #[.bool false, .slice (some ⟨b, off, none⟩) i cK, .slice AV 0 cV, .slice AD (i + 1) cD] 70 (0, 0))) := U7; have V8 : Hid (y9.drew.heap[g8]? = some (.cells #[.bool false, .slice (cutA (some ⟨b, off, none⟩) cK (i + 1)) (nK - (i + 1)) (cK - (i + 1)), .slice AV 0 cV, .slice (cutA AD cD (i + 1)) (nD - (i + 1)) (cD - (i + 1))] 70 (0, 0))) := U8
  have HBe := Lib.hid (HB4.out.trans ((Dr.refl y9).one.below _)); have hse : y9.drew.heap.size = y9.heap.size := rfl
  have HCe := (World.cell?_of_block (a := ⟨b, off + i, none⟩) (HBe.out.block b hbl)).trans hcl
  have z0 : (0 : Int) ≤ (i : Int) := by omega
  have z1 : (i : Int) < (nK : Int) := by omega
  clear BX4 RA4 RB4 U7 U8
  refine wp_region_held_drew (S := fun w' => w'.cell? ⟨g7, 0, none⟩ = some (.bool false) ∧ w'.cell? ⟨g7, 1, none⟩ = some (.slice (some ⟨b, off, none⟩) i cK) ∧ w'.cell? ⟨g7, 2, none⟩ = some (.slice AV 0 cV) ∧ w'.cell? ⟨g7, 3, none⟩ = some (.slice AD (i + 1) cD) ∧ w'.cell? ⟨g8, 0, none⟩ = some (.bool false) ∧ w'.cell? ⟨g8, 1, none⟩ = some (.slice (cutA (some ⟨b, off, none⟩) cK (i + 1)) (nK - (i + 1)) (cK - (i + 1))) ∧ w'.cell? ⟨g8, 2, none⟩ = some (.slice AV 0 cV) ∧ w'.cell? ⟨g8, 3, none⟩ = some (.slice (cutA AD cD (i + 1)) (nD - (i + 1)) (cD - (i + 1))) ∧ w'.cell? ⟨w.heap.size, 1, none⟩ = some (.slice (some ⟨b, off, none⟩) nK cK) ∧ w'.cell? ⟨b, off + i, none⟩ = some (.slice A' n' c')) (by kernel_rfl) (nd4 V7.out (nd4 V8.out ⟨rc_cell 1 _ BXe.out rfl, HCe⟩)) (fun hH0 => ?_)
  generalize y9.drew = ye at *
  refine wpAnyH_take (i := 0) (oi := { dst := some 68, op := Op.load 70 (Operand.tmp 7), type := 70, pos := _, after := #[], guard := none }) (v := ?vbF1_0) rfl (by kernel_rfl) (by kernel_rfl) (by kernel_rfl) (fun _ _ _ h => h) (Or.inl ⟨by rfl, ?ybF1_0⟩) hH0 ?rbF1_0
  case ybF1_0 => (intro w hSw; (try dsimp only at hSw); go_simp; try (with_reducible rfl))
  try simp only [Act.put, List.setIfInBounds_toArray, List.set_cons_zero, List.set_cons_succ]
  refine wpAnyH_take (i := 2) (oi := { dst := some 70, op := Op.fieldAddr 70 (Operand.tmp 1) 1, type := 0, pos := _, after := #[], guard := none }) (v := ?vbF1_2) rfl (by kernel_rfl) (by kernel_rfl) (by kernel_rfl) (fun _ _ _ h => h) (Or.inl ⟨by rfl, ?ybF1_2⟩) hH0 ?rbF1_2
  case ybF1_2 => (intro w hSw; (try dsimp only at hSw); go_simp; try (with_reducible rfl))
  try simp only [Act.put, List.setIfInBounds_toArray, List.set_cons_zero, List.set_cons_succ]
  refine wpAnyH_take (i := 3) (oi := { dst := some 71, op := Op.load 62 (Operand.tmp 70), type := 62, pos := _, after := #[{ on := 2, ground := Ground.data }], guard := none }) (v := ?vbF1_3) rfl (by kernel_rfl) (by kernel_rfl) (by kernel_rfl) (fun _ _ _ h => h) (Or.inl ⟨by rfl, ?ybF1_3⟩) hH0 ?rbF1_3
  case ybF1_3 => (intro w hSw; (try dsimp only at hSw); go_simp; try (with_reducible rfl))
  try simp only [Act.put, List.setIfInBounds_toArray, List.set_cons_zero, List.set_cons_succ]
  refine wpAnyH_take (i := 4) (oi := { dst := some 72, op := Op.move (Operand.tmp 5), type := 3, pos := _, after := #[], guard := none }) (v := ?vbF1_4) rfl (by kernel_rfl) (by kernel_rfl) (by kernel_rfl) (fun _ _ _ h => h) (Or.inl ⟨by rfl, ?ybF1_4⟩) hH0 ?rbF1_4
  case ybF1_4 => (intro w hSw; (try dsimp only at hSw); go_simp; try (with_reducible rfl))
  try simp only [Act.put, List.setIfInBounds_toArray, List.set_cons_zero, List.set_cons_succ]
  refine wpAnyH_take (i := 5) (oi := { dst := some 73, op := Op.indexAddr 62 (Operand.tmp 71) (Operand.tmp 72), type := 0, pos := _, after := #[{ on := 3, ground := Ground.data }, { on := 4, ground := Ground.data }], guard := none }) (v := ?vbF1_5) rfl (by kernel_rfl) (by kernel_rfl) (by kernel_rfl) (fun _ _ _ h => h) (Or.inl ⟨by rfl, ?ybF1_5⟩) hH0 ?rbF1_5
  case ybF1_5 => (intro w hSw; (try dsimp only at hSw); go_simp; try (with_reducible rfl))
  try simp only [Act.put, List.setIfInBounds_toArray, List.set_cons_zero, List.set_cons_succ]
  refine wpAnyH_take (i := 6) (oi := { dst := some 74, op := Op.load 28 (Operand.tmp 73), type := 28, pos := _, after := #[{ on := 5, ground := Ground.data }], guard := none }) (v := ?vbF1_6) rfl (by kernel_rfl) (by kernel_rfl) (by kernel_rfl) (fun _ _ _ h => h) (Or.inl ⟨by rfl, ?ybF1_6⟩) hH0 ?rbF1_6
  case ybF1_6 => (intro w hSw; (try dsimp only at hSw); go_simp; try (with_reducible rfl))
  try simp only [Act.put, List.setIfInBounds_toArray, List.set_cons_zero, List.set_cons_succ]
  refine wpAnyH_take (i := 8) (oi := { dst := some 76, op := Op.load 70 (Operand.tmp 8), type := 70, pos := _, after := #[], guard := none }) (v := ?vbF1_8) rfl (by kernel_rfl) (by kernel_rfl) (by kernel_rfl) (fun _ _ _ h => h) (Or.inl ⟨by rfl, ?ybF1_8⟩) hH0 ?rbF1_8
  case ybF1_8 => (intro w hSw; (try dsimp only at hSw); go_simp; try (with_reducible rfl))
  try simp only [Act.put, List.setIfInBounds_toArray, List.set_cons_zero, List.set_cons_succ]
  refine wpAnyH_ready (rs := [1]) (by kernel_rfl) (by simp) ?_
  refine (AllReadyH.cons (o := { dst := some 69, op := Op.call { callee := Callee.value (Operand.func 92), args := #[Operand.tmp 68], argTypes := #[70] }, type := 70, pos := _, after := #[{ on := 0, ground := Ground.data }], guard := none }) rfl (fun K hK => ?_) AllReadyH.nil)
  go_simp
  refine (copied_any false (some ⟨b, off, none⟩) i cK AV 0 cV AD (i + 1) cD (ks.take i) (vs.take 0) (ds.take (i + 1)) _ ((HX.out.keep HBe.out).pre (by omega)) ((HY.out.keep HBe.out).pre (by omega)) (Ins.short (HZ.out.keep HBe.out) (by have := HDD.out; omega)) (HSD.out.short (by have := HDD.out; omega)) (by omega) (by omega) (by omega) (fun x hx => HMK.out x (List.mem_of_mem_take hx)) (fun x hx => HMV.out x (List.mem_of_mem_take hx))).mono ?_
  rintro e x2 ⟨D1, f1, D2, f2, D3, f3, rfl, p1, p2, p3, hb2⟩
  have PA1 := Lib.hid p1; have PA2 := Lib.hid p2; have PA3 := Lib.hid p3
  clear p1 p2 p3
  have BX_2 := Lib.hid ((hb2.block _ (lt_of_heap BXe.out)).trans BXe.out)
  have RA_2 := Lib.hid ((hb2.block _ (lt_of_heap RAe.out)).trans RAe.out)
  have RB_2 := Lib.hid ((hb2.block _ (lt_of_heap RBe.out)).trans RBe.out)
  have G7_2 := Lib.hid ((hb2.block _ (lt_of_heap V7.out)).trans V7.out)
  have G8_2 := Lib.hid ((hb2.block _ (lt_of_heap V8.out)).trans V8.out)
  have HB_2 := Lib.hid (HBe.out.trans (hb2.mono HBe.out.size))
  have sz_2 := hb2.size
  have HC_2 := (World.cell?_of_block (a := ⟨b, off + i, none⟩) (HB_2.out.block b hbl)).trans hcl
  clear hb2
  go_wp2_with fail
  refine hK.out _ _ (nd4 G7_2.out (nd4 G8_2.out ⟨rc_cell 1 _ BX_2.out rfl, HC_2⟩)) (fun hH2 => ?_)
  clear hK K
  try simp only [Act.put, List.setIfInBounds_toArray, List.set_cons_zero, List.set_cons_succ]
  refine wpAnyH_ready (rs := [7]) (by kernel_rfl) (by simp) ?_
  refine (AllReadyH.cons (o := { dst := some 75, op := Op.call { callee := Callee.value (Operand.func 94), args := #[Operand.tmp 74], argTypes := #[28] }, type := 28, pos := _, after := #[{ on := 6, ground := Ground.data }, { on := 1, ground := Ground.chain }], guard := none }) rfl (fun K hK => ?_) AllReadyH.nil)
  go_simp
  refine (clone_any A' n' c' xs _ (HXS.out.keep HB_2.out) hnb).mono ?_
  rintro e x4 ⟨D4, f4, rfl, p1, hb4⟩
  have PC := Lib.hid p1
  clear p1
  have PA1_4 := Lib.hid (PA1.out.keep hb4)
  have PA2_4 := Lib.hid (PA2.out.keep hb4)
  have PA3_4 := Lib.hid (PA3.out.below hb4 (fun k hk => (PA3.out.lies k hk).2))
  have BX_4 := Lib.hid ((hb4.block _ (lt_of_heap BX_2.out)).trans BX_2.out)
  have RA_4 := Lib.hid ((hb4.block _ (lt_of_heap RA_2.out)).trans RA_2.out)
  have RB_4 := Lib.hid ((hb4.block _ (lt_of_heap RB_2.out)).trans RB_2.out)
  have G7_4 := Lib.hid ((hb4.block _ (lt_of_heap G7_2.out)).trans G7_2.out)
  have G8_4 := Lib.hid ((hb4.block _ (lt_of_heap G8_2.out)).trans G8_2.out)
  have HB_4 := Lib.hid (HB_2.out.trans (hb4.mono HB_2.out.size))
  have sz_4 := hb4.size
  have HC_4 := (World.cell?_of_block (a := ⟨b, off + i, none⟩) (HB_4.out.block b hbl)).trans hcl
  clear hb4
  go_wp2_with fail
  refine hK.out _ _ (nd4 G7_4.out (nd4 G8_4.out ⟨rc_cell 1 _ BX_4.out rfl, HC_4⟩)) (fun hH4 => ?_)
  clear hK K
  try simp only [Act.put, List.setIfInBounds_toArray, List.set_cons_zero, List.set_cons_succ]
  refine wpAnyH_ready (rs := [9]) (by kernel_rfl) (by simp) ?_
  refine (AllReadyH.cons (o := { dst := some 77, op := Op.call { callee := Callee.value (Operand.func 92), args := #[Operand.tmp 76], argTypes := #[70] }, type := 70, pos := _, after := #[{ on := 8, ground := Ground.data }, { on := 7, ground := Ground.chain }], guard := none }) rfl (fun K hK => ?_) AllReadyH.nil)
  go_simp
  refine (copied_any false (cutA (some ⟨b, off, none⟩) cK (i + 1)) (nK - (i + 1)) (cK - (i + 1)) AV 0 cV (cutA AD cD (i + 1)) (nD - (i + 1)) (cD - (i + 1)) (ks.drop (i + 1)) (vs.take 0) (ds.drop (i + 1)) _ ((HX.out.keep HB_4.out).cut hKc) ((HY.out.keep HB_4.out).pre (by omega)) ((HZ.out.keep HB_4.out).cut (by have := HDD.out; omega) hDc) (Shp.cut HSD.out) (by omega) (by omega) (by omega) (fun x hx => HMK.out x (List.mem_of_mem_drop hx)) (fun x hx => HMV.out x (List.mem_of_mem_take hx))).mono ?_
  rintro e x6 ⟨E1, g1, E2, g2, E3, g3, rfl, p1, p2, p3, hb6⟩
  have PB1 := Lib.hid p1; have PB2 := Lib.hid p2; have PB3 := Lib.hid p3
  clear p1 p2 p3
  have PA1_6 := Lib.hid (PA1_4.out.keep hb6)
  have PA2_6 := Lib.hid (PA2_4.out.keep hb6)
  have PA3_6 := Lib.hid (PA3_4.out.below hb6 (fun k hk => (PA3_4.out.lies k hk).2))
  have PC_6 := Lib.hid (PC.out.below hb6 (fun k hk => (PC.out.lies k hk).2))
  have BX_6 := Lib.hid ((hb6.block _ (lt_of_heap BX_4.out)).trans BX_4.out)
  have RA_6 := Lib.hid ((hb6.block _ (lt_of_heap RA_4.out)).trans RA_4.out)
  have RB_6 := Lib.hid ((hb6.block _ (lt_of_heap RB_4.out)).trans RB_4.out)
  have G7_6 := Lib.hid ((hb6.block _ (lt_of_heap G7_4.out)).trans G7_4.out)
  have G8_6 := Lib.hid ((hb6.block _ (lt_of_heap G8_4.out)).trans G8_4.out)
  have HB_6 := Lib.hid (HB_4.out.trans (hb6.mono HB_4.out.size))
  have sz_6 := hb6.size
  have HC_6 := (World.cell?_of_block (a := ⟨b, off + i, none⟩) (HB_6.out.block b hbl)).trans hcl
  clear hb6
  go_wp2_with fail
  refine hK.out _ _ (nd4 G7_6.out (nd4 G8_6.out ⟨rc_cell 1 _ BX_6.out rfl, HC_6⟩)) (fun hH6 => ?_)
  clear hK K
  try simp only [Act.put, List.setIfInBounds_toArray, List.set_cons_zero, List.set_cons_succ]
  refine wpAnyH_ready (rs := [10]) (by kernel_rfl) (by simp) ?_
  refine (AllReadyH.cons (o := { dst := none, op := Op.store 70 (Operand.tmp 2) (Operand.tmp 69), type := 0, pos := _, after := #[{ on := 1, ground := Ground.data }, { on := 9, ground := Ground.chain }, { on := 0, ground := Ground.phase }, { on := 1, ground := Ground.phase }, { on := 2, ground := Ground.textOnly Departure.lateStores }, { on := 3, ground := Ground.textOnly Departure.lateStores }, { on := 4, ground := Ground.textOnly Departure.lateStores }, { on := 5, ground := Ground.textOnly Departure.lateStores }, { on := 6, ground := Ground.textOnly Departure.lateStores }, { on := 7, ground := Ground.textOnly Departure.lateStoresUnsure }, { on := 8, ground := Ground.textOnly Departure.lateStores }, { on := 9, ground := Ground.textOnly Departure.lateStoresUnsure }], guard := none }) rfl (fun K hK => ?_) AllReadyH.nil)
  have z8_0 := rc_cell 0 (.bool false) RA_6.out rfl; have y8_0 := two_frozen (i := 0) RA_6.out
  have z8_1 := rc_cell 1 (.slice none 0 0) RA_6.out rfl; have y8_1 := two_frozen (i := 1) RA_6.out
  have z8_2 := rc_cell 2 (.slice none 0 0) RA_6.out rfl; have y8_2 := two_frozen (i := 2) RA_6.out
  have z8_3 := rc_cell 3 (.slice none 0 0) RA_6.out rfl; have y8_3 := two_frozen (i := 3) RA_6.out
  have HZ8 := Lib.hid (set4 x6 (w.heap.size + 1) (.bool false) (.slice D1 i f1) (.slice D2 0 f2) (.slice D3 (i + 1) f3) RA_6.out)
  have BX_8 := Lib.hid ((HZ8.out.2.block (w.heap.size) (lt_of_heap BX_6.out) (by intro e; injection e with e; omega)).trans BX_6.out)
  have RB_8 := Lib.hid ((HZ8.out.2.block (w.heap.size + 1 + 1) (lt_of_heap RB_6.out) (by intro e; injection e with e; omega)).trans RB_6.out)
  have G7_8 := Lib.hid ((HZ8.out.2.block (g7) (lt_of_heap G7_6.out) (by intro e; injection e with e; omega)).trans G7_6.out)
  have G8_8 := Lib.hid ((HZ8.out.2.block (g8) (lt_of_heap G8_6.out) (by intro e; injection e with e; omega)).trans G8_6.out)
  have PA1_8 := Lib.hid (PA1_6.out.set HZ8.out.2 RA_6.out (by decide) (by decide))
  have PA2_8 := Lib.hid (PA2_6.out.set HZ8.out.2 RA_6.out (by decide) (by decide))
  have PA3_8 := Lib.hid (PA3_6.out.onl HZ8.out.2 (PA3_6.out.ne_blk RA_6.out (by decide)))
  have PC_8 := Lib.hid (PC_6.out.onl HZ8.out.2 (PC_6.out.ne_blk RA_6.out (by decide)))
  have PB1_8 := Lib.hid (PB1.out.set HZ8.out.2 RA_6.out (by decide) (by decide))
  have PB2_8 := Lib.hid (PB2.out.set HZ8.out.2 RA_6.out (by decide) (by decide))
  have PB3_8 := Lib.hid (PB3.out.onl HZ8.out.2 (PB3.out.ne_blk RA_6.out (by decide)))
  have HB_8 := Lib.hid (HB_6.out.trans ((HZ8.out.2.below (Nat.le_of_lt (lt_of_heap RA_6.out))).mono (by omega)))
  have HC_8 := (World.cell?_of_block (a := ⟨b, off + i, none⟩) (HB_8.out.block b hbl)).trans hcl
  have N8 := Lib.hid HZ8.out.1
  go_simp
  refine hK.out _ _ (nd4 G7_8.out (nd4 G8_8.out ⟨rc_cell 1 _ BX_8.out rfl, HC_8⟩)) (fun hH8 => ?_)
  clear hK K
  try simp only [Act.put, List.setIfInBounds_toArray, List.set_cons_zero, List.set_cons_succ]
  clear HZ8 z8_0 y8_0 z8_1 y8_1 z8_2 y8_2 z8_3 y8_3
  generalize ((((x6.setCell ⟨w.heap.size + 1, 0, none⟩ (.bool false)).setCell ⟨w.heap.size + 1, 1, none⟩ (.slice D1 i f1)).setCell ⟨w.heap.size + 1, 2, none⟩ (.slice D2 0 f2)).setCell ⟨w.heap.size + 1, 3, none⟩ (.slice D3 (i + 1) f3)) = s8 at *
  refine wpAnyH_take (i := 11) (oi := { dst := some 3, op := Op.assign (Operand.tmp 75), type := 28, pos := _, after := #[{ on := 7, ground := Ground.data }, { on := 10, ground := Ground.chain }, { on := 0, ground := Ground.phase }, { on := 1, ground := Ground.phase }, { on := 2, ground := Ground.phase }, { on := 3, ground := Ground.phase }, { on := 4, ground := Ground.phase }, { on := 5, ground := Ground.phase }, { on := 6, ground := Ground.phase }, { on := 7, ground := Ground.phase }, { on := 8, ground := Ground.textOnly Departure.lateStores }, { on := 9, ground := Ground.textOnly Departure.lateStoresUnsure }, { on := 10, ground := Ground.phase }], guard := none }) (v := ?vbF9_11) rfl (by kernel_rfl) (by kernel_rfl) (by kernel_rfl) (fun _ _ _ h => h) (Or.inl ⟨by rfl, ?ybF9_11⟩) hH8 ?rbF9_11
  case ybF9_11 => (intro w hSw; (try dsimp only at hSw); go_simp; try (with_reducible rfl))
  try simp only [Act.put, List.setIfInBounds_toArray, List.set_cons_zero, List.set_cons_succ]
  refine wpAnyH_ready (rs := [12]) (by kernel_rfl) (by simp) ?_
  refine (AllReadyH.cons (o := { dst := none, op := Op.store 70 (Operand.tmp 4) (Operand.tmp 77), type := 0, pos := _, after := #[{ on := 9, ground := Ground.data }, { on := 11, ground := Ground.chain }, { on := 0, ground := Ground.phase }, { on := 1, ground := Ground.phase }, { on := 2, ground := Ground.phase }, { on := 3, ground := Ground.phase }, { on := 4, ground := Ground.phase }, { on := 5, ground := Ground.phase }, { on := 6, ground := Ground.phase }, { on := 7, ground := Ground.phase }, { on := 8, ground := Ground.phase }, { on := 9, ground := Ground.phase }, { on := 10, ground := Ground.phase }, { on := 11, ground := Ground.phase }], guard := none }) rfl (fun K hK => ?_) AllReadyH.nil)
  have z10_0 := rc_cell 0 (.bool false) RB_8.out rfl; have y10_0 := two_frozen (i := 0) RB_8.out
  have z10_1 := rc_cell 1 (.slice none 0 0) RB_8.out rfl; have y10_1 := two_frozen (i := 1) RB_8.out
  have z10_2 := rc_cell 2 (.slice none 0 0) RB_8.out rfl; have y10_2 := two_frozen (i := 2) RB_8.out
  have z10_3 := rc_cell 3 (.slice none 0 0) RB_8.out rfl; have y10_3 := two_frozen (i := 3) RB_8.out
  have HZ10 := Lib.hid (set4 s8 (w.heap.size + 1 + 1) (.bool false) (.slice E1 (nK - (i + 1)) g1) (.slice E2 0 g2) (.slice E3 (nD - (i + 1)) g3) RB_8.out)
  have BX_10 := Lib.hid ((HZ10.out.2.block (w.heap.size) (lt_of_heap BX_8.out) (by intro e; injection e with e; omega)).trans BX_8.out)
  have RA_10 := Lib.hid ((HZ10.out.2.block (w.heap.size + 1) (lt_of_heap N8.out) (by intro e; injection e with e; omega)).trans N8.out)
  have G7_10 := Lib.hid ((HZ10.out.2.block (g7) (lt_of_heap G7_8.out) (by intro e; injection e with e; omega)).trans G7_8.out)
  have G8_10 := Lib.hid ((HZ10.out.2.block (g8) (lt_of_heap G8_8.out) (by intro e; injection e with e; omega)).trans G8_8.out)
  have PA1_10 := Lib.hid (PA1_8.out.set HZ10.out.2 RB_8.out (by decide) (by decide))
  have PA2_10 := Lib.hid (PA2_8.out.set HZ10.out.2 RB_8.out (by decide) (by decide))
  have PA3_10 := Lib.hid (PA3_8.out.onl HZ10.out.2 (PA3_8.out.ne_blk RB_8.out (by decide)))
  have PC_10 := Lib.hid (PC_8.out.onl HZ10.out.2 (PC_8.out.ne_blk RB_8.out (by decide)))
  have PB1_10 := Lib.hid (PB1_8.out.set HZ10.out.2 RB_8.out (by decide) (by decide))
  have PB2_10 := Lib.hid (PB2_8.out.set HZ10.out.2 RB_8.out (by decide) (by decide))
  have PB3_10 := Lib.hid (PB3_8.out.onl HZ10.out.2 (PB3_8.out.ne_blk RB_8.out (by decide)))
  have HB_10 := Lib.hid (HB_8.out.trans ((HZ10.out.2.below (Nat.le_of_lt (lt_of_heap RB_8.out))).mono (by omega)))
  have HC_10 := (World.cell?_of_block (a := ⟨b, off + i, none⟩) (HB_10.out.block b hbl)).trans hcl
  have N10 := Lib.hid HZ10.out.1
  go_simp
  refine hK.out _ _ (nd4 G7_10.out (nd4 G8_10.out ⟨rc_cell 1 _ BX_10.out rfl, HC_10⟩)) (fun hH10 => ?_)
  clear hK K
  try simp only [Act.put, List.setIfInBounds_toArray, List.set_cons_zero, List.set_cons_succ]
  clear HZ10 z10_0 y10_0 z10_1 y10_1 z10_2 y10_2 z10_3 y10_3
  generalize ((((s8.setCell ⟨w.heap.size + 1 + 1, 0, none⟩ (.bool false)).setCell ⟨w.heap.size + 1 + 1, 1, none⟩ (.slice E1 (nK - (i + 1)) g1)).setCell ⟨w.heap.size + 1 + 1, 2, none⟩ (.slice E2 0 g2)).setCell ⟨w.heap.size + 1 + 1, 3, none⟩ (.slice E3 (nD - (i + 1)) g3)) = s10 at *
  refine wpAnyH_done (by kernel_rfl) ?_ _
  have e0 := rc_cell 0 (.bool false) RA_10.out rfl
  have e1 := rc_cell 1 (.slice D1 i f1) RA_10.out rfl
  have e2 := rc_cell 2 (.slice D2 0 f2) RA_10.out rfl
  have e3 := rc_cell 3 (.slice D3 (i + 1) f3) RA_10.out rfl
  have h0 := rc_cell 0 (.bool false) N10.out rfl
  have h1 := rc_cell 1 (.slice E1 (nK - (i + 1)) g1) N10.out rfl
  have h2 := rc_cell 2 (.slice E2 0 g2) N10.out rfl
  have h3 := rc_cell 3 (.slice E3 (nD - (i + 1)) g3) N10.out rfl
  have ZPA1 := Lib.hid PA1_10.out.bss
  have ZPA2 := Lib.hid PA2_10.out.bss
  have ZPA3 := Lib.hid (Ins.own PA3_10.out (fun x hx => HZ.out.2 x (List.mem_of_mem_take hx)))
  have ZPC := Lib.hid (PC_10.out.bs HXS.out.2)
  have ZPB1 := Lib.hid PB1_10.out.bss
  have ZPB2 := Lib.hid PB2_10.out.bss
  have ZPB3 := Lib.hid (Ins.own PB3_10.out (fun x hx => HZ.out.2 x (List.mem_of_mem_drop hx)))
  have hvl := HLV.out; have hdl := HLD.out
  have hv0 : vs = [] := List.eq_nil_of_length_eq_zero hvl
  go_wp2
  refine bodyPost_ret (v := .tuple #[.agg #[.bool false, .slice D1 i f1, .slice D2 0 f2, .slice D3 (i + 1) f3], .slice D4 n' f4, .agg #[.bool false, .slice E1 (nK - (i + 1)) g1, .slice E2 0 g2, .slice E3 (nD - (i + 1)) g3]]) (by simp [results, Try.f48, go_sem, Try.isAgg70, Try.sizeOf70, e0, e1, e2, e3, h0, h1, h2, h3]) rfl ⟨i, D1, f1, D2, f2, D3, f3, D4, xs, f4, E1, g1, E2, g2, E3, g3, by rw [HNL.out], HI.out.symm, HXK.out, by rw [HNL.out]; exact ZPC.out, ZPA1.out, by have := ZPA2.out; subst hv0; simpa using this, ZPA3.out, ZPB1.out, by have := ZPB2.out; subst hv0; simpa using this, ZPB3.out, HB_10.out⟩
end Go.Proofs.Ytmjjbfcblmmipaa
