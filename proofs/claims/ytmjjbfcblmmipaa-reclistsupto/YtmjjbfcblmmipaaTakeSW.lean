/- (*Rec).take at the letter of the shards. -/
import Derived.Test.YtmjjbfcblmmipaaTakeRW
import Derived.Deep.LoopGhost
namespace Go.Proofs.Ytmjjbfcblmmipaa
set_option linter.unusedVariables false
set_option linter.unusedSimpArgs false
open Go.RowKit

theorem info3 : (Try.prog.info? 3).map (fun i => (i.zero, i.size, i.bytes)) = some (some (.int .i64 0), 1, 8) := by kernel_rfl
theorem one_int (x : Int) : ∀ u ∈ [Value.int .i64 x], u.oneCell' = true := by
  intro u hu
  have : u = .int .i64 x := by simpa using hu
  subst this; rfl
theorem wrap_i64 (x : Int) (h0 : -9223372036854775808 ≤ x) (h1 : x ≤ 9223372036854775807) : IntKind.i64.wrap (uw x) = x := by
  unfold uw
  simp only [IntKind.wrap, IntKind.bits, IntKind.signed]
  split <;> simp <;> omega
theorem nums_cons (x : Int) (l : List Int) : nums (x :: l) = num x ++ nums l := by simp [nums]
theorem St.grow {w0 W W' : World} {g gr : Nat} {cs : Array Value} {xs : List Int} (h : St w0 g cs gr xs W) (hb : Below (gr + 1) W W') : St w0 g cs gr xs W' := by
  have hlt := h.lt; have hgl := h.gl
  exact ⟨(hb.block g (by omega)).trans h.hg, (hb.block _ (by omega)).trans h.hb, h.hr.keep hb (by omega), ⟨hb.os.trans h.ho.os, hb.tape.trans h.ho.tape, hb.output.trans h.ho.output, Nat.le_trans h.ho.size hb.size, fun i hi hne => (hb.block i (by omega)).trans (h.ho.block i hi hne)⟩, h.lt, h.gl⟩
set_option maxRecDepth 100000 in
set_option maxHeartbeats 8000000 in
theorem take_s (g : Nat) (k b s q : Int) (AW : Option Addr) (nW cW : Nat) (AR : Option Addr) (nR cR : Nat) (f : Bool) (AP : Option Addr) (nP cP : Nat) (i : Int) (S : ByteArray) (A : Option Addr) (n c : Nat) (w : World) (hg : w.heap[g]? = some (.cells (rcV k b s q AW nW cW AR nR cR f none 0 0 AP nP cP i S) 32 (0, 0))) (l : List Int) (hr : ∀ x ∈ l, -9223372036854775808 ≤ x ∧ x ≤ 9223372036854775807) (hx : Bs w A n (nums (l.map uw))) (hn : n ≤ 20000000) :
    Calls Try.prog 65 #[.pointer (some ⟨g, 0, none⟩), .int .i32 115, .slice A n c] w fun e w' => ∃ A' n' c', e = .returned (.int .i64 0) ∧ n' = l.length ∧ w'.heap[g]? = some (.cells (rcV k b s q AW nW cW AR nR cR f A' n' c' AP nP cP i S) 32 (0, 0)) ∧ Own w' w.heap.size 3 A' n' c' (l.map (Value.int .i64)) ∧ Onl g w w' := by
  obtain ⟨i0, hi, hz0, hz1, hz2⟩ := info_parts info3
  have hxa := hx.keep (below_alloc w (.cells #[.pointer (some ⟨g, 0, none⟩)] 154))
  have HCV := Lib.hid (show closeV [] 0 = 0 from rfl)
  have HG := Lib.hid hg
  have HLB : Hid (∀ k, (nums ((l.map uw).drop k)).length ≤ 20000000) := by
    intro k
    have h1 : nums (l.map uw) = nums ((l.map uw).take k) ++ nums ((l.map uw).drop k) := by
      unfold nums; rw [← List.flatten_append, ← List.map_append, List.take_append_drop]
    have h2 := hx.len
    rw [h1, List.length_append] at h2
    omega
  have HLL : l.length ≤ 20000000 := by
    have h1 : ∀ m : List Int, m.length ≤ (nums m).length := by
      intro m
      induction m with
      | nil => simp [nums]
      | cons x m ih => rw [nums_cons, List.length_append, List.length_cons]; have := num_pos x; omega
    have h2 := h1 (l.map uw)
    have h3 := hx.len
    rw [List.length_map] at h2
    omega
  have HRG := Lib.hid hr
  clear hx hg hr
  go_enter Try.func65, Try.ntmps65
  go_wp2_with fail
  refine (readQ A n c _ _ hxa (by omega)).mono ?_
  rintro e w1 ⟨gr, rfl, hr1, hgr, hb1⟩
  have HS1 : Hid (St w g (rcV k b s q AW nW cW AR nR cR f none 0 0 AP nP cP i S) gr (nums ((l.map uw).drop 0)) w1) := St.begin HG.out hr1 hgr hb1
  clear hr1 hgr hb1 hxa HG
  go_wp2_with fail
  go_loopg [] (l.length + 1) (fun gk wr => ∃ (kk n' c' : Nat) (A' : Option Addr), kk ≤ l.length ∧ l.length - kk < gk ∧ Hid (n' = kk) ∧ n' ≤ 20000000 ∧ Own wr (gr + 1) 3 A' n' c' ((l.take kk).map (Value.int .i64)) ∧ Hid (St w g (rcV k b s q AW nW cW AR nR cR f A' n' c' AP nP cP i S) gr (nums ((l.map uw).drop kk)) wr))
  case atStart => exact ⟨0, 0, 0, none, by omega, by omega, Lib.hid rfl, by omega, Own.nil_, HS1⟩
  case round =>
    clear HS1
    obtain ⟨kk, n', c', A', hkk, hgk, HNK, hnb, hrow, HS⟩ := hrel
    by_cases hlt : kk < l.length
    · obtain ⟨x, HX⟩ : ∃ x, Hid (l[kk]? = some x) := ⟨_, List.getElem?_eq_getElem hlt⟩
      have hxr := HRG.out x (List.mem_of_getElem? HX.out)
      have HUB := uw_bd x hxr.1 hxr.2
      have HU := Lib.hid (wrap_i64 x hxr.1 hxr.2)
      have hd : (l.map uw).drop kk = uw x :: (l.map uw).drop (kk + 1) := by
        have h1 : (l.map uw)[kk]? = some (uw x) := by rw [List.getElem?_map, HX.out]; rfl
        obtain ⟨h2, h3⟩ := List.getElem?_eq_some_iff.1 h1
        rw [List.drop_eq_getElem_cons h2, h3]
      have hLb := HLB.out kk
      have HNS := Lib.hid (numS_head (uw x) (nums ((l.map uw).drop (kk + 1))) HUB.1 HUB.2)
      have hlp : 0 < (nums ((l.map uw).drop kk)).length := by rw [hd, nums_cons, List.length_append]; have := num_pos (uw x); omega
      rw [← nums_cons, ← hd] at HNS
      clear hxr HUB hd
      obtain ⟨L', HLL'⟩ : ∃ L', Hid (nums ((l.map uw).drop (kk + 1)) = L') := ⟨_, rfl⟩
      rw [HLL'.out] at HNS
      generalize nums ((l.map uw).drop kk) = L at *
      generalize uw x = u at *
      have hd1 : decide ((0 : Int) < (L.length : Int)) = true := by simp; omega
      have hd2 : (0 : Int) < (L.length : Int) := by omega
      have e0 : wr.drew.cell? ⟨w.heap.size, 0, none⟩ = some (.pointer (some ⟨g, 0, none⟩)) := HS.out.box
      have e7 : wr.drew.cell? ⟨g, 7, none⟩ = some (.slice A' n' c') := HS.out.fc 7 _ rfl
      have hsl : L.length ≤ 140737488355328 := by omega
      go_wp2_with fail
      refine (rleftQ _ gr _ _ HS.out.hr).mono ?_
      rintro e wz ⟨rfl, rfl⟩
      go_wp2_with fail
      refine (rerrQ _ gr _ _ HS.out.hr).mono ?_
      rintro e wz ⟨rfl, rfl⟩
      go_wp2_with fail
      refine wp_region_held_drew (S := fun w' => w'.cell? ⟨w.heap.size, 0, none⟩ = some (.pointer (some ⟨g, 0, none⟩))) (by kernel_rfl) e0 (fun hH0 => ?_)
      refine wpAnyH_take (i := 0) (oi := { dst := some 72, op := Op.load 154 (Operand.tmp 3), type := 154, pos := _, after := #[], guard := none }) (v := ?va_0) rfl (by kernel_rfl) (by kernel_rfl) (by kernel_rfl) (fun _ _ _ h => h) (Or.inl ⟨by rfl, ?ya_0⟩) hH0 ?ra_0
      case ya_0 => (intro w hSw; (try dsimp only at hSw); go_simp; try (with_reducible rfl))
      try simp only [Act.put, List.setIfInBounds_toArray, List.set_cons_zero, List.set_cons_succ]
      refine wpAnyH_take (i := 1) (oi := { dst := some 73, op := Op.load 154 (Operand.tmp 3), type := 154, pos := _, after := #[], guard := none }) (v := ?va_1) rfl (by kernel_rfl) (by kernel_rfl) (by kernel_rfl) (fun _ _ _ h => h) (Or.inl ⟨by rfl, ?ya_1⟩) hH0 ?ra_1
      case ya_1 => (intro w hSw; (try dsimp only at hSw); go_simp; try (with_reducible rfl))
      try simp only [Act.put, List.setIfInBounds_toArray, List.set_cons_zero, List.set_cons_succ]
      refine wpAnyH_take (i := 2) (oi := { dst := some 74, op := Op.nilCheck (Operand.tmp 73), type := 0, pos := _, after := #[{ on := 1, ground := Ground.data }], guard := none }) (v := ?va_2) rfl (by kernel_rfl) (by kernel_rfl) (by kernel_rfl) (fun _ _ _ h => h) (Or.inl ⟨by rfl, ?ya_2⟩) hH0 ?ra_2
      case ya_2 => (intro w hSw; (try dsimp only at hSw); go_simp; try (with_reducible rfl))
      try simp only [Act.put, List.setIfInBounds_toArray, List.set_cons_zero, List.set_cons_succ]
      refine wpAnyH_take (i := 3) (oi := { dst := some 75, op := Op.fieldAddr 32 (Operand.tmp 74) 5, type := 0, pos := _, after := #[{ on := 2, ground := Ground.data }], guard := none }) (v := ?va_3) rfl (by kernel_rfl) (by kernel_rfl) (by kernel_rfl) (fun _ _ _ h => h) (Or.inl ⟨by rfl, ?ya_3⟩) hH0 ?ra_3
      case ya_3 => (intro w hSw; (try dsimp only at hSw); go_simp; try (with_reducible rfl))
      try simp only [Act.put, List.setIfInBounds_toArray, List.set_cons_zero, List.set_cons_succ]
      refine wpAnyH_take (i := 5) (oi := { dst := some 77, op := Op.move (Operand.tmp 7), type := 157, pos := _, after := #[], guard := none }) (v := ?va_5) rfl (by kernel_rfl) (by kernel_rfl) (by kernel_rfl) (fun _ _ _ h => h) (Or.inl ⟨by rfl, ?ya_5⟩) hH0 ?ra_5
      case ya_5 => (intro w hSw; (try dsimp only at hSw); go_simp; try (with_reducible rfl))
      try simp only [Act.put, List.setIfInBounds_toArray, List.set_cons_zero, List.set_cons_succ]
      refine wpAnyH_ready (rs := [4, 6]) (by kernel_rfl) (by simp) ?_
      refine (AllReadyH.cons (o := { dst := some 76, op := Op.load 27 (Operand.tmp 75), type := 27, pos := _, after := #[{ on := 3, ground := Ground.data }], guard := none }) rfl (fun K hK => ?_) (AllReadyH.cons (o := { dst := some 78, op := Op.call { callee := Callee.value (Operand.func 108), args := #[Operand.tmp 77], argTypes := #[157] }, type := 22, pos := _, after := #[{ on := 5, ground := Ground.data }], guard := none }) rfl (fun K hK => ?_) AllReadyH.nil))
      · go_simp
        refine hK.out _ _ e0 (fun hA1 => ?_)
        clear hK K
        try simp only [Act.put, List.setIfInBounds_toArray, List.set_cons_zero, List.set_cons_succ]
        refine wpAnyH_ready (rs := [6]) (by kernel_rfl) (by simp) ?_
        refine (AllReadyH.cons (o := { dst := some 78, op := Op.call { callee := Callee.value (Operand.func 108), args := #[Operand.tmp 77], argTypes := #[157] }, type := 22, pos := _, after := #[{ on := 5, ground := Ground.data }], guard := none }) rfl (fun K hK => ?_) AllReadyH.nil)
        go_simp
        refine (rnumQ wr.drew gr _ 0 (show RdrQ _ wr.drew gr _ 0 from HS.out.hr) (by omega)).mono ?_
        rw [HNS.out]
        rintro e x1 ⟨rfl, hr1, ho1⟩
        have HT := Lib.hid (HS.out.num hr1 ho1.undrew)
        have f0 := HT.out.box
        have f7 := HT.out.fc 7 (.slice A' n' c') rfl
        have hrow1 := Own.onl hrow ho1.undrew (fun e => by have := (hrow.lies gr e).1; omega)
        have hba := below_alloc x1 (.cells #[.int .i64 (IntKind.i64.wrap u)] 3)
        have HTA : Hid (St w g (rcV k b s q AW nW cW AR nR cR f A' n' c' AP nP cP i S) gr L' (x1.alloc (.cells #[.int .i64 (IntKind.i64.wrap u)] 3))) := HT.out.grow (hba.mono (Nat.succ_le_of_lt HT.out.hr.lt))
        have g0 := HTA.out.box
        have g7 := HTA.out.fc 7 (.slice A' n' c') rfl
        have hrow2 := hrow1.alloc (.cells #[.int .i64 (IntKind.i64.wrap u)] 3)
        have hgs : gr + 1 ≤ (x1.alloc (.cells #[.int .i64 (IntKind.i64.wrap u)] 3)).heap.size := Nat.le_trans (Nat.succ_le_of_lt HT.out.hr.lt) hba.size
        clear hr1 ho1 hba
        go_wp2_with fail
        refine hK.out _ _ f0 (fun hA2 => ?_)
        clear hK K
        try simp only [Act.put, List.setIfInBounds_toArray, List.set_cons_zero, List.set_cons_succ]
        refine wpAnyH_take (i := 7) (oi := { dst := some 79, op := Op.convert 22 3 (Operand.tmp 78), type := 3, pos := _, after := #[{ on := 6, ground := Ground.data }], guard := none }) (v := ?vb_7) rfl (by kernel_rfl) (by kernel_rfl) (by kernel_rfl) (fun _ _ _ h => h) (Or.inl ⟨by rfl, ?yb_7⟩) hA2 ?rb_7
        case yb_7 => (intro w hSw; (try dsimp only at hSw); go_simp; try (with_reducible rfl))
        try simp only [Act.put, List.setIfInBounds_toArray, List.set_cons_zero, List.set_cons_succ]
        refine wpAnyH_ready (rs := [8]) (by kernel_rfl) (by simp) ?_
        refine (AllReadyH.cons (o := { dst := some 80, op := Op.buildSlice 27 1 #[(0, Operand.tmp 79)], type := 27, pos := _, after := #[{ on := 7, ground := Ground.data }], guard := none }) rfl (fun K hK => ?_) AllReadyH.nil)
        go_simp
        refine hK.out _ _ g0 (fun hA3 => ?_)
        clear hK K
        try simp only [Act.put, List.setIfInBounds_toArray, List.set_cons_zero, List.set_cons_succ]
        refine wpAnyH_ready (rs := [9]) (by kernel_rfl) (by simp) ?_
        refine (AllReadyH.cons (o := { dst := some 81, op := Op.call { callee := Callee.builtin Builtin.append, args := #[Operand.tmp 76, Operand.tmp 80], argTypes := #[27, 27] }, type := 27, pos := _, after := #[{ on := 4, ground := Ground.data }, { on := 8, ground := Ground.data }, { on := 6, ground := Ground.chain }], guard := none }) rfl (fun K hK => ?_) AllReadyH.nil)
        refine step_append_rd rfl (.tmp 76) (.tmp 80) 27 rfl i0 (.int .i64 0) 8 Try.underlying27 hi hz0 hz1 hz2 rfl (by simp [Act.eval, Act.put]) hrow2 (some ⟨x1.heap.size, 0, none⟩) 1 1 [.int .i64 (IntKind.i64.wrap u)] (by simp [Act.eval, Act.put]) (rd_oneV x1 _ 3) (one_int _) (by unfold maxLen; omega) (by omega) hgs ?_
        intro A5 c5 x5 ho5 hg5
        have HT5 : Hid (St w g (rcV k b s q AW nW cW AR nR cR f A' n' c' AP nP cP i S) gr L' x5) := HTA.out.grow (hg5.below hgs (fun k hk => (hrow2.lies k hk).1))
        have h0 := HT5.out.box
        have h7 := HT5.out.fc 7 (.slice A' n' c') rfl
        have fz := HT5.out.fz 7
        have h0s := HT5.out.boxS 7 (.slice A5 (n' + 1) c5)
        have HO5 := Lib.hid ho5
        clear ho5 hg5
        refine hK.out _ _ h0 (fun hE1 => ?_)
        clear hK K
        try simp only [Act.put, List.setIfInBounds_toArray, List.set_cons_zero, List.set_cons_succ]
        refine wpAnyH_take (i := 10) (oi := { dst := some 82, op := Op.nilCheck (Operand.tmp 72), type := 0, pos := _, after := #[{ on := 0, ground := Ground.data }, { on := 0, ground := Ground.phase }, { on := 1, ground := Ground.phase }, { on := 2, ground := Ground.phase }, { on := 3, ground := Ground.phase }, { on := 4, ground := Ground.phase }, { on := 5, ground := Ground.phase }, { on := 6, ground := Ground.phase }, { on := 7, ground := Ground.phase }, { on := 8, ground := Ground.phase }, { on := 9, ground := Ground.phase }], guard := none }) (v := ?vc_10) rfl (by kernel_rfl) (by kernel_rfl) (by kernel_rfl) (fun _ _ _ h => h) (Or.inl ⟨by rfl, ?yc_10⟩) hE1 ?rc_10
        case yc_10 => (intro w hSw; (try dsimp only at hSw); go_simp; try (with_reducible rfl))
        try simp only [Act.put, List.setIfInBounds_toArray, List.set_cons_zero, List.set_cons_succ]
        refine wpAnyH_take (i := 11) (oi := { dst := some 83, op := Op.fieldAddr 32 (Operand.tmp 82) 5, type := 0, pos := _, after := #[{ on := 10, ground := Ground.data }, { on := 0, ground := Ground.phase }, { on := 1, ground := Ground.phase }, { on := 2, ground := Ground.phase }, { on := 3, ground := Ground.phase }, { on := 4, ground := Ground.phase }, { on := 5, ground := Ground.phase }, { on := 6, ground := Ground.phase }, { on := 7, ground := Ground.phase }, { on := 8, ground := Ground.phase }, { on := 9, ground := Ground.phase }], guard := none }) (v := ?vc_11) rfl (by kernel_rfl) (by kernel_rfl) (by kernel_rfl) (fun _ _ _ h => h) (Or.inl ⟨by rfl, ?yc_11⟩) hE1 ?rc_11
        case yc_11 => (intro w hSw; (try dsimp only at hSw); go_simp; try (with_reducible rfl))
        try simp only [Act.put, List.setIfInBounds_toArray, List.set_cons_zero, List.set_cons_succ]
        refine wpAnyH_ready (rs := [12]) (by kernel_rfl) (by simp) ?_
        refine (AllReadyH.cons (o := { dst := none, op := Op.store 27 (Operand.tmp 83) (Operand.tmp 81), type := 0, pos := _, after := #[{ on := 11, ground := Ground.data }, { on := 9, ground := Ground.data }, { on := 9, ground := Ground.chain }, { on := 0, ground := Ground.phase }, { on := 1, ground := Ground.phase }, { on := 2, ground := Ground.phase }, { on := 3, ground := Ground.phase }, { on := 4, ground := Ground.phase }, { on := 5, ground := Ground.phase }, { on := 6, ground := Ground.phase }, { on := 7, ground := Ground.phase }, { on := 8, ground := Ground.phase }, { on := 9, ground := Ground.phase }], guard := none }) rfl (fun K hK => ?_) AllReadyH.nil)
        go_simp
        refine hK.out _ _ h0s (fun hE2 => ?_)
        clear hK K
        try simp only [Act.put, List.setIfInBounds_toArray, List.set_cons_zero, List.set_cons_succ]
        refine wpAnyH_done (by kernel_rfl) ?_ _
        have HS5 : Hid (St w g (rcV k b s q AW nW cW AR nR cR f A5 (n' + 1) c5 AP nP cP i S) gr L' (x5.setCell ⟨g, 7, none⟩ (.slice A5 (n' + 1) c5))) := HT5.out.set 7 _ rfl
        have HR5 : Hid (Own (x5.setCell ⟨g, 7, none⟩ (.slice A5 (n' + 1) c5)) (gr + 1) 3 A5 (n' + 1) c5 ((l.take (kk + 1)).map (Value.int .i64))) := by
          show Own _ _ _ _ _ _ _
          rw [List.take_add_one, HX.out]
          have h1 := HO5.out
          rw [HU.out] at h1
          have h2 := Own.onl h1 (onl_set x5 g 7 (.slice A5 (n' + 1) c5)) (h1.ne_blk HT5.out.hg (by decide))
          rw [List.map_append]
          exact h2
        go_wp2
        go_roundg (gk - 1)
        case measure => omega
        case rel => exact ⟨kk + 1, n' + 1, c5, A5, by omega, by omega, Lib.hid (by rw [HNK.out]), by have h1 := HNK.out; omega, HR5.out, by rw [HLL'.out]; exact HS5⟩
      · go_simp
        refine (rnumQ wr.drew gr _ 0 (show RdrQ _ wr.drew gr _ 0 from HS.out.hr) (by omega)).mono ?_
        rw [HNS.out]
        rintro e x1 ⟨rfl, hr1, ho1⟩
        have HT := Lib.hid (HS.out.num hr1 ho1.undrew)
        have f0 := HT.out.box
        have f7 := HT.out.fc 7 (.slice A' n' c') rfl
        have hrow1 := Own.onl hrow ho1.undrew (fun e => by have := (hrow.lies gr e).1; omega)
        have hba := below_alloc x1 (.cells #[.int .i64 (IntKind.i64.wrap u)] 3)
        have HTA : Hid (St w g (rcV k b s q AW nW cW AR nR cR f A' n' c' AP nP cP i S) gr L' (x1.alloc (.cells #[.int .i64 (IntKind.i64.wrap u)] 3))) := HT.out.grow (hba.mono (Nat.succ_le_of_lt HT.out.hr.lt))
        have g0 := HTA.out.box
        have g7 := HTA.out.fc 7 (.slice A' n' c') rfl
        have hrow2 := hrow1.alloc (.cells #[.int .i64 (IntKind.i64.wrap u)] 3)
        have hgs : gr + 1 ≤ (x1.alloc (.cells #[.int .i64 (IntKind.i64.wrap u)] 3)).heap.size := Nat.le_trans (Nat.succ_le_of_lt HT.out.hr.lt) hba.size
        clear hr1 ho1 hba
        go_wp2_with fail
        refine hK.out _ _ f0 (fun hB1 => ?_)
        clear hK K
        try simp only [Act.put, List.setIfInBounds_toArray, List.set_cons_zero, List.set_cons_succ]
        refine wpAnyH_take (i := 7) (oi := { dst := some 79, op := Op.convert 22 3 (Operand.tmp 78), type := 3, pos := _, after := #[{ on := 6, ground := Ground.data }], guard := none }) (v := ?vd_7) rfl (by kernel_rfl) (by kernel_rfl) (by kernel_rfl) (fun _ _ _ h => h) (Or.inl ⟨by rfl, ?yd_7⟩) hB1 ?rd_7
        case yd_7 => (intro w hSw; (try dsimp only at hSw); go_simp; try (with_reducible rfl))
        try simp only [Act.put, List.setIfInBounds_toArray, List.set_cons_zero, List.set_cons_succ]
        refine wpAnyH_ready (rs := [4, 8]) (by kernel_rfl) (by simp) ?_
        refine (AllReadyH.cons (o := { dst := some 76, op := Op.load 27 (Operand.tmp 75), type := 27, pos := _, after := #[{ on := 3, ground := Ground.data }], guard := none }) rfl (fun K hK => ?_) (AllReadyH.cons (o := { dst := some 80, op := Op.buildSlice 27 1 #[(0, Operand.tmp 79)], type := 27, pos := _, after := #[{ on := 7, ground := Ground.data }], guard := none }) rfl (fun K hK => ?_) AllReadyH.nil))
        · go_simp
          refine hK.out _ _ f0 (fun hB2 => ?_)
          clear hK K
          try simp only [Act.put, List.setIfInBounds_toArray, List.set_cons_zero, List.set_cons_succ]
          refine wpAnyH_ready (rs := [8]) (by kernel_rfl) (by simp) ?_
          refine (AllReadyH.cons (o := { dst := some 80, op := Op.buildSlice 27 1 #[(0, Operand.tmp 79)], type := 27, pos := _, after := #[{ on := 7, ground := Ground.data }], guard := none }) rfl (fun K hK => ?_) AllReadyH.nil)
          go_simp
          refine hK.out _ _ g0 (fun hB3 => ?_)
          clear hK K
          try simp only [Act.put, List.setIfInBounds_toArray, List.set_cons_zero, List.set_cons_succ]
          refine wpAnyH_ready (rs := [9]) (by kernel_rfl) (by simp) ?_
          refine (AllReadyH.cons (o := { dst := some 81, op := Op.call { callee := Callee.builtin Builtin.append, args := #[Operand.tmp 76, Operand.tmp 80], argTypes := #[27, 27] }, type := 27, pos := _, after := #[{ on := 4, ground := Ground.data }, { on := 8, ground := Ground.data }, { on := 6, ground := Ground.chain }], guard := none }) rfl (fun K hK => ?_) AllReadyH.nil)
          refine step_append_rd rfl (.tmp 76) (.tmp 80) 27 rfl i0 (.int .i64 0) 8 Try.underlying27 hi hz0 hz1 hz2 rfl (by simp [Act.eval, Act.put]) hrow2 (some ⟨x1.heap.size, 0, none⟩) 1 1 [.int .i64 (IntKind.i64.wrap u)] (by simp [Act.eval, Act.put]) (rd_oneV x1 _ 3) (one_int _) (by unfold maxLen; omega) (by omega) hgs ?_
          intro A5 c5 x5 ho5 hg5
          have HT5 : Hid (St w g (rcV k b s q AW nW cW AR nR cR f A' n' c' AP nP cP i S) gr L' x5) := HTA.out.grow (hg5.below hgs (fun k hk => (hrow2.lies k hk).1))
          have h0 := HT5.out.box
          have h7 := HT5.out.fc 7 (.slice A' n' c') rfl
          have fz := HT5.out.fz 7
          have h0s := HT5.out.boxS 7 (.slice A5 (n' + 1) c5)
          have HO5 := Lib.hid ho5
          clear ho5 hg5
          refine hK.out _ _ h0 (fun hE1 => ?_)
          clear hK K
          try simp only [Act.put, List.setIfInBounds_toArray, List.set_cons_zero, List.set_cons_succ]
          refine wpAnyH_take (i := 10) (oi := { dst := some 82, op := Op.nilCheck (Operand.tmp 72), type := 0, pos := _, after := #[{ on := 0, ground := Ground.data }, { on := 0, ground := Ground.phase }, { on := 1, ground := Ground.phase }, { on := 2, ground := Ground.phase }, { on := 3, ground := Ground.phase }, { on := 4, ground := Ground.phase }, { on := 5, ground := Ground.phase }, { on := 6, ground := Ground.phase }, { on := 7, ground := Ground.phase }, { on := 8, ground := Ground.phase }, { on := 9, ground := Ground.phase }], guard := none }) (v := ?ve_10) rfl (by kernel_rfl) (by kernel_rfl) (by kernel_rfl) (fun _ _ _ h => h) (Or.inl ⟨by rfl, ?ye_10⟩) hE1 ?re_10
          case ye_10 => (intro w hSw; (try dsimp only at hSw); go_simp; try (with_reducible rfl))
          try simp only [Act.put, List.setIfInBounds_toArray, List.set_cons_zero, List.set_cons_succ]
          refine wpAnyH_take (i := 11) (oi := { dst := some 83, op := Op.fieldAddr 32 (Operand.tmp 82) 5, type := 0, pos := _, after := #[{ on := 10, ground := Ground.data }, { on := 0, ground := Ground.phase }, { on := 1, ground := Ground.phase }, { on := 2, ground := Ground.phase }, { on := 3, ground := Ground.phase }, { on := 4, ground := Ground.phase }, { on := 5, ground := Ground.phase }, { on := 6, ground := Ground.phase }, { on := 7, ground := Ground.phase }, { on := 8, ground := Ground.phase }, { on := 9, ground := Ground.phase }], guard := none }) (v := ?ve_11) rfl (by kernel_rfl) (by kernel_rfl) (by kernel_rfl) (fun _ _ _ h => h) (Or.inl ⟨by rfl, ?ye_11⟩) hE1 ?re_11
          case ye_11 => (intro w hSw; (try dsimp only at hSw); go_simp; try (with_reducible rfl))
          try simp only [Act.put, List.setIfInBounds_toArray, List.set_cons_zero, List.set_cons_succ]
          refine wpAnyH_ready (rs := [12]) (by kernel_rfl) (by simp) ?_
          refine (AllReadyH.cons (o := { dst := none, op := Op.store 27 (Operand.tmp 83) (Operand.tmp 81), type := 0, pos := _, after := #[{ on := 11, ground := Ground.data }, { on := 9, ground := Ground.data }, { on := 9, ground := Ground.chain }, { on := 0, ground := Ground.phase }, { on := 1, ground := Ground.phase }, { on := 2, ground := Ground.phase }, { on := 3, ground := Ground.phase }, { on := 4, ground := Ground.phase }, { on := 5, ground := Ground.phase }, { on := 6, ground := Ground.phase }, { on := 7, ground := Ground.phase }, { on := 8, ground := Ground.phase }, { on := 9, ground := Ground.phase }], guard := none }) rfl (fun K hK => ?_) AllReadyH.nil)
          go_simp
          refine hK.out _ _ h0s (fun hE2 => ?_)
          clear hK K
          try simp only [Act.put, List.setIfInBounds_toArray, List.set_cons_zero, List.set_cons_succ]
          refine wpAnyH_done (by kernel_rfl) ?_ _
          have HS5 : Hid (St w g (rcV k b s q AW nW cW AR nR cR f A5 (n' + 1) c5 AP nP cP i S) gr L' (x5.setCell ⟨g, 7, none⟩ (.slice A5 (n' + 1) c5))) := HT5.out.set 7 _ rfl
          have HR5 : Hid (Own (x5.setCell ⟨g, 7, none⟩ (.slice A5 (n' + 1) c5)) (gr + 1) 3 A5 (n' + 1) c5 ((l.take (kk + 1)).map (Value.int .i64))) := by
            show Own _ _ _ _ _ _ _
            rw [List.take_add_one, HX.out]
            have h1 := HO5.out
            rw [HU.out] at h1
            have h2 := Own.onl h1 (onl_set x5 g 7 (.slice A5 (n' + 1) c5)) (h1.ne_blk HT5.out.hg (by decide))
            rw [List.map_append]
            exact h2
          go_wp2
          go_roundg (gk - 1)
          case measure => omega
          case rel => exact ⟨kk + 1, n' + 1, c5, A5, by omega, by omega, Lib.hid (by rw [HNK.out]), by have h1 := HNK.out; omega, HR5.out, by rw [HLL'.out]; exact HS5⟩
        · go_simp
          refine hK.out _ _ g0 (fun hB2 => ?_)
          clear hK K
          try simp only [Act.put, List.setIfInBounds_toArray, List.set_cons_zero, List.set_cons_succ]
          refine wpAnyH_ready (rs := [4]) (by kernel_rfl) (by simp) ?_
          refine (AllReadyH.cons (o := { dst := some 76, op := Op.load 27 (Operand.tmp 75), type := 27, pos := _, after := #[{ on := 3, ground := Ground.data }], guard := none }) rfl (fun K hK => ?_) AllReadyH.nil)
          go_simp
          refine hK.out _ _ g0 (fun hB3 => ?_)
          clear hK K
          try simp only [Act.put, List.setIfInBounds_toArray, List.set_cons_zero, List.set_cons_succ]
          refine wpAnyH_ready (rs := [9]) (by kernel_rfl) (by simp) ?_
          refine (AllReadyH.cons (o := { dst := some 81, op := Op.call { callee := Callee.builtin Builtin.append, args := #[Operand.tmp 76, Operand.tmp 80], argTypes := #[27, 27] }, type := 27, pos := _, after := #[{ on := 4, ground := Ground.data }, { on := 8, ground := Ground.data }, { on := 6, ground := Ground.chain }], guard := none }) rfl (fun K hK => ?_) AllReadyH.nil)
          refine step_append_rd rfl (.tmp 76) (.tmp 80) 27 rfl i0 (.int .i64 0) 8 Try.underlying27 hi hz0 hz1 hz2 rfl (by simp [Act.eval, Act.put]) hrow2 (some ⟨x1.heap.size, 0, none⟩) 1 1 [.int .i64 (IntKind.i64.wrap u)] (by simp [Act.eval, Act.put]) (rd_oneV x1 _ 3) (one_int _) (by unfold maxLen; omega) (by omega) hgs ?_
          intro A5 c5 x5 ho5 hg5
          have HT5 : Hid (St w g (rcV k b s q AW nW cW AR nR cR f A' n' c' AP nP cP i S) gr L' x5) := HTA.out.grow (hg5.below hgs (fun k hk => (hrow2.lies k hk).1))
          have h0 := HT5.out.box
          have h7 := HT5.out.fc 7 (.slice A' n' c') rfl
          have fz := HT5.out.fz 7
          have h0s := HT5.out.boxS 7 (.slice A5 (n' + 1) c5)
          have HO5 := Lib.hid ho5
          clear ho5 hg5
          refine hK.out _ _ h0 (fun hE1 => ?_)
          clear hK K
          try simp only [Act.put, List.setIfInBounds_toArray, List.set_cons_zero, List.set_cons_succ]
          refine wpAnyH_take (i := 10) (oi := { dst := some 82, op := Op.nilCheck (Operand.tmp 72), type := 0, pos := _, after := #[{ on := 0, ground := Ground.data }, { on := 0, ground := Ground.phase }, { on := 1, ground := Ground.phase }, { on := 2, ground := Ground.phase }, { on := 3, ground := Ground.phase }, { on := 4, ground := Ground.phase }, { on := 5, ground := Ground.phase }, { on := 6, ground := Ground.phase }, { on := 7, ground := Ground.phase }, { on := 8, ground := Ground.phase }, { on := 9, ground := Ground.phase }], guard := none }) (v := ?vf_10) rfl (by kernel_rfl) (by kernel_rfl) (by kernel_rfl) (fun _ _ _ h => h) (Or.inl ⟨by rfl, ?yf_10⟩) hE1 ?rf_10
          case yf_10 => (intro w hSw; (try dsimp only at hSw); go_simp; try (with_reducible rfl))
          try simp only [Act.put, List.setIfInBounds_toArray, List.set_cons_zero, List.set_cons_succ]
          refine wpAnyH_take (i := 11) (oi := { dst := some 83, op := Op.fieldAddr 32 (Operand.tmp 82) 5, type := 0, pos := _, after := #[{ on := 10, ground := Ground.data }, { on := 0, ground := Ground.phase }, { on := 1, ground := Ground.phase }, { on := 2, ground := Ground.phase }, { on := 3, ground := Ground.phase }, { on := 4, ground := Ground.phase }, { on := 5, ground := Ground.phase }, { on := 6, ground := Ground.phase }, { on := 7, ground := Ground.phase }, { on := 8, ground := Ground.phase }, { on := 9, ground := Ground.phase }], guard := none }) (v := ?vf_11) rfl (by kernel_rfl) (by kernel_rfl) (by kernel_rfl) (fun _ _ _ h => h) (Or.inl ⟨by rfl, ?yf_11⟩) hE1 ?rf_11
          case yf_11 => (intro w hSw; (try dsimp only at hSw); go_simp; try (with_reducible rfl))
          try simp only [Act.put, List.setIfInBounds_toArray, List.set_cons_zero, List.set_cons_succ]
          refine wpAnyH_ready (rs := [12]) (by kernel_rfl) (by simp) ?_
          refine (AllReadyH.cons (o := { dst := none, op := Op.store 27 (Operand.tmp 83) (Operand.tmp 81), type := 0, pos := _, after := #[{ on := 11, ground := Ground.data }, { on := 9, ground := Ground.data }, { on := 9, ground := Ground.chain }, { on := 0, ground := Ground.phase }, { on := 1, ground := Ground.phase }, { on := 2, ground := Ground.phase }, { on := 3, ground := Ground.phase }, { on := 4, ground := Ground.phase }, { on := 5, ground := Ground.phase }, { on := 6, ground := Ground.phase }, { on := 7, ground := Ground.phase }, { on := 8, ground := Ground.phase }, { on := 9, ground := Ground.phase }], guard := none }) rfl (fun K hK => ?_) AllReadyH.nil)
          go_simp
          refine hK.out _ _ h0s (fun hE2 => ?_)
          clear hK K
          try simp only [Act.put, List.setIfInBounds_toArray, List.set_cons_zero, List.set_cons_succ]
          refine wpAnyH_done (by kernel_rfl) ?_ _
          have HS5 : Hid (St w g (rcV k b s q AW nW cW AR nR cR f A5 (n' + 1) c5 AP nP cP i S) gr L' (x5.setCell ⟨g, 7, none⟩ (.slice A5 (n' + 1) c5))) := HT5.out.set 7 _ rfl
          have HR5 : Hid (Own (x5.setCell ⟨g, 7, none⟩ (.slice A5 (n' + 1) c5)) (gr + 1) 3 A5 (n' + 1) c5 ((l.take (kk + 1)).map (Value.int .i64))) := by
            show Own _ _ _ _ _ _ _
            rw [List.take_add_one, HX.out]
            have h1 := HO5.out
            rw [HU.out] at h1
            have h2 := Own.onl h1 (onl_set x5 g 7 (.slice A5 (n' + 1) c5)) (h1.ne_blk HT5.out.hg (by decide))
            rw [List.map_append]
            exact h2
          go_wp2
          go_roundg (gk - 1)
          case measure => omega
          case rel => exact ⟨kk + 1, n' + 1, c5, A5, by omega, by omega, Lib.hid (by rw [HNK.out]), by have h1 := HNK.out; omega, HR5.out, by rw [HLL'.out]; exact HS5⟩
    · have hke : kk = l.length := by omega
      subst hke
      have he : (l.map uw).drop l.length = [] := List.drop_eq_nil_of_le (by rw [List.length_map]; exact Nat.le_refl _)
      rw [he] at HS
      have HS' : Hid (St w g (rcV k b s q AW nW cW AR nR cR f A' n' c' AP nP cP i S) gr [] wr) := HS
      rw [List.take_of_length_le (Nat.le_refl _)] at hrow
      clear he HS
      go_wp2_with fail
      refine (rleftQ _ gr _ _ HS'.out.hr).mono ?_
      rintro e wz ⟨rfl, rfl⟩
      go_wp2_with fail
      refine (rcloseQ _ gr _ _ HS'.out.hr).mono ?_
      rintro e wz ⟨rfl, rfl⟩
      rw [HCV.out]
      go_wp2
      go_ret
      exact ⟨A', n', c', rfl, HNK.out, HS'.out.hg, hrow.mono (by have := HS'.out.lt; omega), HS'.out.ho⟩
end Go.Proofs.Ytmjjbfcblmmipaa
