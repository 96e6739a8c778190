/- (*Rec).take, letter by letter. -/
import Derived.Test.YtmjjbfcblmmipaaThreesW
import Derived.Test.YtmjjbfcblmmipaaRdrQ
namespace Go.Proofs.Ytmjjbfcblmmipaa
set_option linter.unusedVariables false
set_option linter.unusedSimpArgs false
open Go.RowKit

/-- The box of the record's address, the record, and a reader of the part. -/
structure St (w0 : World) (g : Nat) (cs : Array Value) (gr : Nat) (xs : List Int) (W : World) : Prop where
  hg : W.heap[g]? = some (.cells cs 32 (0, 0))
  hb : W.heap[w0.heap.size]? = some (.cells #[.pointer (some ⟨g, 0, none⟩)] 154 (0, 0))
  hr : RdrQ (w0.heap.size ≤ ·) W gr xs 0
  ho : Onl g w0 W
  lt : w0.heap.size < gr
  gl : g < w0.heap.size
section
variable {w0 W W' : World} {g gr : Nat} {cs cs' : Array Value} {xs xs' : List Int}
theorem St.num (h : St w0 g cs gr xs W) (hr : RdrQ (w0.heap.size ≤ ·) W' gr xs' 0) (ho : Onl gr W W') : St w0 g cs gr xs' W' := by
  have hlt := h.lt; have hgl := h.gl
  have hs := h.ho.size
  exact ⟨(ho.block g (lt_of_heap h.hg) (fun e => by injection e with e; omega)).trans h.hg, (ho.block _ (lt_of_heap h.hb) (fun e => by injection e with e; omega)).trans h.hb, hr,
    ⟨ho.os.trans h.ho.os, ho.tape.trans h.ho.tape, ho.output.trans h.ho.output, Nat.le_trans h.ho.size ho.size, fun i hi hne => (ho.block i (by omega) (fun e => by injection e with e; omega)).trans (h.ho.block i hi hne)⟩, h.lt, h.gl⟩
theorem Onl.undrew {w w' : World} {g : Nat} (h : Onl g w.drew w') : Onl g w w' := ⟨h.os, h.tape, h.output, h.size, h.block⟩
theorem set_alloc {w : World} {g j : Nat} {cs cs' : Array Value} {t : TypeId} (v : Value) (o : Obj) (h : w.heap[g]? = some (.cells cs t (0, 0))) (hv : cs.setIfInBounds j v = cs') : ((w.setCell ⟨g, j, none⟩ v).alloc o).heap[g]? = some (.cells cs' t (0, 0)) :=
  ((below_alloc (w.setCell ⟨g, j, none⟩ v) o).block g (lt_of_heap (rc_set j v h rfl))).trans (rc_set j v h hv)
theorem RdrQ.imp {Q Q' : Nat → Prop} {w : World} {e : Int} (h : RdrQ Q w gr xs e) (hq : ∀ k, Q k → Q' k) : RdrQ Q' w gr xs e := by
  obtain ⟨A, n, c, hh, hx, hnc, hk⟩ := h
  exact ⟨A, n, c, hh, hx, hnc, fun k h => ⟨(hk k h).1, hq k (hk k h).2⟩⟩
theorem St.begin (hg : w0.heap[g]? = some (.cells cs 32 (0, 0))) (hr : RdrQ ((w0.alloc (.cells #[.pointer (some ⟨g, 0, none⟩)] 154)).heap.size ≤ ·) W gr xs 0) (hgr : (w0.alloc (.cells #[.pointer (some ⟨g, 0, none⟩)] 154)).heap.size ≤ gr) (hb : Below (w0.alloc (.cells #[.pointer (some ⟨g, 0, none⟩)] 154)).heap.size (w0.alloc (.cells #[.pointer (some ⟨g, 0, none⟩)] 154)) W) : St w0 g cs gr xs W := by
  have hgl := lt_of_heap hg
  have hba := below_alloc w0 (.cells #[.pointer (some ⟨g, 0, none⟩)] 154)
  have hsz : (w0.alloc (.cells #[.pointer (some ⟨g, 0, none⟩)] 154)).heap.size = w0.heap.size + 1 := by simp
  refine ⟨(hb.block g (by omega)).trans ((hba.block g hgl).trans hg), (hb.block _ (by omega)).trans (heap_alloc_new w0 _), hr.imp (fun k h => by omega), Onl.of_below (hba.trans (hb.mono (by omega))), by omega, hgl⟩
theorem St.set (j : Nat) (v : Value) (h : St w0 g cs gr xs W) (hv : cs.setIfInBounds j v = cs') : St w0 g cs' gr xs (W.setCell ⟨g, j, none⟩ v) := by
  have hlt := h.lt; have hgl := h.gl
  exact ⟨rc_set j v h.hg hv, (set_other W g j v (by omega)).trans h.hb, h.hr.onl (onl_set _ _ _ _) (by omega) (by omega), h.ho.trans (onl_set _ _ _ _), h.lt, h.gl⟩
theorem St.box (h : St w0 g cs gr xs W) : W.cell? ⟨w0.heap.size, 0, none⟩ = some (.pointer (some ⟨g, 0, none⟩)) := rc_cell 0 _ h.hb rfl
theorem St.boxS (h : St w0 g cs gr xs W) (j : Nat) (v : Value) : (W.setCell ⟨g, j, none⟩ v).cell? ⟨w0.heap.size, 0, none⟩ = some (.pointer (some ⟨g, 0, none⟩)) := rc_cell 0 _ ((set_other W g j v (by have := h.gl; omega)).trans h.hb) rfl
theorem St.fz (h : St w0 g cs gr xs W) (j : Nat) : W.frozen? ⟨g, j, none⟩ = false := two_frozen h.hg
theorem St.fc (h : St w0 g cs gr xs W) (j : Nat) (v : Value) (hv : cs[j]? = some v) : W.cell? ⟨g, j, none⟩ = some v := rc_cell j v h.hg hv
end
/-- string(b), b a slice of bytes. -/
theorem conv_own {w : World} {base : Nat} {A : Option Addr} {n c : Nat} {xs : List Int} (h : Own w base 5 A n c (By xs)) :
    (convert 28 9 (.slice A n c)).run Try.prog w = .ok (.string (strOfNums xs)) w := by
  rcases Nat.eq_zero_or_pos n with h0 | hn
  · subst h0
    have hx : xs = [] := List.eq_nil_of_length_eq_zero (by have := h.len; rwa [By_length] at this)
    subst hx
    rcases h.2 with ⟨hv, _⟩ | ⟨g, cap, cur, hv, _⟩
    · rw [hv]; exact run_convert_bytes_nil w 28 5 Try.underlying28 Try.underlying5 0 0 9 Try.underlying9
    · have hA : A = some ⟨g, 0, none⟩ := by injection hv
      subst hA
      exact run_convert_bytes_arg w 28 5 Try.underlying28 Try.underlying5 g 0 0 c [] rfl (fun i hi => absurd hi (by omega)) 9 Try.underlying9
  obtain ⟨hl, hc⟩ := h.rd
  rw [By_length] at hl
  obtain ⟨b, off, rfl, hb, hcell⟩ := hc hn
  refine run_convert_bytes_arg w 28 5 Try.underlying28 Try.underlying5 b off n c xs hl (fun i hi => ?_) 9 Try.underlying9
  refine hcell i _ ?_
  rw [By, List.getElem?_map, List.getElem?_eq_getElem (by omega)]
  simp [List.getD, List.getElem?_eq_getElem (show i < xs.length by omega)]
theorem numS_head (n : Int) (post : List Int) (h0 : 0 ≤ n) (h1 : n ≤ 18446744073709551615) : numS (num n ++ post) 0 = (n, post, 0) := by
  unfold numS
  rw [tkN_head n post h0 h1]
  simp
set_option maxRecDepth 100000 in
set_option maxHeartbeats 4000000 in
theorem take_t (g : Nat) (k b s q : Int) (AW : Option Addr) (nW cW : Nat) (AR : Option Addr) (nR cR : Nat) (f : Bool) (AS : Option Addr) (nS cS : Nat) (AP : Option Addr) (nP cP : Nat) (i : Int) (S : ByteArray) (A : Option Addr) (n c : Nat) (w : World) (hg : w.heap[g]? = some (.cells (rcV k b s q AW nW cW AR nR cR f AS nS cS AP nP cP i S) 32 (0, 0))) (y0 y1 y2 : Int) (hx : Bs w A n (nums [y0, y1, y2])) (hn : n ≤ 20000000) (h0 : 0 ≤ y0 ∧ y0 ≤ 18446744073709551615) (h1 : 0 ≤ y1 ∧ y1 ≤ 18446744073709551615) (h2 : 0 ≤ y2 ∧ y2 ≤ 18446744073709551615) :
    Calls Try.prog 65 #[.pointer (some ⟨g, 0, none⟩), .int .i32 116, .slice A n c] w fun e w' => e = .returned (.int .i64 0) ∧ w'.heap[g]? = some (.cells (rcV k y0 y1 y2 AW nW cW AR nR cR f AS nS cS AP nP cP i S) 32 (0, 0)) ∧ Onl g w w' := by
  have e : nums [y0, y1, y2] = num y0 ++ (num y1 ++ (num y2 ++ [])) := by simp [nums]
  rw [e] at hx
  clear e
  have HN0 := Lib.hid (numS_head y0 (num y1 ++ (num y2 ++ [])) h0.1 h0.2)
  have HN1 := Lib.hid (numS_head y1 (num y2 ++ []) h1.1 h1.2)
  have HN2 := Lib.hid (numS_head y2 [] h2.1 h2.2)
  clear h0 h1 h2
  have hl2 : (num y2 ++ []).length ≤ (num y1 ++ (num y2 ++ [])).length := by simp
  have hl1 : (num y1 ++ (num y2 ++ [])).length ≤ (num y0 ++ (num y1 ++ (num y2 ++ []))).length := by simp
  generalize num y0 ++ (num y1 ++ (num y2 ++ [])) = L0 at *
  generalize num y1 ++ (num y2 ++ []) = L1 at *
  generalize num y2 ++ [] = L2 at *
  have hxa := hx.keep (below_alloc w (.cells #[.pointer (some ⟨g, 0, none⟩)] 154))
  have HCV := Lib.hid (show closeV [] 0 = 0 from rfl)
  have HG := Lib.hid hg
  have hlen := hx.len
  clear hx hg
  go_enter Try.func65, Try.ntmps65
  go_wp2_with fail
  refine (readQ A n c _ _ hxa (by omega)).mono ?_
  rintro e w1 ⟨gr, rfl, hr1, hgr, hb1⟩
  have HS1 : Hid (St w g (rcV k b s q AW nW cW AR nR cR f AS nS cS AP nP cP i S) gr L0 w1) := St.begin HG.out hr1 hgr hb1
  clear hr1 hgr hb1 hxa HG
  have e0_2 : w1.drew.cell? ⟨w.heap.size, 0, none⟩ = some (.pointer (some ⟨g, 0, none⟩)) := HS1.out.box
  go_wp2_with fail
  go_region_held3 (fun w' => w'.cell? ⟨w.heap.size, 0, none⟩ = some (.pointer (some ⟨g, 0, none⟩))) (first | exact e0_2 | exact f0_2 | exact f0s_2) (first | (go_at_call 108; refine (rnumQ w1.drew gr _ 0 (show RdrQ _ w1.drew gr _ 0 from HS1.out.hr) (by omega)).mono ?_; rw [HN0.out]; rintro e x2 ⟨rfl, hr2, ho2⟩; have HT2 := Lib.hid (HS1.out.num hr2 ho2.undrew); have f0_2 := HT2.out.box; have fz_2 := HT2.out.fz 1; have fc_2 := HT2.out.fc 1 (.int .u64 b) rfl; have f0s_2 := HT2.out.boxS 1 (.int .u64 y0); clear hr2 ho2))
  have HS2 : Hid (St w g (rcV k y0 s q AW nW cW AR nR cR f AS nS cS AP nP cP i S) gr L1 (x2.setCell ⟨g, 1, none⟩ (.int .u64 y0))) := HT2.out.set 1 (.int .u64 y0) rfl
  clear e0_2 f0_2 fz_2 fc_2 f0s_2 HT2 HS1
  generalize x2.setCell ⟨g, 1, none⟩ (.int .u64 y0) = w2 at *
  have e0_3 : w2.drew.cell? ⟨w.heap.size, 0, none⟩ = some (.pointer (some ⟨g, 0, none⟩)) := HS2.out.box
  go_wp2_with fail
  go_region_held3 (fun w' => w'.cell? ⟨w.heap.size, 0, none⟩ = some (.pointer (some ⟨g, 0, none⟩))) (first | exact e0_3 | exact f0_3 | exact f0s_3) (first | (go_at_call 108; refine (rnumQ w2.drew gr _ 0 (show RdrQ _ w2.drew gr _ 0 from HS2.out.hr) (by omega)).mono ?_; rw [HN1.out]; rintro e x3 ⟨rfl, hr3, ho3⟩; have HT3 := Lib.hid (HS2.out.num hr3 ho3.undrew); have f0_3 := HT3.out.box; have fz_3 := HT3.out.fz 2; have fc_3 := HT3.out.fc 2 (.int .u64 s) rfl; have f0s_3 := HT3.out.boxS 2 (.int .u64 y1); clear hr3 ho3))
  have HS3 : Hid (St w g (rcV k y0 y1 q AW nW cW AR nR cR f AS nS cS AP nP cP i S) gr L2 (x3.setCell ⟨g, 2, none⟩ (.int .u64 y1))) := HT3.out.set 2 (.int .u64 y1) rfl
  clear e0_3 f0_3 fz_3 fc_3 f0s_3 HT3 HS2
  generalize x3.setCell ⟨g, 2, none⟩ (.int .u64 y1) = w3 at *
  have e0_4 : w3.drew.cell? ⟨w.heap.size, 0, none⟩ = some (.pointer (some ⟨g, 0, none⟩)) := HS3.out.box
  go_wp2_with fail
  go_region_held3 (fun w' => w'.cell? ⟨w.heap.size, 0, none⟩ = some (.pointer (some ⟨g, 0, none⟩))) (first | exact e0_4 | exact f0_4 | exact f0s_4) (first | (go_at_call 108; refine (rnumQ w3.drew gr _ 0 (show RdrQ _ w3.drew gr _ 0 from HS3.out.hr) (by omega)).mono ?_; rw [HN2.out]; rintro e x4 ⟨rfl, hr4, ho4⟩; have HT4 := Lib.hid (HS3.out.num hr4 ho4.undrew); have f0_4 := HT4.out.box; have fz_4 := HT4.out.fz 3; have fc_4 := HT4.out.fc 3 (.int .u64 q) rfl; have f0s_4 := HT4.out.boxS 3 (.int .u64 y2); clear hr4 ho4))
  have HS4 : Hid (St w g (rcV k y0 y1 y2 AW nW cW AR nR cR f AS nS cS AP nP cP i S) gr [] (x4.setCell ⟨g, 3, none⟩ (.int .u64 y2))) := HT4.out.set 3 (.int .u64 y2) rfl
  clear e0_4 f0_4 fz_4 fc_4 f0s_4 HT4 HS3
  generalize x4.setCell ⟨g, 3, none⟩ (.int .u64 y2) = w4 at *
  go_wp2_with fail
  refine (rcloseQ _ gr _ _ HS4.out.hr).mono ?_
  rintro e wz ⟨rfl, rfl⟩
  rw [HCV.out]
  go_wp2
  go_ret
  exact ⟨rfl, HS4.out.hg, HS4.out.ho⟩
set_option maxRecDepth 100000 in
set_option maxHeartbeats 4000000 in
theorem take_i (g : Nat) (k b s q : Int) (AW : Option Addr) (nW cW : Nat) (AR : Option Addr) (nR cR : Nat) (f : Bool) (AS : Option Addr) (nS cS : Nat) (AP : Option Addr) (nP cP : Nat) (i : Int) (S : ByteArray) (A : Option Addr) (n c : Nat) (w : World) (hg : w.heap[g]? = some (.cells (rcV k b s q AW nW cW AR nR cR f AS nS cS AP nP cP i S) 32 (0, 0))) (y : Int) (hx : Bs w A n (num y)) (hn : n ≤ 20000000) (h0 : 0 ≤ y ∧ y ≤ 18446744073709551615) :
    Calls Try.prog 65 #[.pointer (some ⟨g, 0, none⟩), .int .i32 105, .slice A n c] w fun e w' => e = .returned (.int .i64 0) ∧ w'.heap[g]? = some (.cells (rcV k b s q AW nW cW AR nR cR f AS nS cS AP nP cP y S) 32 (0, 0)) ∧ Onl g w w' := by
  have HN0 := Lib.hid (numS_head y [] h0.1 h0.2)
  rw [List.append_nil] at HN0
  clear h0
  generalize num y = L0 at *
  have hxa := hx.keep (below_alloc w (.cells #[.pointer (some ⟨g, 0, none⟩)] 154))
  have HCV := Lib.hid (show closeV [] 0 = 0 from rfl)
  have HG := Lib.hid hg
  have hlen := hx.len
  clear hx hg
  go_enter Try.func65, Try.ntmps65
  go_wp2_with fail
  refine (readQ A n c _ _ hxa (by omega)).mono ?_
  rintro e w1 ⟨gr, rfl, hr1, hgr, hb1⟩
  have HS1 : Hid (St w g (rcV k b s q AW nW cW AR nR cR f AS nS cS AP nP cP i S) gr L0 w1) := St.begin HG.out hr1 hgr hb1
  clear hr1 hgr hb1 hxa HG
  have e0_2 : w1.drew.cell? ⟨w.heap.size, 0, none⟩ = some (.pointer (some ⟨g, 0, none⟩)) := HS1.out.box
  go_wp2_with fail
  go_region_held3 (fun w' => w'.cell? ⟨w.heap.size, 0, none⟩ = some (.pointer (some ⟨g, 0, none⟩))) (first | exact e0_2 | exact f0_2 | exact f0s_2) (first | (go_at_call 108; refine (rnumQ w1.drew gr _ 0 (show RdrQ _ w1.drew gr _ 0 from HS1.out.hr) (by omega)).mono ?_; rw [HN0.out]; rintro e x2 ⟨rfl, hr2, ho2⟩; have HT2 := Lib.hid (HS1.out.num hr2 ho2.undrew); have f0_2 := HT2.out.box; have fz_2 := HT2.out.fz 9; have fc_2 := HT2.out.fc 9 (.int .u64 i) rfl; have f0s_2 := HT2.out.boxS 9 (.int .u64 y); clear hr2 ho2))
  have HS2 : Hid (St w g (rcV k b s q AW nW cW AR nR cR f AS nS cS AP nP cP y S) gr [] (x2.setCell ⟨g, 9, none⟩ (.int .u64 y))) := HT2.out.set 9 (.int .u64 y) rfl
  clear e0_2 f0_2 fz_2 fc_2 f0s_2 HT2 HS1
  generalize x2.setCell ⟨g, 9, none⟩ (.int .u64 y) = w2 at *
  go_wp2_with fail
  refine (rcloseQ _ gr _ _ HS2.out.hr).mono ?_
  rintro e wz ⟨rfl, rfl⟩
  rw [HCV.out]
  go_wp2
  go_ret
  exact ⟨rfl, HS2.out.hg, HS2.out.ho⟩
set_option maxRecDepth 100000 in
set_option maxHeartbeats 4000000 in
theorem take_c (g : Nat) (k b s q : Int) (AW : Option Addr) (nW cW : Nat) (AR : Option Addr) (nR cR : Nat) (f : Bool) (AS : Option Addr) (nS cS : Nat) (AP : Option Addr) (nP cP : Nat) (i : Int) (S : ByteArray) (A : Option Addr) (n c : Nat) (w : World) (hg : w.heap[g]? = some (.cells (rcV k b s q AW nW cW AR nR cR f AS nS cS AP nP cP i S) 32 (0, 0))) (y : Bool) (hx : Bs w A n [flagB y]) (hn : n ≤ 20000000) :
    Calls Try.prog 65 #[.pointer (some ⟨g, 0, none⟩), .int .i32 99, .slice A n c] w fun e w' => e = .returned (.int .i64 0) ∧ w'.heap[g]? = some (.cells (rcV k b s q AW nW cW AR nR cR y AS nS cS AP nP cP i S) 32 (0, 0)) ∧ Onl g w w' := by
  have HN0 := Lib.hid (flagS_flag y)
  generalize [flagB y] = L0 at *
  have hxa := hx.keep (below_alloc w (.cells #[.pointer (some ⟨g, 0, none⟩)] 154))
  have HCV := Lib.hid (show closeV [] 0 = 0 from rfl)
  have HG := Lib.hid hg
  have hlen := hx.len
  clear hx hg
  go_enter Try.func65, Try.ntmps65
  go_wp2_with fail
  refine (readQ A n c _ _ hxa (by omega)).mono ?_
  rintro e w1 ⟨gr, rfl, hr1, hgr, hb1⟩
  have HS1 : Hid (St w g (rcV k b s q AW nW cW AR nR cR f AS nS cS AP nP cP i S) gr L0 w1) := St.begin HG.out hr1 hgr hb1
  clear hr1 hgr hb1 hxa HG
  have e0_2 : w1.drew.cell? ⟨w.heap.size, 0, none⟩ = some (.pointer (some ⟨g, 0, none⟩)) := HS1.out.box
  go_wp2_with fail
  go_region_held3 (fun w' => w'.cell? ⟨w.heap.size, 0, none⟩ = some (.pointer (some ⟨g, 0, none⟩))) (first | exact e0_2 | exact f0_2 | exact f0s_2) (first | (go_at_call 115; refine (rflagQ w1.drew gr _ 0 (show RdrQ _ w1.drew gr _ 0 from HS1.out.hr)).mono ?_; rw [HN0.out]; rintro e x2 ⟨rfl, hr2, ho2⟩; have HT2 := Lib.hid (HS1.out.num hr2 ho2.undrew); have f0_2 := HT2.out.box; have fz_2 := HT2.out.fz 6; have fc_2 := HT2.out.fc 6 (.bool f) rfl; have f0s_2 := HT2.out.boxS 6 (.bool y); clear hr2 ho2))
  have HS2 : Hid (St w g (rcV k b s q AW nW cW AR nR cR y AS nS cS AP nP cP i S) gr [] (x2.setCell ⟨g, 6, none⟩ (.bool y))) := HT2.out.set 6 (.bool y) rfl
  clear e0_2 f0_2 fz_2 fc_2 f0s_2 HT2 HS1
  generalize x2.setCell ⟨g, 6, none⟩ (.bool y) = w2 at *
  go_wp2_with fail
  refine (rcloseQ _ gr _ _ HS2.out.hr).mono ?_
  rintro e wz ⟨rfl, rfl⟩
  rw [HCV.out]
  go_wp2
  go_ret
  exact ⟨rfl, HS2.out.hg, HS2.out.ho⟩
set_option maxRecDepth 100000 in
set_option maxHeartbeats 4000000 in
theorem take_a (g : Nat) (k b s q : Int) (AW : Option Addr) (nW cW : Nat) (AR : Option Addr) (nR cR : Nat) (f : Bool) (AS : Option Addr) (nS cS : Nat) (AP : Option Addr) (nP cP : Nat) (i : Int) (S : ByteArray) (A : Option Addr) (n c : Nat) (w : World) (hg : w.heap[g]? = some (.cells (rcV k b s q AW nW cW AR nR cR f AS nS cS AP nP cP i S) 32 (0, 0)))  :
    Calls Try.prog 65 #[.pointer (some ⟨g, 0, none⟩), .int .i32 97, .slice A n c] w fun e w' => e = .returned (.int .i64 0) ∧ w'.heap[g]? = some (.cells (rcV k b s q AW nW cW AR nR cR f AS nS cS A n c i S) 32 (0, 0)) ∧ Onl g w w' := by
  have hga := (below_alloc w (.cells #[.pointer (some ⟨g, 0, none⟩)] 154)).block g (lt_of_heap hg) |>.trans hg
  have hxa := heap_alloc_new w (.cells #[.pointer (some ⟨g, 0, none⟩)] 154)
  have d0 := rc_cell 0 (.pointer (some ⟨g, 0, none⟩)) hxa rfl
  have d2 := two_frozen (i := 8) hga
  have d3 := rc_cell 8 (.slice AP nP cP) hga rfl
  have HG := Lib.hid hg
  have hgl := lt_of_heap hg
  clear hga hxa hg
  go_enter Try.func65, Try.ntmps65
  go_wp2
  go_ret
  exact ⟨rfl, set_alloc _ _ HG.out rfl, (onl_set _ _ _ _).trans (Onl.of_below (below_alloc _ _))⟩
set_option maxRecDepth 100000 in
set_option maxHeartbeats 4000000 in
theorem take_n {bb : Nat} (g : Nat) (k b s q : Int) (AW : Option Addr) (nW cW : Nat) (AR : Option Addr) (nR cR : Nat) (f : Bool) (AS : Option Addr) (nS cS : Nat) (AP : Option Addr) (nP cP : Nat) (i : Int) (S : ByteArray) (A : Option Addr) (n c : Nat) (w : World) (hg : w.heap[g]? = some (.cells (rcV k b s q AW nW cW AR nR cR f AS nS cS AP nP cP i S) 32 (0, 0))) (ys : List Int) (hx : Own w bb 5 A n c (By ys)) :
    Calls Try.prog 65 #[.pointer (some ⟨g, 0, none⟩), .int .i32 110, .slice A n c] w fun e w' => e = .returned (.int .i64 0) ∧ w'.heap[g]? = some (.cells (rcV k b s q AW nW cW AR nR cR f AS nS cS AP nP cP i (strOfNums ys)) 32 (0, 0)) ∧ Onl g w w' := by
  have hcv : ∀ W, W = w.alloc (.cells #[.pointer (some ⟨g, 0, none⟩)] 154) → (convert 28 9 (.slice A n c)).run Try.prog W = .ok (.string (strOfNums ys)) W := fun W hW => by subst hW; exact conv_own (hx.alloc _)
  have hcv' := hcv _ rfl
  clear hcv hx
  have hga := (below_alloc w (.cells #[.pointer (some ⟨g, 0, none⟩)] 154)).block g (lt_of_heap hg) |>.trans hg
  have hxa := heap_alloc_new w (.cells #[.pointer (some ⟨g, 0, none⟩)] 154)
  have d0 := rc_cell 0 (.pointer (some ⟨g, 0, none⟩)) hxa rfl
  have d2 := two_frozen (i := 10) hga
  have d3 := rc_cell 10 (.string S) hga rfl
  have HG := Lib.hid hg
  have hgl := lt_of_heap hg
  clear hga hxa hg
  go_enter Try.func65, Try.ntmps65
  go_wp2
  go_ret
  exact ⟨rfl, set_alloc _ _ HG.out rfl, (onl_set _ _ _ _).trans (Onl.of_below (below_alloc _ _))⟩
set_option maxRecDepth 100000 in
set_option maxHeartbeats 4000000 in
theorem take_w (g : Nat) (k b s q : Int) (AR : Option Addr) (nR cR : Nat) (f : Bool) (AS : Option Addr) (nS cS : Nat) (AP : Option Addr) (nP cP : Nat) (i : Int) (S : ByteArray) (A : Option Addr) (n c : Nat) (w : World) (hg : w.heap[g]? = some (.cells (rcV k b s q none 0 0 AR nR cR f AS nS cS AP nP cP i S) 32 (0, 0))) (l : List Tr) (hx : Bs w A n (trs l)) (hnc : n ≤ c) (hk : ∀ k, blk A = some k → k < w.heap.size) (hn : n ≤ 20000000) :
    Calls Try.prog 65 #[.pointer (some ⟨g, 0, none⟩), .int .i32 119, .slice A n c] w fun e w' => ∃ A' n' c', e = .returned (.int .i64 0) ∧ n' = l.length ∧ w'.heap[g]? = some (.cells (rcV k b s q A' n' c' AR nR cR f AS nS cS AP nP cP i S) 32 (0, 0)) ∧ TrO w' w.heap.size 61 A' n' c' l ∧ Onl g w w' := by
  have hba := below_alloc w (.cells #[.pointer (some ⟨g, 0, none⟩)] 154)
  have hsz : (w.alloc (.cells #[.pointer (some ⟨g, 0, none⟩)] 154)).heap.size = w.heap.size + 1 := by simp
  have hga := hba.block g (lt_of_heap hg) |>.trans hg
  have hxa := heap_alloc_new w (.cells #[.pointer (some ⟨g, 0, none⟩)] 154)
  have HC := Lib.hid (threes_w g w.heap.size k b s q AR nR cR f AS nS cS AP nP cP i S l A n c _ (hx.keep hba) hnc (fun k h => Nat.lt_of_lt_of_le (hk k h) hba.size) hn hxa hga)
  have HO := Lib.hid (Onl.of_below (g := g) hba)
  have HSZ := Lib.hid hsz
  clear hx hk hga hxa hg hba hsz
  go_enter Try.func65, Try.ntmps65
  go_wp2_with fail
  refine HC.out.mono ?_
  rintro e w1 ⟨A', n', c', rfl, hn1, hg1, ho1, hon⟩
  have HN := Lib.hid hn1
  have HG1 := Lib.hid hg1
  clear hn1 hg1 HC
  have HO1 := Lib.hid (ho1.mono (b := w.heap.size) (by have := HSZ.out; omega))
  clear ho1
  go_wp2
  go_ret
  exact ⟨A', n', c', rfl, HN.out, HG1.out, HO1.out, HO.out.trans hon⟩
set_option maxRecDepth 100000 in
set_option maxHeartbeats 4000000 in
theorem take_r (g : Nat) (k b s q : Int) (AW : Option Addr) (nW cW : Nat) (f : Bool) (AS : Option Addr) (nS cS : Nat) (AP : Option Addr) (nP cP : Nat) (i : Int) (S : ByteArray) (A : Option Addr) (n c : Nat) (w : World) (hg : w.heap[g]? = some (.cells (rcV k b s q AW nW cW none 0 0 f AS nS cS AP nP cP i S) 32 (0, 0))) (l : List Tr) (hx : Bs w A n (trs l)) (hnc : n ≤ c) (hk : ∀ k, blk A = some k → k < w.heap.size) (hn : n ≤ 20000000) :
    Calls Try.prog 65 #[.pointer (some ⟨g, 0, none⟩), .int .i32 114, .slice A n c] w fun e w' => ∃ A' n' c', e = .returned (.int .i64 0) ∧ n' = l.length ∧ w'.heap[g]? = some (.cells (rcV k b s q AW nW cW A' n' c' f AS nS cS AP nP cP i S) 32 (0, 0)) ∧ TrO w' w.heap.size 99 A' n' c' l ∧ Onl g w w' := by
  have hba := below_alloc w (.cells #[.pointer (some ⟨g, 0, none⟩)] 154)
  have hsz : (w.alloc (.cells #[.pointer (some ⟨g, 0, none⟩)] 154)).heap.size = w.heap.size + 1 := by simp
  have hga := hba.block g (lt_of_heap hg) |>.trans hg
  have hxa := heap_alloc_new w (.cells #[.pointer (some ⟨g, 0, none⟩)] 154)
  have HC := Lib.hid (threes_r g w.heap.size k b s q AW nW cW f AS nS cS AP nP cP i S l A n c _ (hx.keep hba) hnc (fun k h => Nat.lt_of_lt_of_le (hk k h) hba.size) hn hxa hga)
  have HO := Lib.hid (Onl.of_below (g := g) hba)
  have HSZ := Lib.hid hsz
  clear hx hk hga hxa hg hba hsz
  go_enter Try.func65, Try.ntmps65
  go_wp2_with fail
  refine HC.out.mono ?_
  rintro e w1 ⟨A', n', c', rfl, hn1, hg1, ho1, hon⟩
  have HN := Lib.hid hn1
  have HG1 := Lib.hid hg1
  clear hn1 hg1 HC
  have HO1 := Lib.hid (ho1.mono (b := w.heap.size) (by have := HSZ.out; omega))
  clear ho1
  go_wp2
  go_ret
  exact ⟨A', n', c', rfl, HN.out, HG1.out, HO1.out, HO.out.trans hon⟩
end Go.Proofs.Ytmjjbfcblmmipaa
