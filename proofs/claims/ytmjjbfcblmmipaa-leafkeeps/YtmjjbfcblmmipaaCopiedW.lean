/- leaf.copied. -/
import Derived.Test.YtmjjbfcblmmipaaTextsW
import Derived.Test.YtmjjbfcblmmipaaTwinW
import Derived.Laws.ResultCell
namespace Go.Proofs.Ytmjjbfcblmmipaa
set_option linter.unusedVariables false
set_option linter.unusedSimpArgs false
open Go.RowKit

abbrev ndV (lf : Bool) (AK : Option Addr) (nK cK : Nat) (AV : Option Addr) (nV cV : Nat) (AD : Option Addr) (nD cD : Nat) : Array Value := #[.bool lf, .slice AK nK cK, .slice AV nV cV, .slice AD nD cD]
abbrev ndZ : Array Value := ndV false none 0 0 none 0 0 none 0 0
theorem Prts.set {w w' : World} {base g n c : Nat} {A : Option Addr} {xss : List (List Int)} {t : TypeId} {cs : Array Value} {fr : Nat × Nat} (h : Prts w base A n c xss) (hg : Onl g w w') (hL : w.heap[g]? = some (.cells cs t fr)) (h28 : t ≠ 28) (h5 : t ≠ 5) : Prts w' base A n c xss := by
  obtain ⟨hl, vs, ho, hd, he⟩ := h
  refine ⟨hl, vs, ho.onl hg (ho.ne_blk hL h28), hd, fun i v xs hv hx => ?_⟩
  obtain ⟨A', c', e, o, r⟩ := he i v xs hv hx
  exact ⟨A', c', e, o.onl hg (o.ne_blk hL h5), r⟩
theorem set4 (W : World) (a : Nat) (v0 v1 v2 v3 : Value) (h : W.heap[a]? = some (.cells ndZ 70 (0, 0))) :
    ((((W.setCell ⟨a, 0, none⟩ v0).setCell ⟨a, 1, none⟩ v1).setCell ⟨a, 2, none⟩ v2).setCell ⟨a, 3, none⟩ v3).heap[a]? = some (.cells #[v0, v1, v2, v3] 70 (0, 0)) ∧ Onl a W ((((W.setCell ⟨a, 0, none⟩ v0).setCell ⟨a, 1, none⟩ v1).setCell ⟨a, 2, none⟩ v2).setCell ⟨a, 3, none⟩ v3) := by
  have e0 := rc_set (cs' := #[v0, .slice none 0 0, .slice none 0 0, .slice none 0 0]) 0 v0 h rfl
  have e1 := rc_set (cs' := #[v0, v1, .slice none 0 0, .slice none 0 0]) 1 v1 e0 rfl
  have e2 := rc_set (cs' := #[v0, v1, v2, .slice none 0 0]) 2 v2 e1 rfl
  have e3 := rc_set (cs' := #[v0, v1, v2, v3]) 3 v3 e2 rfl
  exact ⟨e3, (((onl_set _ a 0 _).trans (onl_set _ a 1 _)).trans (onl_set _ a 2 _)).trans (onl_set _ a 3 _)⟩
set_option maxRecDepth 100000 in
set_option maxHeartbeats 8000000 in
theorem copied_any (lf : Bool) (AK : Option Addr) (nK cK : Nat) (AV : Option Addr) (nV cV : Nat) (AD : Option Addr) (nD cD : Nat) (ks vs : List (List Int)) (kd : List Int) (w : World) (hk : Bss w AK nK ks) (hv : Bss w AV nV vs) (hd : Ins w AD nD kd) (sD : Shp AD nD)
    (bK : nK ≤ 100000) (bV : nV ≤ 100000) (bD : nD ≤ 100000) (lK : ∀ xs ∈ ks, xs.length ≤ 140737488355328) (lV : ∀ xs ∈ vs, xs.length ≤ 140737488355328) :
    Calls Try.prog 92 #[.agg (ndV lf AK nK cK AV nV cV AD nD cD)] w fun e w' => ∃ A1 c1 A2 c2 A3 c3, e = .returned (.agg (ndV lf A1 nK c1 A2 nV c2 A3 nD c3)) ∧ Prts w' w.heap.size A1 nK c1 ks ∧ Prts w' w.heap.size A2 nV c2 vs ∧ Own w' w.heap.size 3 A3 nD c3 (kd.map (Value.int .i64)) ∧ Below w.heap.size w w' := by
  have HK := Lib.hid hk; have HV := Lib.hid hv; have HD := Lib.hid hd; have HSD := Lib.hid sD
  have HLK := Lib.hid lK; have HLV := Lib.hid lV
  have hsz : (w.alloc (.cells (ndV lf AK nK cK AV nV cV AD nD cD) 70)).heap.size = w.heap.size + 1 := by simp
  have hb1 := below_alloc w (.cells (ndV lf AK nK cK AV nV cV AD nD cD) 70)
  have hb2 := below_alloc (w.alloc (.cells (ndV lf AK nK cK AV nV cV AD nD cD) 70)) (.cells ndZ 70)
  have hr2 := heap_alloc_new (w.alloc (.cells (ndV lf AK nK cK AV nV cV AD nD cD) 70)) (.cells ndZ 70)
  rw [hsz] at hr2
  have BX := Lib.hid ((hb2.block w.heap.size (by omega)).trans (heap_alloc_new w (.cells (ndV lf AK nK cK AV nV cV AD nD cD) 70)))
  have RS := Lib.hid hr2
  have HB := Lib.hid (hb1.trans (hb2.mono (by omega)))
  clear hk hv hd sD lK lV hsz hb1 hb2 hr2
  go_enter Try.func92, Try.ntmps92
  go_wp2_with fail
  generalize ((w.alloc (.cells (ndV lf AK nK cK AV nV cV AD nD cD) 70)).alloc (.cells ndZ 70)) = y at *
  have BXd : Hid (y.drew.heap[w.heap.size]? = some (.cells (ndV lf AK nK cK AV nV cV AD nD cD) 70 (0, 0))) := BX
  have RSd : Hid (y.drew.heap[w.heap.size + 1]? = some (.cells ndZ 70 (0, 0))) := RS
  have HBd := Lib.hid (HB.out.trans ((Dr.refl y).one.below _))
  have q0 := rc_cell 0 (.bool lf) BXd.out rfl
  have q1 := rc_cell 1 (.slice AK nK cK) BXd.out rfl
  have q2 := rc_cell 2 (.slice AV nV cV) BXd.out rfl
  have q3 := rc_cell 3 (.slice AD nD cD) BXd.out rfl
  have tok1 : True := trivial
  go_region_held3 (fun w' => w'.cell? ⟨w.heap.size, 0, none⟩ = some (.bool lf) ∧ w'.cell? ⟨w.heap.size, 1, none⟩ = some (.slice AK nK cK) ∧ w'.cell? ⟨w.heap.size, 2, none⟩ = some (.slice AV nV cV) ∧ w'.cell? ⟨w.heap.size, 3, none⟩ = some (.slice AD nD cD)) (first | exact ⟨v0, v1, v2, v3⟩ | exact ⟨t0, t1, t2, t3⟩ | exact ⟨s0, s1, s2, s3⟩ | exact ⟨r0, r1, r2, r3⟩ | exact ⟨q0, q1, q2, q3⟩) (first
    | (have _tk := tok1; go_at_call 102; refine (texts_any AK nK cK ks _ (HK.out.keep HBd.out) bK HLK.out).mono ?_; rintro e x2 ⟨D1, d1, rfl, hP1, hb2⟩; clear tok1; have tok2 : True := trivial; have P1 := Lib.hid (hP1.mono HBd.out.size); have BX2 := Lib.hid ((hb2.block _ (lt_of_heap BXd.out)).trans BXd.out); have RS2 := Lib.hid ((hb2.block _ (lt_of_heap RSd.out)).trans RSd.out); have HB2 := Lib.hid (HBd.out.trans (hb2.mono HBd.out.size)); have r0 := rc_cell 0 (.bool lf) BX2.out rfl; have r1 := rc_cell 1 (.slice AK nK cK) BX2.out rfl; have r2 := rc_cell 2 (.slice AV nV cV) BX2.out rfl; have r3 := rc_cell 3 (.slice AD nD cD) BX2.out rfl; clear hP1 hb2)
    | (have _tk := tok2; go_at_call 102; refine (texts_any AV nV cV vs _ (HV.out.keep HB2.out) bV HLV.out).mono ?_; rintro e x3 ⟨D2, d2, rfl, hP2, hb3⟩; clear tok2; have P2 := Lib.hid (hP2.mono HB2.out.size); have P1' := Lib.hid (P1.out.keep hb3); have BX3 := Lib.hid ((hb3.block _ (lt_of_heap BX2.out)).trans BX2.out); have RS3 := Lib.hid ((hb3.block _ (lt_of_heap RS2.out)).trans RS2.out); have HB3 := Lib.hid (HB2.out.trans (hb3.mono HB2.out.size)); have s0 := rc_cell 0 (.bool lf) BX3.out rfl; have s1 := rc_cell 1 (.slice AK nK cK) BX3.out rfl; have s2 := rc_cell 2 (.slice AV nV cV) BX3.out rfl; have s3 := rc_cell 3 (.slice AD nD cD) BX3.out rfl; clear hP2 hb3)
    | (go_at_call 124; refine (clone_i AD nD cD (kd.map (Value.int .i64)) _ (by rw [List.length_map]; exact HD.out.len) (fun hne => by obtain ⟨b9, o9, h1, h2⟩ := (HD.out.1.src HSD.out).1 hne; exact ⟨b9, o9, h1, fun j u hu => cell_keep HB3.out (h2 j u hu)⟩) (HD.out.1.src HSD.out).2 (by intro u hu; obtain ⟨x, _, rfl⟩ := List.mem_map.1 hu; rfl) (by omega)).mono ?_; rintro e x4 ⟨D3, d3, rfl, hP3, hb4⟩; have P3 := Lib.hid (hP3.mono HB3.out.size); have P1q := Lib.hid (P1'.out.keep hb4); have P2q := Lib.hid (P2.out.keep hb4); have BX4 := Lib.hid ((hb4.block _ (lt_of_heap BX3.out)).trans BX3.out); have RS4 := Lib.hid ((hb4.block _ (lt_of_heap RS3.out)).trans RS3.out); have HB4 := Lib.hid (HB3.out.trans (hb4.mono HB3.out.size)); have t0 := rc_cell 0 (.bool lf) BX4.out rfl; have t1 := rc_cell 1 (.slice AK nK cK) BX4.out rfl; have t2 := rc_cell 2 (.slice AV nV cV) BX4.out rfl; have t3 := rc_cell 3 (.slice AD nD cD) BX4.out rfl; have z0 := rc_cell 0 (.bool false) RS4.out rfl; have z1 := rc_cell 1 (.slice none 0 0) RS4.out rfl; have z2 := rc_cell 2 (.slice none 0 0) RS4.out rfl; have z3 := rc_cell 3 (.slice none 0 0) RS4.out rfl; have y0 := two_frozen (i := 0) RS4.out; have y1 := two_frozen (i := 1) RS4.out; have y2 := two_frozen (i := 2) RS4.out; have y3 := two_frozen (i := 3) RS4.out; have HZ := Lib.hid (set4 x4 (w.heap.size + 1) (.bool lf) (.slice D1 nK d1) (.slice D2 nV d2) (.slice D3 nD d3) RS4.out); have BX5 := Lib.hid ((HZ.out.2.block w.heap.size (lt_of_heap BX4.out) (by intro e; injection e with e; omega)).trans BX4.out); have v0 := rc_cell 0 (.bool lf) BX5.out rfl; have v1 := rc_cell 1 (.slice AK nK cK) BX5.out rfl; have v2 := rc_cell 2 (.slice AV nV cV) BX5.out rfl; have v3 := rc_cell 3 (.slice AD nD cD) BX5.out rfl; clear hP3 hb4))
  have R1 := Lib.hid (P1q.out.set HZ.out.2 RS4.out (by decide) (by decide))
  have R2 := Lib.hid (P2q.out.set HZ.out.2 RS4.out (by decide) (by decide))
  have R3 := Lib.hid (P3.out.onl HZ.out.2 (P3.out.ne_blk RS4.out (by decide)))
  have HB5 := Lib.hid (HB4.out.trans ((HZ.out.2.below (Nat.le_of_lt (lt_of_heap RS4.out))).mono (by omega)))
  clear v0 v1 v2 v3 t0 t1 t2 t3 s0 s1 s2 s3 r0 r1 r2 r3 q0 q1 q2 q3 z0 z1 z2 z3 y0 y1 y2 y3
  generalize ((((x4.setCell ⟨w.heap.size + 1, 0, none⟩ (.bool lf)).setCell ⟨w.heap.size + 1, 1, none⟩ (.slice D1 nK d1)).setCell ⟨w.heap.size + 1, 2, none⟩ (.slice D2 nV d2)).setCell ⟨w.heap.size + 1, 3, none⟩ (.slice D3 nD d3)) = VZ at *
  have e0 := rc_cell 0 (.bool lf) HZ.out.1 rfl
  have e1 := rc_cell 1 (.slice D1 nK d1) HZ.out.1 rfl
  have e2 := rc_cell 2 (.slice D2 nV d2) HZ.out.1 rfl
  have e3 := rc_cell 3 (.slice D3 nD d3) HZ.out.1 rfl
  go_wp2
  refine bodyPost_ret (v := .agg (ndV lf D1 nK d1 D2 nV d2 D3 nD d3)) (by simp [results, Try.f92, go_sem, Try.isAgg70, Try.sizeOf70, e0, e1, e2, e3]) rfl ⟨D1, d1, D2, d2, D3, d3, rfl, R1.out, R2.out, R3.out, HB5.out⟩
end Go.Proofs.Ytmjjbfcblmmipaa
