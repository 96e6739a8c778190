/- A record's bytes: (Rec).Bytes. -/
import Derived.Test.YtmjjbfcblmmipaaWide
namespace Go.Proofs.Ytmjjbfcblmmipaa
set_option linter.unusedVariables false
set_option linter.unusedSimpArgs false
open Go.RowKit

theorem wrap_u8 (x : Int) : IntKind.u8.wrap x = x % 256 := by
  simp [IntKind.wrap, IntKind.bits, IntKind.signed]
theorem fl_len (k : Int) : (fl k).length ≤ 4 := by
  unfold fl
  split
  · simp
  · split
    · simp
    · split
      · simp
      · split
        · simp
        · split <;> simp
theorem parts_take (x : Rc) (k : Nat) (c : Int) (h : (fl x.kind)[k]? = some c) : [x.kind % 256] :: ((fl x.kind).map (partL x)).take (k + 1) = ([x.kind % 256] :: ((fl x.kind).map (partL x)).take k) ++ [partL x c] := by
  rw [List.take_add_one, List.getElem?_map, h]; rfl
theorem pt_one {w : World} {base : Nat} {A : Option Addr} {n c : Nat} {xs : List Int} (h1 : Pt w base A n c xs) :
    ∀ (i : Nat) (v : Value) (us : List Int), [Value.slice A n c][i]? = some v → [xs][i]? = some us → ∃ (A2 : Option Addr) (n2 c2 : Nat), v = .slice A2 n2 c2 ∧ Pt w base A2 n2 c2 us := by
  intro i v us hv hu
  match i, hv, hu with
  | 0, hv, hu => simp at hv hu; subst hv; subst hu; exact ⟨A, n, c, rfl, h1⟩
/-- One part of the call's own, in a row of its own. -/
theorem pts_first {w : World} {base b : Nat} (y : Int) (hy : 0 ≤ y ∧ y ≤ 255) (hb : w.heap[b]? = some (.cells #[.int .u8 y] 5 (0, 0))) (hbb : base ≤ b) (hbs : base ≤ w.heap.size) :
    Pts (w.alloc (.cells #[.slice (some ⟨b, 0, none⟩) 1 1] 28)) base (some ⟨w.heap.size, 0, none⟩) 1 1 [[y]] := by
  have h1 : Own w base 5 (some ⟨b, 0, none⟩) 1 1 (By [y]) := Own.of_block (vs := [.int .u8 y]) hb hbb rfl (by unfold maxLen; omega)
  have h2 := h1.alloc (.cells #[.slice (some ⟨b, 0, none⟩) 1 1] 28)
  refine ⟨rfl, [.slice (some ⟨b, 0, none⟩) 1 1], Own.of_block (vs := [.slice (some ⟨b, 0, none⟩) 1 1]) (heap_alloc_new w _) hbs rfl (by unfold maxLen; omega), fun i v xs hv hx => ?_⟩
  match i, hv, hx with
  | 0, hv, hx =>
    simp at hv hx; subst hv; subst hx
    exact ⟨_, 1, rfl, by simp, h2.bs (fun z hz => by rw [List.mem_singleton.1 hz]; exact hy), h2.fo⟩
set_option maxRecDepth 100000 in
set_option maxHeartbeats 4000000 in
theorem bytes_any (x : Rc) (s : Sl) (w : World) (h : RcR w x s) (hbig : (recL x).length + 20 ≤ 140737488355328) :
    Calls Try.prog 15 #[.agg #[.int .i64 x.kind, .int .u64 x.boot, .int .u64 x.sess, .int .u64 x.seq, .slice s.AW s.nW s.cW, .slice s.AR s.nR s.cR, .bool x.commit, .slice s.AS s.nS s.cS, .slice s.AP s.nP s.cP, .int .u64 x.id, .string (strOfNums x.name)]] w fun e w' => ∃ A' n' c', e = .returned (.slice A' n' c') ∧ n' = (recL x).length ∧ Own w' w.heap.size 5 A' n' c' (By (recL x)) ∧ Ran (recL x) ∧ Below w.heap.size w w' := by
  obtain ⟨j0, hj, hy0, hy1, hy2⟩ := info_parts info23
  have HH := Lib.hid h; clear h
  have HPA : Hid (∀ (W : World) (c : Int), c ∈ fl x.kind → Below w.heap.size w W → Calls Try.prog 54 #[.agg #[.int .i64 x.kind, .int .u64 x.boot, .int .u64 x.sess, .int .u64 x.seq, .slice s.AW s.nW s.cW, .slice s.AR s.nR s.cR, .bool x.commit, .slice s.AS s.nS s.cS, .slice s.AP s.nP s.cP, .int .u64 x.id, .string (strOfNums x.name)], .int .i32 c] W (PartP w.heap.size W (partL x c))) :=
    fun W c hc hb => part_any x s c W (HH.out.keep hb) ((HH.out.rp.fo (Nat.le_refl _)).keep hb) (fl_mem hc).1
  have HPT := Lib.hid (parts_take x)
  have HLF := fl_len x.kind
  have HFM := Lib.hid (fun c (hc : c ∈ fl x.kind) => (fl_mem hc).2)
  have HRE := Lib.hid (show recL x = joinL ([x.kind % 256] :: (fl x.kind).map (partL x)) from rfl)
  rw [HRE.out] at hbig ⊢
  have HBG := Lib.hid hbig; clear hbig
  have HFI := Lib.hid (fields_any x.kind)
  clear HRE HH
  generalize strOfNums x.name = SN at *
  have HH8 := Lib.hid (show 0 ≤ x.kind % 256 ∧ x.kind % 256 ≤ 255 by omega)
  generalize fl x.kind = fs at *
  have hnb : ((w.alloc (.cells #[.int .i64 x.kind, .int .u64 x.boot, .int .u64 x.sess, .int .u64 x.seq, .slice s.AW s.nW s.cW, .slice s.AR s.nR s.cR, .bool x.commit, .slice s.AS s.nS s.cS, .slice s.AP s.nP s.cP, .int .u64 x.id, .string SN] 32)).alloc (.cells #[.int .u8 (x.kind % 256)] 5)).heap[w.heap.size + 1]? = some (.cells #[.int .u8 (x.kind % 256)] 5 (0, 0)) := by
    have := heap_alloc_new (w.alloc (.cells #[.int .i64 x.kind, .int .u64 x.boot, .int .u64 x.sess, .int .u64 x.seq, .slice s.AW s.nW s.cW, .slice s.AR s.nR s.cR, .bool x.commit, .slice s.AS s.nS s.cS, .slice s.AP s.nP s.cP, .int .u64 x.id, .string SN] 32)) (.cells #[.int .u8 (x.kind % 256)] 5)
    simpa using this
  have hs2 : ((w.alloc (.cells #[.int .i64 x.kind, .int .u64 x.boot, .int .u64 x.sess, .int .u64 x.seq, .slice s.AW s.nW s.cW, .slice s.AR s.nR s.cR, .bool x.commit, .slice s.AS s.nS s.cS, .slice s.AP s.nP s.cP, .int .u64 x.id, .string SN] 32)).alloc (.cells #[.int .u8 (x.kind % 256)] 5)).heap.size = w.heap.size + 1 + 1 := by simp
  have hp0 : Pts (((w.alloc (.cells #[.int .i64 x.kind, .int .u64 x.boot, .int .u64 x.sess, .int .u64 x.seq, .slice s.AW s.nW s.cW, .slice s.AR s.nR s.cR, .bool x.commit, .slice s.AS s.nS s.cS, .slice s.AP s.nP s.cP, .int .u64 x.id, .string SN] 32)).alloc (.cells #[.int .u8 (x.kind % 256)] 5)).alloc (.cells #[.slice (some ⟨w.heap.size + 1, 0, none⟩) 1 1] 28)) w.heap.size (some ⟨w.heap.size + 1 + 1, 0, none⟩) 1 1 [[x.kind % 256]] := by
    have := pts_first (w := ((w.alloc (.cells #[.int .i64 x.kind, .int .u64 x.boot, .int .u64 x.sess, .int .u64 x.seq, .slice s.AW s.nW s.cW, .slice s.AR s.nR s.cR, .bool x.commit, .slice s.AS s.nS s.cS, .slice s.AP s.nP s.cP, .int .u64 x.id, .string SN] 32)).alloc (.cells #[.int .u8 (x.kind % 256)] 5))) (base := w.heap.size) (x.kind % 256) HH8.out hnb (by omega) (by omega)
    rwa [hs2] at this
  have hb3 : Below w.heap.size w (((w.alloc (.cells #[.int .i64 x.kind, .int .u64 x.boot, .int .u64 x.sess, .int .u64 x.seq, .slice s.AW s.nW s.cW, .slice s.AR s.nR s.cR, .bool x.commit, .slice s.AS s.nS s.cS, .slice s.AP s.nP s.cP, .int .u64 x.id, .string SN] 32)).alloc (.cells #[.int .u8 (x.kind % 256)] 5)).alloc (.cells #[.slice (some ⟨w.heap.size + 1, 0, none⟩) 1 1] 28)) := ((below_alloc w _).alloc (by simp) _).alloc (by simp; omega) _
  have hbx : (((w.alloc (.cells #[.int .i64 x.kind, .int .u64 x.boot, .int .u64 x.sess, .int .u64 x.seq, .slice s.AW s.nW s.cW, .slice s.AR s.nR s.cR, .bool x.commit, .slice s.AS s.nS s.cS, .slice s.AP s.nP s.cP, .int .u64 x.id, .string SN] 32)).alloc (.cells #[.int .u8 (x.kind % 256)] 5)).alloc (.cells #[.slice (some ⟨w.heap.size + 1, 0, none⟩) 1 1] 28)).heap[w.heap.size]? = some (.cells #[.int .i64 x.kind, .int .u64 x.boot, .int .u64 x.sess, .int .u64 x.seq, .slice s.AW s.nW s.cW, .slice s.AR s.nR s.cR, .bool x.commit, .slice s.AS s.nS s.cS, .slice s.AP s.nP s.cP, .int .u64 x.id, .string SN] 32 (0, 0)) := by
    have h1 := heap_alloc_new w (.cells #[.int .i64 x.kind, .int .u64 x.boot, .int .u64 x.sess, .int .u64 x.seq, .slice s.AW s.nW s.cW, .slice s.AR s.nR s.cR, .bool x.commit, .slice s.AS s.nS s.cS, .slice s.AP s.nP s.cP, .int .u64 x.id, .string SN] 32)
    have h2 := (below_alloc (w.alloc (.cells #[.int .i64 x.kind, .int .u64 x.boot, .int .u64 x.sess, .int .u64 x.seq, .slice s.AW s.nW s.cW, .slice s.AR s.nR s.cR, .bool x.commit, .slice s.AS s.nS s.cS, .slice s.AP s.nP s.cP, .int .u64 x.id, .string SN] 32)) (.cells #[.int .u8 (x.kind % 256)] 5)).block w.heap.size (by simp)
    have h3 := (below_alloc ((w.alloc (.cells #[.int .i64 x.kind, .int .u64 x.boot, .int .u64 x.sess, .int .u64 x.seq, .slice s.AW s.nW s.cW, .slice s.AR s.nR s.cR, .bool x.commit, .slice s.AS s.nS s.cS, .slice s.AP s.nP s.cP, .int .u64 x.id, .string SN] 32)).alloc (.cells #[.int .u8 (x.kind % 256)] 5)) (.cells #[.slice (some ⟨w.heap.size + 1, 0, none⟩) 1 1] 28)).block w.heap.size (by simp; omega)
    rw [h3, h2]; exact h1
  have hs3 : (((w.alloc (.cells #[.int .i64 x.kind, .int .u64 x.boot, .int .u64 x.sess, .int .u64 x.seq, .slice s.AW s.nW s.cW, .slice s.AR s.nR s.cR, .bool x.commit, .slice s.AS s.nS s.cS, .slice s.AP s.nP s.cP, .int .u64 x.id, .string SN] 32)).alloc (.cells #[.int .u8 (x.kind % 256)] 5)).alloc (.cells #[.slice (some ⟨w.heap.size + 1, 0, none⟩) 1 1] 28)).heap.size = w.heap.size + 1 + 1 + 1 := by simp
  clear hnb hs2
  have HP0 := Lib.hid hp0; have HB3 := Lib.hid hb3; have HBX := Lib.hid hbx; have HS3 := Lib.hid hs3
  clear hp0 hb3 hbx hs3
  go_enter Try.func15, Try.ntmps15
  go_wp2_with fail
  refine (HFI.out _).mono ?_
  rintro e w3 ⟨rfl, rfl⟩
  have hb4 : Below w.heap.size w ((((w.alloc (.cells #[.int .i64 x.kind, .int .u64 x.boot, .int .u64 x.sess, .int .u64 x.seq, .slice s.AW s.nW s.cW, .slice s.AR s.nR s.cR, .bool x.commit, .slice s.AS s.nS s.cS, .slice s.AP s.nP s.cP, .int .u64 x.id, .string SN] 32)).alloc (.cells #[.int .u8 (x.kind % 256)] 5)).alloc (.cells #[.slice (some ⟨w.heap.size + 1, 0, none⟩) 1 1] 28)).iter (strOfNums fs) 0) := HB3.out.alloc HB3.out.size _
  have HP4 : Hid (Pts ((((w.alloc (.cells #[.int .i64 x.kind, .int .u64 x.boot, .int .u64 x.sess, .int .u64 x.seq, .slice s.AW s.nW s.cW, .slice s.AR s.nR s.cR, .bool x.commit, .slice s.AS s.nS s.cS, .slice s.AP s.nP s.cP, .int .u64 x.id, .string SN] 32)).alloc (.cells #[.int .u8 (x.kind % 256)] 5)).alloc (.cells #[.slice (some ⟨w.heap.size + 1, 0, none⟩) 1 1] 28)).iter (strOfNums fs) 0) w.heap.size (some ⟨w.heap.size + 1 + 1, 0, none⟩) 1 1 [[x.kind % 256]]) := HP0.out.keep (below_alloc (((w.alloc (.cells #[.int .i64 x.kind, .int .u64 x.boot, .int .u64 x.sess, .int .u64 x.seq, .slice s.AW s.nW s.cW, .slice s.AR s.nR s.cR, .bool x.commit, .slice s.AS s.nS s.cS, .slice s.AP s.nP s.cP, .int .u64 x.id, .string SN] 32)).alloc (.cells #[.int .u8 (x.kind % 256)] 5)).alloc (.cells #[.slice (some ⟨w.heap.size + 1, 0, none⟩) 1 1] 28)) _)
  have HI4 : Hid (((((w.alloc (.cells #[.int .i64 x.kind, .int .u64 x.boot, .int .u64 x.sess, .int .u64 x.seq, .slice s.AW s.nW s.cW, .slice s.AR s.nR s.cR, .bool x.commit, .slice s.AS s.nS s.cS, .slice s.AP s.nP s.cP, .int .u64 x.id, .string SN] 32)).alloc (.cells #[.int .u8 (x.kind % 256)] 5)).alloc (.cells #[.slice (some ⟨w.heap.size + 1, 0, none⟩) 1 1] 28)).iter (strOfNums fs) 0).heap[w.heap.size + 1 + 1 + 1]? = some (.stringIter (strOfNums fs) 0)) := by
    have h1 := World.iter_heap (((w.alloc (.cells #[.int .i64 x.kind, .int .u64 x.boot, .int .u64 x.sess, .int .u64 x.seq, .slice s.AW s.nW s.cW, .slice s.AR s.nR s.cR, .bool x.commit, .slice s.AS s.nS s.cS, .slice s.AP s.nP s.cP, .int .u64 x.id, .string SN] 32)).alloc (.cells #[.int .u8 (x.kind % 256)] 5)).alloc (.cells #[.slice (some ⟨w.heap.size + 1, 0, none⟩) 1 1] 28)) (strOfNums fs) 0
    rw [HS3.out] at h1
    exact h1
  have HX4 : Hid (((((w.alloc (.cells #[.int .i64 x.kind, .int .u64 x.boot, .int .u64 x.sess, .int .u64 x.seq, .slice s.AW s.nW s.cW, .slice s.AR s.nR s.cR, .bool x.commit, .slice s.AS s.nS s.cS, .slice s.AP s.nP s.cP, .int .u64 x.id, .string SN] 32)).alloc (.cells #[.int .u8 (x.kind % 256)] 5)).alloc (.cells #[.slice (some ⟨w.heap.size + 1, 0, none⟩) 1 1] 28)).iter (strOfNums fs) 0).heap[w.heap.size]? = some (.cells #[.int .i64 x.kind, .int .u64 x.boot, .int .u64 x.sess, .int .u64 x.seq, .slice s.AW s.nW s.cW, .slice s.AR s.nR s.cR, .bool x.commit, .slice s.AS s.nS s.cS, .slice s.AP s.nP s.cP, .int .u64 x.id, .string SN] 32 (0, 0))) := ((below_alloc (((w.alloc (.cells #[.int .i64 x.kind, .int .u64 x.boot, .int .u64 x.sess, .int .u64 x.seq, .slice s.AW s.nW s.cW, .slice s.AR s.nR s.cR, .bool x.commit, .slice s.AS s.nS s.cS, .slice s.AP s.nP s.cP, .int .u64 x.id, .string SN] 32)).alloc (.cells #[.int .u8 (x.kind % 256)] 5)).alloc (.cells #[.slice (some ⟨w.heap.size + 1, 0, none⟩) 1 1] 28)) (.stringIter (strOfNums fs) 0)).block w.heap.size (by rw [HS3.out]; omega)).trans HBX.out
  have HB4 := Lib.hid hb4; clear hb4 HP0 HB3 HBX HS3
  go_wp2_with fail
  go_loopw [3] (fun pv wr => ∃ (k n' c' : Nat) (A' : Option Addr), pv = .slice A' n' c' ∧ k ≤ fs.length ∧ n' ≤ k + 1 ∧ Pts wr w.heap.size A' n' c' ([x.kind % 256] :: (fs.map (partL x)).take k) ∧ Hid (wr.heap[w.heap.size + 1 + 1 + 1]? = some (.stringIter (strOfNums fs) k)) ∧ Hid (wr.heap[w.heap.size]? = some (.cells #[.int .i64 x.kind, .int .u64 x.boot, .int .u64 x.sess, .int .u64 x.seq, .slice s.AW s.nW s.cW, .slice s.AR s.nR s.cR, .bool x.commit, .slice s.AS s.nS s.cS, .slice s.AP s.nP s.cP, .int .u64 x.id, .string SN] 32 (0, 0))) ∧ Below w.heap.size w wr) (fun _ wr => fs.length - wr.iterPos (w.heap.size + 1 + 1 + 1))
  case atStart => exact ⟨0, 1, 1, _, rfl, by omega, by omega, HP4.out, HI4, HX4, HB4.out⟩
  case round =>
    clear HP4 HI4 HX4 HB4
    obtain ⟨k, n', c', A', rfl, hk, hn', hp, HIT, HBX, hb⟩ := hrel
    have hs := hb.size
    have hgl := lt_of_heap HIT.out
    by_cases hlt : k < fs.length
    · obtain ⟨c, hc⟩ : ∃ c, fs[k]? = some c := ⟨_, List.getElem?_eq_getElem hlt⟩
      have hmem := List.mem_of_getElem? hc
      have hc01 := HFM.out c hmem
      have hnx := fun ty => next_at (P := Try.prog) wr (w.heap.size + 1 + 1 + 1) fs k c ty HIT.out hc hc01.1 hc01.2
      have hol := itSet_onl wr (w.heap.size + 1 + 1 + 1) (strOfNums fs) (k + 1)
      have HAT := Lib.hid (itSet_at wr (w.heap.size + 1 + 1 + 1) (strOfNums fs) (k + 1) hgl)
      have HTS := Lib.hid (HPT.out k c hc)
      have HMEM := Lib.hid hmem
      clear hc hmem hc01
      generalize itSet wr (w.heap.size + 1 + 1 + 1) (strOfNums fs) (k + 1) = w1 at *
      have hp1 := hp.iter hol HIT.out (by omega)
      have HBX1 := Lib.hid ((hol.block w.heap.size (lt_of_heap HBX.out) (fun e => by injection e with e; omega)).trans HBX.out)
      have hb1 : Below w.heap.size w w1 := hb.trans ((hol.below (Nat.le_of_lt hgl)).mono (by omega))
      have hs1 := hb1.size
      have q0 : w1.cell? ⟨w.heap.size, 0, none⟩ = some (.int .i64 x.kind) := by rw [cell_of_row w1 w.heap.size 0 _ 32 (0, 0) HBX1.out]; rfl
      have q1 : w1.cell? ⟨w.heap.size, 1, none⟩ = some (.int .u64 x.boot) := by rw [cell_of_row w1 w.heap.size 1 _ 32 (0, 0) HBX1.out]; rfl
      have q2 : w1.cell? ⟨w.heap.size, 2, none⟩ = some (.int .u64 x.sess) := by rw [cell_of_row w1 w.heap.size 2 _ 32 (0, 0) HBX1.out]; rfl
      have q3 : w1.cell? ⟨w.heap.size, 3, none⟩ = some (.int .u64 x.seq) := by rw [cell_of_row w1 w.heap.size 3 _ 32 (0, 0) HBX1.out]; rfl
      have q4 : w1.cell? ⟨w.heap.size, 4, none⟩ = some (.slice s.AW s.nW s.cW) := by rw [cell_of_row w1 w.heap.size 4 _ 32 (0, 0) HBX1.out]; rfl
      have q5 : w1.cell? ⟨w.heap.size, 5, none⟩ = some (.slice s.AR s.nR s.cR) := by rw [cell_of_row w1 w.heap.size 5 _ 32 (0, 0) HBX1.out]; rfl
      have q6 : w1.cell? ⟨w.heap.size, 6, none⟩ = some (.bool x.commit) := by rw [cell_of_row w1 w.heap.size 6 _ 32 (0, 0) HBX1.out]; rfl
      have q7 : w1.cell? ⟨w.heap.size, 7, none⟩ = some (.slice s.AS s.nS s.cS) := by rw [cell_of_row w1 w.heap.size 7 _ 32 (0, 0) HBX1.out]; rfl
      have q8 : w1.cell? ⟨w.heap.size, 8, none⟩ = some (.slice s.AP s.nP s.cP) := by rw [cell_of_row w1 w.heap.size 8 _ 32 (0, 0) HBX1.out]; rfl
      have q9 : w1.cell? ⟨w.heap.size, 9, none⟩ = some (.int .u64 x.id) := by rw [cell_of_row w1 w.heap.size 9 _ 32 (0, 0) HBX1.out]; rfl
      have q10 : w1.cell? ⟨w.heap.size, 10, none⟩ = some (.string SN) := by rw [cell_of_row w1 w.heap.size 10 _ 32 (0, 0) HBX1.out]; rfl
      clear hp hol
      go_wp2_with fail
      refine (HPA.out w1 c HMEM.out hb1).mono ?_
      rintro e w4 ⟨A4, n4, c4, rfl, hpt, hb4⟩
      have hp4 := hp1.keep hb4
      have hb5 := hb1.trans (hb4.mono hs1)
      have hs5 := hb5.size
      have HPT4 := Lib.hid hpt
      have HIT4 := Lib.hid ((hb4.block _ (lt_of_heap HAT.out)).trans HAT.out)
      have HBX4 := Lib.hid ((hb4.block _ (lt_of_heap HBX1.out)).trans HBX1.out)
      obtain ⟨vs, hrow, HROW⟩ := hp4.row (.cells #[.slice A4 n4 c4] 28)
      have HIT5 := Lib.hid (((below_alloc w4 (.cells #[.slice A4 n4 c4] 28)).block _ (lt_of_heap HIT4.out)).trans HIT4.out)
      have HBX5 := Lib.hid (((below_alloc w4 (.cells #[.slice A4 n4 c4] 28)).block _ (lt_of_heap HBX4.out)).trans HBX4.out)
      clear hpt hp1 hp4 hb4 q0 q1 q2 q3 q4 q5 q6 q7 q8 q9 q10
      go_wp2_with (at_builtin; refine wpList_append_rd rfl _ _ 62 rfl j0 (.slice none 0 0) 24 Try.underlying62 hj hy0 hy1 hy2 rfl rfl hrow (some ⟨w4.heap.size, 0, none⟩) 1 1 [.slice A4 n4 c4] rfl (rd_oneV w4 _ 28) (one_slice _ _ _) ?a1 ?a2 ?a3 ?_)
      case a1 => unfold maxLen; omega
      case a2 => omega
      case a3 => simp; omega
      intro A6 c6 w6 ho6 hg6
      have hp6 : Pts w6 w.heap.size A6 (n' + 1) c6 ([x.kind % 256] :: (fs.map (partL x)).take (k + 1)) := by
        rw [HTS.out]
        exact HROW.out [.slice A4 n4 c4] [partL x c] w6 A6 c6 rfl (pt_one HPT4.out) ho6 hg6
      have HIT6 := Lib.hid ((hg6.1.block _ (lt_of_heap HIT5.out) (fun e => hrow.ne_iter HIT5.out e.symm)).trans HIT5.out)
      have HBX6 := Lib.hid ((hg6.1.block _ (lt_of_heap HBX5.out) (fun e => hrow.ne_blk HBX5.out (by decide) e.symm)).trans HBX5.out)
      have hb6 := (hb5.alloc hs5 (.cells #[.slice A4 n4 c4] 28)).trans (hg6.below (by simp; omega) (fun j hj => (hrow.lies j hj).1))
      have HM1 := Lib.hid (iterPos_of HIT6.out)
      have HM0 := Lib.hid (iterPos_of HIT.out)
      clear hrow ho6 hg6
      go_wp2
      go_roundw
      case rel => exact ⟨k + 1, n' + 1, c6, A6, rfl, by omega, by omega, hp6, HIT6, HBX6, hb6⟩
      case measure => (have h1 := HM1.out; have h0 := HM0.out; simp only [h1, h0]; omega)
    · obtain rfl : k = fs.length := by omega
      have hnx := fun ty => next_done (P := Try.prog) wr (w.heap.size + 1 + 1 + 1) fs fs.length ty HIT.out hlt
      rw [show (fs.map (partL x)).take fs.length = fs.map (partL x) from List.take_of_length_le (by rw [List.length_map]; exact Nat.le_refl _)] at hp
      have HRN := Lib.hid (joinL_ran hp.bss)
      go_wp2_with fail
      refine (join_any A' n' c' _ _ hp.bss (by unfold maxLen; omega) HBG.out).mono ?_
      rintro e w2 ⟨A2, n2, c2, rfl, hn2, ho2, hb2⟩
      have hb3 := hb.trans (hb2.mono hs)
      have ho3 := ho2.mono hs
      have HN2 := Lib.hid hn2
      clear hn2 hp hb2 ho2
      go_wp2
      go_ret
      exact ⟨A2, n2, c2, rfl, HN2.out, ho3, HRN.out, hb3⟩
end Go.Proofs.Ytmjjbfcblmmipaa
