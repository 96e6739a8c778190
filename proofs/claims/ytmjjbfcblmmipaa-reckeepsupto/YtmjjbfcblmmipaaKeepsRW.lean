/- RecKeeps: the walk. -/
import Derived.Test.YtmjjbfcblmmipaaBetwW
import Derived.Test.YtmjjbfcblmmipaaApartW
import Derived.Test.YtmjjbfcblmmipaaKeptW
import Derived.Test.YtmjjbfcblmmipaaAwakeR
import Derived.Test.YtmjjbfcblmmipaaReadWtwa
import Derived.StillTailTactics
namespace Go.Proofs.Ytmjjbfcblmmipaa
set_option linter.unusedVariables false
set_option linter.unusedSimpArgs false
open Go.RowKit

def kx (xs ys : List Int) : Rc := ⟨4, 0, 0, 0, [⟨xs, ys, false⟩], [], false, [], ys, 0, []⟩
theorem kx_parts (xs ys : List Int) : parts (kx xs ys) = [[4], [0, 0, 0], trs [⟨xs, ys, false⟩], ys] := by rfl
theorem trs_one (xs ys : List Int) : (trs [⟨xs, ys, false⟩]).length ≤ xs.length + ys.length + 60 := by
  have h1 := num_le ((3 : Nat) : Int); have h2 := num_le ((1 : Nat) : Int); have h3 := num_le (xs.length : Int); have h4 := num_le (ys.length : Int)
  have e : trs [⟨xs, ys, false⟩] = num ((3 : Nat) : Int) ++ ((num ((1 : Nat) : Int) ++ [0]) ++ ((num (xs.length : Int) ++ xs) ++ ((num (ys.length : Int) ++ ys) ++ []))) := rfl
  rw [e]; simp only [List.length_append, List.length_cons, List.length_nil]; omega
theorem kx_len (xs ys : List Int) : (recL (kx xs ys)).length ≤ xs.length + 2 * ys.length + 200 := by
  have h0 := trs_one xs ys
  have e : recL (kx xs ys) = num ((4 : Nat) : Int) ++ ((num ((1 : Nat) : Int) ++ [4]) ++ ((num ((3 : Nat) : Int) ++ [0, 0, 0]) ++ ((num ((trs [⟨xs, ys, false⟩]).length : Int) ++ trs [⟨xs, ys, false⟩]) ++ ((num (ys.length : Int) ++ ys) ++ [])))) := rfl
  have h1 := num_le ((4 : Nat) : Int); have h2 := num_le ((1 : Nat) : Int); have h3 := num_le ((3 : Nat) : Int); have h4 := num_le ((trs [⟨xs, ys, false⟩]).length : Int); have h5 := num_le (ys.length : Int)
  rw [e]; simp only [List.length_append, List.length_cons, List.length_nil]; omega
theorem kx_trim (xs ys : List Int) : trimR (kx xs ys) = kx xs ys := by rfl
theorem cmpL_refl (xs : List Int) : (cmpL xs xs == 0) = true := by rw [cmpL_eq_zero]; simp
theorem zz : (0 : Int) ≤ 0 ∧ (0 : Int) ≤ 18446744073709551615 := by decide
theorem kx_B (xs ys : List Int) : RcB (kx xs ys) := ⟨zz, zz, zz, zz, fun _ h => by cases h⟩
theorem tro1 {w : World} {base c : Nat} {e : TypeId} {A : Option Addr} {xs ys : List Int} (h : TrO w base e A 1 c [⟨xs, ys, false⟩]) : ∃ g A1 c1 A2 c2, A = some ⟨g, 0, none⟩ ∧ g < w.heap.size ∧ w.cell? ⟨g, 0, none⟩ = some (.slice A1 xs.length c1) ∧ w.cell? ⟨g, 1, none⟩ = some (.slice A2 ys.length c2) ∧
    Own w base 5 A1 xs.length c1 (By xs) ∧ Own w base 5 A2 ys.length c2 (By ys) ∧ (blk A1 = none ∨ blk A1 ≠ blk A2) := by
  obtain ⟨hl, vs, ho, he⟩ := h
  obtain ⟨g, rfl, _, hlt, hc⟩ := ho.cells (by omega)
  obtain ⟨A1, c1, A2, c2, h0, h1, h2, o1, r1, o2, r2, hd⟩ := he 0 ⟨xs, ys, false⟩ rfl
  exact ⟨g, A1, c1, A2, c2, rfl, hlt, hc _ _ h0, hc _ _ h1, o1, o2, hd⟩
/-- Read at such a record's bytes. -/
theorem read_k (xs ys : List Int) (A : Option Addr) (n c : Nat) (w : World) (hx : Bs w A n (recL (kx xs ys))) (hnc : n ≤ c) (hkb : ∀ k, blk A = some k → k < w.heap.size) (hn : n ≤ 20000000) :
    Calls Try.prog 20 #[.slice A n c] w fun e w' => ∃ (g : Nat) (cW : Nat) (AR : Option Addr) (nR cR : Nat) (AS : Option Addr) (nS cS : Nat) (AP : Option Addr) (cP : Nat) (A1 : Option Addr) (c1 : Nat) (A2 : Option Addr) (c2 : Nat) (mid : Nat),
      e = .returned (.tuple #[.agg (rcV 4 0 0 0 (some ⟨g, 0, none⟩) 1 cW AR nR cR false AS nS cS AP ys.length cP 0 ⟨#[]⟩), .int .i64 0]) ∧ g < w'.heap.size ∧ w'.cell? ⟨g, 0, none⟩ = some (.slice A1 xs.length c1) ∧ w'.cell? ⟨g, 1, none⟩ = some (.slice A2 ys.length c2) ∧
      Own w' w.heap.size 5 A1 xs.length c1 (By xs) ∧ Own w' w.heap.size 5 A2 ys.length c2 (By ys) ∧ Own w' w.heap.size 5 AP ys.length cP (By ys) ∧ (blk A1 = none ∨ blk A1 ≠ blk A2) ∧
      (∀ b, blk AP = some b → w.heap.size ≤ b ∧ b < mid) ∧ (∀ b, blk A1 = some b → mid ≤ b ∧ b < w'.heap.size) ∧ (∀ b, blk A2 = some b → mid ≤ b ∧ b < w'.heap.size) ∧ w.heap.size ≤ mid ∧ mid ≤ w'.heap.size ∧ Below w.heap.size w w' := by
  refine (read_twa2 (kx xs ys) A n c w rfl (show (0 : Int) ≤ 4 by decide) (show (4 : Int) ≤ 255 by decide) hx hnc hkb hn (kx_B xs ys)).mono ?_
  rw [kx_trim]
  rintro e w' ⟨⟨AW, nW, cW, AR, nR, cR, AS, nS, cS, AP, nP, cP⟩, mid, rfl, hO, hT, hm, hP, hb⟩
  have h1 : 1 = nW := hO.ws.1
  have h2 : ys.length = nP := by have := hO.rp.1; simpa [By, kx] using this
  subst h1 h2
  obtain ⟨g, A1, c1, A2, c2, h3, hlt, e0, e1, o1, o2, hd⟩ := tro1 hT
  have h3' : AW = some ⟨g, 0, none⟩ := h3
  subst h3'
  have k1 : ∀ b, blk A1 = some b → mid ≤ b ∧ b < w'.heap.size := fun b hb => o1.lies b hb
  have k2 : ∀ b, blk A2 = some b → mid ≤ b ∧ b < w'.heap.size := fun b hb => o2.lies b hb
  have k3 : ∀ b, blk AP = some b → w.heap.size ≤ b ∧ b < w'.heap.size := fun b hb => hO.rp.lies b hb
  have hsz := hb.size
  refine ⟨g, cW, AR, nR, cR, AS, nS, cS, AP, cP, A1, c1, A2, c2, min mid w'.heap.size, rfl, hlt, e0, e1, o1.mono hm, o2.mono hm, hO.rp, hd, fun b hb => ?_, fun b hb => ?_, fun b hb => ?_, by omega, by omega, hb⟩
  · have a := k3 b hb; have b := hP b hb; omega
  · have a := k1 b hb; omega
  · have a := k2 b hb; omega
/-- Between of one such place. -/
theorem betw_k (xs ys : List Int) (b n c cK : Nat) (AK : Option Addr) (s : Sl) (w : World) (hn : n = 1) (hx : PosL w (some ⟨b, 0, none⟩) 1 [⟨kx xs ys, s, 0⟩]) :
    Calls Try.prog 26 #[.slice (some ⟨b, 0, none⟩) n c, .int .u64 0, .int .u64 1, .slice AK 0 cK] w fun e w' => ∃ (g c' : Nat) (h : Nat) (cW : Nat) (AP : Option Addr) (cP : Nat) (A1 : Option Addr) (c1 : Nat) (A2 : Option Addr) (c2 : Nat) (mid : Nat),
      e = .returned (.slice (some ⟨g, 0, none⟩) 1 c') ∧ g < w'.heap.size ∧ w'.cell? ⟨g, 4, none⟩ = some (.slice (some ⟨h, 0, none⟩) 1 cW) ∧ w'.cell? ⟨g, 8, none⟩ = some (.slice AP ys.length cP) ∧ h < w'.heap.size ∧ w'.cell? ⟨h, 0, none⟩ = some (.slice A1 xs.length c1) ∧ w'.cell? ⟨h, 1, none⟩ = some (.slice A2 ys.length c2) ∧
      Own w' w.heap.size 5 A1 xs.length c1 (By xs) ∧ Own w' w.heap.size 5 A2 ys.length c2 (By ys) ∧ Own w' w.heap.size 5 AP ys.length cP (By ys) ∧ (blk A1 = none ∨ blk A1 ≠ blk A2) ∧
      (∀ b, blk A1 = some b → w.heap.size ≤ b ∧ b < mid) ∧ (∀ b, blk A2 = some b → w.heap.size ≤ b ∧ b < mid) ∧ (∀ b, blk AP = some b → mid ≤ b ∧ b < w'.heap.size) ∧ w.heap.size ≤ mid ∧ mid ≤ w'.heap.size ∧ Below w.heap.size w w' := by
  subst hn
  refine (between_all (some ⟨b, 0, none⟩) AK 1 c cK [⟨kx xs ys, s, 0⟩] 0 1 w hx (by omega) (by omega) (by omega) (by omega) (by omega)).mono ?_
  have hol : outL 0 1 [⟨kx xs ys, s, 0⟩] = [(kx xs ys, 0)] := by simp [outL, betw]
  rw [hol]
  rintro e w' ⟨A', n', c', rfl, hn', hP, hb⟩
  have hn1 : n' = 1 := hn'
  subst hn1
  obtain ⟨hl, vs, ho, he⟩ := hP
  obtain ⟨g, rfl, _, hlt, hc⟩ := ho.cells (by omega)
  obtain ⟨⟨AW, nW, cW, AR, nR, cR, AS, nS, cS, AP, nP, cP⟩, mid, hcell, hO, hL, hM⟩ := he 0 (kx xs ys, 0) rfl
  have h1 : 1 = nW := hO.ws.1
  have h2 : ys.length = nP := by have := hO.rp.1; simpa [By, kx] using this
  subst h1 h2
  obtain ⟨g2, A1, c1, A2, c2, h3, hlt2, e0, e1, o1, o2, hd⟩ := tro1 hO.ws
  have h3' : AW = some ⟨g2, 0, none⟩ := h3
  subst h3'
  have q4 := hc _ _ (hcell 4 (.slice (some ⟨g2, 0, none⟩) 1 cW) rfl)
  have q8 := hc _ _ (hcell 8 (.slice AP ys.length cP) rfl)
  have k1 : ∀ b, blk A1 = some b → w.heap.size ≤ b ∧ b < w'.heap.size := fun b hb => o1.lies b hb
  have k2 : ∀ b, blk A2 = some b → w.heap.size ≤ b ∧ b < w'.heap.size := fun b hb => o2.lies b hb
  have k3 : ∀ b, blk AP = some b → w.heap.size ≤ b ∧ b < w'.heap.size := fun b hb => hO.rp.lies b hb
  have m1 : ∀ b, blk A1 = some b → b < mid := fun b hb => hL g2 0 rfl 0 (by show 0 < 1 * 3; omega) A1 _ _ e0 b hb
  have m2 : ∀ b, blk A2 = some b → b < mid := fun b hb => hL g2 0 rfl 1 (by show 1 < 1 * 3; omega) A2 _ _ e1 b hb
  have hsz := hb.size
  refine ⟨g, c', g2, cW, AP, cP, A1, c1, A2, c2, min (max mid w.heap.size) w'.heap.size, rfl, hlt, q4, q8, hlt2, e0, e1, o1, o2, hO.rp, hd, fun b hb => ?_, fun b hb => ?_, fun b hb => ?_, by omega, by omega, hb⟩
  · have a := k1 b hb; have b := m1 b hb; omega
  · have a := k2 b hb; have b := m2 b hb; omega
  · have a := k3 b hb; have b := hM b hb; omega
theorem dist_grp {ent : List Er} (f g : Nat → Nat) (hf : ∀ j, f j ≤ f (j + 1)) (h : ∀ (j : Nat) (A : Option Addr) (n c : Nat), ent[j]? = some (A, n, c) → ∀ b, blk A = some b → f (g j) ≤ b ∧ b < f (g j + 1))
    (hp : ∀ (i j : Nat) (A : Option Addr) (n c : Nat) (B : Option Addr) (m d : Nat), ent[i]? = some (A, n, c) → ent[j]? = some (B, m, d) → i ≠ j → g i = g j → blk A = none ∨ blk A ≠ blk B) : Dist ent := by
  have mono : ∀ i d, f i ≤ f (i + d) := by
    intro i d
    induction d with
    | zero => exact Nat.le_refl _
    | succ d ih => exact Nat.le_trans ih (hf (i + d))
  intro i j A n c B m d hi hj hne
  by_cases hg : g i = g j
  · exact hp i j A n c B m d hi hj hne hg
  cases hA : blk A with
  | none => exact .inl rfl
  | some b =>
    right
    intro e
    have h1 := h i A n c hi b hA
    have h2 := h j B m d hj b e.symm
    rcases Nat.lt_or_ge (g i) (g j) with hlt | hge
    · have := mono (g i + 1) (g j - (g i + 1))
      rw [show g i + 1 + (g j - (g i + 1)) = g j by omega] at this
      omega
    · have := mono (g j + 1) (g i - (g j + 1))
      rw [show g j + 1 + (g i - (g j + 1)) = g i by omega] at this
      omega
def thr (a b c d e f g h i : Nat) : Nat → Nat
  | 0 => a | 1 => b | 2 => c | 3 => d | 4 => e | 5 => f | 6 => g | 7 => h | _ => i
def grp : Nat → Nat
  | 0 => 0 | 1 => 1 | 2 => 2 | 3 => 3 | 4 => 5 | 5 => 5 | 6 => 4 | 7 => 6 | 8 => 6 | 9 => 7 | j => j + 1
theorem dist_sym {A B : Option Addr} (h : blk A = none ∨ blk A ≠ blk B) : blk B = none ∨ blk B ≠ blk A := by
  rcases h with h | h
  · rw [h]; cases blk B <;> simp
  · exact .inr (fun e => h e.symm)
theorem dr_cell {w w' : World} (h : Dr w w') (a : Addr) : w'.cell? a = w.cell? a := by obtain ⟨q, rfl⟩ := h; rfl

set_option maxRecDepth 100000 in
set_option maxHeartbeats 16000000 in
theorem rkeeps_walk (A B : Option Addr) (n m c d : Nat) (xs ys : List Int) (w : World) (hx : Bs w A n xs) (hy : Bs w B m ys) (hn : n ≤ 1048576) (hm : m ≤ 1048576) :
    Calls Try.prog 6 #[.slice A n c, .slice B m d] w fun e w' => e = .returned (.bool true) ∧ Below w.heap.size w w' := by
  have HXL := Lib.hid hx.len
  have HYL := Lib.hid hy.len
  have hxr := hx.2
  have hyr := hy.2
  have HX := Lib.hid hx; have HY := Lib.hid hy; clear hx hy
  have hkl : (recL (kx xs ys)).length ≤ n + 2 * m + 200 := by have := kx_len xs ys; rw [HXL.out, HYL.out] at this; exact this
  have htl : (trs [⟨xs, ys, false⟩]).length ≤ n + m + 60 := by have := trs_one xs ys; rw [HXL.out, HYL.out] at this; exact this
  have HKL := Lib.hid hkl; have HTL := Lib.hid htl; clear hkl htl
  go_enter Try.func6, Try.ntmps6
  go_wp2_with fail
  refine (awake_any _).mono ?_
  rintro e w1 ⟨rfl, hb1⟩
  have hs1 := hb1.size
  go_wp2_with fail
  refine (spare_any A n c xs _ (HX.out.keep hb1) (by omega)).mono ?_
  rintro e w2 ⟨rfl, hoX, hb2⟩
  have hs2 := hb2.size
  have hb02 := hb1.trans (hb2.mono hs1)
  go_wp2_with fail
  refine (spare_any B m d ys _ (HY.out.keep hb02) (by omega)).mono ?_
  rintro e w3 ⟨rfl, hoY, hb3⟩
  have hs3 := hb3.size
  have HRX : Hid (∀ b, blk (some ⟨w1.heap.size, 0, none⟩) = some b → w1.heap.size ≤ b ∧ b < w2.heap.size) := fun b hb => hoX.lies b hb
  have HRY : Hid (∀ b, blk (some ⟨w2.heap.size, 0, none⟩) = some b → w2.heap.size ≤ b ∧ b < w3.heap.size) := fun b hb => hoY.lies b hb
  replace hoX := K5.below hb3 _ _ _ _ hoX
  replace hoY := hoY.mono hs2
  have hb03 := hb02.trans (hb3.mono (Nat.le_trans hs1 hs2))
  have hs03 := hb03.size
  clear hb1 hb2 hb02 hb3
  have HPX : Hid (∀ (W : World), Own W w1.heap.size 5 (some ⟨w1.heap.size, 0, none⟩) (n + 33) (n + 33) (By (sp xs)) → Bs W (some ⟨w1.heap.size, 0, none⟩) n xs) := by
    intro W h
    have h' := h.pre (m := n) (by omega)
    rw [By_take, show (sp xs).take n = xs by rw [← HXL.out]; exact sp_take xs] at h'
    exact h'.bs hxr
  have HPY : Hid (∀ (W : World), Own W w1.heap.size 5 (some ⟨w2.heap.size, 0, none⟩) (m + 33) (m + 33) (By (sp ys)) → Bs W (some ⟨w2.heap.size, 0, none⟩) m ys) := by
    intro W h
    have h' := h.pre (m := m) (by omega)
    rw [By_take, show (sp ys).take m = ys by rw [← HYL.out]; exact sp_take ys] at h'
    exact h'.bs hyr
  have hba := below_alloc w3 (.cells #[.slice (some ⟨w1.heap.size, 0, none⟩) n (n + 33), .slice (some ⟨w2.heap.size, 0, none⟩) m (m + 33), .bool false] 61)
  have hbb := below_alloc (w3.alloc (.cells #[.slice (some ⟨w1.heap.size, 0, none⟩) n (n + 33), .slice (some ⟨w2.heap.size, 0, none⟩) m (m + 33), .bool false] 61)) (.cells (rcV 4 0 0 0 (some ⟨w3.heap.size, 0, none⟩) 1 1 none 0 0 false none 0 0 (some ⟨w2.heap.size, 0, none⟩) m (m + 33) 0 ⟨#[]⟩) 32)
  have hsa : (w3.alloc (.cells #[.slice (some ⟨w1.heap.size, 0, none⟩) n (n + 33), .slice (some ⟨w2.heap.size, 0, none⟩) m (m + 33), .bool false] 61)).heap.size = w3.heap.size + 1 := by simp
  have hsb : ((w3.alloc (.cells #[.slice (some ⟨w1.heap.size, 0, none⟩) n (n + 33), .slice (some ⟨w2.heap.size, 0, none⟩) m (m + 33), .bool false] 61)).alloc (.cells (rcV 4 0 0 0 (some ⟨w3.heap.size, 0, none⟩) 1 1 none 0 0 false none 0 0 (some ⟨w2.heap.size, 0, none⟩) m (m + 33) 0 ⟨#[]⟩) 32)).heap.size = w3.heap.size + 2 := by simp
  have hrow := (hbb.block w3.heap.size (by omega)).trans (heap_alloc_new w3 (.cells #[.slice (some ⟨w1.heap.size, 0, none⟩) n (n + 33), .slice (some ⟨w2.heap.size, 0, none⟩) m (m + 33), .bool false] 61))
  have hbox := heap_alloc_new (w3.alloc (.cells #[.slice (some ⟨w1.heap.size, 0, none⟩) n (n + 33), .slice (some ⟨w2.heap.size, 0, none⟩) m (m + 33), .bool false] 61)) (.cells (rcV 4 0 0 0 (some ⟨w3.heap.size, 0, none⟩) 1 1 none 0 0 false none 0 0 (some ⟨w2.heap.size, 0, none⟩) m (m + 33) 0 ⟨#[]⟩) 32)
  rw [hsa] at hbox
  have hb3b : Below w3.heap.size w3 ((w3.alloc (.cells #[.slice (some ⟨w1.heap.size, 0, none⟩) n (n + 33), .slice (some ⟨w2.heap.size, 0, none⟩) m (m + 33), .bool false] 61)).alloc (.cells (rcV 4 0 0 0 (some ⟨w3.heap.size, 0, none⟩) 1 1 none 0 0 false none 0 0 (some ⟨w2.heap.size, 0, none⟩) m (m + 33) 0 ⟨#[]⟩) 32)) := hba.trans (hbb.mono (by omega))
  replace hoX := K5.below hb3b _ _ _ _ hoX
  replace hoY := K5.below hb3b _ _ _ _ hoY
  have hbX := HPX.out _ hoX
  have hbY := HPY.out _ hoY
  have hrc : RcR ((w3.alloc (.cells #[.slice (some ⟨w1.heap.size, 0, none⟩) n (n + 33), .slice (some ⟨w2.heap.size, 0, none⟩) m (m + 33), .bool false] 61)).alloc (.cells (rcV 4 0 0 0 (some ⟨w3.heap.size, 0, none⟩) 1 1 none 0 0 false none 0 0 (some ⟨w2.heap.size, 0, none⟩) m (m + 33) 0 ⟨#[]⟩) 32)) (kx xs ys) ⟨some ⟨w3.heap.size, 0, none⟩, 1, 1, none, 0, 0, none, 0, 0, some ⟨w2.heap.size, 0, none⟩, m, m + 33⟩ :=
    ⟨⟨rfl, fun _ => ⟨w3.heap.size, 0, rfl, lt_of_heap hrow, fun k t ht => by
      have hk : k = 0 := by have := (List.getElem?_eq_some_iff.1 ht).1; simp [kx] at this; omega
      subst hk
      have ht' : ⟨xs, ys, false⟩ = t := by simpa [kx] using ht
      subst ht'
      exact ⟨some ⟨w1.heap.size, 0, none⟩, n + 33, some ⟨w2.heap.size, 0, none⟩, m + 33, by rw [HXL.out]; exact rc_cell 0 _ hrow rfl, by rw [HYL.out]; exact rc_cell 1 _ hrow rfl, rc_cell 2 _ hrow rfl, by rw [HXL.out]; exact hbX, by rw [HXL.out]; omega, by rw [HYL.out]; exact hbY, by rw [HYL.out]; omega⟩⟩⟩,
    Trs.nil_, ⟨Rd.nil_, fun _ h => by cases h⟩, hbY, by show m ≤ m + 33; omega, zz, zz, zz, zz, Ran.nil, by show 1 ≤ 20000000; omega, (show 0 ≤ 20000000 by decide), (show 0 ≤ 20000000 by decide), by have := HTL.out; show (trs [⟨xs, ys, false⟩]).length + 20 ≤ _; omega, (show (trs []).length + 20 ≤ 140737488355328 by decide)⟩
  have HRC := Lib.hid hrc; have HBOX := Lib.hid hbox; have HSB := Lib.hid hsb
  have hb04 := hb03.trans (hb3b.mono hs03)
  have q0 := rc_cell 0 (.int .i64 4) HBOX.out rfl
  have q1 := rc_cell 1 (.int .u64 0) HBOX.out rfl
  have q2 := rc_cell 2 (.int .u64 0) HBOX.out rfl
  have q3 := rc_cell 3 (.int .u64 0) HBOX.out rfl
  have q4 := rc_cell 4 (.slice (some ⟨w3.heap.size, 0, none⟩) 1 1) HBOX.out rfl
  have q5 := rc_cell 5 (.slice none 0 0) HBOX.out rfl
  have q6 := rc_cell 6 (.bool false) HBOX.out rfl
  have q7 := rc_cell 7 (.slice none 0 0) HBOX.out rfl
  have q8 := rc_cell 8 (.slice (some ⟨w2.heap.size, 0, none⟩) m (m + 33)) HBOX.out rfl
  have q9 := rc_cell 9 (.int .u64 0) HBOX.out rfl
  have q10 := rc_cell 10 (.string ⟨#[]⟩) HBOX.out rfl
  have HBY : Hid (∀ W, RcR W (kx xs ys) ⟨some ⟨w3.heap.size, 0, none⟩, 1, 1, none, 0, 0, none, 0, 0, some ⟨w2.heap.size, 0, none⟩, m, m + 33⟩ → Calls Try.prog 15 #[.agg (rcV 4 0 0 0 (some ⟨w3.heap.size, 0, none⟩) 1 1 none 0 0 false none 0 0 (some ⟨w2.heap.size, 0, none⟩) m (m + 33) 0 ⟨#[]⟩)] W fun e w' => ∃ A' n' c', e = .returned (.slice A' n' c') ∧ n' = (recL (kx xs ys)).length ∧ Own w' W.heap.size 5 A' n' c' (By (recL (kx xs ys))) ∧ Ran (recL (kx xs ys)) ∧ Below W.heap.size W w') :=
    Lib.hid (fun W h => bytes_any (kx xs ys) ⟨some ⟨w3.heap.size, 0, none⟩, 1, 1, none, 0, 0, none, 0, 0, some ⟨w2.heap.size, 0, none⟩, m, m + 33⟩ W h (by have := HKL.out; omega))
  clear hrc hbox hsb hsa hrow hba hbb hb03 hb3b hbX hbY
  go_wp2_with fail
  refine (HBY.out _ HRC.out).mono ?_
  generalize ((w3.alloc (.cells #[.slice (some ⟨w1.heap.size, 0, none⟩) n (n + 33), .slice (some ⟨w2.heap.size, 0, none⟩) m (m + 33), .bool false] 61)).alloc (.cells (rcV 4 0 0 0 (some ⟨w3.heap.size, 0, none⟩) 1 1 none 0 0 false none 0 0 (some ⟨w2.heap.size, 0, none⟩) m (m + 33) 0 ⟨#[]⟩) 32)) = w4 at *
  rintro e w5 ⟨A4, n4, c4, rfl, hn4, ho4, hr4, hb5⟩
  clear q0 q1 q2 q3 q4 q5 q6 q7 q8 q9 q10
  have hs4 : w3.heap.size + 2 ≤ w4.heap.size := by rw [HSB.out]; omega
  have hs5 := hb5.size
  have HN4 := Lib.hid hn4; have HR4 := Lib.hid hr4
  have hn4' : n4 ≤ 3145928 := by rw [hn4]; have := HKL.out; omega
  have HR5 : Hid (∀ b, blk A4 = some b → w4.heap.size ≤ b ∧ b < w5.heap.size) := fun b hb => ho4.lies b hb
  replace ho4 := ho4.mono (b := w1.heap.size) (by omega)
  replace hoX := K5.below hb5 _ _ _ _ hoX
  replace hoY := K5.below hb5 _ _ _ _ hoY
  have HBOX5 := Lib.hid ((hb5.block _ (lt_of_heap HBOX.out)).trans HBOX.out)
  have HRC5 := Lib.hid (HRC.out.keep hb5)
  have hb05 := hb04.trans (hb5.mono (by omega))
  clear hn4 hr4 hb5 hb04 HBOX HRC HBY HSB
  go_wp2_with fail
  refine (spare_any A4 n4 c4 _ _ (ho4.bs HR4.out) (by omega)).mono ?_
  rintro e w6 ⟨rfl, hoS, hb6⟩
  have hs6 := hb6.size
  have HRS : Hid (∀ b, blk (some ⟨w5.heap.size, 0, none⟩) = some b → w5.heap.size ≤ b ∧ b < w6.heap.size) := fun b hb => hoS.lies b hb
  replace hoS := hoS.mono (b := w1.heap.size) (by omega)
  replace hoX := K5.below hb6 _ _ _ _ hoX
  replace hoY := K5.below hb6 _ _ _ _ hoY
  replace ho4 := K5.below hb6 _ _ _ _ ho4
  have HBOX6 := Lib.hid ((hb6.block _ (lt_of_heap HBOX5.out)).trans HBOX5.out)
  have HRC6 := Lib.hid (HRC5.out.keep hb6)
  have hb06 := hb05.trans (hb6.mono (by omega))
  have HPS : Hid (∀ (W : World), Own W w1.heap.size 5 (some ⟨w5.heap.size, 0, none⟩) (n4 + 33) (n4 + 33) (By (sp (recL (kx xs ys)))) → Bs W (some ⟨w5.heap.size, 0, none⟩) n4 (recL (kx xs ys))) := by
    intro W h
    have h' := h.pre (m := n4) (by omega)
    rw [By_take, show (sp (recL (kx xs ys))).take n4 = recL (kx xs ys) by rw [HN4.out]; exact sp_take _] at h'
    exact h'.bs HR4.out
  have hbS := HPS.out _ hoS
  clear hb6 hb05 HBOX5 HRC5
  go_wp2_with fail
  refine (read_k xs ys _ n4 (n4 + 33) _ hbS (by omega) (fun k hk => (hoS.lies k hk).2) (by omega)).mono ?_
  rw [HXL.out, HYL.out]
  rintro e w7 ⟨gy, cW, AR, nR, cR, AS, nS, cS, AP, cP, A1, c1, A2, c2, mid, rfl, hgy, hcy0, hcy1, ho1, ho2, hoP, hds1, hRP, hR1, hR2, hmd0, hmd1, hb7⟩
  have hs7 := hb7.size
  have HDS1 := Lib.hid hds1; have HRAP := Lib.hid hRP; have HRA1 := Lib.hid hR1; have HRA2 := Lib.hid hR2
  replace ho1 := ho1.mono (b := w1.heap.size) (by omega)
  replace ho2 := ho2.mono (b := w1.heap.size) (by omega)
  replace hoP := hoP.mono (b := w1.heap.size) (by omega)
  replace hoX := K5.below hb7 _ _ _ _ hoX
  replace hoY := K5.below hb7 _ _ _ _ hoY
  replace ho4 := K5.below hb7 _ _ _ _ ho4
  replace hoS := K5.below hb7 _ _ _ _ hoS
  have HBOX7 := Lib.hid ((hb7.block _ (lt_of_heap HBOX6.out)).trans HBOX6.out)
  have HRC7 := Lib.hid (HRC6.out.keep hb7)
  have hb07 := hb06.trans (hb7.mono (by omega))
  clear hds1 hRP hR1 hR2 hb7 hb06 HBOX6 HRC6 hbS
  have hba := below_alloc w7 (.cells (rcV 4 0 0 0 (some ⟨gy, 0, none⟩) 1 cW AR nR cR false AS nS cS AP m cP 0 ⟨#[]⟩) 32)
  have hbb := below_alloc (w7.alloc (.cells (rcV 4 0 0 0 (some ⟨gy, 0, none⟩) 1 cW AR nR cR false AS nS cS AP m cP 0 ⟨#[]⟩) 32)) (.cells #[.int .i64 4, .int .u64 0, .int .u64 0, .int .u64 0, .slice (some ⟨w3.heap.size, 0, none⟩) 1 1, .slice none 0 0, .bool false, .slice none 0 0, .slice (some ⟨w2.heap.size, 0, none⟩) m (m + 33), .int .u64 0, .string ⟨#[]⟩, .int .u64 0] 53)
  have hsa : (w7.alloc (.cells (rcV 4 0 0 0 (some ⟨gy, 0, none⟩) 1 cW AR nR cR false AS nS cS AP m cP 0 ⟨#[]⟩) 32)).heap.size = w7.heap.size + 1 := by simp
  have hsb : ((w7.alloc (.cells (rcV 4 0 0 0 (some ⟨gy, 0, none⟩) 1 cW AR nR cR false AS nS cS AP m cP 0 ⟨#[]⟩) 32)).alloc (.cells #[.int .i64 4, .int .u64 0, .int .u64 0, .int .u64 0, .slice (some ⟨w3.heap.size, 0, none⟩) 1 1, .slice none 0 0, .bool false, .slice none 0 0, .slice (some ⟨w2.heap.size, 0, none⟩) m (m + 33), .int .u64 0, .string ⟨#[]⟩, .int .u64 0] 53)).heap.size = w7.heap.size + 2 := by simp
  have hybox := (hbb.block w7.heap.size (by omega)).trans (heap_alloc_new w7 (.cells (rcV 4 0 0 0 (some ⟨gy, 0, none⟩) 1 cW AR nR cR false AS nS cS AP m cP 0 ⟨#[]⟩) 32))
  have hprow := heap_alloc_new (w7.alloc (.cells (rcV 4 0 0 0 (some ⟨gy, 0, none⟩) 1 cW AR nR cR false AS nS cS AP m cP 0 ⟨#[]⟩) 32)) (.cells #[.int .i64 4, .int .u64 0, .int .u64 0, .int .u64 0, .slice (some ⟨w3.heap.size, 0, none⟩) 1 1, .slice none 0 0, .bool false, .slice none 0 0, .slice (some ⟨w2.heap.size, 0, none⟩) m (m + 33), .int .u64 0, .string ⟨#[]⟩, .int .u64 0] 53)
  rw [hsa] at hprow
  have hb7c : Below w7.heap.size w7 ((w7.alloc (.cells (rcV 4 0 0 0 (some ⟨gy, 0, none⟩) 1 cW AR nR cR false AS nS cS AP m cP 0 ⟨#[]⟩) 32)).alloc (.cells #[.int .i64 4, .int .u64 0, .int .u64 0, .int .u64 0, .slice (some ⟨w3.heap.size, 0, none⟩) 1 1, .slice none 0 0, .bool false, .slice none 0 0, .slice (some ⟨w2.heap.size, 0, none⟩) m (m + 33), .int .u64 0, .string ⟨#[]⟩, .int .u64 0] 53)) := hba.trans (hbb.mono (by omega))
  replace hoX := K5.below hb7c _ _ _ _ hoX
  replace hoY := K5.below hb7c _ _ _ _ hoY
  replace ho4 := K5.below hb7c _ _ _ _ ho4
  replace hoS := K5.below hb7c _ _ _ _ hoS
  replace ho1 := K5.below hb7c _ _ _ _ ho1
  replace ho2 := K5.below hb7c _ _ _ _ ho2
  replace hoP := K5.below hb7c _ _ _ _ hoP
  have HRCc := HRC7.out.keep hb7c
  have hpl : PosL ((w7.alloc (.cells (rcV 4 0 0 0 (some ⟨gy, 0, none⟩) 1 cW AR nR cR false AS nS cS AP m cP 0 ⟨#[]⟩) 32)).alloc (.cells #[.int .i64 4, .int .u64 0, .int .u64 0, .int .u64 0, .slice (some ⟨w3.heap.size, 0, none⟩) 1 1, .slice none 0 0, .bool false, .slice none 0 0, .slice (some ⟨w2.heap.size, 0, none⟩) m (m + 33), .int .u64 0, .string ⟨#[]⟩, .int .u64 0] 53)) (some ⟨w7.heap.size + 1, 0, none⟩) 1 [⟨kx xs ys, ⟨some ⟨w3.heap.size, 0, none⟩, 1, 1, none, 0, 0, none, 0, 0, some ⟨w2.heap.size, 0, none⟩, m, m + 33⟩, 0⟩] :=
    ⟨rfl, fun _ => ⟨w7.heap.size + 1, 0, rfl, lt_of_heap hprow, fun k p hp => by
      have hk : k = 0 := by have := (List.getElem?_eq_some_iff.1 hp).1; simp at this; omega
      subst hk
      have hp' : (⟨kx xs ys, ⟨some ⟨w3.heap.size, 0, none⟩, 1, 1, none, 0, 0, none, 0, 0, some ⟨w2.heap.size, 0, none⟩, m, m + 33⟩, 0⟩ : Po) = p := by simpa using hp
      subst hp'
      refine ⟨fun i u hu => ?_, ⟨⟨HRCc.ws, HRCc.rs, HRCc.sh, HRCc.rp, HRCc.rc⟩, .inr ⟨_, _, rfl⟩, .inl ⟨rfl, rfl⟩, .inl ⟨rfl, rfl⟩, by show 1 ≤ 10000000; omega, by show 0 ≤ 10000000; omega, by show 0 ≤ 10000000; omega, by show m ≤ _; omega, by have := HTL.out; show (trs [⟨xs, ys, false⟩]).length ≤ _; omega, (show (trs []).length ≤ 140737488355328 by decide), by show (0 : Int) ≤ 0; omega, by show (0 : Int) ≤ _; omega⟩⟩
      have e0 : 0 + 0 * 12 + i = i := by omega
      rw [e0]
      exact rc_cell i u hprow hu⟩⟩
  have HPL := Lib.hid hpl; have HYB := Lib.hid hybox; have HSB := Lib.hid hsb
  replace hcy0 := (hb7c.cell (p := ⟨gy, 0, none⟩) hgy).trans hcy0
  replace hcy1 := (hb7c.cell (p := ⟨gy, 1, none⟩) hgy).trans hcy1
  have hb08 := hb07.trans (hb7c.mono (by omega))
  have q0 := rc_cell 0 (.int .i64 4) HBOX7.out rfl
  have q1 := rc_cell 1 (.int .u64 0) HBOX7.out rfl
  have q2 := rc_cell 2 (.int .u64 0) HBOX7.out rfl
  have q3 := rc_cell 3 (.int .u64 0) HBOX7.out rfl
  have q4 := rc_cell 4 (.slice (some ⟨w3.heap.size, 0, none⟩) 1 1) HBOX7.out rfl
  have q5 := rc_cell 5 (.slice none 0 0) HBOX7.out rfl
  have q6 := rc_cell 6 (.bool false) HBOX7.out rfl
  have q7 := rc_cell 7 (.slice none 0 0) HBOX7.out rfl
  have q8 := rc_cell 8 (.slice (some ⟨w2.heap.size, 0, none⟩) m (m + 33)) HBOX7.out rfl
  have q9 := rc_cell 9 (.int .u64 0) HBOX7.out rfl
  have q10 := rc_cell 10 (.string ⟨#[]⟩) HBOX7.out rfl
  have t0 := (hba.cell (p := ⟨w3.heap.size + 1, 0, none⟩) (lt_of_heap HBOX7.out)).trans q0
  have t1 := (hba.cell (p := ⟨w3.heap.size + 1, 1, none⟩) (lt_of_heap HBOX7.out)).trans q1
  have t2 := (hba.cell (p := ⟨w3.heap.size + 1, 2, none⟩) (lt_of_heap HBOX7.out)).trans q2
  have t3 := (hba.cell (p := ⟨w3.heap.size + 1, 3, none⟩) (lt_of_heap HBOX7.out)).trans q3
  have t4 := (hba.cell (p := ⟨w3.heap.size + 1, 4, none⟩) (lt_of_heap HBOX7.out)).trans q4
  have t5 := (hba.cell (p := ⟨w3.heap.size + 1, 5, none⟩) (lt_of_heap HBOX7.out)).trans q5
  have t6 := (hba.cell (p := ⟨w3.heap.size + 1, 6, none⟩) (lt_of_heap HBOX7.out)).trans q6
  have t7 := (hba.cell (p := ⟨w3.heap.size + 1, 7, none⟩) (lt_of_heap HBOX7.out)).trans q7
  have t8 := (hba.cell (p := ⟨w3.heap.size + 1, 8, none⟩) (lt_of_heap HBOX7.out)).trans q8
  have t9 := (hba.cell (p := ⟨w3.heap.size + 1, 9, none⟩) (lt_of_heap HBOX7.out)).trans q9
  have t10 := (hba.cell (p := ⟨w3.heap.size + 1, 10, none⟩) (lt_of_heap HBOX7.out)).trans q10
  clear hpl hybox hsb hsa hprow hb07 hb7c HRCc HRC7 hba hbb
  go_wp2_with fail
  clear q0 t0 q1 t1 q2 t2 q3 t3 q4 t4 q5 t5 q6 t6 q7 t7 q8 t8 q9 t9 q10 t10
  have HSB' := HSB.out
  refine (betw_k xs ys (w7.heap.size + 1) 1 1 0 none ⟨some ⟨w3.heap.size, 0, none⟩, 1, 1, none, 0, 0, none, 0, 0, some ⟨w2.heap.size, 0, none⟩, m, m + 33⟩ _ rfl HPL.out).mono ?_
  generalize ((w7.alloc (.cells (rcV 4 0 0 0 (some ⟨gy, 0, none⟩) 1 cW AR nR cR false AS nS cS AP m cP 0 ⟨#[]⟩) 32)).alloc (.cells #[.int .i64 4, .int .u64 0, .int .u64 0, .int .u64 0, .slice (some ⟨w3.heap.size, 0, none⟩) 1 1, .slice none 0 0, .bool false, .slice none 0 0, .slice (some ⟨w2.heap.size, 0, none⟩) m (m + 33), .int .u64 0, .string ⟨#[]⟩, .int .u64 0] 53)) = w8 at *
  rw [HXL.out, HYL.out]
  rintro e w9 ⟨gl, cl, gh, dW, BP, dP, B1, d1, B2, d2, mie, rfl, hgl, hcl4, hcl8, hgh, hch0, hch1, hq1, hq2, hqP, hds2, hR1, hR2, hRP, hme0, hme1, hb9⟩
  have hs8 : w7.heap.size + 2 = w8.heap.size := HSB'.symm
  have hs9 := hb9.size
  have HS8 := Lib.hid hs8
  have hs8' : w7.heap.size + 2 ≤ w8.heap.size := by omega
  have HDS2 := Lib.hid hds2; have HRBP := Lib.hid hRP; have HRB1 := Lib.hid hR1; have HRB2 := Lib.hid hR2
  replace hq1 := hq1.mono (b := w1.heap.size) (by omega)
  replace hq2 := hq2.mono (b := w1.heap.size) (by omega)
  replace hqP := hqP.mono (b := w1.heap.size) (by omega)
  clear hs8 HSB' HSB hds2 hR1 hR2 hRP HPL
  replace hoX := K5.below hb9 _ _ _ _ hoX
  replace hoY := K5.below hb9 _ _ _ _ hoY
  replace ho4 := K5.below hb9 _ _ _ _ ho4
  replace hoS := K5.below hb9 _ _ _ _ hoS
  replace ho1 := K5.below hb9 _ _ _ _ ho1
  replace ho2 := K5.below hb9 _ _ _ _ ho2
  replace hoP := K5.below hb9 _ _ _ _ hoP
  have HYB9 := Lib.hid ((hb9.block _ (lt_of_heap HYB.out)).trans HYB.out)
  replace hcy0 := (hb9.cell (p := ⟨gy, 0, none⟩) (show gy < w8.heap.size by omega)).trans hcy0
  replace hcy1 := (hb9.cell (p := ⟨gy, 1, none⟩) (show gy < w8.heap.size by omega)).trans hcy1
  have hb09 := hb08.trans (hb9.mono (by omega))
  clear hb08 hb9 HYB
  have y4 := rc_cell 4 (.slice (some ⟨gy, 0, none⟩) 1 cW) HYB9.out rfl
  have y8 := rc_cell 8 (.slice AP m cP) HYB9.out rfl
  have hbX := hoX.bs (sp_ran hxr)
  have hbY := hoY.bs (sp_ran hyr)
  have hbS := hoS.bs (sp_ran HR4.out)
  have hb4 := ho4.bs HR4.out
  have hx9 := HX.out.keep hb09
  have hy9 := HY.out.keep hb09
  go_wp2_with fail
  refine (kept_any _ _ n _ _ xs _ hbX hx9 (by omega)).mono ?_
  rintro e w10 ⟨rfl, hd10⟩
  go_wp2_with fail
  refine (kept_any _ _ m _ _ ys _ (hbY.dr hd10) (hy9.dr hd10) (by omega)).mono ?_
  rintro e w11 ⟨rfl, hd11⟩
  replace hd11 := hd10.trans hd11
  go_wp2_with fail
  refine (kept_any _ _ n4 _ _ _ _ (hbS.dr hd11) (hb4.dr hd11) (by omega)).mono ?_
  rintro e w12 ⟨rfl, hd12⟩
  replace hd12 := hd11.trans hd12
  replace hcy0 := (dr_cell hd12 _).trans hcy0
  replace hcy1 := (dr_cell hd12 _).trans hcy1
  replace hcl4 := (dr_cell hd12 _).trans hcl4
  replace hcl8 := (dr_cell hd12 _).trans hcl8
  replace hch0 := (dr_cell hd12 _).trans hch0
  replace hch1 := (dr_cell hd12 _).trans hch1
  replace y4 := (dr_cell hd12 _).trans y4
  replace y8 := (dr_cell hd12 _).trans y8
  replace hoX := hoX.dr hd12
  replace hoY := hoY.dr hd12
  replace ho4 := ho4.dr hd12
  replace hoS := hoS.dr hd12
  replace ho1 := ho1.dr hd12
  replace ho2 := ho2.dr hd12
  replace hoP := hoP.dr hd12
  replace hq1 := hq1.dr hd12
  replace hq2 := hq2.dr hd12
  replace hqP := hqP.dr hd12
  have hx12 := hx9.dr hd12
  have hy12 := hy9.dr hd12
  have hb012 := hb09.trans (hd12.below _)
  have hs12 : w9.heap.size = w12.heap.size := hd12.size.symm
  have HS12 := Lib.hid hs12
  clear hs12 hb09 hbX hbY hbS hb4 hx9 hy9 hd10 hd11 hd12
  have HDI : Hid (Dist [((some ⟨w1.heap.size, 0, none⟩ : Option Addr), n + 33, n + 33), ((some ⟨w2.heap.size, 0, none⟩ : Option Addr), m + 33, m + 33), (A4, n4, c4), ((some ⟨w5.heap.size, 0, none⟩ : Option Addr), n4 + 33, n4 + 33), (A1, n, c1), (A2, m, c2), (AP, m, cP), (B1, n, d1), (B2, m, d2), (BP, m, dP)]) := by
    have e12 := HS12.out
    refine dist_grp (thr w1.heap.size w2.heap.size w4.heap.size w5.heap.size w6.heap.size mid w8.heap.size mie w9.heap.size) grp ?_ ?_ ?_
    · intro j
      match j with
      | 0 => simp only [thr]; omega
      | 1 => simp only [thr]; omega
      | 2 => simp only [thr]; omega
      | 3 => simp only [thr]; omega
      | 4 => simp only [thr]; omega
      | 5 => simp only [thr]; omega
      | 6 => simp only [thr]; omega
      | 7 => simp only [thr]; omega
      | (j + 8) => exact Nat.le_refl _
    · intro j B' m' d' he b hb
      match j, he with
      | 0, he =>
        simp only [List.getElem?_cons_zero, Option.some.injEq, Prod.mk.injEq] at he
        obtain ⟨rfl, rfl, rfl⟩ := he
        have := HRX.out b hb
        simp only [thr, grp]; omega
      | 1, he =>
        simp only [List.getElem?_cons_succ, List.getElem?_cons_zero, Option.some.injEq, Prod.mk.injEq] at he
        obtain ⟨rfl, rfl, rfl⟩ := he
        have := HRY.out b hb
        simp only [thr, grp]; omega
      | 2, he =>
        simp only [List.getElem?_cons_succ, List.getElem?_cons_zero, Option.some.injEq, Prod.mk.injEq] at he
        obtain ⟨rfl, rfl, rfl⟩ := he
        have := HR5.out b hb
        simp only [thr, grp]; omega
      | 3, he =>
        simp only [List.getElem?_cons_succ, List.getElem?_cons_zero, Option.some.injEq, Prod.mk.injEq] at he
        obtain ⟨rfl, rfl, rfl⟩ := he
        have := HRS.out b hb
        simp only [thr, grp]; omega
      | 4, he =>
        simp only [List.getElem?_cons_succ, List.getElem?_cons_zero, Option.some.injEq, Prod.mk.injEq] at he
        obtain ⟨rfl, rfl, rfl⟩ := he
        have := HRA1.out b hb
        simp only [thr, grp]; omega
      | 5, he =>
        simp only [List.getElem?_cons_succ, List.getElem?_cons_zero, Option.some.injEq, Prod.mk.injEq] at he
        obtain ⟨rfl, rfl, rfl⟩ := he
        have := HRA2.out b hb
        simp only [thr, grp]; omega
      | 6, he =>
        simp only [List.getElem?_cons_succ, List.getElem?_cons_zero, Option.some.injEq, Prod.mk.injEq] at he
        obtain ⟨rfl, rfl, rfl⟩ := he
        have := HRAP.out b hb
        simp only [thr, grp]; omega
      | 7, he =>
        simp only [List.getElem?_cons_succ, List.getElem?_cons_zero, Option.some.injEq, Prod.mk.injEq] at he
        obtain ⟨rfl, rfl, rfl⟩ := he
        have := HRB1.out b hb
        simp only [thr, grp]; omega
      | 8, he =>
        simp only [List.getElem?_cons_succ, List.getElem?_cons_zero, Option.some.injEq, Prod.mk.injEq] at he
        obtain ⟨rfl, rfl, rfl⟩ := he
        have := HRB2.out b hb
        simp only [thr, grp]; omega
      | 9, he =>
        simp only [List.getElem?_cons_succ, List.getElem?_cons_zero, Option.some.injEq, Prod.mk.injEq] at he
        obtain ⟨rfl, rfl, rfl⟩ := he
        have := HRBP.out b hb
        simp only [thr, grp]; omega
      | (j + 10), he => simp at he
    · intro i j X n' c' Y m' d' hi hj hne hg
      have hi10 : i < 10 := (List.getElem?_eq_some_iff.1 hi).1
      have hj10 : j < 10 := (List.getElem?_eq_some_iff.1 hj).1
      have hcase : (i = 4 ∧ j = 5) ∨ (i = 5 ∧ j = 4) ∨ (i = 7 ∧ j = 8) ∨ (i = 8 ∧ j = 7) := by
        have key : ∀ i j : Fin 10, i.1 ≠ j.1 → grp i.1 = grp j.1 → (i.1 = 4 ∧ j.1 = 5) ∨ (i.1 = 5 ∧ j.1 = 4) ∨ (i.1 = 7 ∧ j.1 = 8) ∨ (i.1 = 8 ∧ j.1 = 7) := by decide
        exact key ⟨i, hi10⟩ ⟨j, hj10⟩ hne hg
      rcases hcase with ⟨rfl, rfl⟩ | ⟨rfl, rfl⟩ | ⟨rfl, rfl⟩ | ⟨rfl, rfl⟩
      · simp only [List.getElem?_cons_succ, List.getElem?_cons_zero, Option.some.injEq, Prod.mk.injEq] at hi hj
        obtain ⟨rfl, rfl, rfl⟩ := hi
        obtain ⟨rfl, rfl, rfl⟩ := hj
        exact HDS1.out
      · simp only [List.getElem?_cons_succ, List.getElem?_cons_zero, Option.some.injEq, Prod.mk.injEq] at hi hj
        obtain ⟨rfl, rfl, rfl⟩ := hi
        obtain ⟨rfl, rfl, rfl⟩ := hj
        exact dist_sym HDS1.out
      · simp only [List.getElem?_cons_succ, List.getElem?_cons_zero, Option.some.injEq, Prod.mk.injEq] at hi hj
        obtain ⟨rfl, rfl, rfl⟩ := hi
        obtain ⟨rfl, rfl, rfl⟩ := hj
        exact HDS2.out
      · simp only [List.getElem?_cons_succ, List.getElem?_cons_zero, Option.some.injEq, Prod.mk.injEq] at hi hj
        obtain ⟨rfl, rfl, rfl⟩ := hi
        obtain ⟨rfl, rfl, rfl⟩ := hj
        exact dist_sym HDS2.out
  have HNL : Hid (∀ (j : Nat) (B' : Option Addr) (m' d' : Nat), [((some ⟨w1.heap.size, 0, none⟩ : Option Addr), n + 33, n + 33), ((some ⟨w2.heap.size, 0, none⟩ : Option Addr), m + 33, m + 33), (A4, n4, c4), ((some ⟨w5.heap.size, 0, none⟩ : Option Addr), n4 + 33, n4 + 33), (A1, n, c1), (A2, m, c2), (AP, m, cP), (B1, n, d1), (B2, m, d2), (BP, m, dP)][j]? = some (B', m', d') → ∀ b, blk B' = some b → w1.heap.size ≤ b) := by
    intro j B' m' d' he b hb
    match j, he with
    | 0, he =>
      simp only [List.getElem?_cons_zero, Option.some.injEq, Prod.mk.injEq] at he
      obtain ⟨rfl, rfl, rfl⟩ := he
      have := HRX.out b hb
      omega
    | 1, he =>
      simp only [List.getElem?_cons_succ, List.getElem?_cons_zero, Option.some.injEq, Prod.mk.injEq] at he
      obtain ⟨rfl, rfl, rfl⟩ := he
      have := HRY.out b hb
      omega
    | 2, he =>
      simp only [List.getElem?_cons_succ, List.getElem?_cons_zero, Option.some.injEq, Prod.mk.injEq] at he
      obtain ⟨rfl, rfl, rfl⟩ := he
      have := HR5.out b hb
      omega
    | 3, he =>
      simp only [List.getElem?_cons_succ, List.getElem?_cons_zero, Option.some.injEq, Prod.mk.injEq] at he
      obtain ⟨rfl, rfl, rfl⟩ := he
      have := HRS.out b hb
      omega
    | 4, he =>
      simp only [List.getElem?_cons_succ, List.getElem?_cons_zero, Option.some.injEq, Prod.mk.injEq] at he
      obtain ⟨rfl, rfl, rfl⟩ := he
      have := HRA1.out b hb
      omega
    | 5, he =>
      simp only [List.getElem?_cons_succ, List.getElem?_cons_zero, Option.some.injEq, Prod.mk.injEq] at he
      obtain ⟨rfl, rfl, rfl⟩ := he
      have := HRA2.out b hb
      omega
    | 6, he =>
      simp only [List.getElem?_cons_succ, List.getElem?_cons_zero, Option.some.injEq, Prod.mk.injEq] at he
      obtain ⟨rfl, rfl, rfl⟩ := he
      have := HRAP.out b hb
      omega
    | 7, he =>
      simp only [List.getElem?_cons_succ, List.getElem?_cons_zero, Option.some.injEq, Prod.mk.injEq] at he
      obtain ⟨rfl, rfl, rfl⟩ := he
      have := HRB1.out b hb
      omega
    | 8, he =>
      simp only [List.getElem?_cons_succ, List.getElem?_cons_zero, Option.some.injEq, Prod.mk.injEq] at he
      obtain ⟨rfl, rfl, rfl⟩ := he
      have := HRB2.out b hb
      omega
    | 9, he =>
      simp only [List.getElem?_cons_succ, List.getElem?_cons_zero, Option.some.injEq, Prod.mk.injEq] at he
      obtain ⟨rfl, rfl, rfl⟩ := he
      have := HRBP.out b hb
      omega
    | (j + 10), he => simp at he
  have HOW : Hid (∀ (W : World), Dr (w12.alloc (.cells #[.slice (some ⟨w1.heap.size, 0, none⟩) (n + 33) (n + 33), .slice (some ⟨w2.heap.size, 0, none⟩) (m + 33) (m + 33), .slice A4 (n4) (c4), .slice (some ⟨w5.heap.size, 0, none⟩) (n4 + 33) (n4 + 33), .slice A1 (n) (c1), .slice A2 (m) (c2), .slice AP (m) (cP), .slice B1 (n) (d1), .slice B2 (m) (d2), .slice BP (m) (dP)] 28)) W → ∀ (j : Nat) (B' : Option Addr) (m' d' : Nat), [((some ⟨w1.heap.size, 0, none⟩ : Option Addr), n + 33, n + 33), ((some ⟨w2.heap.size, 0, none⟩ : Option Addr), m + 33, m + 33), (A4, n4, c4), ((some ⟨w5.heap.size, 0, none⟩ : Option Addr), n4 + 33, n4 + 33), (A1, n, c1), (A2, m, c2), (AP, m, cP), (B1, n, d1), (B2, m, d2), (BP, m, dP)][j]? = some (B', m', d') → (∃ zs, Own W w1.heap.size 5 B' m' d' (By zs) ∧ Ran zs) ∧ m' ≤ 1000000000) := by
    intro W hW j B' m' d' he
    match j, he with
    | 0, he =>
      simp only [List.getElem?_cons_zero, Option.some.injEq, Prod.mk.injEq] at he
      obtain ⟨rfl, rfl, rfl⟩ := he
      exact ⟨⟨_, (hoX.alloc _).dr hW, sp_ran hxr⟩, by omega⟩
    | 1, he =>
      simp only [List.getElem?_cons_succ, List.getElem?_cons_zero, Option.some.injEq, Prod.mk.injEq] at he
      obtain ⟨rfl, rfl, rfl⟩ := he
      exact ⟨⟨_, (hoY.alloc _).dr hW, sp_ran hyr⟩, by omega⟩
    | 2, he =>
      simp only [List.getElem?_cons_succ, List.getElem?_cons_zero, Option.some.injEq, Prod.mk.injEq] at he
      obtain ⟨rfl, rfl, rfl⟩ := he
      exact ⟨⟨_, (ho4.alloc _).dr hW, HR4.out⟩, by omega⟩
    | 3, he =>
      simp only [List.getElem?_cons_succ, List.getElem?_cons_zero, Option.some.injEq, Prod.mk.injEq] at he
      obtain ⟨rfl, rfl, rfl⟩ := he
      exact ⟨⟨_, (hoS.alloc _).dr hW, sp_ran HR4.out⟩, by omega⟩
    | 4, he =>
      simp only [List.getElem?_cons_succ, List.getElem?_cons_zero, Option.some.injEq, Prod.mk.injEq] at he
      obtain ⟨rfl, rfl, rfl⟩ := he
      exact ⟨⟨_, (ho1.alloc _).dr hW, hxr⟩, by omega⟩
    | 5, he =>
      simp only [List.getElem?_cons_succ, List.getElem?_cons_zero, Option.some.injEq, Prod.mk.injEq] at he
      obtain ⟨rfl, rfl, rfl⟩ := he
      exact ⟨⟨_, (ho2.alloc _).dr hW, hyr⟩, by omega⟩
    | 6, he =>
      simp only [List.getElem?_cons_succ, List.getElem?_cons_zero, Option.some.injEq, Prod.mk.injEq] at he
      obtain ⟨rfl, rfl, rfl⟩ := he
      exact ⟨⟨_, (hoP.alloc _).dr hW, hyr⟩, by omega⟩
    | 7, he =>
      simp only [List.getElem?_cons_succ, List.getElem?_cons_zero, Option.some.injEq, Prod.mk.injEq] at he
      obtain ⟨rfl, rfl, rfl⟩ := he
      exact ⟨⟨_, (hq1.alloc _).dr hW, hxr⟩, by omega⟩
    | 8, he =>
      simp only [List.getElem?_cons_succ, List.getElem?_cons_zero, Option.some.injEq, Prod.mk.injEq] at he
      obtain ⟨rfl, rfl, rfl⟩ := he
      exact ⟨⟨_, (hq2.alloc _).dr hW, hyr⟩, by omega⟩
    | 9, he =>
      simp only [List.getElem?_cons_succ, List.getElem?_cons_zero, Option.some.injEq, Prod.mk.injEq] at he
      obtain ⟨rfl, rfl, rfl⟩ := he
      exact ⟨⟨_, (hqP.alloc _).dr hW, hyr⟩, by omega⟩
    | (j + 10), he => simp at he
  have HHD : Hid (∀ (W : World), Dr (w12.alloc (.cells #[.slice (some ⟨w1.heap.size, 0, none⟩) (n + 33) (n + 33), .slice (some ⟨w2.heap.size, 0, none⟩) (m + 33) (m + 33), .slice A4 (n4) (c4), .slice (some ⟨w5.heap.size, 0, none⟩) (n4 + 33) (n4 + 33), .slice A1 (n) (c1), .slice A2 (m) (c2), .slice AP (m) (cP), .slice B1 (n) (d1), .slice B2 (m) (d2), .slice BP (m) (dP)] 28)) W → HdL W w12.heap.size [((some ⟨w1.heap.size, 0, none⟩ : Option Addr), n + 33, n + 33), ((some ⟨w2.heap.size, 0, none⟩ : Option Addr), m + 33, m + 33), (A4, n4, c4), ((some ⟨w5.heap.size, 0, none⟩ : Option Addr), n4 + 33, n4 + 33), (A1, n, c1), (A2, m, c2), (AP, m, cP), (B1, n, d1), (B2, m, d2), (BP, m, dP)]) := fun W hW => HdL.dr ⟨_, _, heap_alloc_new w12 _, rfl⟩ hW
  have HAP : Hid (∀ (W : World), Dr (w12.alloc (.cells #[.slice (some ⟨w1.heap.size, 0, none⟩) (n + 33) (n + 33), .slice (some ⟨w2.heap.size, 0, none⟩) (m + 33) (m + 33), .slice A4 (n4) (c4), .slice (some ⟨w5.heap.size, 0, none⟩) (n4 + 33) (n4 + 33), .slice A1 (n) (c1), .slice A2 (m) (c2), .slice AP (m) (cP), .slice B1 (n) (d1), .slice B2 (m) (d2), .slice BP (m) (dP)] 28)) W → Calls Try.prog 29 #[.slice (some ⟨w12.heap.size, 0, none⟩) 10 10] W fun e w' => e = .returned (.bool true) ∧ Below w.heap.size w w') := by
    intro W hW
    have hWs : W.heap.size = w12.heap.size + 1 := by rw [hW.size]; simp
    have e12 := HS12.out
    refine (apart_any w12.heap.size 10 w1.heap.size _ W (HHD.out W hW) rfl (by omega) (HOW.out W hW) HDI.out (by rw [hWs]; omega)).mono ?_
    rintro e w' ⟨rfl, hoth⟩
    have hbW : Below w.heap.size w W := (hb012.trans ((below_alloc w12 _).mono (by omega))).trans (hW.below _)
    exact ⟨rfl, hbW.trans (hoth.below (by omega) (fun j B' m' d' he b hb => by have := HNL.out j B' m' d' he b hb; omega))⟩
  have HEQ1 : Hid (∀ (W : World), Dr (w12.alloc (.cells #[.slice (some ⟨w1.heap.size, 0, none⟩) (n + 33) (n + 33), .slice (some ⟨w2.heap.size, 0, none⟩) (m + 33) (m + 33), .slice A4 (n4) (c4), .slice (some ⟨w5.heap.size, 0, none⟩) (n4 + 33) (n4 + 33), .slice A1 (n) (c1), .slice A2 (m) (c2), .slice AP (m) (cP), .slice B1 (n) (d1), .slice B2 (m) (d2), .slice BP (m) (dP)] 28)) W → Calls Try.prog 16 #[.slice AP m cP, .slice B m d] W fun e w' => e = .returned (.bool true) ∧ Dr W w') := fun W hW =>
    equal_is _ _ m m _ _ ys ys true (cmpL_refl ys) W (((hoP.alloc _).dr hW).bs hyr) ((hy12.keep (below_alloc w12 _)).dr hW) (by unfold maxLen; omega) (by unfold maxLen; omega)
  have HEQ2 : Hid (∀ (W : World), Dr (w12.alloc (.cells #[.slice (some ⟨w1.heap.size, 0, none⟩) (n + 33) (n + 33), .slice (some ⟨w2.heap.size, 0, none⟩) (m + 33) (m + 33), .slice A4 (n4) (c4), .slice (some ⟨w5.heap.size, 0, none⟩) (n4 + 33) (n4 + 33), .slice A1 (n) (c1), .slice A2 (m) (c2), .slice AP (m) (cP), .slice B1 (n) (d1), .slice B2 (m) (d2), .slice BP (m) (dP)] 28)) W → Calls Try.prog 16 #[.slice B1 n d1, .slice A n c] W fun e w' => e = .returned (.bool true) ∧ Dr W w') := fun W hW =>
    equal_is _ _ n n _ _ xs xs true (cmpL_refl xs) W (((hq1.alloc _).dr hW).bs hxr) ((hx12.keep (below_alloc w12 _)).dr hW) (by unfold maxLen; omega) (by unfold maxLen; omega)
  have hgx := World.block_lt_of_cell? w12 _ hcy0
  have hgx2 := World.block_lt_of_cell? w12 _ hcl4
  have hgx3 := World.block_lt_of_cell? w12 _ hch0
  have hgx4 := World.block_lt_of_cell? w12 _ y4
  clear hoX hoY ho4 hoS ho1 ho2 hoP hq1 hq2 hqP HDI HNL HOW HHD HRX HRY HR5 HRS HRA1 HRA2 HRAP HRB1 HRB2 HRBP HYB9 hb012 hx12 hy12 HBOX7 HDS1 HDS2
  go_wp2_with fail
  replace hcy0 : w12.drew.cell? ⟨gy, 0, none⟩ = some (.slice A1 n c1) := hcy0
  replace hcy1 : w12.drew.cell? ⟨gy, 1, none⟩ = some (.slice A2 m c2) := hcy1
  replace hcl4 : w12.drew.cell? ⟨gl, 4, none⟩ = some (.slice (some ⟨gh, 0, none⟩) 1 dW) := hcl4
  replace hcl8 : w12.drew.cell? ⟨gl, 8, none⟩ = some (.slice BP m dP) := hcl8
  replace hch0 : w12.drew.cell? ⟨gh, 0, none⟩ = some (.slice B1 n d1) := hch0
  replace hch1 : w12.drew.cell? ⟨gh, 1, none⟩ = some (.slice B2 m d2) := hch1
  replace y4 : w12.drew.cell? ⟨w7.heap.size, 4, none⟩ = some (.slice (some ⟨gy, 0, none⟩) 1 cW) := y4
  replace y8 : w12.drew.cell? ⟨w7.heap.size, 8, none⟩ = some (.slice AP m cP) := y8
  go_still_tail 37, (by kernel_rfl)
  change wpList _ _ _ _ _ w12.drew
  have HD1 : Hid (Dr (w12.alloc (.cells #[.slice (some ⟨w1.heap.size, 0, none⟩) (n + 33) (n + 33), .slice (some ⟨w2.heap.size, 0, none⟩) (m + 33) (m + 33), .slice A4 (n4) (c4), .slice (some ⟨w5.heap.size, 0, none⟩) (n4 + 33) (n4 + 33), .slice A1 (n) (c1), .slice A2 (m) (c2), .slice AP (m) (cP), .slice B1 (n) (d1), .slice B2 (m) (d2), .slice BP (m) (dP)] 28)) (w12.drew.alloc (.cells #[.slice (some ⟨w1.heap.size, 0, none⟩) (n + 33) (n + 33), .slice (some ⟨w2.heap.size, 0, none⟩) (m + 33) (m + 33), .slice A4 (n4) (c4), .slice (some ⟨w5.heap.size, 0, none⟩) (n4 + 33) (n4 + 33), .slice A1 (n) (c1), .slice A2 (m) (c2), .slice AP (m) (cP), .slice B1 (n) (d1), .slice B2 (m) (d2), .slice BP (m) (dP)] 28))) := Lib.hid ⟨1, rfl⟩
  have HSD : Hid (w12.drew.heap.size = w12.heap.size) := Lib.hid rfl
  replace HAP := Lib.hid (fun W (hW : Dr (w12.drew.alloc (.cells #[.slice (some ⟨w1.heap.size, 0, none⟩) (n + 33) (n + 33), .slice (some ⟨w2.heap.size, 0, none⟩) (m + 33) (m + 33), .slice A4 (n4) (c4), .slice (some ⟨w5.heap.size, 0, none⟩) (n4 + 33) (n4 + 33), .slice A1 (n) (c1), .slice A2 (m) (c2), .slice AP (m) (cP), .slice B1 (n) (d1), .slice B2 (m) (d2), .slice BP (m) (dP)] 28)) W) => HAP.out W (HD1.out.trans hW))
  rw [← HSD.out] at HAP
  replace HEQ1 := Lib.hid (fun W (hW : Dr (w12.drew.alloc (.cells #[.slice (some ⟨w1.heap.size, 0, none⟩) (n + 33) (n + 33), .slice (some ⟨w2.heap.size, 0, none⟩) (m + 33) (m + 33), .slice A4 (n4) (c4), .slice (some ⟨w5.heap.size, 0, none⟩) (n4 + 33) (n4 + 33), .slice A1 (n) (c1), .slice A2 (m) (c2), .slice AP (m) (cP), .slice B1 (n) (d1), .slice B2 (m) (d2), .slice BP (m) (dP)] 28)) W) => HEQ1.out W (HD1.out.trans hW))
  replace HEQ2 := Lib.hid (fun W (hW : Dr (w12.drew.alloc (.cells #[.slice (some ⟨w1.heap.size, 0, none⟩) (n + 33) (n + 33), .slice (some ⟨w2.heap.size, 0, none⟩) (m + 33) (m + 33), .slice A4 (n4) (c4), .slice (some ⟨w5.heap.size, 0, none⟩) (n4 + 33) (n4 + 33), .slice A1 (n) (c1), .slice A2 (m) (c2), .slice AP (m) (cP), .slice B1 (n) (d1), .slice B2 (m) (d2), .slice BP (m) (dP)] 28)) W) => HEQ2.out W (HD1.out.trans hW))
  rw [← HSD.out] at hgx hgx2 hgx3 hgx4
  clear HD1 HSD
  generalize w12.drew = wd at *
  have hbA := below_alloc wd (.cells #[.slice (some ⟨w1.heap.size, 0, none⟩) (n + 33) (n + 33), .slice (some ⟨w2.heap.size, 0, none⟩) (m + 33) (m + 33), .slice A4 (n4) (c4), .slice (some ⟨w5.heap.size, 0, none⟩) (n4 + 33) (n4 + 33), .slice A1 (n) (c1), .slice A2 (m) (c2), .slice AP (m) (cP), .slice B1 (n) (d1), .slice B2 (m) (d2), .slice BP (m) (dP)] 28)
  have x8 := (hbA.cell (p := ⟨w7.heap.size, 8, none⟩) hgx4).trans y8
  have x4 := (hbA.cell (p := ⟨gl, 4, none⟩) hgx2).trans hcl4
  have x0 := (hbA.cell (p := ⟨gh, 0, none⟩) hgx3).trans hch0
  clear hbA hcy0 hcy1 hcl4 hcl8 hch0 hch1 y4 y8
  go_wp2_with fail
  refine (HEQ1.out _ (by exact Dr.refl _)).mono ?_
  rintro e w13 ⟨rfl, hd13⟩
  replace x4 := (dr_cell hd13 _).trans x4
  replace x0 := (dr_cell hd13 _).trans x0
  have hdd := hd13
  clear hd13 x8
  go_wp2_with fail
  refine (HEQ2.out _ (by exact hdd)).mono ?_
  rintro e w14 ⟨rfl, hd14⟩
  have hde := hdd.trans hd14
  clear hdd hd14 x0 x4
  go_wp2_with fail
  refine (HAP.out _ (by exact hde)).mono ?_
  rintro e w15 ⟨rfl, hbf⟩
  go_wp2
  go_ret
  exact ⟨rfl, hbf⟩
end Go.Proofs.Ytmjjbfcblmmipaa
