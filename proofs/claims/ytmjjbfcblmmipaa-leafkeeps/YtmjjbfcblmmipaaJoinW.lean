/- pack.Join, the reference's Join and Copies. -/
import Derived.Test.YtmjjbfcblmmipaaRdr
namespace Go.Proofs.Ytmjjbfcblmmipaa
set_option linter.unusedVariables false
set_option linter.unusedSimpArgs false
open Go.RowKit

/-! Readings whose blocks are of a kind. -/
def RdP (w : World) (Pd : Nat → Prop) (A : Option Addr) (n : Nat) (vs : List Value) : Prop :=
  vs.length = n ∧ (0 < n → ∃ b off, A = some ⟨b, off, none⟩ ∧ Pd b ∧ ∀ j u, vs[j]? = some u → w.cell? ⟨b, off + j, none⟩ = some u)
def BsP (w : World) (Pd : Nat → Prop) (A : Option Addr) (n : Nat) (xs : List Int) : Prop := RdP w Pd A n (By xs) ∧ Ran xs
section
variable {w w' : World} {Pd Pd' : Nat → Prop} {A : Option Addr} {n : Nat} {xs : List Int} {vs : List Value}
theorem RdP.keep (h : RdP w Pd A n vs) (hk : ∀ b, Pd b → w'.heap[b]? = w.heap[b]?) : RdP w' Pd A n vs := by
  refine ⟨h.1, fun hn => ?_⟩
  obtain ⟨b, off, rfl, hb, hc⟩ := h.2 hn
  refine ⟨b, off, rfl, hb, fun j u hu => ?_⟩
  rw [World.cell?_of_block (a := ⟨b, off + j, none⟩) (hk b hb)]
  exact hc j u hu
theorem RdP.imp (h : RdP w Pd A n vs) (hi : ∀ b, Pd b → Pd' b) : RdP w Pd' A n vs :=
  ⟨h.1, fun hn => by obtain ⟨b, off, hA, hb, hc⟩ := h.2 hn; exact ⟨b, off, hA, hi b hb, hc⟩⟩
theorem RdP.rd (h : RdP w Pd A n vs) : Rd w A n vs := by
  refine ⟨h.1, fun hn => ?_⟩
  obtain ⟨b, off, rfl, hb, hc⟩ := h.2 hn
  have h0 : vs[0]? = some (vs[0]'(by have := h.1; omega)) := List.getElem?_eq_getElem (by have := h.1; omega)
  exact ⟨b, off, rfl, World.block_lt_of_cell? w ⟨b, off + 0, none⟩ (hc 0 _ h0), hc⟩
theorem Rd.rdP (h : Rd w A n vs) : RdP w (· < w.heap.size) A n vs := h
theorem BsP.keep (h : BsP w Pd A n xs) (hk : ∀ b, Pd b → w'.heap[b]? = w.heap[b]?) : BsP w' Pd A n xs := ⟨h.1.keep hk, h.2⟩
theorem BsP.imp (h : BsP w Pd A n xs) (hi : ∀ b, Pd b → Pd' b) : BsP w Pd' A n xs := ⟨h.1.imp hi, h.2⟩
theorem BsP.bs (h : BsP w Pd A n xs) : Bs w A n xs := ⟨h.1.rd, h.2⟩
theorem Bs.bsP (h : Bs w A n xs) : BsP w (· < w.heap.size) A n xs := h
end

/-- A slice of slices of bytes. -/
def BssP (w : World) (Pd : Nat → Prop) (A : Option Addr) (n : Nat) (xss : List (List Int)) : Prop :=
  xss.length = n ∧ ∃ vs, RdP w Pd A n vs ∧ ∀ (i : Nat) (v : Value) (xs : List Int), vs[i]? = some v → xss[i]? = some xs → ∃ A' c', v = .slice A' xs.length c' ∧ BsP w Pd A' xs.length xs ∧ xs.length ≤ c'
section
variable {w w' : World} {Pd Pd' : Nat → Prop} {A : Option Addr} {n : Nat} {xss : List (List Int)}
theorem BssP.len (h : BssP w Pd A n xss) : xss.length = n := h.1
theorem BssP.keep (h : BssP w Pd A n xss) (hk : ∀ b, Pd b → w'.heap[b]? = w.heap[b]?) : BssP w' Pd A n xss := by
  obtain ⟨hl, vs, hr, he⟩ := h
  refine ⟨hl, vs, hr.keep hk, fun i v xs hv hx => ?_⟩
  obtain ⟨A', c', e, hb, hc⟩ := he i v xs hv hx
  exact ⟨A', c', e, hb.keep hk, hc⟩
theorem BssP.imp (h : BssP w Pd A n xss) (hi : ∀ b, Pd b → Pd' b) : BssP w Pd' A n xss := by
  obtain ⟨hl, vs, hr, he⟩ := h
  refine ⟨hl, vs, hr.imp hi, fun i v xs hv hx => ?_⟩
  obtain ⟨A', c', e, hb, hc⟩ := he i v xs hv hx
  exact ⟨A', c', e, hb.imp hi, hc⟩
theorem BssP.at_ {k : Nat} (h : BssP w Pd A n xss) (hk : k < n) : ∃ b off A' n' c' xs, A = some ⟨b, off, none⟩ ∧ Pd b ∧ w.cell? ⟨b, off + k, none⟩ = some (.slice A' n' c') ∧ BsP w Pd A' n' xs ∧ n' ≤ c' ∧ Hid (xss[k]? = some xs) := by
  obtain ⟨hl, vs, hr, he⟩ := h
  obtain ⟨b, off, rfl, hb, hc⟩ := hr.2 (by omega)
  have hv : vs[k]? = some (vs[k]'(by have := hr.1; omega)) := List.getElem?_eq_getElem (by have := hr.1; omega)
  have hx : xss[k]? = some (xss[k]'(by omega)) := List.getElem?_eq_getElem (by omega)
  obtain ⟨A', c', e, hbs, hcc⟩ := he k _ _ hv hx
  have := hc k _ hv
  rw [e] at this
  exact ⟨b, off, A', _, c', _, rfl, hb, this, hbs, hcc, hx⟩
end

/-- A writer: its block, and what it has written, in a row behind that block. -/
def Wtr (w : World) (g : Nat) (A : Option Addr) (n c : Nat) (xs : List Int) : Prop :=
  w.heap[g]? = some (.cells #[.slice A n c] 147 (0, 0)) ∧ Own w (g + 1) 5 A n c (By xs)
/-- What a writer's deed leaves alone. -/
structure WEff (g : Nat) (A A' : Option Addr) (w w' : World) : Prop where
  os : w'.os = w.os
  tape : w'.tape = w.tape
  output : w'.output = w.output
  size : w.heap.size ≤ w'.heap.size
  block : ∀ b, b < w.heap.size → b ≠ g → some b ≠ blk A → w'.heap[b]? = w.heap[b]?
  lies : blk A' = blk A ∨ ∃ k, blk A' = some k ∧ w.heap.size ≤ k
theorem WEff.refl (g : Nat) (A : Option Addr) (w : World) : WEff g A A w w := ⟨rfl, rfl, rfl, Nat.le_refl _, fun _ _ _ _ => rfl, .inl rfl⟩
theorem WEff.trans {g : Nat} {A A1 A2 : Option Addr} {w w1 w2 : World} (h : WEff g A A1 w w1) (k : WEff g A1 A2 w1 w2) : WEff g A A2 w w2 := by
  refine ⟨k.os.trans h.os, k.tape.trans h.tape, k.output.trans h.output, Nat.le_trans h.size k.size, fun b hb hg hA => ?_, ?_⟩
  · refine (k.block b (Nat.lt_of_lt_of_le hb h.size) hg ?_).trans (h.block b hb hg hA)
    rcases h.lies with e | ⟨m, e, hm⟩
    · rw [e]; exact hA
    · rw [e]; intro e'; injection e' with e'; omega
  · rcases k.lies with e | ⟨m, e, hm⟩
    · rcases h.lies with e' | ⟨m, e', hm⟩
      · exact .inl (e.trans e')
      · exact .inr ⟨m, e.trans e', hm⟩
    · exact .inr ⟨m, e, Nat.le_trans h.size hm⟩
theorem WEff.below {g : Nat} {A A' : Option Addr} {w w' : World} (h : WEff g A A' w w') (hg : g ≤ w.heap.size) (hA : ∀ k, blk A = some k → g ≤ k) : Below g w w' :=
  ⟨h.os, h.tape, h.output, h.size, fun b hb => h.block b (Nat.lt_of_lt_of_le hb hg) (by omega) (fun e => by have := hA b e.symm; omega)⟩
theorem WEff.pre {g : Nat} {A A' : Option Addr} {w w1 w2 : World} (h : Below w.heap.size w w1) (k : WEff g A A' w1 w2) : WEff g A A' w w2 :=
  WEff.trans ⟨h.os, h.tape, h.output, h.size, fun b hb _ _ => h.block b hb, .inl rfl⟩ k

section
variable {w w' : World} {g : Nat} {A A' : Option Addr} {n c : Nat} {xs : List Int} {t : TypeId} {v x : Value}
theorem one_cell0 (h : w.heap[g]? = some (.cells #[v] t (0, 0))) : w.cell? ⟨g, 0, none⟩ = some v := by rw [cell_of_row w g 0 _ t (0, 0) h]; rfl
theorem one_set0 (h : w.heap[g]? = some (.cells #[v] t (0, 0))) : (w.setCell ⟨g, 0, none⟩ x).heap[g]? = some (.cells #[x] t (0, 0)) := by
  simp [World.setCell, Array.getElem?_modify, h]
theorem Wtr.lt (h : Wtr w g A n c xs) : g < w.heap.size := lt_of_heap h.1
theorem Wtr.behind (h : Wtr w g A n c xs) : ∀ k, blk A = some k → g + 1 ≤ k ∧ k < w.heap.size := h.2.lies
theorem Wtr.keep {B : Nat} (h : Wtr w g A n c xs) (hb : Below w.heap.size w w') : Wtr w' g A n c xs :=
  ⟨(hb.block g h.lt).trans h.1, h.2.below hb (fun k hk => (h.behind k hk).2)⟩
/-- A row grew: the writer's cell is as it was. -/
theorem Wtr.cellKept (h : Wtr w g A n c xs) (hg : Grows w w' A A') : w'.heap[g]? = some (.cells #[.slice A n c] 147 (0, 0)) :=
  (hg.1.block g h.lt (fun e => by have := (h.behind g e.symm).1; omega)).trans h.1
/-- The new row is laid into the writer's cell. -/
theorem Wtr.laid {n' c' : Nat} {ys : List Int} (h : Wtr w g A n c xs) (hg : Grows w w' A A') (ho : Own w' (g + 1) 5 A' n' c' (By ys)) :
    Wtr (w'.setCell ⟨g, 0, none⟩ (.slice A' n' c')) g A' n' c' ys ∧ WEff g A A' w (w'.setCell ⟨g, 0, none⟩ (.slice A' n' c')) := by
  refine ⟨⟨one_set0 (h.cellKept hg), ho.onl (onl_set _ g _ _) (fun e => by have := (ho.lies g e).1; omega)⟩, ?_⟩
  refine ⟨hg.1.os, hg.1.tape, hg.1.output, by simpa [World.setCell] using hg.1.size, fun b hb hne hA => ?_, hg.2⟩
  rw [Below.heap_setCell _ _ _ _ hne]
  exact hg.1.block b hb hA
end

theorem wbytes_any (w : World) (g : Nat) (A : Option Addr) (n c : Nat) (xs : List Int) (h : Wtr w g A n c xs) (hr : Ran xs) (hn : n ≤ 140737488355328) :
    Calls Try.prog 106 #[.pointer (some ⟨g, 0, none⟩)] w fun e w' => ∃ A' c', e = .returned (.slice A' n c') ∧ Own w' w.heap.size 5 A' n c' (By xs) ∧ Below w.heap.size w w' := by
  have hc0 := one_cell0 h.1
  have hx := h.2.bs hr
  clear h
  go_enter Try.func106, Try.ntmps106
  go_wp2_with fail
  refine (clone_any A n c xs _ hx hn).mono ?_
  rintro e w1 ⟨A1, c1, rfl, ho1, hb1⟩
  go_wp2
  go_ret
  exact ⟨A1, c1, rfl, ho1, hb1⟩

/-- What a writer's deed leaves. -/
def WPost (g : Nat) (A : Option Addr) (ys : List Int) (w : World) (e : Ending) (w' : World) : Prop :=
  ∃ A' n' c', e = .returned (.tuple #[]) ∧ n' = ys.length ∧ Wtr w' g A' n' c' ys ∧ WEff g A A' w w'

set_option maxHeartbeats 1000000 in
theorem wnum_one (w : World) (g b : Nat) (A : Option Addr) (n c : Nat) (xs : List Int) (k : Int) (h : Wtr w g A n c xs) (hb : w.heap[b]? = some (.cells #[.int .u64 k] 22 (0, 0))) (h0 : 0 ≤ k) (h1 : k ≤ 18446744073709551615) (hn : n + 9 ≤ 140737488355328) :
    Calls Try.prog 105 #[.pointer (some ⟨g, 0, none⟩), .slice (some ⟨b, 0, none⟩) 1 1] w (WPost g A (xs ++ num k) w) := by
  have hc0 := one_cell0 h.1
  have hcb := one_cell0 hb
  have hlt := h.lt
  have HL := Lib.hid (show xs.length = n by have := h.2.1; rw [By_length] at this; omega)
  clear hb
  go_enter Try.func105, Try.ntmps105
  go_wp2
  refine wp_loop_rounds 2 ?_
  rw [rounds_succ]
  go_wp2_with fail
  refine (appendNumber_any A n c xs k (g + 1) _ h.2 (by omega) h0 h1 hn).mono ?_
  rintro e w1 ⟨A1, c1, n1, rfl, hn1, ho1, hg1⟩
  have hh1 := h.cellKept hg1
  have hd0 := one_cell0 hh1
  have hf0 := two_frozen (i := 0) hh1
  have HW := Lib.hid (h.laid hg1 ho1)
  clear h hh1 ho1 hg1 hc0 hcb
  have HN := Lib.hid hn1; clear hn1
  go_wp2
  rw [rounds_succ]
  go_wp2
  go_end0
  exact ⟨A1, n1, c1, rfl, by rw [HN.out, List.length_append, HL.out], HW.out.1, HW.out.2⟩

def flagB (f : Bool) : Int := if f then 1 else 0
set_option maxHeartbeats 1000000 in
theorem wflag_one (w : World) (g b : Nat) (A : Option Addr) (n c : Nat) (xs : List Int) (f : Bool) (h : Wtr w g A n c xs) (hb : w.heap[b]? = some (.cells #[.bool f] 4 (0, 0))) (hn : n + 9 ≤ 140737488355328) :
    Calls Try.prog 135 #[.pointer (some ⟨g, 0, none⟩), .slice (some ⟨b, 0, none⟩) 1 1] w (WPost g A (xs ++ [flagB f]) w) := by
  obtain ⟨i0, hi, hz0, hz1, hz2⟩ := info_parts info5
  have hc0 := one_cell0 h.1
  have hcb := one_cell0 hb
  have hlt := h.lt
  have HL := Lib.hid (show xs.length = n by have := h.2.1; rw [By_length] at this; omega)
  clear hb
  have key : ∀ q : Int, Wtr (w.alloc (.cells #[.int .u8 q] 5)) g A n c xs := fun q => h.keep (B := 0) (below_alloc w _)
  cases f
  all_goals
    go_enter Try.func135, Try.ntmps135
    go_wp2
    refine wp_loop_rounds 2 ?_
    rw [rounds_succ]
    go_wp2_with (at_builtin; refine wpList_append_rd rfl _ _ 28 rfl i0 (.int .u8 0) 1 Try.underlying28 hi hz0 hz1 hz2 rfl rfl (key _).2 (some ⟨w.heap.size, 0, none⟩) 1 1 (By [_]) rfl (rd_one w _) (By_one _) ?c1 ?c2 ?c3 ?_)
    case c1 => unfold maxLen; omega
    case c2 => omega
    case c3 => simp; omega
    intro A1 c1 w1 ho1 hg1
    rw [← By_append] at ho1
    have hh1 := (key _).cellKept hg1
    have hd0 := one_cell0 hh1
    have hf0 := two_frozen (i := 0) hh1
    have HW := Lib.hid ((key _).laid hg1 ho1)
    clear h hh1 ho1 hg1 hc0 hcb key
    go_wp2
    rw [rounds_succ]
    go_wp2
    go_end0
    exact ⟨A1, n + 1, c1, rfl, by rw [List.length_append, HL.out]; rfl, HW.out.1, WEff.pre (below_alloc w _) HW.out.2⟩

/-- Texts, each with its length ahead. -/
def texts (xss : List (List Int)) : List Int := (xss.map fun xs => num xs.length ++ xs).flatten
theorem texts_snoc {xss : List (List Int)} {k : Nat} {xs : List Int} (h : xss[k]? = some xs) : texts (xss.take (k + 1)) = texts (xss.take k) ++ (num xs.length ++ xs) := by
  obtain ⟨hk, rfl⟩ := List.getElem?_eq_some_iff.1 h
  rw [List.take_succ_eq_append_getElem hk]
  simp only [texts, List.map_append, List.flatten_append, List.map_cons, List.map_nil, List.flatten_cons, List.flatten_nil, List.append_nil]
theorem texts_parts {xss : List (List Int)} {k : Nat} {xs : List Int} (h : xss[k]? = some xs) : texts xss = texts (xss.take k) ++ (num xs.length ++ (xs ++ texts (xss.drop (k + 1)))) := by
  obtain ⟨hk, rfl⟩ := List.getElem?_eq_some_iff.1 h
  conv => lhs; rw [← List.take_append_drop k xss, List.drop_eq_getElem_cons hk]
  simp only [texts, List.map_append, List.flatten_append, List.map_cons, List.flatten_cons, List.append_assoc]

set_option maxHeartbeats 1000000 in
theorem wtext_any (w : World) (g : Nat) (A L : Option Addr) (n c m d : Nat) (xs : List Int) (xss : List (List Int)) (Pd : Nat → Prop) (h : Wtr w g A n c xs) (hl : BssP w Pd L m xss)
    (hPs : ∀ b, Pd b → b < w.heap.size) (hPg : ¬ Pd g) (hPA : ∀ k, blk A = some k → ¬ Pd k) (hm : m ≤ maxLen) (hn : n + (texts xss).length + 9 ≤ 140737488355328) :
    Calls Try.prog 107 #[.pointer (some ⟨g, 0, none⟩), .slice L m d] w (WPost g A (xs ++ texts xss) w) := by
  obtain ⟨i0, hi, hz0, hz1, hz2⟩ := info_parts info5
  unfold maxLen at hm
  have HM := Lib.hid hl.len
  have HXL := Lib.hid (show xs.length = n by have := h.2.1; rw [By_length] at this; omega)
  have hglt := h.lt
  go_enter Try.func107, Try.ntmps107
  go_wp2
  go_loopw [8] (fun i wr => ∃ (k n' c' : Nat) (A' : Option Addr), i = .int .i64 k ∧ k ≤ m ∧ Hid (n' = (xs ++ texts (xss.take k)).length) ∧ Wtr wr g A' n' c' (xs ++ texts (xss.take k)) ∧ WEff g A A' w wr) (fun i _ => m - (intOf i).toNat)
  case atStart => exact ⟨0, n, c, A, rfl, Nat.zero_le _, by show n = _; rw [List.take_zero]; simp [texts, HXL.out], by rw [List.take_zero]; simpa [texts] using h, WEff.refl _ _ _⟩
  case round =>
    obtain ⟨k, n', c', A', rfl, hk, HN, hw, hef⟩ := hrel
    have hsz := hef.size
    have hkept : ∀ b, Pd b → wr.heap[b]? = w.heap[b]? := fun b hb => hef.block b (hPs b hb) (fun e => hPg (e ▸ hb)) (fun e => hPA b e.symm hb)
    by_cases hlt : k < m
    · obtain ⟨b, off, A2, n2, c2, ts, rfl, hbP, hcell, hts, hn2, HT⟩ := (hl.keep hkept).at_ hlt
      have HTS := Lib.hid (texts_snoc HT.out)
      have hlen : n' + 9 + n2 ≤ 140737488355328 := by
        have e1 := HN.out
        have e2 := texts_parts HT.out
        have e3 := hts.bs.len
        rw [List.length_append, HXL.out] at e1
        have e4 : (texts xss).length = (texts (xss.take k)).length + ((num ts.length).length + (ts.length + (texts (xss.drop (k + 1))).length)) := by
          rw [e2]; simp only [List.length_append]
        omega
      have HL2 := Lib.hid hts.bs.len
      have hc0 := one_cell0 hw.1
      have hwlt := hw.lt
      clear hkept
      go_wp2_with fail
      refine (appendNumber_any A' n' c' _ (n2 : Int) (g + 1) _ hw.2 (by omega) (by omega) (by omega) (by omega)).mono ?_
      rintro e w1 ⟨A3, c3, n3, rfl, hn3, ho3, hg3⟩
      have hh3 := hw.cellKept hg3
      have hd0 := one_cell0 hh3
      have hf0 := two_frozen (i := 0) hh3
      obtain ⟨hw3, hef3⟩ := hw.laid hg3 ho3
      have hef3' := hef.trans hef3
      have hkept3 : ∀ b, Pd b → (w1.setCell ⟨g, 0, none⟩ (.slice A3 n3 c3)).heap[b]? = w.heap[b]? := fun b hb => hef3'.block b (hPs b hb) (fun e => hPg (e ▸ hb)) (fun e => hPA b e.symm hb)
      obtain ⟨b', off', A2', n2', c2', ts', hA', _, hcell', hts', _, HT'⟩ := (hl.keep hkept3).at_ hlt
      have ets : ts' = ts := by have := HT'.out.symm.trans HT.out; injection this
      subst ets
      have hr3 : Rd (w1.setCell ⟨g, 0, none⟩ (.slice A3 n3 c3)) A2 n2 (By ts') := (hts.keep (fun b hb => (hkept3 b hb).trans (hef.block b (hPs b hb) (fun e => hPg (e ▸ hb)) (fun e => hPA b e.symm hb)).symm)).bs.1
      have hs3 := hef3'.size
      have hsz3 : g + 1 ≤ (w1.setCell ⟨g, 0, none⟩ (.slice A3 n3 c3)).heap.size := by omega
      have hnl := num_le (n2 : Int)
      have HN3 := Lib.hid hn3
      have hb3 : n3 ≤ n' + 9 := by omega
      clear hn3 hA' hcell' hts' HT' ho3 hg3 hef3 hh3 hw hef
      have hown3 := hw3.2
      go_wp2_with (at_builtin; refine wpList_append_rd rfl _ _ 28 rfl i0 (.int .u8 0) 1 Try.underlying28 hi hz0 hz1 hz2 rfl rfl hown3 A2 n2 c2 (By ts') rfl hr3 (By_one _) ?c1 ?c2 ?c3 ?_)
      case c1 => unfold maxLen; omega
      case c2 => omega
      case c3 => exact hsz3
      intro A4 c4 w4 ho4 hg4
      rw [← By_append] at ho4
      have hh4 := hw3.cellKept hg4
      have he0 := one_cell0 hh4
      have hj0 := two_frozen (i := 0) hh4
      obtain ⟨hw5, hef5⟩ := hw3.laid hg4 ho4
      have HW := Lib.hid hw5
      have HE := Lib.hid (hef3'.trans hef5)
      clear hw5 hef5 hw3 hef3' ho4 hg4 hh4 hown3 hr3 hkept3 hd0 hf0
      go_wp2
      go_roundw
      case rel =>
        refine ⟨k + 1, n3 + n2, c4, A4, by go_num, by omega, ?_, ?_, HE.out⟩
        · show n3 + n2 = _
          rw [HTS.out, HN3.out, HL2.out, HN.out]; simp only [List.length_append]; rw [HL2.out]; omega
        · have := HW.out
          rw [HTS.out, HL2.out]; simpa [List.append_assoc] using this
      case measure => simp [intOf]; omega
    · have hke : xss.take k = xss := List.take_of_length_le (by rw [HM.out]; omega)
      rw [hke] at HN hw
      clear hke
      have HW := Lib.hid hw; clear hw
      go_wp2
      go_end0
      exact ⟨A', n', c', rfl, HN.out, HW.out, hef⟩
end Go.Proofs.Ytmjjbfcblmmipaa
namespace Go.Proofs.Ytmjjbfcblmmipaa
set_option linter.unusedVariables false
set_option linter.unusedSimpArgs false
open Go.RowKit

def joinL (xss : List (List Int)) : List Int := num xss.length ++ texts xss
abbrev Bss (w : World) (A : Option Addr) (n : Nat) (xss : List (List Int)) : Prop := BssP w (· < w.heap.size) A n xss
theorem Bss.keep {w w' : World} {A : Option Addr} {n : Nat} {xss : List (List Int)} (h : Bss w A n xss) (hb : Below w.heap.size w w') : Bss w' A n xss :=
  (BssP.keep h (fun b hb' => hb.block b hb')).imp (fun b hb' => Nat.lt_of_lt_of_le hb' hb.size)
theorem Bss.at_ {w : World} {A : Option Addr} {n k : Nat} {xss : List (List Int)} (h : Bss w A n xss) (hk : k < n) : ∃ b off A' n' c' xs, A = some ⟨b, off, none⟩ ∧ b < w.heap.size ∧ w.cell? ⟨b, off + k, none⟩ = some (.slice A' n' c') ∧ Bs w A' n' xs ∧ n' ≤ c' ∧ Hid (xss[k]? = some xs) := by
  obtain ⟨b, off, A', n', c', xs, hA, hb, hc, hx, hn, HX⟩ := BssP.at_ h hk
  exact ⟨b, off, A', n', c', xs, hA, hb, hc, hx.bs, hn, HX⟩
theorem texts_ran : ∀ xss : List (List Int), (∀ xs ∈ xss, Ran xs) → Ran (texts xss)
  | [], _ => by simp only [texts, List.map_nil, List.flatten_nil]; exact Ran.nil
  | a :: r, h => by
    have ih := texts_ran r (fun xs hx => h xs (by simp [hx]))
    simp only [texts, List.map_cons, List.flatten_cons] at ih ⊢
    exact ((num_ran _ (by omega)).append (h a (by simp))).append ih
theorem BssP.ran {w : World} {Pd : Nat → Prop} {A : Option Addr} {n : Nat} {xss : List (List Int)} (h : BssP w Pd A n xss) : ∀ xs ∈ xss, Ran xs := by
  intro xs hx
  obtain ⟨i, hi, rfl⟩ := List.getElem_of_mem hx
  obtain ⟨_, _, _, _, _, ys, _, _, _, hb, _, HY⟩ := h.at_ (k := i) (by have := h.len; omega)
  have := HY.out
  rw [List.getElem?_eq_getElem hi] at this
  injection this with this
  rw [this]; exact hb.2
theorem joinL_ran {w : World} {Pd : Nat → Prop} {A : Option Addr} {n : Nat} {xss : List (List Int)} (h : BssP w Pd A n xss) : Ran (joinL xss) := (num_ran _ (by omega)).append (texts_ran _ h.ran)

set_option maxHeartbeats 1000000 in
theorem join_any (L : Option Addr) (m d : Nat) (xss : List (List Int)) (w : World) (hl : Bss w L m xss) (hm : m ≤ maxLen) (hn : (joinL xss).length + 20 ≤ 140737488355328) :
    Calls Try.prog 55 #[.slice L m d] w fun e w' => ∃ A' n' c', e = .returned (.slice A' n' c') ∧ n' = (joinL xss).length ∧ Own w' w.heap.size 5 A' n' c' (By (joinL xss)) ∧ Below w.heap.size w w' := by
  have hm' := hm
  unfold maxLen at hm'
  have HM := Lib.hid hl.len
  have hjl : (joinL xss).length = (num xss.length).length + (texts xss).length := by simp [joinL]
  have hw0 : Wtr ((w.alloc (.cells #[.slice none 0 0] 147)).alloc (.cells #[.int .u64 (m : Int)] 22)) w.heap.size none 0 0 [] := by
    refine ⟨?_, Own.nil_⟩
    rw [Below.heap_alloc _ _ _ (by simp)]; exact heap_alloc_new w _
  have hb0 : ((w.alloc (.cells #[.slice none 0 0] 147)).alloc (.cells #[.int .u64 (m : Int)] 22)).heap[w.heap.size + 1]? = some (.cells #[.int .u64 (m : Int)] 22 (0, 0)) := by
    have := heap_alloc_new (w.alloc (.cells #[.slice none 0 0] 147)) (.cells #[.int .u64 (m : Int)] 22)
    simpa using this
  have hbel : Below w.heap.size w ((w.alloc (.cells #[.slice none 0 0] 147)).alloc (.cells #[.int .u64 (m : Int)] 22)) := (below_alloc w _).alloc (by simp) _
  have HB0 := Lib.hid hb0; clear hb0
  have HJ := Lib.hid hjl; clear hjl
  go_enter Try.func55, Try.ntmps55
  go_wp2_with fail
  refine (wnum_one _ w.heap.size (w.heap.size + 1) none 0 0 [] (m : Int) hw0 HB0.out (by omega) (by omega) (by omega)).mono ?_
  rintro e w2 ⟨A2, n2, c2, rfl, hn2, hw2, hef2⟩
  have hb2 : Below w.heap.size w w2 := hbel.trans (hef2.below (by simp; omega) (fun k hk => by cases hk))
  have hl2 : BssP w2 (· < w.heap.size) L m xss := BssP.keep hl (fun b hb' => hb2.block b hb')
  have hsz := hb2.size
  have hbh := hw2.behind
  clear hw0 hbel hef2
  have hn2' : n2 ≤ 9 := by rw [hn2]; simp only [List.nil_append]; exact num_le _
  have HN2 := Lib.hid hn2; clear hn2
  go_wp2_with fail
  refine (wtext_any _ w.heap.size A2 L n2 c2 m d _ xss (· < w.heap.size) hw2 hl2 (fun b hb' => by omega) (by omega) (fun k hk => by have := (hbh k hk).1; omega) hm (by have := HJ.out; omega)).mono ?_
  rintro e w3 ⟨A3, n3, c3, rfl, hn3, hw3, hef3⟩
  have hb3 : Below w.heap.size w w3 := hb2.trans (hef3.below (by omega) (fun k hk => by have := (hbh k hk).1; omega))
  have hc0 := one_cell0 hw3.1
  have HW := Lib.hid hw3
  clear hw3 hef3 hw2 hl2 hbh hl
  have HN3 := Lib.hid hn3; clear hn3
  go_wp2
  go_ret
  have e : [] ++ num (m : Int) ++ texts xss = joinL xss := by rw [List.nil_append]; unfold joinL; rw [HM.out]
  refine ⟨A3, n3, c3, rfl, by rw [HN3.out, e], ?_, hb3⟩
  have := HW.out.2
  rw [e] at this
  exact this.mono (by omega)

set_option maxHeartbeats 1000000 in
theorem rjoin_any (L : Option Addr) (m d : Nat) (xss : List (List Int)) (w : World) (hl : Bss w L m xss) (hm : m ≤ maxLen) (hn : (joinL xss).length + 20 ≤ 140737488355328) :
    Calls Try.prog 61 #[.slice L m d] w fun e w' => ∃ A' n' c', e = .returned (.slice A' n' c') ∧ n' = (joinL xss).length ∧ Own w' w.heap.size 5 A' n' c' (By (joinL xss)) ∧ Below w.heap.size w w' := by
  obtain ⟨i0, hi, hz0, hz1, hz2⟩ := info_parts info5
  unfold maxLen at hm
  have HM := Lib.hid hl.len
  have HJ := Lib.hid (show (joinL xss).length = (num (m : Int)).length + (texts xss).length by rw [← HM.out]; simp [joinL])
  go_enter Try.func61, Try.ntmps61
  go_wp2_with fail
  refine (rnumber_any (m : Int) _ (by omega) (by omega)).mono ?_
  rintro e w1 ⟨A1, c1, n1, rfl, hn1, ho1, hb1⟩
  have HN1 := Lib.hid hn1; clear hn1
  have hsz1 := hb1.size
  go_wp2
  go_loopw [3, 4] (fun v i wr => ∃ (k n' c' : Nat) (A' : Option Addr), v = .slice A' n' c' ∧ i = .int .i64 k ∧ k ≤ m ∧ Hid (n' = (num (m : Int) ++ texts (xss.take k)).length) ∧ Own wr w.heap.size 5 A' n' c' (By (num (m : Int) ++ texts (xss.take k))) ∧ Below w.heap.size w wr) (fun _ i _ => m - (intOf i).toNat)
  case atStart => exact ⟨0, n1, c1, A1, rfl, rfl, Nat.zero_le _, by show n1 = _; rw [HN1.out]; simp [texts], by simpa [texts] using ho1, hb1⟩
  case round =>
    obtain ⟨k, n', c', A', rfl, rfl, hk, HN, ho, hb⟩ := hrel
    have hsz := hb.size
    by_cases hlt : k < m
    · obtain ⟨b, off, A2, n2, c2, ts, rfl, hbk, hcell, hts, hn2, HT⟩ := (hl.keep hb).at_ hlt
      have HTS := Lib.hid (texts_snoc HT.out)
      have HL2 := Lib.hid hts.len
      have hlen : n' + 9 + n2 ≤ 140737488355328 := by
        have e1 := HN.out
        have e2 := texts_parts HT.out
        have e3 := HJ.out
        have e4 : (texts xss).length = (texts (xss.take k)).length + ((num ts.length).length + (ts.length + (texts (xss.drop (k + 1))).length)) := by
          rw [e2]; simp only [List.length_append]
        rw [List.length_append] at e1
        have e5 := HL2.out
        omega
      obtain ⟨q, hq⟩ : ∃ q, (num (n2 : Int)).length = q := ⟨_, rfl⟩
      have hq9 : q ≤ 9 := by rw [← hq]; exact num_le _
      have HQ := Lib.hid hq; clear hq
      go_wp2_with fail
      refine (rnumber_len (n2 : Int) q HQ.out _ (by omega) (by omega)).mono ?_
      rintro e w2 ⟨A3, c3, rfl, ho3, hb3⟩
      have hsz3 := hb3.size
      have ho' := ho.below hb3 (fun k hk => (ho.lies k hk).2)
      have hb4 := hb.trans (hb3.mono hsz)
      clear hcell hts
      go_wp2_with (at_builtin; refine wpList_append_rd rfl _ _ 28 rfl i0 (.int .u8 0) 1 Try.underlying28 hi hz0 hz1 hz2 rfl rfl ho' A3 q c3 (By (num (n2 : Int))) rfl ho3.rd (By_one _) ?c1 ?c2 ?c3 ?_)
      case c1 => unfold maxLen; omega
      case c2 => omega
      case c3 => omega
      intro A4 c4 w4 ho4 hg4
      rw [← By_append] at ho4
      have hb5 : Below w.heap.size w w4 := hb4.trans (hg4.below (by omega) (fun k hk => (ho.lies k hk).1))
      have hs4 := hg4.size
      obtain ⟨b', off', A2', n2', c2', ts', hA', _, hcell', hts', _, HT'⟩ := (hl.keep hb5).at_ hlt
      obtain ⟨b0, off0, A0, n0, c0, ts0, hA0, _, hcell0, hts0, _, HT0⟩ := hl.at_ hlt
      have e1 : ts' = ts := by have := HT'.out.symm.trans HT.out; injection this
      subst e1
      injection hA' with hA'; injection hA' with hb' ho''; subst hb'; subst ho''
      have HL2' := Lib.hid hts'.len
      have en : n2' = n2 := by rw [← HL2'.out]; exact HL2.out
      subst en
      clear hA0 hcell0 hts0 HT0 ho ho' hb ho3 hb3 hb4
      go_wp2_with (at_builtin; refine wpList_append_rd rfl _ _ 28 rfl i0 (.int .u8 0) 1 Try.underlying28 hi hz0 hz1 hz2 rfl rfl ho4 A2' n2' c2' (By ts') rfl hts'.1 (By_one _) ?c1 ?c2 ?c3 ?_)
      case c1 => unfold maxLen; omega
      case c2 => omega
      case c3 => omega
      intro A5 c5 w5 ho5 hg5
      rw [← By_append] at ho5
      have hb6 : Below w.heap.size w w5 := hb5.trans (hg5.below (by omega) (fun k hk => (ho4.lies k hk).1))
      have HO5 := Lib.hid ho5
      clear ho4 hb5 hcell' hts' ho5 hg5 hg4
      go_wp2
      go_roundw
      case rel =>
        refine ⟨k + 1, n' + q + n2', c5, A5, rfl, by go_num, by omega, ?_, ?_, hb6⟩
        · show n' + q + n2' = _
          rw [HTS.out, HL2.out, HN.out]; simp only [List.length_append]; rw [HL2.out, HQ.out]; omega
        · have := HO5.out
          rw [HTS.out, HL2.out]; simpa [List.append_assoc] using this
      case measure => simp [intOf]; omega
    · have hke : xss.take k = xss := List.take_of_length_le (by rw [HM.out]; omega)
      rw [hke] at HN ho
      clear hke
      have HO := Lib.hid ho; clear ho
      go_wp2
      go_ret
      have e : num (m : Int) ++ texts xss = joinL xss := by unfold joinL; rw [HM.out]
      exact ⟨A', n', c', rfl, by rw [HN.out, e], by rw [← e]; exact HO.out, hb⟩
end Go.Proofs.Ytmjjbfcblmmipaa
