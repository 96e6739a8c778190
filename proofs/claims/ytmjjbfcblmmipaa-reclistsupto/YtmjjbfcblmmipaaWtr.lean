/- pack.Writer: Len, Num, Text, Flag, Bytes. -/
import Derived.Test.YtmjjbfcblmmipaaRdr
namespace Go.Proofs.Ytmjjbfcblmmipaa
set_option linter.unusedVariables false
set_option linter.unusedSimpArgs false
open Go.RowKit

/-! Readings whose blocks are of a kind. -/
def RdP (w : World) (Pd : Nat → Prop) (A : Option Addr) (n : Nat) (vs : List Value) : Prop :=
  vs.length = n ∧ (0 < n → ∃ b off, A = some ⟨b, off, none⟩ ∧ Pd b ∧ ∀ j u, vs[j]? = some u → w.cell? ⟨b, off + j, none⟩ = some u)
def BsP (w : World) (Pd : Nat → Prop) (A : Option Addr) (n : Nat) (xs : List Int) : Prop := RdP w Pd A n (By xs) ∧ Ran xs
section
variable {w w' : World} {Pd Pd' : Nat → Prop} {A : Option Addr} {n : Nat} {xs : List Int} {vs : List Value}
theorem RdP.keep (h : RdP w Pd A n vs) (hk : ∀ b, Pd b → w'.heap[b]? = w.heap[b]?) : RdP w' Pd A n vs := by
  refine ⟨h.1, fun hn => ?_⟩
  obtain ⟨b, off, rfl, hb, hc⟩ := h.2 hn
  refine ⟨b, off, rfl, hb, fun j u hu => ?_⟩
  rw [World.cell?_of_block (a := ⟨b, off + j, none⟩) (hk b hb)]
  exact hc j u hu
theorem RdP.imp (h : RdP w Pd A n vs) (hi : ∀ b, Pd b → Pd' b) : RdP w Pd' A n vs :=
  ⟨h.1, fun hn => by obtain ⟨b, off, hA, hb, hc⟩ := h.2 hn; exact ⟨b, off, hA, hi b hb, hc⟩⟩
theorem RdP.rd (h : RdP w Pd A n vs) : Rd w A n vs := by
  refine ⟨h.1, fun hn => ?_⟩
  obtain ⟨b, off, rfl, hb, hc⟩ := h.2 hn
  have h0 : vs[0]? = some (vs[0]'(by have := h.1; omega)) := List.getElem?_eq_getElem (by have := h.1; omega)
  exact ⟨b, off, rfl, World.block_lt_of_cell? w ⟨b, off + 0, none⟩ (hc 0 _ h0), hc⟩
theorem Rd.rdP (h : Rd w A n vs) : RdP w (· < w.heap.size) A n vs := h
theorem BsP.keep (h : BsP w Pd A n xs) (hk : ∀ b, Pd b → w'.heap[b]? = w.heap[b]?) : BsP w' Pd A n xs := ⟨h.1.keep hk, h.2⟩
theorem BsP.imp (h : BsP w Pd A n xs) (hi : ∀ b, Pd b → Pd' b) : BsP w Pd' A n xs := ⟨h.1.imp hi, h.2⟩
theorem BsP.bs (h : BsP w Pd A n xs) : Bs w A n xs := ⟨h.1.rd, h.2⟩
theorem Bs.bsP (h : Bs w A n xs) : BsP w (· < w.heap.size) A n xs := h
end

/-- A slice of slices of bytes. -/
def BssP (w : World) (Pd : Nat → Prop) (A : Option Addr) (n : Nat) (xss : List (List Int)) : Prop :=
  xss.length = n ∧ ∃ vs, RdP w Pd A n vs ∧ ∀ (i : Nat) (v : Value) (xs : List Int), vs[i]? = some v → xss[i]? = some xs → ∃ A' c', v = .slice A' xs.length c' ∧ BsP w Pd A' xs.length xs ∧ xs.length ≤ c'
section
variable {w w' : World} {Pd Pd' : Nat → Prop} {A : Option Addr} {n : Nat} {xss : List (List Int)}
theorem BssP.len (h : BssP w Pd A n xss) : xss.length = n := h.1
theorem BssP.keep (h : BssP w Pd A n xss) (hk : ∀ b, Pd b → w'.heap[b]? = w.heap[b]?) : BssP w' Pd A n xss := by
  obtain ⟨hl, vs, hr, he⟩ := h
  refine ⟨hl, vs, hr.keep hk, fun i v xs hv hx => ?_⟩
  obtain ⟨A', c', e, hb, hc⟩ := he i v xs hv hx
  exact ⟨A', c', e, hb.keep hk, hc⟩
theorem BssP.imp (h : BssP w Pd A n xss) (hi : ∀ b, Pd b → Pd' b) : BssP w Pd' A n xss := by
  obtain ⟨hl, vs, hr, he⟩ := h
  refine ⟨hl, vs, hr.imp hi, fun i v xs hv hx => ?_⟩
  obtain ⟨A', c', e, hb, hc⟩ := he i v xs hv hx
  exact ⟨A', c', e, hb.imp hi, hc⟩
theorem BssP.at_ {k : Nat} (h : BssP w Pd A n xss) (hk : k < n) : ∃ b off A' n' c' xs, A = some ⟨b, off, none⟩ ∧ Pd b ∧ w.cell? ⟨b, off + k, none⟩ = some (.slice A' n' c') ∧ BsP w Pd A' n' xs ∧ n' ≤ c' ∧ Hid (xss[k]? = some xs) := by
  obtain ⟨hl, vs, hr, he⟩ := h
  obtain ⟨b, off, rfl, hb, hc⟩ := hr.2 (by omega)
  have hv : vs[k]? = some (vs[k]'(by have := hr.1; omega)) := List.getElem?_eq_getElem (by have := hr.1; omega)
  have hx : xss[k]? = some (xss[k]'(by omega)) := List.getElem?_eq_getElem (by omega)
  obtain ⟨A', c', e, hbs, hcc⟩ := he k _ _ hv hx
  have := hc k _ hv
  rw [e] at this
  exact ⟨b, off, A', _, c', _, rfl, hb, this, hbs, hcc, hx⟩
end

/-- A writer: its block, and what it has written, in a row behind that block. -/
def Wtr (w : World) (g : Nat) (A : Option Addr) (n c : Nat) (xs : List Int) : Prop :=
  w.heap[g]? = some (.cells #[.slice A n c] 147 (0, 0)) ∧ Own w (g + 1) 5 A n c (By xs)
/-- What a writer's deed leaves alone. -/
structure WEff (g : Nat) (A A' : Option Addr) (w w' : World) : Prop where
  os : w'.os = w.os
  tape : w'.tape = w.tape
  output : w'.output = w.output
  size : w.heap.size ≤ w'.heap.size
  block : ∀ b, b < w.heap.size → b ≠ g → some b ≠ blk A → w'.heap[b]? = w.heap[b]?
  lies : blk A' = blk A ∨ ∃ k, blk A' = some k ∧ w.heap.size ≤ k
theorem WEff.refl (g : Nat) (A : Option Addr) (w : World) : WEff g A A w w := ⟨rfl, rfl, rfl, Nat.le_refl _, fun _ _ _ _ => rfl, .inl rfl⟩
theorem WEff.trans {g : Nat} {A A1 A2 : Option Addr} {w w1 w2 : World} (h : WEff g A A1 w w1) (k : WEff g A1 A2 w1 w2) : WEff g A A2 w w2 := by
  refine ⟨k.os.trans h.os, k.tape.trans h.tape, k.output.trans h.output, Nat.le_trans h.size k.size, fun b hb hg hA => ?_, ?_⟩
  · refine (k.block b (Nat.lt_of_lt_of_le hb h.size) hg ?_).trans (h.block b hb hg hA)
    rcases h.lies with e | ⟨m, e, hm⟩
    · rw [e]; exact hA
    · rw [e]; intro e'; injection e' with e'; omega
  · rcases k.lies with e | ⟨m, e, hm⟩
    · rcases h.lies with e' | ⟨m, e', hm⟩
      · exact .inl (e.trans e')
      · exact .inr ⟨m, e.trans e', hm⟩
    · exact .inr ⟨m, e, Nat.le_trans h.size hm⟩
theorem WEff.below {g : Nat} {A A' : Option Addr} {w w' : World} (h : WEff g A A' w w') (hg : g ≤ w.heap.size) (hA : ∀ k, blk A = some k → g ≤ k) : Below g w w' :=
  ⟨h.os, h.tape, h.output, h.size, fun b hb => h.block b (Nat.lt_of_lt_of_le hb hg) (by omega) (fun e => by have := hA b e.symm; omega)⟩
theorem WEff.pre {g : Nat} {A A' : Option Addr} {w w1 w2 : World} (h : Below w.heap.size w w1) (k : WEff g A A' w1 w2) : WEff g A A' w w2 :=
  WEff.trans ⟨h.os, h.tape, h.output, h.size, fun b hb _ _ => h.block b hb, .inl rfl⟩ k

section
variable {w w' : World} {g : Nat} {A A' : Option Addr} {n c : Nat} {xs : List Int} {t : TypeId} {v x : Value}
theorem one_cell0 (h : w.heap[g]? = some (.cells #[v] t (0, 0))) : w.cell? ⟨g, 0, none⟩ = some v := by rw [cell_of_row w g 0 _ t (0, 0) h]; rfl
theorem one_set0 (h : w.heap[g]? = some (.cells #[v] t (0, 0))) : (w.setCell ⟨g, 0, none⟩ x).heap[g]? = some (.cells #[x] t (0, 0)) := by
  simp [World.setCell, Array.getElem?_modify, h]
theorem Wtr.lt (h : Wtr w g A n c xs) : g < w.heap.size := lt_of_heap h.1
theorem Wtr.behind (h : Wtr w g A n c xs) : ∀ k, blk A = some k → g + 1 ≤ k ∧ k < w.heap.size := h.2.lies
theorem Wtr.keep {B : Nat} (h : Wtr w g A n c xs) (hb : Below w.heap.size w w') : Wtr w' g A n c xs :=
  ⟨(hb.block g h.lt).trans h.1, h.2.below hb (fun k hk => (h.behind k hk).2)⟩
/-- A row grew: the writer's cell is as it was. -/
theorem Wtr.cellKept (h : Wtr w g A n c xs) (hg : Grows w w' A A') : w'.heap[g]? = some (.cells #[.slice A n c] 147 (0, 0)) :=
  (hg.1.block g h.lt (fun e => by have := (h.behind g e.symm).1; omega)).trans h.1
/-- The new row is laid into the writer's cell. -/
theorem Wtr.laid {n' c' : Nat} {ys : List Int} (h : Wtr w g A n c xs) (hg : Grows w w' A A') (ho : Own w' (g + 1) 5 A' n' c' (By ys)) :
    Wtr (w'.setCell ⟨g, 0, none⟩ (.slice A' n' c')) g A' n' c' ys ∧ WEff g A A' w (w'.setCell ⟨g, 0, none⟩ (.slice A' n' c')) := by
  refine ⟨⟨one_set0 (h.cellKept hg), ho.onl (onl_set _ g _ _) (fun e => by have := (ho.lies g e).1; omega)⟩, ?_⟩
  refine ⟨hg.1.os, hg.1.tape, hg.1.output, by simpa [World.setCell] using hg.1.size, fun b hb hne hA => ?_, hg.2⟩
  rw [Below.heap_setCell _ _ _ _ hne]
  exact hg.1.block b hb hA
end

theorem wbytes_any (w : World) (g : Nat) (A : Option Addr) (n c : Nat) (xs : List Int) (h : Wtr w g A n c xs) (hr : Ran xs) (hn : n ≤ 140737488355328) :
    Calls Try.prog 106 #[.pointer (some ⟨g, 0, none⟩)] w fun e w' => ∃ A' c', e = .returned (.slice A' n c') ∧ Own w' w.heap.size 5 A' n c' (By xs) ∧ Below w.heap.size w w' := by
  have hc0 := one_cell0 h.1
  have hx := h.2.bs hr
  clear h
  go_enter Try.func106, Try.ntmps106
  go_wp2_with fail
  refine (clone_any A n c xs _ hx hn).mono ?_
  rintro e w1 ⟨A1, c1, rfl, ho1, hb1⟩
  go_wp2
  go_ret
  exact ⟨A1, c1, rfl, ho1, hb1⟩

/-- What a writer's deed leaves. -/
def WPost (g : Nat) (A : Option Addr) (ys : List Int) (w : World) (e : Ending) (w' : World) : Prop :=
  ∃ A' n' c', e = .returned (.tuple #[]) ∧ n' = ys.length ∧ Wtr w' g A' n' c' ys ∧ WEff g A A' w w'

set_option maxHeartbeats 1000000 in
theorem wnum_one (w : World) (g b : Nat) (A : Option Addr) (n c : Nat) (xs : List Int) (k : Int) (h : Wtr w g A n c xs) (hb : w.heap[b]? = some (.cells #[.int .u64 k] 22 (0, 0))) (h0 : 0 ≤ k) (h1 : k ≤ 18446744073709551615) (hn : n + 9 ≤ 140737488355328) :
    Calls Try.prog 105 #[.pointer (some ⟨g, 0, none⟩), .slice (some ⟨b, 0, none⟩) 1 1] w (WPost g A (xs ++ num k) w) := by
  have hc0 := one_cell0 h.1
  have hcb := one_cell0 hb
  have hlt := h.lt
  have HL := Lib.hid (show xs.length = n by have := h.2.1; rw [By_length] at this; omega)
  clear hb
  go_enter Try.func105, Try.ntmps105
  go_wp2
  refine wp_loop_rounds 2 ?_
  rw [rounds_succ]
  go_wp2_with fail
  refine (appendNumber_any A n c xs k (g + 1) _ h.2 (by omega) h0 h1 hn).mono ?_
  rintro e w1 ⟨A1, c1, n1, rfl, hn1, ho1, hg1⟩
  have hh1 := h.cellKept hg1
  have hd0 := one_cell0 hh1
  have hf0 := two_frozen (i := 0) hh1
  have HW := Lib.hid (h.laid hg1 ho1)
  clear h hh1 ho1 hg1 hc0 hcb
  have HN := Lib.hid hn1; clear hn1
  go_wp2
  rw [rounds_succ]
  go_wp2
  go_end0
  exact ⟨A1, n1, c1, rfl, by rw [HN.out, List.length_append, HL.out], HW.out.1, HW.out.2⟩

def flagB (f : Bool) : Int := if f then 1 else 0
set_option maxHeartbeats 1000000 in
theorem wflag_one (w : World) (g b : Nat) (A : Option Addr) (n c : Nat) (xs : List Int) (f : Bool) (h : Wtr w g A n c xs) (hb : w.heap[b]? = some (.cells #[.bool f] 4 (0, 0))) (hn : n + 9 ≤ 140737488355328) :
    Calls Try.prog 135 #[.pointer (some ⟨g, 0, none⟩), .slice (some ⟨b, 0, none⟩) 1 1] w (WPost g A (xs ++ [flagB f]) w) := by
  obtain ⟨i0, hi, hz0, hz1, hz2⟩ := info_parts info5
  have hc0 := one_cell0 h.1
  have hcb := one_cell0 hb
  have hlt := h.lt
  have HL := Lib.hid (show xs.length = n by have := h.2.1; rw [By_length] at this; omega)
  clear hb
  have key : ∀ q : Int, Wtr (w.alloc (.cells #[.int .u8 q] 5)) g A n c xs := fun q => h.keep (B := 0) (below_alloc w _)
  cases f
  all_goals
    go_enter Try.func135, Try.ntmps135
    go_wp2
    refine wp_loop_rounds 2 ?_
    rw [rounds_succ]
    go_wp2_with (at_builtin; refine wpList_append_rd rfl _ _ 28 rfl i0 (.int .u8 0) 1 Try.underlying28 hi hz0 hz1 hz2 rfl rfl (key _).2 (some ⟨w.heap.size, 0, none⟩) 1 1 (By [_]) rfl (rd_one w _) (By_one _) ?c1 ?c2 ?c3 ?_)
    case c1 => unfold maxLen; omega
    case c2 => omega
    case c3 => simp; omega
    intro A1 c1 w1 ho1 hg1
    rw [← By_append] at ho1
    have hh1 := (key _).cellKept hg1
    have hd0 := one_cell0 hh1
    have hf0 := two_frozen (i := 0) hh1
    have HW := Lib.hid ((key _).laid hg1 ho1)
    clear h hh1 ho1 hg1 hc0 hcb key
    go_wp2
    rw [rounds_succ]
    go_wp2
    go_end0
    exact ⟨A1, n + 1, c1, rfl, by rw [List.length_append, HL.out]; rfl, HW.out.1, WEff.pre (below_alloc w _) HW.out.2⟩

/-- Texts, each with its length ahead. -/
def texts (xss : List (List Int)) : List Int := (xss.map fun xs => num xs.length ++ xs).flatten
theorem texts_snoc {xss : List (List Int)} {k : Nat} {xs : List Int} (h : xss[k]? = some xs) : texts (xss.take (k + 1)) = texts (xss.take k) ++ (num xs.length ++ xs) := by
  obtain ⟨hk, rfl⟩ := List.getElem?_eq_some_iff.1 h
  rw [List.take_succ_eq_append_getElem hk]
  simp only [texts, List.map_append, List.flatten_append, List.map_cons, List.map_nil, List.flatten_cons, List.flatten_nil, List.append_nil]
theorem texts_parts {xss : List (List Int)} {k : Nat} {xs : List Int} (h : xss[k]? = some xs) : texts xss = texts (xss.take k) ++ (num xs.length ++ (xs ++ texts (xss.drop (k + 1)))) := by
  obtain ⟨hk, rfl⟩ := List.getElem?_eq_some_iff.1 h
  conv => lhs; rw [← List.take_append_drop k xss, List.drop_eq_getElem_cons hk]
  simp only [texts, List.map_append, List.flatten_append, List.map_cons, List.flatten_cons, List.append_assoc]

set_option maxHeartbeats 1000000 in
theorem wtext_any (w : World) (g : Nat) (A L : Option Addr) (n c m d : Nat) (xs : List Int) (xss : List (List Int)) (Pd : Nat → Prop) (h : Wtr w g A n c xs) (hl : BssP w Pd L m xss)
    (hPs : ∀ b, Pd b → b < w.heap.size) (hPg : ¬ Pd g) (hPA : ∀ k, blk A = some k → ¬ Pd k) (hm : m ≤ maxLen) (hn : n + (texts xss).length + 9 ≤ 140737488355328) :
    Calls Try.prog 107 #[.pointer (some ⟨g, 0, none⟩), .slice L m d] w (WPost g A (xs ++ texts xss) w) := by
  obtain ⟨i0, hi, hz0, hz1, hz2⟩ := info_parts info5
  unfold maxLen at hm
  have HM := Lib.hid hl.len
  have HXL := Lib.hid (show xs.length = n by have := h.2.1; rw [By_length] at this; omega)
  have hglt := h.lt
  go_enter Try.func107, Try.ntmps107
  go_wp2
  go_loopw [8] (fun i wr => ∃ (k n' c' : Nat) (A' : Option Addr), i = .int .i64 k ∧ k ≤ m ∧ Hid (n' = (xs ++ texts (xss.take k)).length) ∧ Wtr wr g A' n' c' (xs ++ texts (xss.take k)) ∧ WEff g A A' w wr) (fun i _ => m - (intOf i).toNat)
  case atStart => exact ⟨0, n, c, A, rfl, Nat.zero_le _, by show n = _; rw [List.take_zero]; simp [texts, HXL.out], by rw [List.take_zero]; simpa [texts] using h, WEff.refl _ _ _⟩
  case round =>
    obtain ⟨k, n', c', A', rfl, hk, HN, hw, hef⟩ := hrel
    have hsz := hef.size
    have hkept : ∀ b, Pd b → wr.heap[b]? = w.heap[b]? := fun b hb => hef.block b (hPs b hb) (fun e => hPg (e ▸ hb)) (fun e => hPA b e.symm hb)
    by_cases hlt : k < m
    · obtain ⟨b, off, A2, n2, c2, ts, rfl, hbP, hcell, hts, hn2, HT⟩ := (hl.keep hkept).at_ hlt
      have HTS := Lib.hid (texts_snoc HT.out)
      have hlen : n' + 9 + n2 ≤ 140737488355328 := by
        have e1 := HN.out
        have e2 := texts_parts HT.out
        have e3 := hts.bs.len
        rw [List.length_append, HXL.out] at e1
        have e4 : (texts xss).length = (texts (xss.take k)).length + ((num ts.length).length + (ts.length + (texts (xss.drop (k + 1))).length)) := by
          rw [e2]; simp only [List.length_append]
        omega
      have HL2 := Lib.hid hts.bs.len
      have hc0 := one_cell0 hw.1
      have hwlt := hw.lt
      clear hkept
      go_wp2_with fail
      refine (appendNumber_any A' n' c' _ (n2 : Int) (g + 1) _ hw.2 (by omega) (by omega) (by omega) (by omega)).mono ?_
      rintro e w1 ⟨A3, c3, n3, rfl, hn3, ho3, hg3⟩
      have hh3 := hw.cellKept hg3
      have hd0 := one_cell0 hh3
      have hf0 := two_frozen (i := 0) hh3
      obtain ⟨hw3, hef3⟩ := hw.laid hg3 ho3
      have hef3' := hef.trans hef3
      have hkept3 : ∀ b, Pd b → (w1.setCell ⟨g, 0, none⟩ (.slice A3 n3 c3)).heap[b]? = w.heap[b]? := fun b hb => hef3'.block b (hPs b hb) (fun e => hPg (e ▸ hb)) (fun e => hPA b e.symm hb)
      obtain ⟨b', off', A2', n2', c2', ts', hA', _, hcell', hts', _, HT'⟩ := (hl.keep hkept3).at_ hlt
      have ets : ts' = ts := by have := HT'.out.symm.trans HT.out; injection this
      subst ets
      have hr3 : Rd (w1.setCell ⟨g, 0, none⟩ (.slice A3 n3 c3)) A2 n2 (By ts') := (hts.keep (fun b hb => (hkept3 b hb).trans (hef.block b (hPs b hb) (fun e => hPg (e ▸ hb)) (fun e => hPA b e.symm hb)).symm)).bs.1
      have hs3 := hef3'.size
      have hsz3 : g + 1 ≤ (w1.setCell ⟨g, 0, none⟩ (.slice A3 n3 c3)).heap.size := by omega
      have hnl := num_le (n2 : Int)
      have HN3 := Lib.hid hn3
      have hb3 : n3 ≤ n' + 9 := by omega
      clear hn3 hA' hcell' hts' HT' ho3 hg3 hef3 hh3 hw hef
      have hown3 := hw3.2
      go_wp2_with (at_builtin; refine wpList_append_rd rfl _ _ 28 rfl i0 (.int .u8 0) 1 Try.underlying28 hi hz0 hz1 hz2 rfl rfl hown3 A2 n2 c2 (By ts') rfl hr3 (By_one _) ?c1 ?c2 ?c3 ?_)
      case c1 => unfold maxLen; omega
      case c2 => omega
      case c3 => exact hsz3
      intro A4 c4 w4 ho4 hg4
      rw [← By_append] at ho4
      have hh4 := hw3.cellKept hg4
      have he0 := one_cell0 hh4
      have hj0 := two_frozen (i := 0) hh4
      obtain ⟨hw5, hef5⟩ := hw3.laid hg4 ho4
      have HW := Lib.hid hw5
      have HE := Lib.hid (hef3'.trans hef5)
      clear hw5 hef5 hw3 hef3' ho4 hg4 hh4 hown3 hr3 hkept3 hd0 hf0
      go_wp2
      go_roundw
      case rel =>
        refine ⟨k + 1, n3 + n2, c4, A4, by go_num, by omega, ?_, ?_, HE.out⟩
        · show n3 + n2 = _
          rw [HTS.out, HN3.out, HL2.out, HN.out]; simp only [List.length_append]; rw [HL2.out]; omega
        · have := HW.out
          rw [HTS.out, HL2.out]; simpa [List.append_assoc] using this
      case measure => simp [intOf]; omega
    · have hke : xss.take k = xss := List.take_of_length_le (by rw [HM.out]; omega)
      rw [hke] at HN hw
      clear hke
      have HW := Lib.hid hw; clear hw
      go_wp2
      go_end0
      exact ⟨A', n', c', rfl, HN.out, HW.out, hef⟩
end Go.Proofs.Ytmjjbfcblmmipaa
