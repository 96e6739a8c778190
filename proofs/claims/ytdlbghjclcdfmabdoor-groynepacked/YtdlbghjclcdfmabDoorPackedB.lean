/- GroynePacked: what is cut, converted, taken. -/
import Derived.Test.YtdlbghjclcdfmabDoorPackedA
import Derived.Test.YtdlbghjclcdfmabDoorRdrQ
import Derived.Lib.ConvBytes
namespace Go.Proofs.YtdlbghjclcdfmabDoor
set_option linter.unusedVariables false
set_option linter.unusedSimpArgs false
open Go.RowKit

theorem bw_bs (w : World) (xs : List Int) (h : Ran xs) : Bs (Lib.bytesWorld w 5 (strOfNums xs)) (some ⟨w.heap.size, 0, none⟩) xs.length xs := by
  refine ⟨⟨By_length _, fun _ => ⟨w.heap.size, 0, rfl, by rw [Lib.bytesWorld_size]; omega, fun j u hu => ?_⟩⟩, h⟩
  have hj : j < xs.length := by
    have := (List.getElem?_eq_some_iff.1 hu).1
    rwa [By_length] at this
  rw [Nat.zero_add, Lib.bytesWorld_cell w 5 _ j (by rw [strOfNums_size]; exact hj)]
  have hx := h xs[j] (List.getElem_mem hj)
  simp only [By, List.getElem?_map, List.getElem?_eq_getElem hj, Option.map_some, Option.some.injEq] at hu
  subst hu
  rw [strOfNums_data]
  simp only [List.getD, List.getElem?_map, List.getElem?_eq_getElem hj, Option.map_some, Option.getD_some]
  have : ((UInt8.ofNat (xs[j]).toNat).toNat : Int) = xs[j] := by
    rw [UInt8.toNat_ofNat']
    omega
  rw [this]
theorem elem32 : Tryd.prog.underlying 32 = some (.slice (Tryd.prog.elem 32)) := by kernel_rfl
theorem elem32' : Tryd.prog.elem 32 = 22 := by kernel_rfl
theorem slice_h32 (A : Option Addr) (n c h : Nat) (i : Int) (hi : i = (h : Int)) (hh : h ≤ c) (W : World) :
    (Instr.slice 32 (.slice A n c) none (some (.int .i64 i)) none).run Tryd.prog W = .ok (.slice A h c) W := by
  subst hi
  rw [run_slice_h (P := Tryd.prog) W 32 A n c elem32 .i64 h (by omega) (by omega), elem32', Tryd.sizeOf22]
  simp only [sliced, Result.andThen, Nat.zero_mul, addz, ite_self, Int.toNat_natCast]; rfl
theorem conv_none (w : World) : (convert 34 9 (.slice none 0 0)).run Tryd.prog w = .ok (.string (strOfNums [])) w := by
  simp [convert, run_underlying Tryd.underlying34, run_underlying Tryd.underlying9, run_underlying Tryd.underlying5, strOfNums, Conv.bytesToString]
  rfl
/-- string(b), b a slice of the call's own, empty ones too. -/
theorem conv_any {w : World} {base : Nat} {A : Option Addr} {n c : Nat} {xs : List Int} (h : Own w base 5 A n c (By xs)) :
    (convert 34 9 (.slice A n c)).run Tryd.prog w = .ok (.string (strOfNums xs)) w := by
  rcases Nat.eq_zero_or_pos n with h0 | h0
  · have hl := h.rd.1
    rw [By_length, h0] at hl
    obtain rfl := List.eq_nil_of_length_eq_zero hl
    subst h0
    rcases h.2 with ⟨hv, _⟩ | ⟨g, cap, cur, hv, _⟩
    · rw [hv]
      exact conv_none w
    · have hA : A = some ⟨g, 0, none⟩ := by injection hv
      subst hA
      exact run_convert_bytes_arg w 34 5 Tryd.underlying34 Tryd.underlying5 g 0 0 c [] rfl (fun i hi => absurd hi (by omega)) 9 Tryd.underlying9
  · exact conv_own h h0
theorem bssP_oneB {w : World} {b0 n c : Nat} {xs : List Int} (hb : Bs w (some ⟨b0, 0, none⟩) n xs) (hc : n ≤ c) : BssP (w.alloc (.cells #[.slice (some ⟨b0, 0, none⟩) n c] 34)) (fun b => b = b0 ∨ b = w.heap.size) (some ⟨w.heap.size, 0, none⟩) 1 [xs] := by
  have hl := hb.len
  subst hl
  refine ⟨rfl, [.slice (some ⟨b0, 0, none⟩) xs.length c], ⟨rfl, fun _ => ⟨w.heap.size, 0, rfl, .inr rfl, fun j u hu => ?_⟩⟩, fun i v ys hv hy => ?_⟩
  · obtain ⟨b, off, hA, _, hc⟩ := (rd_oneV w (.slice (some ⟨b0, 0, none⟩) xs.length c) 34).2 (by omega)
    injection hA with hA; injection hA with h1 h2; subst h1; subst h2
    exact hc j u hu
  · have hi : i = 0 := by have := (List.getElem?_eq_some_iff.1 hv).1; simpa using this
    subst hi
    simp only [List.getElem?_cons_zero, Option.some.injEq] at hv hy
    subst hv; subst hy
    refine ⟨some ⟨b0, 0, none⟩, c, rfl, ⟨⟨by rw [By_length], fun hn => ?_⟩, hb.2⟩, hc⟩
    obtain ⟨b, off, hA, hlt', hcc⟩ := (hb.keep (below_alloc w _)).1.2 hn
    exact ⟨b, off, hA, .inl (by injection hA with hA; injection hA with h1; exact h1.symm), hcc⟩
theorem rtextQ_is {Q : Nat → Prop} (w : World) (g : Nat) (xs t r : List Int) (err : Int) (L : Nat) (ht : textS xs 0 = (t, r, err)) (hL : t.length = L) (h : RdrQ Q w g xs 0) (hn : xs.length ≤ 140737488355328) :
    Calls Tryd.prog 20 #[.pointer (some ⟨g, 0, none⟩)] w fun e w' => ∃ A' c', e = .returned (.slice A' L c') ∧ Own w' w.heap.size 5 A' L c' (By t) ∧ RdrQ Q w' g r err ∧ Onl g w w' :=
  (rtextQ w g xs 0 h hn).mono fun e w' hp => by
    rw [ht] at hp
    obtain ⟨A', c', n', he, hn', ho, hr, hrd, hol⟩ := hp
    have : n' = L := Eq.trans hn' hL
    subst this
    exact ⟨A', c', he, ho, hrd, hol⟩
theorem rnumQ_is {Q : Nat → Prop} (w : World) (g : Nat) (xs r : List Int) (v err : Int) (ht : numS xs 0 = (v, r, err)) (h : RdrQ Q w g xs 0) (hn : xs.length ≤ 140737488355328) :
    Calls Tryd.prog 18 #[.pointer (some ⟨g, 0, none⟩)] w fun e w' => e = .returned (.int .u64 v) ∧ RdrQ Q w' g r err ∧ Onl g w w' :=
  (rnumQ w g xs 0 h hn).mono fun e w' hp => by rw [ht] at hp; exact hp
theorem RdrQ.heap_ {Q : Nat → Prop} {w : World} {g : Nat} {xs : List Int} {err : Int} (h : RdrQ Q w g xs err) : ∃ cs fr, w.heap[g]? = some (.cells cs 61 fr) := by
  obtain ⟨A, n, c, hh, _⟩ := h
  exact ⟨_, _, hh⟩
/-- A row of texts that grows, and is not in the reader's range of blocks. -/
theorem RdrQ.grow9 {H : Nat} {w w' : World} {g b m d : Nat} {xs : List Int} {err : Int} {B B' : Option Addr} {us : List Value} (h : RdrQ (H ≤ ·) w g xs err) (ho : Own w b 9 B m d us) (hg : Grows w w' B B') (hB : ∀ k, blk B = some k → k < H ∨ g < k) : RdrQ (H ≤ ·) w' g xs err := by
  have hgl := h.lt
  obtain ⟨A, n, c, hh, hx, hnc, hk⟩ := h
  have hne : ∀ k, blk A = some k → blk B ≠ some k := fun k h1 h2 => by have := hk k h1; have := hB k h2; omega
  refine ⟨A, n, c, (hg.1.block g hgl (fun e => ho.ne_blk hh (by decide) e.symm)).trans hh, ⟨⟨hx.1.1, fun hn => ?_⟩, hx.2⟩, hnc, hk⟩
  obtain ⟨b', off, hA, hlt, hc⟩ := hx.1.2 hn
  refine ⟨b', off, hA, Nat.lt_of_lt_of_le hlt hg.size, fun j u hu => ?_⟩
  rw [World.cell?_of_block (a := ⟨b', off + j, none⟩) (hg.1.block b' hlt (fun e => hne b' (by rw [hA]; rfl) e.symm))]
  exact hc j u hu
theorem RdrQ.alloc_ {Q : Nat → Prop} {w : World} {g : Nat} {xs : List Int} {err : Int} (h : RdrQ Q w g xs err) (o : Obj) : RdrQ Q (w.alloc o) g xs err := h.keep (below_alloc w o) h.lt
theorem Own.onl9 {w w' : World} {base g : Nat} {A : Option Addr} {n c : Nat} {vs : List Value} {cs : Array Value} {fr : Nat × Nat} (h : Own w base 9 A n c vs) (ho : Onl g w w') (hg : w.heap[g]? = some (.cells cs 61 fr)) : Own w' base 9 A n c vs := h.onl ho (h.ne_blk hg (by decide))
end Go.Proofs.YtdlbghjclcdfmabDoor
