
/- pack.Join, the reference's Join and Copies. -/
import Derived.Test.YtdlbghjclcdfmabDoorWtr
namespace Go.Proofs.YtdlbghjclcdfmabDoor
set_option linter.unusedVariables false
set_option linter.unusedSimpArgs false
open Go.RowKit

def joinL (xss : List (List Int)) : List Int := num xss.length ++ texts xss
abbrev Bss (w : World) (A : Option Addr) (n : Nat) (xss : List (List Int)) : Prop := BssP w (· < w.heap.size) A n xss
theorem Bss.keep {w w' : World} {A : Option Addr} {n : Nat} {xss : List (List Int)} (h : Bss w A n xss) (hb : Below w.heap.size w w') : Bss w' A n xss :=
  (BssP.keep h (fun b hb' => hb.block b hb')).imp (fun b hb' => Nat.lt_of_lt_of_le hb' hb.size)
theorem Bss.at_ {w : World} {A : Option Addr} {n k : Nat} {xss : List (List Int)} (h : Bss w A n xss) (hk : k < n) : ∃ b off A' n' c' xs, A = some ⟨b, off, none⟩ ∧ b < w.heap.size ∧ w.cell? ⟨b, off + k, none⟩ = some (.slice A' n' c') ∧ Bs w A' n' xs ∧ n' ≤ c' ∧ Hid (xss[k]? = some xs) := by
  obtain ⟨b, off, A', n', c', xs, hA, hb, hc, hx, hn, HX⟩ := BssP.at_ h hk
  exact ⟨b, off, A', n', c', xs, hA, hb, hc, hx.bs, hn, HX⟩
theorem texts_ran : ∀ xss : List (List Int), (∀ xs ∈ xss, Ran xs) → Ran (texts xss)
  | [], _ => by simp only [texts, List.map_nil, List.flatten_nil]; exact Ran.nil
  | a :: r, h => by
    have ih := texts_ran r (fun xs hx => h xs (by simp [hx]))
    simp only [texts, List.map_cons, List.flatten_cons] at ih ⊢
    exact ((num_ran _ (by omega)).append (h a (by simp))).append ih
theorem BssP.ran {w : World} {Pd : Nat → Prop} {A : Option Addr} {n : Nat} {xss : List (List Int)} (h : BssP w Pd A n xss) : ∀ xs ∈ xss, Ran xs := by
  intro xs hx
  obtain ⟨i, hi, rfl⟩ := List.getElem_of_mem hx
  obtain ⟨_, _, _, _, _, ys, _, _, _, hb, _, HY⟩ := h.at_ (k := i) (by have := h.len; omega)
  have := HY.out
  rw [List.getElem?_eq_getElem hi] at this
  injection this with this
  rw [this]; exact hb.2
theorem joinL_ran {w : World} {Pd : Nat → Prop} {A : Option Addr} {n : Nat} {xss : List (List Int)} (h : BssP w Pd A n xss) : Ran (joinL xss) := (num_ran _ (by omega)).append (texts_ran _ h.ran)

set_option maxHeartbeats 1000000 in
theorem join_any (L : Option Addr) (m d : Nat) (xss : List (List Int)) (w : World) (hl : Bss w L m xss) (hm : m ≤ maxLen) (hn : (joinL xss).length + 20 ≤ 140737488355328) :
    Calls Tryd.prog 16 #[.slice L m d] w fun e w' => ∃ A' n' c', e = .returned (.slice A' n' c') ∧ n' = (joinL xss).length ∧ Own w' w.heap.size 5 A' n' c' (By (joinL xss)) ∧ Below w.heap.size w w' := by
  have hm' := hm
  unfold maxLen at hm'
  have HM := Lib.hid hl.len
  have hjl : (joinL xss).length = (num xss.length).length + (texts xss).length := by simp [joinL]
  have hw0 : Wtr ((w.alloc (.cells #[.slice none 0 0] 36)).alloc (.cells #[.int .u64 (m : Int)] 38)) w.heap.size none 0 0 [] := by
    refine ⟨?_, Own.nil_⟩
    rw [Below.heap_alloc _ _ _ (by simp)]; exact heap_alloc_new w _
  have hb0 : ((w.alloc (.cells #[.slice none 0 0] 36)).alloc (.cells #[.int .u64 (m : Int)] 38)).heap[w.heap.size + 1]? = some (.cells #[.int .u64 (m : Int)] 38 (0, 0)) := by
    have := heap_alloc_new (w.alloc (.cells #[.slice none 0 0] 36)) (.cells #[.int .u64 (m : Int)] 38)
    simpa using this
  have hbel : Below w.heap.size w ((w.alloc (.cells #[.slice none 0 0] 36)).alloc (.cells #[.int .u64 (m : Int)] 38)) := (below_alloc w _).alloc (by simp) _
  have HB0 := Lib.hid hb0; clear hb0
  have HJ := Lib.hid hjl; clear hjl
  go_enter Tryd.func16, Tryd.ntmps16
  go_wp2_with fail
  refine (wnum_one _ w.heap.size (w.heap.size + 1) none 0 0 [] (m : Int) hw0 HB0.out (by omega) (by omega) (by omega)).mono ?_
  rintro e w2 ⟨A2, n2, c2, rfl, hn2, hw2, hef2⟩
  have hb2 : Below w.heap.size w w2 := hbel.trans (hef2.below (by simp; omega) (fun k hk => by cases hk))
  have hl2 : BssP w2 (· < w.heap.size) L m xss := BssP.keep hl (fun b hb' => hb2.block b hb')
  have hsz := hb2.size
  have hbh := hw2.behind
  clear hw0 hbel hef2
  have hn2' : n2 ≤ 9 := by rw [hn2]; simp only [List.nil_append]; exact num_le _
  have HN2 := Lib.hid hn2; clear hn2
  go_wp2_with fail
  refine (wtext_any _ w.heap.size A2 L n2 c2 m d _ xss (· < w.heap.size) hw2 hl2 (fun b hb' => by omega) (by omega) (fun k hk => by have := (hbh k hk).1; omega) hm (by have := HJ.out; omega)).mono ?_
  rintro e w3 ⟨A3, n3, c3, rfl, hn3, hw3, hef3⟩
  have hb3 : Below w.heap.size w w3 := hb2.trans (hef3.below (by omega) (fun k hk => by have := (hbh k hk).1; omega))
  have hc0 := one_cell0 hw3.1
  have HW := Lib.hid hw3
  clear hw3 hef3 hw2 hl2 hbh hl
  have HN3 := Lib.hid hn3; clear hn3
  go_wp2
  go_ret
  have e : [] ++ num (m : Int) ++ texts xss = joinL xss := by rw [List.nil_append]; unfold joinL; rw [HM.out]
  refine ⟨A3, n3, c3, rfl, by rw [HN3.out, e], ?_, hb3⟩
  have := HW.out.2
  rw [e] at this
  exact this.mono (by omega)

end Go.Proofs.YtdlbghjclcdfmabDoor
