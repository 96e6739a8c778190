/- label.Unquote of what Quote gives. -/
import Derived.Test.YtdlbghjclcdfmaaDoorUnqW
namespace Go.Proofs.YtdlbghjclcdfmaaDoor
set_option linter.unusedVariables false
set_option linter.unusedSimpArgs false
open Go.RowKit

theorem qb_head (x : Int) : ∃ h r, qb x = h :: r ∧ h ≠ 34 ∧ (0 ≤ x → 0 ≤ h) ∧ (x ≤ 255 → h ≤ 255) := by
  unfold qb
  split
  · exact ⟨92, _, rfl, by omega, by omega, by omega⟩
  · split
    · exact ⟨92, _, rfl, by omega, by omega, by omega⟩
    · exact ⟨x, _, rfl, by omega, by omega, by omega⟩

theorem str_nonempty' {l : List Int} (h : l ≠ []) : (strOfNums l).toList.isEmpty = false := by
  rw [str_list]
  cases l with
  | nil => exact absurd rfl h
  | cons a r => rfl
def lenV : Value → Nat | .slice _ n _ => n | _ => 0
set_option maxRecDepth 100000 in
set_option maxHeartbeats 1000000 in
theorem unquote_any (xs : List Int) (w : World) (hr : Ran xs) (hn : xs.length ≤ 140737488355328) :
    Calls Tryd.prog 23 #[.string (strOfNums (quo xs))] w fun e w' => ∃ A' c', e = .returned (.tuple #[.slice A' xs.length c', .int .i64 0]) ∧ Own w' w.heap.size 5 A' xs.length c' (By xs) ∧ Below w.heap.size w w' := by
  obtain ⟨i0, hi, hz0, hz1, hz2⟩ := info_parts info5
  have hne0 := str_nonempty' (l := quo xs) (by simp [quo])
  have hi0 : ∀ W, (Instr.index 9 (.string (strOfNums (quo xs))) (.int .i64 0)).run Tryd.prog W = .ok (.int .u8 34) W := str_index 9 Tryd.underlying9 _ 0 34 rfl (by omega) (by omega)
  have hf0 : ∀ W, (Instr.slice 9 (.string (strOfNums (quo xs))) (some (.int .i64 1)) none none).run Tryd.prog W = .ok (.string (strOfNums (qs (xs.drop 0) ++ [34]))) W := str_from 9 Tryd.underlying9 _ 1 (by simp [quo])
  generalize strOfNums (quo xs) = s0 at *
  go_enter Tryd.func23, Tryd.ntmps23
  go_wp2
  go_loopw [4, 5] (fun o r wr => ∃ (k c' : Nat) (A' : Option Addr), o = .slice A' k c' ∧ r = .string (strOfNums (qs (xs.drop k) ++ [34])) ∧ k ≤ xs.length ∧ Own wr w.heap.size 5 A' k c' (By (xs.take k)) ∧ Below w.heap.size w wr) (fun o _ _ => xs.length - lenV o)
  case atStart => exact ⟨0, 0, none, rfl, rfl, Nat.zero_le _, Own.nil_, Below.refl _ _⟩
  case round =>
    obtain ⟨k, c', A', rfl, rfl, hk, ho, hb⟩ := hrel
    have hsz := hb.size
    by_cases hlt : k < xs.length
    · have HX := Lib.hid (List.getElem?_eq_getElem hlt)
      have hxr := hr xs[k] (List.getElem_mem hlt)
      generalize xs[k] = x at *
      obtain ⟨hx0, hx1⟩ := hxr
      have hqd : qs (xs.drop k) ++ [34] = qb x ++ (qs (xs.drop (k + 1)) ++ [34]) := by rw [qs_drop HX.out, List.append_assoc]
      have HTK := Lib.hid (show xs.take (k + 1) = xs.take k ++ [x] by
        obtain ⟨h1, h2⟩ := List.getElem?_eq_some_iff.1 HX.out
        rw [List.take_succ_eq_append_getElem h1, h2])
      obtain ⟨hd, tl, hqe, hd34, hd0, hd1⟩ := qb_head x
      have hne1 := str_nonempty' (l := qs (xs.drop k) ++ [34]) (by simp)
      have hj0 : ∀ W, (Instr.index 9 (.string (strOfNums (qs (xs.drop k) ++ [34]))) (.int .i64 0)).run Tryd.prog W = .ok (.int .u8 hd) W := str_index 9 Tryd.underlying9 _ 0 hd (by rw [hqd, hqe]; rfl) (hd0 hx0) (hd1 hx1)
      have hfk : ∀ W, (Instr.slice 9 (.string (strOfNums (qs (xs.drop k) ++ [34]))) (some (.int .i64 ((qb x).length : Int))) none none).run Tryd.prog W = .ok (.string (strOfNums (qs (xs.drop (k + 1)) ++ [34]))) W := fun W => by
        have := str_from (P := Tryd.prog) 9 Tryd.underlying9 (qs (xs.drop k) ++ [34]) (qb x).length (by rw [hqd]; simp) W
        rw [this]
        congr 3
        rw [hqd, List.drop_left]
      have hcall := fun w => unqb_any x (qs (xs.drop (k + 1)) ++ [34]) w hx0 hx1
      rw [← hqd] at hcall
      have h34 : (hd == 34) = false := by simpa using hd34
      clear hqd hqe hd34 hd0 hd1
      generalize strOfNums (qs (xs.drop k) ++ [34]) = s at *
      generalize hs2 : strOfNums (qs (xs.drop (k + 1)) ++ [34]) = s2 at *
      have HS2 := Lib.hid hs2; clear hs2
      generalize (qb x).length = q at *
      have ho2 := ho.alloc (.cells (By [x]).toArray 5)
      have hr2 := rd_new wr [x]
      have hbb := hb.alloc hsz (.cells (By [x]).toArray 5)
      go_wp2_with fail
      refine (hcall _).mono ?_
      rintro e w1 ⟨rfl, rfl⟩
      go_wp2_with (at_builtin; refine wpList_append_rd rfl _ _ 36 rfl i0 (.int .u8 0) 1 Tryd.underlying36 hi hz0 hz1 hz2 rfl rfl ho2 (some ⟨wr.heap.size, 0, none⟩) 1 1 (By [x]) rfl hr2 (By_one _) ?c1 ?c2 ?c3 ?_)
      case c1 => unfold maxLen; omega
      case c2 => omega
      case c3 => simp; omega
      intro A2 c2 w2 ho3 hg
      have hb2 := hbb.trans (hg.below (by simp; omega) (fun k hk => (ho.lies k hk).1))
      rw [← By_append, ← HTK.out] at ho3
      clear ho2 hr2 hbb hb ho hg
      go_wp2
      go_roundw
      case rel => exact ⟨k + 1, c2, A2, rfl, by rw [HS2.out], by omega, ho3, hb2⟩
      case measure => simp [lenV]; omega
    · have hke : k = xs.length := by omega
      subst hke
      have hqd : qs (xs.drop xs.length) ++ [34] = [34] := by rw [List.drop_length]; rfl
      rw [List.take_length] at ho
      have hne1 := str_nonempty' (l := [34]) (by simp)
      have hj0 : ∀ W, (Instr.index 9 (.string (strOfNums [34])) (.int .i64 0)).run Tryd.prog W = .ok (.int .u8 34) W := str_index 9 Tryd.underlying9 _ 0 34 rfl (by omega) (by omega)
      have hsz1 : (strOfNums [34]).size = 1 := strOfNums_size _
      rw [hqd]
      clear hqd
      generalize strOfNums [34] = s at *
      generalize hxl : xs.length = n at *
      have HXL := Lib.hid hxl; clear hxl
      go_wp2
      go_ret2
      have hxl := HXL.out
      subst hxl
      exact ⟨A', c', rfl, ho, hb⟩
end Go.Proofs.YtdlbghjclcdfmaaDoor
