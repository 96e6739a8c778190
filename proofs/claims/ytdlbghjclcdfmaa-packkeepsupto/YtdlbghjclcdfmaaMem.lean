/- Copies, ends and questions of byte lists: the reference's Copy, Equal, In, After; pack.In, pack.After. -/
import Derived.Test.YtdlbghjclcdfmaaCmp
import Derived.OwnWalk
import Derived.Laws.MakeOwn
import Derived.Laws.CopyOwn
namespace Go.Proofs.Ytdlbghjclcdfmaa
set_option linter.unusedVariables false
set_option linter.unusedSimpArgs false
open Go.RowKit

theorem info5 : (Try.prog.info? 5).map (fun i => (i.zero, i.size, i.bytes)) = some (some (.int .u8 0), 1, 1) := by kernel_rfl

theorem equal_any (A B : Option Addr) (n m c d : Nat) (xs ys : List Int) (w : World) (hx : Bs w A n xs) (hy : Bs w B m ys) (hn : n ≤ maxLen) (hm : m ≤ maxLen) :
    Calls Try.prog 13 #[.slice A n c, .slice B m d] w fun e w' => e = .returned (.bool (cmpL xs ys == 0)) ∧ Dr w w' := by
  go_enter Try.func13, Try.ntmps13
  go_wp2_with (go_at_call 36; refine (cmp_any A B n m c d xs ys _ hx hy hn hm).mono ?_; rintro e w' ⟨rfl, hd⟩)
  go_ret
  exact ⟨rfl, hd⟩

theorem copy_any (A : Option Addr) (n c : Nat) (xs : List Int) (w : World) (hx : Bs w A n xs) (hn : n ≤ 140737488355328) :
    Calls Try.prog 15 #[.slice A n c] w fun e w' => ∃ A' c', e = .returned (.slice A' n c') ∧ Own w' w.heap.size 5 A' n c' (By xs) ∧ Below w.heap.size w w' := by
  obtain ⟨i0, hi, hz0, hz1, hz2⟩ := info_parts info5
  have hown : Own (w.alloc (.cells #[] 5)) w.heap.size 5 (some ⟨w.heap.size, 0, none⟩) 0 0 [] := World.ownsRow_made (e := 5) (size := 1) w #[] 0 (Nat.le_refl _) (Nat.zero_le _) rfl
  have hb0 : Below w.heap.size w (w.alloc (.cells #[] 5)) := (Below.refl _ _).alloc (Nat.le_refl _) _
  have hr := (hx.keep hb0).1
  go_enter Try.func15, Try.ntmps15
  go_wp2_with (at_builtin; refine wpList_append_rd rfl _ _ 23 rfl i0 (.int .u8 0) 1 Try.underlying23 hi hz0 hz1 hz2 rfl rfl hown A n c (By xs) rfl hr (By_one _) ?c1 ?c2 ?c3 ?_)
  case c1 => unfold maxLen; omega
  case c2 => omega
  case c3 => simp
  intro A' c' w' ho hg
  have hb : Below w.heap.size w w' := hb0.trans (hg.below (by simp) (fun k hk => (hown.lies k hk).1))
  go_wp2
  go_ret
  exact ⟨A', c', by simp, by simpa using ho, hb⟩

theorem in_any (A B C : Option Addr) (n m l c d f : Nat) (xs ys zs : List Int) (w : World) (hx : Bs w A n xs) (hy : Bs w B m ys) (hz : Bs w C l zs) (hn : n ≤ maxLen) (hm : m ≤ maxLen) (hl : l ≤ maxLen) :
    Calls Try.prog 37 #[.slice A n c, .slice B m d, .slice C l f] w fun e w' => e = .returned (.bool (inL xs ys zs)) ∧ Dr w w' := by
  have hlz := hz.len
  by_cases h1 : 0 ≤ cmpL xs ys
  · by_cases h2 : l = 0
    · have HR := Lib.hid (show inL xs ys zs = true by unfold inL; simp [h1, hlz, h2])
      have hl0 : ((l : Int) == 0) = true := by simp [h2]
      clear h2 hlz
      go_enter Try.func37, Try.ntmps37
      go_wp2_with (go_at_call 35; refine (compare_any A B n m c d xs ys _ hx hy hn hm).mono ?_; rintro e w' ⟨rfl, hd⟩)
      go_ret
      exact ⟨ret_bool HR.out.symm, hd⟩
    · have HR := Lib.hid (show inL xs ys zs = decide (cmpL xs zs < 0) by unfold inL; simp [h1, hlz, h2])
      have hl0 : ((l : Int) == 0) = false := by simp [h2]
      clear h2 hlz
      go_enter Try.func37, Try.ntmps37
      go_wp2_with fail
      refine (compare_any A B n m c d xs ys _ hx hy hn hm).mono ?_
      rintro e w' ⟨rfl, hd⟩
      go_wp2_with fail
      refine (compare_any A C n l c f xs zs _ (hx.dr hd) (hz.dr hd) hn hl).mono ?_
      rintro e w'' ⟨rfl, hd2⟩
      go_wp2
      go_ret
      exact ⟨ret_bool HR.out.symm, hd.trans hd2⟩
  · have HR := Lib.hid (show inL xs ys zs = false by unfold inL; simp [h1])
    clear hlz
    go_enter Try.func37, Try.ntmps37
    go_wp2_with (go_at_call 35; refine (compare_any A B n m c d xs ys _ hx hy hn hm).mono ?_; rintro e w' ⟨rfl, hd⟩)
    go_ret
    exact ⟨ret_bool HR.out.symm, hd⟩

theorem rin_any (A B C : Option Addr) (n m l c d f : Nat) (xs ys zs : List Int) (w : World) (hx : Bs w A n xs) (hy : Bs w B m ys) (hz : Bs w C l zs) (hn : n ≤ maxLen) (hm : m ≤ maxLen) (hl : l ≤ maxLen) :
    Calls Try.prog 38 #[.slice A n c, .slice B m d, .slice C l f] w fun e w' => e = .returned (.bool (inL xs ys zs)) ∧ Dr w w' := by
  have hlz := hz.len
  have hsym := cmpL_swap xs ys
  by_cases h1 : 0 ≤ cmpL xs ys
  · have h1' : cmpL ys xs ≤ 0 := by omega
    by_cases h2 : l = 0
    · have HR := Lib.hid (show inL xs ys zs = true by unfold inL; simp [h1, hlz, h2])
      have hl0 : ((l : Int) == 0) = true := by simp [h2]
      clear h2 hlz hsym
      go_enter Try.func38, Try.ntmps38
      go_wp2_with (go_at_call 36; refine (cmp_any B A m n d c ys xs _ hy hx hm hn).mono ?_; rintro e w' ⟨rfl, hd⟩)
      go_ret
      exact ⟨ret_bool HR.out.symm, hd⟩
    · have HR := Lib.hid (show inL xs ys zs = decide (cmpL xs zs < 0) by unfold inL; simp [h1, hlz, h2])
      have hl0 : ((l : Int) == 0) = false := by simp [h2]
      clear h2 hlz hsym
      go_enter Try.func38, Try.ntmps38
      go_wp2_with fail
      refine (cmp_any B A m n d c ys xs _ hy hx hm hn).mono ?_
      rintro e w' ⟨rfl, hd⟩
      go_wp2_with fail
      refine (cmp_any A C n l c f xs zs _ (hx.dr hd) (hz.dr hd) hn hl).mono ?_
      rintro e w'' ⟨rfl, hd2⟩
      go_wp2
      go_ret
      exact ⟨ret_bool HR.out.symm, hd.trans hd2⟩
  · have HR := Lib.hid (show inL xs ys zs = false by unfold inL; simp [h1])
    have h1' : ¬ cmpL ys xs ≤ 0 := by omega
    clear hlz hsym
    go_enter Try.func38, Try.ntmps38
    go_wp2_with (go_at_call 36; refine (cmp_any B A m n d c ys xs _ hy hx hm hn).mono ?_; rintro e w' ⟨rfl, hd⟩)
    go_ret
    exact ⟨ret_bool HR.out.symm, hd⟩

theorem size5 : (Try.prog.info? 5).map (·.size) = some 1 := by kernel_rfl

theorem after_any (A : Option Addr) (n c : Nat) (xs : List Int) (w : World) (hx : Bs w A n xs) (hn : n + 1 ≤ 140737488355328) :
    Calls Try.prog 39 #[.slice A n c] w fun e w' => ∃ A' c', e = .returned (.slice A' (n + 1) c') ∧ Own w' w.heap.size 5 A' (n + 1) c' (By (xs ++ [0])) ∧ Below w.heap.size w w' := by
  obtain ⟨i0, hi, hz0, hz1, hz2⟩ := info_parts info5
  have hmk := fun W => run_make_bytes (P := Try.prog) 23 5 i0 Try.underlying23 hi hz0 hz1 hz2 ((n : Int) + 1) (n + 1) (by omega) (by omega) W
  have hb0 : Below w.heap.size w (w.alloc (.cells (zerA (n + 1)) 5)) := (Below.refl _ _).alloc (Nat.le_refl _) _
  have hr := hx.keep hb0
  have HL := Lib.hid hx.len
  have hblk : (w.alloc (.cells (zer (n + 1)).toArray 5)).heap[w.heap.size]? = some (.cells (zer (n + 1)).toArray 5 (0, 0)) := heap_alloc_new w _
  have HB := Lib.hid hblk; clear hblk
  go_enter Try.func39, Try.ntmps39
  go_wp2_with (with_reducible refine wpList_copy_splice rfl _ _ 23 23 rfl 5 Try.underlying23 size5 (some ⟨w.heap.size, 0, none⟩) A (n + 1) (n + 1) n c rfl rfl w.heap.size 0 (zer (n + 1)) 5 ?b (By xs) ?c1 ?c2 ?c3 (By_one _) w.heap.size w hb0 (Nat.le_refl _) ?_)
  case b => exact HB.out
  case c1 => rw [By_length, HL.out]; simp [Nat.min_def]
  case c2 =>
    intro hp
    rw [By_length, HL.out] at hp
    obtain ⟨b, off, rfl, hb, hc⟩ := hr.1.2 hp
    refine ⟨⟨b, off, none⟩, rfl, fun j v hv => ?_⟩
    have e : (⟨b, off, none⟩ : Addr).add j = ⟨b, off + j, none⟩ := by unfold Addr.add; split <;> simp_all
    rw [e]; exact hc j v hv
  case c3 => rw [By_length, HL.out]; simp [zer]
  intro w' HW hb
  have hsp : splice (zer (n + 1)) 0 (By xs) = By (xs ++ [0]) := by
    have hlx := HL.out
    unfold splice zer By
    simp [hlx]
  have HO := Lib.hid (Own.of_block (base := w.heap.size) (n := n + 1) (e := 5) (vs := By (xs ++ [0])) (by rw [← hsp]; exact HW.out) (Nat.le_refl _) (by rw [By_length, List.length_append, HL.out]; rfl) (by unfold maxLen; omega))
  clear HW hsp
  go_wp2
  go_ret
  exact ⟨_, _, rfl, HO.out, hb⟩

theorem rafter_any (A : Option Addr) (n c : Nat) (xs : List Int) (w : World) (hx : Bs w A n xs) (hn : n + 1 ≤ 140737488355328) :
    Calls Try.prog 40 #[.slice A n c] w fun e w' => ∃ A' c', e = .returned (.slice A' (n + 1) c') ∧ Own w' w.heap.size 5 A' (n + 1) c' (By (xs ++ [0])) ∧ Below w.heap.size w w' := by
  obtain ⟨i0, hi, hz0, hz1, hz2⟩ := info_parts info5
  go_enter Try.func40, Try.ntmps40
  go_wp2_with fail
  refine (copy_any A n c xs _ hx (by omega)).mono ?_
  rintro e w1 ⟨A1, c1, rfl, ho1, hb1⟩
  have hsz := hb1.size
  have ho2 := ho1.alloc (.cells #[.int .u8 0] 5)
  have hr : Rd (w1.alloc (.cells #[.int .u8 0] 5)) (some ⟨w1.heap.size, 0, none⟩) 1 (By [0]) := by
    refine ⟨rfl, fun _ => ⟨_, _, rfl, by simp, fun j u hu => ?_⟩⟩
    match j, hu with
    | 0, hu => simp [By] at hu; subst hu; simp
  go_wp2_with (at_builtin; refine wpList_append_rd rfl _ _ 23 rfl i0 (.int .u8 0) 1 Try.underlying23 hi hz0 hz1 hz2 rfl rfl ho2 (some ⟨w1.heap.size, 0, none⟩) 1 1 (By [0]) rfl hr (By_one _) ?c1 ?c2 ?c3 ?_)
  case c1 => unfold maxLen; omega
  case c2 => omega
  case c3 => simp; omega
  intro A' c' w' ho hg
  have hb : Below w.heap.size w w' := (hb1.alloc (by omega) _).trans (hg.below (by simp; omega) (fun k hk => (ho1.lies k hk).1))
  rw [← By_append] at ho
  go_wp2
  go_ret
  exact ⟨A', c', by simp, ho, hb⟩
end Go.Proofs.Ytdlbghjclcdfmaa
