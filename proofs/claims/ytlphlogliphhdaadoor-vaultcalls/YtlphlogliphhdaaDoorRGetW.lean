/- The reference's Get. -/
import Derived.Test.YtlphlogliphhdaaDoorTg
namespace Go.Proofs.YtlphlogliphhdaaDoor
set_option linter.unusedVariables false
set_option linter.unusedSimpArgs false
open Go.RowKit Go.Maps
open Go.Proofs (encStr)

theorem eqs_t {S T : ByteArray} (h : S = T) : (S.toList == T.toList) = true := by subst h; simp
theorem eqs_f {S T : ByteArray} (h : ¬ S = T) : (S.toList == T.toList) = false := by
  have : ¬ S.toList = T.toList := fun e => h (by
    rw [ByteArray.toList_eq, ByteArray.toList_eq] at e
    exact ByteArray.ext (Array.toList_inj.1 e))
  simpa using this
theorem no_take {R : Things} {k : Nat} {S T : ByteArray} {ys : List Int} (h : ∀ xs, (S, xs) ∉ R.take k) (hk : R[k]? = some (T, ys)) (hne : ¬ T = S) : ∀ xs, (S, xs) ∉ R.take (k + 1) := by
  intro xs hm
  rw [List.take_add_one, hk] at hm
  simp only [Option.toList_some, List.mem_append, List.mem_singleton, Prod.mk.injEq] at hm
  rcases hm with hm | ⟨h1, _⟩
  · exact h xs hm
  · exact hne h1.symm
set_option maxRecDepth 100000 in
set_option maxHeartbeats 2000000 in
theorem rget_any (A : Option Addr) (n c : Nat) (R : Things) (vs : List Value) (S : ByteArray) (Pd : Nat → Prop) (w : World) (hR : Tg w Pd A n R vs) (hn : n ≤ 1000000) :
    Calls Tryd.prog 15 #[.slice A n c, .string S] w fun e w' =>
      ((∃ xs B d, (S, xs) ∈ R ∧ e = .returned (.tuple #[.slice B xs.length d, .int .i64 0]) ∧ BsP w Pd B xs.length xs) ∨ ((∀ xs, (S, xs) ∉ R) ∧ e = .returned (.tuple #[.slice none 0 0, .int .i64 6]))) ∧ Dr w w' := by
  have HLN := Lib.hid hR.len
  have HRG := Lib.hid hR
  clear hR
  go_enter Tryd.func15, Tryd.ntmps15
  go_wp2
  go_loopw [6] (fun v wr => ∃ k q : Nat, v = .int .i64 (k : Int) ∧ k ≤ n ∧ wr = w.drewN q ∧ Hid (∀ xs, (S, xs) ∉ R.take k)) (fun v _ => n - (intOf v).toNat)
  case atStart => exact ⟨0, 0, rfl, Nat.zero_le _, rfl, fun xs h => by simp at h⟩
  case round =>
    obtain ⟨k, q, rfl, hk, rfl, HK⟩ := hrel
    by_cases hlt : k < n
    · obtain ⟨b, off, T, ys, C, e, hA, hc0, hc1, hbs, HQ⟩ := HRG.out.at_ hlt
      subst hA
      have hc0' : (w.drewN q).cell? ⟨b, off + k * 2, none⟩ = some (.string T) := hc0
      have hc1' : (w.drewN q).cell? ⟨b, off + k * 2 + 1, none⟩ = some (.slice C ys.length e) := hc1
      clear hc0 hc1
      by_cases hTS : T = S
      · have hse := eqs_t hTS
        have HM : Hid ((S, ys) ∈ R) := by
          have := List.mem_of_getElem? HQ.out
          rw [hTS] at this; exact this
        have HB := Lib.hid hbs
        clear HK hbs hTS
        go_wp2
        go_ret2
        exact ⟨.inl ⟨ys, C, e, HM.out, rfl, HB.out⟩, ((Dr.refl w).n _)⟩
      · have hse := eqs_f hTS
        have HN := Lib.hid (no_take HK.out HQ.out hTS)
        clear HK hbs hTS hc1'
        go_wp2
        go_roundw
        case rel => exact ⟨k + 1, _, by go_num, by omega, rfl, HN.out⟩
        case measure => simp [intOf]; omega
    · obtain rfl : k = n := by omega
      have HN : Hid (∀ xs, (S, xs) ∉ R) := by
        have := HK.out
        rwa [List.take_of_length_le (by rw [HLN.out]; exact Nat.le_refl _)] at this
      clear HK
      go_wp2
      go_ret2
      exact ⟨.inr ⟨HN.out, rfl⟩, (Dr.refl w).n _⟩
end Go.Proofs.YtlphlogliphhdaaDoor
