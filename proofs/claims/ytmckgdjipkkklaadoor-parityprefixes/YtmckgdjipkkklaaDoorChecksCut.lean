/- A list cut short, as a contract with its outcome. -/
import Derived.Test.YtmckgdjipkkklaaDoorAwake
namespace Go.Proofs.YtmckgdjipkkklaaDoor
set_option linter.unusedVariables false
set_option linter.unusedSimpArgs false
open Go.RowKit

theorem cut_is (A : Option Addr) (n c : Nat) (k : Nat) (xs us : List Int) (hus : xs.take k = us) (w : World) (hx : Bs w A n xs) (hn : n ≤ maxLen) (hc : n ≤ c) (hk : k ≤ 9223372036854775807) :
    Calls Tryd.prog 16 #[.slice A n c, .int .i64 (k : Int)] w fun e w' => e = .returned (.slice A us.length c) ∧ w = w' := by
  refine (cut_any A n c k xs w hx hn hc hk).mono ?_
  rintro e w' ⟨m, rfl, _, hb, rfl⟩
  have := hb.len
  rw [hus] at this
  rw [this]; exact ⟨rfl, rfl⟩
end Go.Proofs.YtmckgdjipkkklaaDoor
