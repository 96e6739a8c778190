/- LeafSplits' walk, whole. -/
import Derived.Test.YtmjjbfcblmmipaaLspL
import Derived.Test.YtmjjbfcblmmipaaLspF
import Derived.Test.YtmjjbfcblmmipaaLspN
import Derived.Test.YtmjjbfcblmmipaaLspC
namespace Go.Proofs.Ytmjjbfcblmmipaa
set_option linter.unusedVariables false
set_option linter.unusedSimpArgs false
open Go.RowKit
theorem lsp_any (lf : Bool) (AK : Option Addr) (nK cK : Nat) (AV : Option Addr) (nV cV : Nat) (AD : Option Addr) (nD cD : Nat) (ks vs : List (List Int)) (ds : List Int) (w : World) (hx : Bss w AK nK ks) (hy : Bss w AV nV vs) (hz : Ins w AD nD ds)
    (hKc : nK ≤ cK) (hVc : nV ≤ cV) (hDc : nD ≤ cD) (bK : nK ≤ 1048576) (bV : nV ≤ 1048576) (bD : nD ≤ 1048576) (lK : ∀ xs ∈ ks, xs.length ≤ 1048576) (lV : ∀ xs ∈ vs, xs.length ≤ 1048576) :
    Calls Try.prog 10 #[.agg (ndV lf AK nK cK AV nV cV AD nD cD)] w fun e w' => e = .returned (.bool true) ∧ Below w.heap.size w w' := by
  have h1 : min nK 200 ≤ nK := Nat.min_le_left _ _
  have h2 : min nV 200 ≤ nV := Nat.min_le_left _ _
  have h3 : min nD 201 ≤ nD := Nat.min_le_left _ _
  have x1 := hx.pre h1; have x2 := hy.pre h2; have x3 := Ins.short hz h3
  have l1 : ∀ xs ∈ ks.take (min nK 200), xs.length ≤ 1048576 := fun x hx => lK x (List.mem_of_mem_take hx)
  have l2 : ∀ xs ∈ vs.take (min nV 200), xs.length ≤ 1048576 := fun x hx => lV x (List.mem_of_mem_take hx)
  by_cases hc : chkN lf (ks.take (min nK 200)) (vs.take (min nV 200)) (ds.take (min nD 201)) = 0
  · by_cases hd : min nK 200 < dF lf
    · exact lspN_any lf AK nK cK AV nV cV AD nD cD _ _ [] [] _ [] _ _ _ w rfl rfl rfl x1 x2 x3 hKc hVc hDc bK bV bD l1 l2 hc hd
    · cases lf with
      | true => exact lspL_any AK nK cK AV nV cV AD nD cD _ _ [] [] _ [] _ _ _ w rfl rfl rfl x1 x2 x3 hKc hVc hDc bK bV bD l1 l2 hc (by simp [dF] at hd; omega)
      | false => exact lspF_any AK nK cK AV nV cV AD nD cD _ _ [] [] _ [] _ _ _ w rfl rfl rfl x1 x2 x3 hKc hVc hDc bK bV bD l1 l2 hc (by simp [dF] at hd; omega)
  · exact lspC_any lf AK nK cK AV nV cV AD nD cD _ _ [] [] _ [] _ _ _ w rfl rfl rfl x1 x2 x3 hKc hVc hDc bK bV bD l1 l2 hc
end Go.Proofs.Ytmjjbfcblmmipaa
