/- What RecBytes' walk leans on. -/
import Derived.Test.YtmjjbfcblmmipaaTwiceL
import Derived.Test.YtmjjbfcblmmipaaRBytesA
namespace Go.Proofs.Ytmjjbfcblmmipaa
theorem rcR_T {w : World} {x : Rc} {s : Sl} (h : RcR w x s) : RcT w x s := ⟨h.ws, h.rs, h.sh, h.rp, h.rc⟩
end Go.Proofs.Ytmjjbfcblmmipaa
