/- Calls that the evaluator has carried out. -/
import Derived.Test.YtamanhaoafaddaaKnF
import Derived.Test.YtamanhaoafaddaaKnD10
namespace Go.Proofs.Ytamanhaoafaddaa.Ev
open Go Go.Abs
set_option maxRecDepth 100000
theorem said10x6 : Said C (.call e10x6.f e10x6.args e10x6.H) (.val e10x6.v e10x6.H2) := checkO_said ok TabOK.nil (n := 1000) (by kernel_rfl)
end Go.Proofs.Ytamanhaoafaddaa.Ev
