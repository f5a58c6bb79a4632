/- Calls that the evaluator has carried out. -/
import Derived.Test.YtnmlfjohoeebiaaKnF
import Derived.Test.YtnmlfjohoeebiaaKnD16
namespace Go.Proofs.Ytnmlfjohoeebiaa.Ev
open Go Go.Abs
set_option maxRecDepth 100000
theorem said16x8 : Said C (.call e16x8.f e16x8.args e16x8.H) (.val e16x8.v e16x8.H2) := checkO_said ok TabOK.nil (n := 1000) (by kernel_rfl)
end Go.Proofs.Ytnmlfjohoeebiaa.Ev
