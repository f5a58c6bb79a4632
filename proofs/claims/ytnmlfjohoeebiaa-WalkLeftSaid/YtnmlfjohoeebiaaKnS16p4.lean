/- Calls that the evaluator has carried out. -/
import Derived.Test.YtnmlfjohoeebiaaKnF
import Derived.Test.YtnmlfjohoeebiaaKnD16
namespace Go.Proofs.Ytnmlfjohoeebiaa.Ev
open Go Go.Abs
set_option maxRecDepth 100000
theorem said16x15 : Said C (.call e16x15.f e16x15.args e16x15.H) (.val e16x15.v e16x15.H2) := checkO_said ok TabOK.nil (n := 1000) (by kernel_rfl)
theorem said16x16 : Said C (.call e16x16.f e16x16.args e16x16.H) (.val e16x16.v e16x16.H2) := checkO_said ok TabOK.nil (n := 1000) (by kernel_rfl)
theorem said16x17 : Said C (.call e16x17.f e16x17.args e16x17.H) (.val e16x17.v e16x17.H2) := checkO_said ok TabOK.nil (n := 1000) (by kernel_rfl)
theorem said16x18 : Said C (.call e16x18.f e16x18.args e16x18.H) (.val e16x18.v e16x18.H2) := checkO_said ok TabOK.nil (n := 1000) (by kernel_rfl)
end Go.Proofs.Ytnmlfjohoeebiaa.Ev
