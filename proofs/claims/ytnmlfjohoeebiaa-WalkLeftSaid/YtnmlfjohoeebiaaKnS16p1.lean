/- Calls that the evaluator has carried out. -/
import Derived.Test.YtnmlfjohoeebiaaKnF
import Derived.Test.YtnmlfjohoeebiaaKnD16
namespace Go.Proofs.Ytnmlfjohoeebiaa.Ev
open Go Go.Abs
set_option maxRecDepth 100000
theorem said16x3 : Said C (.call e16x3.f e16x3.args e16x3.H) (.val e16x3.v e16x3.H2) := checkO_said ok TabOK.nil (n := 1000) (by kernel_rfl)
theorem said16x4 : Said C (.call e16x4.f e16x4.args e16x4.H) (.val e16x4.v e16x4.H2) := checkO_said ok TabOK.nil (n := 1000) (by kernel_rfl)
theorem said16x5 : Said C (.call e16x5.f e16x5.args e16x5.H) (.val e16x5.v e16x5.H2) := checkO_said ok TabOK.nil (n := 1000) (by kernel_rfl)
theorem said16x6 : Said C (.call e16x6.f e16x6.args e16x6.H) (.val e16x6.v e16x6.H2) := checkO_said ok TabOK.nil (n := 1000) (by kernel_rfl)
theorem said16x7 : Said C (.call e16x7.f e16x7.args e16x7.H) (.val e16x7.v e16x7.H2) := checkO_said ok TabOK.nil (n := 1000) (by kernel_rfl)
end Go.Proofs.Ytnmlfjohoeebiaa.Ev
