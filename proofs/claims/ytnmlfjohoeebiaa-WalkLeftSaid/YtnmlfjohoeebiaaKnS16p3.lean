/- Calls that the evaluator has carried out. -/
import Derived.Test.YtnmlfjohoeebiaaKnF
import Derived.Test.YtnmlfjohoeebiaaKnD16
namespace Go.Proofs.Ytnmlfjohoeebiaa.Ev
open Go Go.Abs
set_option maxRecDepth 100000
theorem said16x9 : Said C (.call e16x9.f e16x9.args e16x9.H) (.val e16x9.v e16x9.H2) := checkO_said ok TabOK.nil (n := 1000) (by kernel_rfl)
theorem said16x10 : Said C (.call e16x10.f e16x10.args e16x10.H) (.val e16x10.v e16x10.H2) := checkO_said ok TabOK.nil (n := 1000) (by kernel_rfl)
theorem said16x11 : Said C (.call e16x11.f e16x11.args e16x11.H) (.val e16x11.v e16x11.H2) := checkO_said ok TabOK.nil (n := 1000) (by kernel_rfl)
theorem said16x12 : Said C (.call e16x12.f e16x12.args e16x12.H) (.val e16x12.v e16x12.H2) := checkO_said ok TabOK.nil (n := 1000) (by kernel_rfl)
theorem said16x13 : Said C (.call e16x13.f e16x13.args e16x13.H) (.val e16x13.v e16x13.H2) := checkO_said ok TabOK.nil (n := 1000) (by kernel_rfl)
theorem said16x14 : Said C (.call e16x14.f e16x14.args e16x14.H) (.val e16x14.v e16x14.H2) := checkO_said ok TabOK.nil (n := 1000) (by kernel_rfl)
end Go.Proofs.Ytnmlfjohoeebiaa.Ev
