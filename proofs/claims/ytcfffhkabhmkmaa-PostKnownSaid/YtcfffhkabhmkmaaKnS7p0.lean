/- Calls that the evaluator has carried out. -/
import Derived.Test.YtcfffhkabhmkmaaKnF
import Derived.Test.YtcfffhkabhmkmaaKnD7
namespace Go.Proofs.Ytcfffhkabhmkmaa.Ev
open Go Go.Abs
set_option maxRecDepth 100000
theorem said7x0 : Said C (.call e7x0.f e7x0.args e7x0.H) (.val e7x0.v e7x0.H2) := checkO_said ok TabOK.nil (n := 1000) (by kernel_rfl)
theorem said7x1 : Said C (.call e7x1.f e7x1.args e7x1.H) (.val e7x1.v e7x1.H2) := checkO_said ok TabOK.nil (n := 1000) (by kernel_rfl)
theorem said7x2 : Said C (.call e7x2.f e7x2.args e7x2.H) (.val e7x2.v e7x2.H2) := checkO_said ok TabOK.nil (n := 1000) (by kernel_rfl)
end Go.Proofs.Ytcfffhkabhmkmaa.Ev
