/- Calls that the evaluator has carried out. -/
import Derived.Test.YtcfffhkabhmkmaaKnF
import Derived.Test.YtcfffhkabhmkmaaKnD7
namespace Go.Proofs.Ytcfffhkabhmkmaa.Ev
open Go Go.Abs
set_option maxRecDepth 100000
theorem said7x3 : Said C (.call e7x3.f e7x3.args e7x3.H) (.val e7x3.v e7x3.H2) := checkO_said ok TabOK.nil (n := 1000) (by kernel_rfl)
theorem said7x4 : Said C (.call e7x4.f e7x4.args e7x4.H) (.val e7x4.v e7x4.H2) := checkO_said ok TabOK.nil (n := 1000) (by kernel_rfl)
theorem said7x5 : Said C (.call e7x5.f e7x5.args e7x5.H) (.val e7x5.v e7x5.H2) := checkO_said ok TabOK.nil (n := 1000) (by kernel_rfl)
end Go.Proofs.Ytcfffhkabhmkmaa.Ev
