/- Calls that the evaluator has carried out. -/
import Derived.Test.YtcfffhkabhmkmaaKnF
import Derived.Test.YtcfffhkabhmkmaaKnD7
namespace Go.Proofs.Ytcfffhkabhmkmaa.Ev
open Go Go.Abs
set_option maxRecDepth 100000
theorem said7x7 : Said C (.call e7x7.f e7x7.args e7x7.H) (.val e7x7.v e7x7.H2) := checkO_said ok TabOK.nil (n := 1000) (by kernel_rfl)
theorem said7x8 : Said C (.call e7x8.f e7x8.args e7x8.H) (.val e7x8.v e7x8.H2) := checkO_said ok TabOK.nil (n := 1000) (by kernel_rfl)
end Go.Proofs.Ytcfffhkabhmkmaa.Ev
