/- Calls that the evaluator has carried out. -/
import Derived.Test.YtcfffhkabhmkmaaKnF
import Derived.Test.YtcfffhkabhmkmaaKnD7
namespace Go.Proofs.Ytcfffhkabhmkmaa.Ev
open Go Go.Abs
set_option maxRecDepth 100000
theorem said7x9 : Said C (.call e7x9.f e7x9.args e7x9.H) (.val e7x9.v e7x9.H2) := checkO_said ok TabOK.nil (n := 1000) (by kernel_rfl)
end Go.Proofs.Ytcfffhkabhmkmaa.Ev
