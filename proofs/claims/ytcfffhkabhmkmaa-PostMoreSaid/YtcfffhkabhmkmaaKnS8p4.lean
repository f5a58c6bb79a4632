/- Calls that the evaluator has carried out. -/
import Derived.Test.YtcfffhkabhmkmaaKnF
import Derived.Test.YtcfffhkabhmkmaaKnD8
namespace Go.Proofs.Ytcfffhkabhmkmaa.Ev
open Go Go.Abs
set_option maxRecDepth 100000
theorem said8x4 : Said C (.call e8x4.f e8x4.args e8x4.H) (.val e8x4.v e8x4.H2) := checkO_said ok TabOK.nil (n := 1000) (by kernel_rfl)
end Go.Proofs.Ytcfffhkabhmkmaa.Ev
