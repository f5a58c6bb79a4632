/- Calls that the evaluator has carried out. -/
import Derived.Test.YtcfffhkabhmkmaaDoorKnF
import Derived.Test.YtcfffhkabhmkmaaDoorKnD19
namespace Go.Proofs.YtcfffhkabhmkmaaDoor.Ev
open Go Go.Abs
set_option maxRecDepth 100000
theorem said19x1 : Said C (.call e19x1.f e19x1.args e19x1.H) (.val e19x1.v e19x1.H2) := checkO_said ok TabOK.nil (n := 1000) (by kernel_rfl)
end Go.Proofs.YtcfffhkabhmkmaaDoor.Ev
