/- Calls that the evaluator has carried out. -/
import Derived.Test.YtcfffhkabhmkmaaDoorKnF
import Derived.Test.YtcfffhkabhmkmaaDoorKnD19
namespace Go.Proofs.YtcfffhkabhmkmaaDoor.Ev
open Go Go.Abs
set_option maxRecDepth 100000
theorem said19x2 : Said C (.call e19x2.f e19x2.args e19x2.H) (.val e19x2.v e19x2.H2) := checkO_said ok TabOK.nil (n := 1000) (by kernel_rfl)
end Go.Proofs.YtcfffhkabhmkmaaDoor.Ev
