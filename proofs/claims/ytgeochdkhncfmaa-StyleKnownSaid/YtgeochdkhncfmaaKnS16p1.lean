/- Calls that the evaluator has carried out. -/
import Derived.Test.YtgeochdkhncfmaaKnF
import Derived.Test.YtgeochdkhncfmaaKnD16
namespace Go.Proofs.Ytgeochdkhncfmaa.Ev
open Go Go.Abs
set_option maxRecDepth 100000
theorem said16x2 : Said C (.call e16x2.f e16x2.args e16x2.H) (.val e16x2.v e16x2.H2) := checkO_said ok TabOK.nil (n := 1000) (by kernel_rfl)
theorem said16x3 : Said C (.call e16x3.f e16x3.args e16x3.H) (.val e16x3.v e16x3.H2) := checkO_said ok TabOK.nil (n := 1000) (by kernel_rfl)
end Go.Proofs.Ytgeochdkhncfmaa.Ev
