/- Calls that the evaluator has carried out. -/
import Derived.Test.YtgeochdkhncfmaaKnF
import Derived.Test.YtgeochdkhncfmaaKnD16
namespace Go.Proofs.Ytgeochdkhncfmaa.Ev
open Go Go.Abs
set_option maxRecDepth 100000
theorem said16x4 : Said C (.call e16x4.f e16x4.args e16x4.H) (.val e16x4.v e16x4.H2) := checkO_said ok TabOK.nil (n := 1000) (by kernel_rfl)
theorem said16x5 : Said C (.call e16x5.f e16x5.args e16x5.H) (.val e16x5.v e16x5.H2) := checkO_said ok TabOK.nil (n := 1000) (by kernel_rfl)
end Go.Proofs.Ytgeochdkhncfmaa.Ev
