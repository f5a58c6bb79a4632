/- Calls that the evaluator has carried out. -/
import Derived.Test.YtgeochdkhncfmaaKnF
import Derived.Test.YtgeochdkhncfmaaKnD16
namespace Go.Proofs.Ytgeochdkhncfmaa.Ev
open Go Go.Abs
set_option maxRecDepth 100000
theorem said16x6 : Said C (.call e16x6.f e16x6.args e16x6.H) (.val e16x6.v e16x6.H2) := checkO_said ok TabOK.nil (n := 1000) (by kernel_rfl)
theorem said16x7 : Said C (.call e16x7.f e16x7.args e16x7.H) (.val e16x7.v e16x7.H2) := checkO_said ok TabOK.nil (n := 1000) (by kernel_rfl)
end Go.Proofs.Ytgeochdkhncfmaa.Ev
