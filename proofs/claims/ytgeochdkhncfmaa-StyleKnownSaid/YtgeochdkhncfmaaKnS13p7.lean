/- Calls that the evaluator has carried out. -/
import Derived.Test.YtgeochdkhncfmaaKnF
import Derived.Test.YtgeochdkhncfmaaKnD13
namespace Go.Proofs.Ytgeochdkhncfmaa.Ev
open Go Go.Abs
set_option maxRecDepth 100000
theorem said13x14 : Said C (.call e13x14.f e13x14.args e13x14.H) (.val e13x14.v e13x14.H2) := checkO_said ok TabOK.nil (n := 1000) (by kernel_rfl)
end Go.Proofs.Ytgeochdkhncfmaa.Ev
