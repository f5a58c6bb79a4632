/- Calls that the evaluator has carried out. -/
import Derived.Test.YtgeochdkhncfmaaKnF
import Derived.Test.YtgeochdkhncfmaaKnD13
namespace Go.Proofs.Ytgeochdkhncfmaa.Ev
open Go Go.Abs
set_option maxRecDepth 100000
theorem said13x0 : Said C (.call e13x0.f e13x0.args e13x0.H) (.val e13x0.v e13x0.H2) := checkO_said ok TabOK.nil (n := 1000) (by kernel_rfl)
theorem said13x1 : Said C (.call e13x1.f e13x1.args e13x1.H) (.val e13x1.v e13x1.H2) := checkO_said ok TabOK.nil (n := 1000) (by kernel_rfl)
end Go.Proofs.Ytgeochdkhncfmaa.Ev
