/- Calls that the evaluator has carried out. -/
import Derived.Test.YtgeochdkhncfmaaKnF
import Derived.Test.YtgeochdkhncfmaaKnD13
namespace Go.Proofs.Ytgeochdkhncfmaa.Ev
open Go Go.Abs
set_option maxRecDepth 100000
theorem said13x12 : Said C (.call e13x12.f e13x12.args e13x12.H) (.val e13x12.v e13x12.H2) := checkO_said ok TabOK.nil (n := 1000) (by kernel_rfl)
theorem said13x13 : Said C (.call e13x13.f e13x13.args e13x13.H) (.val e13x13.v e13x13.H2) := checkO_said ok TabOK.nil (n := 1000) (by kernel_rfl)
end Go.Proofs.Ytgeochdkhncfmaa.Ev
