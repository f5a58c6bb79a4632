/- Calls that the evaluator has carried out. -/
import Derived.Test.YtgeochdkhncfmaaKnF
import Derived.Test.YtgeochdkhncfmaaKnD13
namespace Go.Proofs.Ytgeochdkhncfmaa.Ev
open Go Go.Abs
set_option maxRecDepth 100000
theorem said13x4 : Said C (.call e13x4.f e13x4.args e13x4.H) (.val e13x4.v e13x4.H2) := checkO_said ok TabOK.nil (n := 1000) (by kernel_rfl)
theorem said13x5 : Said C (.call e13x5.f e13x5.args e13x5.H) (.val e13x5.v e13x5.H2) := checkO_said ok TabOK.nil (n := 1000) (by kernel_rfl)
end Go.Proofs.Ytgeochdkhncfmaa.Ev
