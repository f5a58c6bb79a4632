/- Calls that the evaluator has carried out. -/
import Derived.Test.YtgeochdkhncfmaaKnF
import Derived.Test.YtgeochdkhncfmaaKnD13
namespace Go.Proofs.Ytgeochdkhncfmaa.Ev
open Go Go.Abs
set_option maxRecDepth 100000
theorem said13x2 : Said C (.call e13x2.f e13x2.args e13x2.H) (.val e13x2.v e13x2.H2) := checkO_said ok TabOK.nil (n := 1000) (by kernel_rfl)
theorem said13x3 : Said C (.call e13x3.f e13x3.args e13x3.H) (.val e13x3.v e13x3.H2) := checkO_said ok TabOK.nil (n := 1000) (by kernel_rfl)
end Go.Proofs.Ytgeochdkhncfmaa.Ev
