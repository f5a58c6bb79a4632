/- Calls that the evaluator has carried out. -/
import Derived.Test.YtgeochdkhncfmaaKnF
import Derived.Test.YtgeochdkhncfmaaKnD13
namespace Go.Proofs.Ytgeochdkhncfmaa.Ev
open Go Go.Abs
set_option maxRecDepth 100000
theorem said13x6 : Said C (.call e13x6.f e13x6.args e13x6.H) (.val e13x6.v e13x6.H2) := checkO_said ok TabOK.nil (n := 1000) (by kernel_rfl)
theorem said13x7 : Said C (.call e13x7.f e13x7.args e13x7.H) (.val e13x7.v e13x7.H2) := checkO_said ok TabOK.nil (n := 1000) (by kernel_rfl)
end Go.Proofs.Ytgeochdkhncfmaa.Ev
