/- Calls that the evaluator has carried out. -/
import Derived.Test.YtgeochdkhncfmaaKnF
import Derived.Test.YtgeochdkhncfmaaKnD13
namespace Go.Proofs.Ytgeochdkhncfmaa.Ev
open Go Go.Abs
set_option maxRecDepth 100000
theorem said13x8 : Said C (.call e13x8.f e13x8.args e13x8.H) (.val e13x8.v e13x8.H2) := checkO_said ok TabOK.nil (n := 1000) (by kernel_rfl)
theorem said13x9 : Said C (.call e13x9.f e13x9.args e13x9.H) (.val e13x9.v e13x9.H2) := checkO_said ok TabOK.nil (n := 1000) (by kernel_rfl)
end Go.Proofs.Ytgeochdkhncfmaa.Ev
