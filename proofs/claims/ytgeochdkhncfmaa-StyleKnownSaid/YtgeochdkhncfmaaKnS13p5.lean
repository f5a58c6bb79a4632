/- Calls that the evaluator has carried out. -/
import Derived.Test.YtgeochdkhncfmaaKnF
import Derived.Test.YtgeochdkhncfmaaKnD13
namespace Go.Proofs.Ytgeochdkhncfmaa.Ev
open Go Go.Abs
set_option maxRecDepth 100000
theorem said13x10 : Said C (.call e13x10.f e13x10.args e13x10.H) (.val e13x10.v e13x10.H2) := checkO_said ok TabOK.nil (n := 1000) (by kernel_rfl)
theorem said13x11 : Said C (.call e13x11.f e13x11.args e13x11.H) (.val e13x11.v e13x11.H2) := checkO_said ok TabOK.nil (n := 1000) (by kernel_rfl)
end Go.Proofs.Ytgeochdkhncfmaa.Ev
