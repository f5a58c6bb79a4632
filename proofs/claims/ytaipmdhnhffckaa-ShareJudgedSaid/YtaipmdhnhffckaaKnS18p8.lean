/- Calls that the evaluator has carried out. -/
import Derived.Test.YtaipmdhnhffckaaKnF
import Derived.Test.YtaipmdhnhffckaaKnD18
namespace Go.Proofs.Ytaipmdhnhffckaa.Ev
open Go Go.Abs
set_option maxRecDepth 100000
theorem said18x48 : Said C (.call e18x48.f e18x48.args e18x48.H) (.val e18x48.v e18x48.H2) := checkO_said ok TabOK.nil (n := 1000) (by kernel_rfl)
theorem said18x49 : Said C (.call e18x49.f e18x49.args e18x49.H) (.val e18x49.v e18x49.H2) := checkO_said ok TabOK.nil (n := 1000) (by kernel_rfl)
end Go.Proofs.Ytaipmdhnhffckaa.Ev
