/- Calls that the evaluator has carried out. -/
import Derived.Test.YtaipmdhnhffckaaKnF
import Derived.Test.YtaipmdhnhffckaaKnD18
namespace Go.Proofs.Ytaipmdhnhffckaa.Ev
open Go Go.Abs
set_option maxRecDepth 100000
theorem said18x0 : Said C (.call e18x0.f e18x0.args e18x0.H) (.val e18x0.v e18x0.H2) := checkO_said ok TabOK.nil (n := 1000) (by kernel_rfl)
theorem said18x1 : Said C (.call e18x1.f e18x1.args e18x1.H) (.val e18x1.v e18x1.H2) := checkO_said ok TabOK.nil (n := 1000) (by kernel_rfl)
theorem said18x2 : Said C (.call e18x2.f e18x2.args e18x2.H) (.val e18x2.v e18x2.H2) := checkO_said ok TabOK.nil (n := 1000) (by kernel_rfl)
theorem said18x3 : Said C (.call e18x3.f e18x3.args e18x3.H) (.val e18x3.v e18x3.H2) := checkO_said ok TabOK.nil (n := 1000) (by kernel_rfl)
theorem said18x4 : Said C (.call e18x4.f e18x4.args e18x4.H) (.val e18x4.v e18x4.H2) := checkO_said ok TabOK.nil (n := 1000) (by kernel_rfl)
theorem said18x5 : Said C (.call e18x5.f e18x5.args e18x5.H) (.val e18x5.v e18x5.H2) := checkO_said ok TabOK.nil (n := 1000) (by kernel_rfl)
end Go.Proofs.Ytaipmdhnhffckaa.Ev
