/- Calls that the evaluator has carried out. -/
import Derived.Test.YtaipmdhnhffckaaKnF
import Derived.Test.YtaipmdhnhffckaaKnD18
namespace Go.Proofs.Ytaipmdhnhffckaa.Ev
open Go Go.Abs
set_option maxRecDepth 100000
theorem said18x18 : Said C (.call e18x18.f e18x18.args e18x18.H) (.val e18x18.v e18x18.H2) := checkO_said ok TabOK.nil (n := 1000) (by kernel_rfl)
theorem said18x19 : Said C (.call e18x19.f e18x19.args e18x19.H) (.val e18x19.v e18x19.H2) := checkO_said ok TabOK.nil (n := 1000) (by kernel_rfl)
theorem said18x20 : Said C (.call e18x20.f e18x20.args e18x20.H) (.val e18x20.v e18x20.H2) := checkO_said ok TabOK.nil (n := 1000) (by kernel_rfl)
theorem said18x21 : Said C (.call e18x21.f e18x21.args e18x21.H) (.val e18x21.v e18x21.H2) := checkO_said ok TabOK.nil (n := 1000) (by kernel_rfl)
theorem said18x22 : Said C (.call e18x22.f e18x22.args e18x22.H) (.val e18x22.v e18x22.H2) := checkO_said ok TabOK.nil (n := 1000) (by kernel_rfl)
theorem said18x23 : Said C (.call e18x23.f e18x23.args e18x23.H) (.val e18x23.v e18x23.H2) := checkO_said ok TabOK.nil (n := 1000) (by kernel_rfl)
end Go.Proofs.Ytaipmdhnhffckaa.Ev
