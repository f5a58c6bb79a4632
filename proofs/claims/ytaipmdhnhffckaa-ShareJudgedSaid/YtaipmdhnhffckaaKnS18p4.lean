/- Calls that the evaluator has carried out. -/
import Derived.Test.YtaipmdhnhffckaaKnF
import Derived.Test.YtaipmdhnhffckaaKnD18
namespace Go.Proofs.Ytaipmdhnhffckaa.Ev
open Go Go.Abs
set_option maxRecDepth 100000
theorem said18x24 : Said C (.call e18x24.f e18x24.args e18x24.H) (.val e18x24.v e18x24.H2) := checkO_said ok TabOK.nil (n := 1000) (by kernel_rfl)
theorem said18x25 : Said C (.call e18x25.f e18x25.args e18x25.H) (.val e18x25.v e18x25.H2) := checkO_said ok TabOK.nil (n := 1000) (by kernel_rfl)
theorem said18x26 : Said C (.call e18x26.f e18x26.args e18x26.H) (.val e18x26.v e18x26.H2) := checkO_said ok TabOK.nil (n := 1000) (by kernel_rfl)
theorem said18x27 : Said C (.call e18x27.f e18x27.args e18x27.H) (.val e18x27.v e18x27.H2) := checkO_said ok TabOK.nil (n := 1000) (by kernel_rfl)
theorem said18x28 : Said C (.call e18x28.f e18x28.args e18x28.H) (.val e18x28.v e18x28.H2) := checkO_said ok TabOK.nil (n := 1000) (by kernel_rfl)
theorem said18x29 : Said C (.call e18x29.f e18x29.args e18x29.H) (.val e18x29.v e18x29.H2) := checkO_said ok TabOK.nil (n := 1000) (by kernel_rfl)
end Go.Proofs.Ytaipmdhnhffckaa.Ev
