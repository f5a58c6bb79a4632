/- Calls that the evaluator has carried out. -/
import Derived.Test.YtaipmdhnhffckaaKnF
import Derived.Test.YtaipmdhnhffckaaKnD18
namespace Go.Proofs.Ytaipmdhnhffckaa.Ev
open Go Go.Abs
set_option maxRecDepth 100000
theorem said18x36 : Said C (.call e18x36.f e18x36.args e18x36.H) (.val e18x36.v e18x36.H2) := checkO_said ok TabOK.nil (n := 1000) (by kernel_rfl)
theorem said18x37 : Said C (.call e18x37.f e18x37.args e18x37.H) (.val e18x37.v e18x37.H2) := checkO_said ok TabOK.nil (n := 1000) (by kernel_rfl)
theorem said18x38 : Said C (.call e18x38.f e18x38.args e18x38.H) (.val e18x38.v e18x38.H2) := checkO_said ok TabOK.nil (n := 1000) (by kernel_rfl)
theorem said18x39 : Said C (.call e18x39.f e18x39.args e18x39.H) (.val e18x39.v e18x39.H2) := checkO_said ok TabOK.nil (n := 1000) (by kernel_rfl)
theorem said18x40 : Said C (.call e18x40.f e18x40.args e18x40.H) (.val e18x40.v e18x40.H2) := checkO_said ok TabOK.nil (n := 1000) (by kernel_rfl)
theorem said18x41 : Said C (.call e18x41.f e18x41.args e18x41.H) (.val e18x41.v e18x41.H2) := checkO_said ok TabOK.nil (n := 1000) (by kernel_rfl)
end Go.Proofs.Ytaipmdhnhffckaa.Ev
