/- Calls that the evaluator has carried out. -/
import Derived.Test.YtaipmdhnhffckaaKnF
import Derived.Test.YtaipmdhnhffckaaKnD18
namespace Go.Proofs.Ytaipmdhnhffckaa.Ev
open Go Go.Abs
set_option maxRecDepth 100000
theorem said18x12 : Said C (.call e18x12.f e18x12.args e18x12.H) (.val e18x12.v e18x12.H2) := checkO_said ok TabOK.nil (n := 1000) (by kernel_rfl)
theorem said18x13 : Said C (.call e18x13.f e18x13.args e18x13.H) (.val e18x13.v e18x13.H2) := checkO_said ok TabOK.nil (n := 1000) (by kernel_rfl)
theorem said18x14 : Said C (.call e18x14.f e18x14.args e18x14.H) (.val e18x14.v e18x14.H2) := checkO_said ok TabOK.nil (n := 1000) (by kernel_rfl)
theorem said18x15 : Said C (.call e18x15.f e18x15.args e18x15.H) (.val e18x15.v e18x15.H2) := checkO_said ok TabOK.nil (n := 1000) (by kernel_rfl)
theorem said18x16 : Said C (.call e18x16.f e18x16.args e18x16.H) (.val e18x16.v e18x16.H2) := checkO_said ok TabOK.nil (n := 1000) (by kernel_rfl)
theorem said18x17 : Said C (.call e18x17.f e18x17.args e18x17.H) (.val e18x17.v e18x17.H2) := checkO_said ok TabOK.nil (n := 1000) (by kernel_rfl)
end Go.Proofs.Ytaipmdhnhffckaa.Ev
