/- Calls that the evaluator has carried out. -/
import Derived.Test.YtaipmdhnhffckaaKnF
import Derived.Test.YtaipmdhnhffckaaKnD18
namespace Go.Proofs.Ytaipmdhnhffckaa.Ev
open Go Go.Abs
set_option maxRecDepth 100000
theorem said18x6 : Said C (.call e18x6.f e18x6.args e18x6.H) (.val e18x6.v e18x6.H2) := checkO_said ok TabOK.nil (n := 1000) (by kernel_rfl)
theorem said18x7 : Said C (.call e18x7.f e18x7.args e18x7.H) (.val e18x7.v e18x7.H2) := checkO_said ok TabOK.nil (n := 1000) (by kernel_rfl)
theorem said18x8 : Said C (.call e18x8.f e18x8.args e18x8.H) (.val e18x8.v e18x8.H2) := checkO_said ok TabOK.nil (n := 1000) (by kernel_rfl)
theorem said18x9 : Said C (.call e18x9.f e18x9.args e18x9.H) (.val e18x9.v e18x9.H2) := checkO_said ok TabOK.nil (n := 1000) (by kernel_rfl)
theorem said18x10 : Said C (.call e18x10.f e18x10.args e18x10.H) (.val e18x10.v e18x10.H2) := checkO_said ok TabOK.nil (n := 1000) (by kernel_rfl)
theorem said18x11 : Said C (.call e18x11.f e18x11.args e18x11.H) (.val e18x11.v e18x11.H2) := checkO_said ok TabOK.nil (n := 1000) (by kernel_rfl)
end Go.Proofs.Ytaipmdhnhffckaa.Ev
