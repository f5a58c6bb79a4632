/- Calls that the evaluator has carried out. -/
import Derived.Test.YtaipmdhnhffckaaKnF
import Derived.Test.YtaipmdhnhffckaaKnD18
namespace Go.Proofs.Ytaipmdhnhffckaa.Ev
open Go Go.Abs
set_option maxRecDepth 100000
theorem said18x42 : Said C (.call e18x42.f e18x42.args e18x42.H) (.val e18x42.v e18x42.H2) := checkO_said ok TabOK.nil (n := 1000) (by kernel_rfl)
theorem said18x43 : Said C (.call e18x43.f e18x43.args e18x43.H) (.val e18x43.v e18x43.H2) := checkO_said ok TabOK.nil (n := 1000) (by kernel_rfl)
theorem said18x44 : Said C (.call e18x44.f e18x44.args e18x44.H) (.val e18x44.v e18x44.H2) := checkO_said ok TabOK.nil (n := 1000) (by kernel_rfl)
theorem said18x45 : Said C (.call e18x45.f e18x45.args e18x45.H) (.val e18x45.v e18x45.H2) := checkO_said ok TabOK.nil (n := 1000) (by kernel_rfl)
theorem said18x46 : Said C (.call e18x46.f e18x46.args e18x46.H) (.val e18x46.v e18x46.H2) := checkO_said ok TabOK.nil (n := 1000) (by kernel_rfl)
theorem said18x47 : Said C (.call e18x47.f e18x47.args e18x47.H) (.val e18x47.v e18x47.H2) := checkO_said ok TabOK.nil (n := 1000) (by kernel_rfl)
end Go.Proofs.Ytaipmdhnhffckaa.Ev
