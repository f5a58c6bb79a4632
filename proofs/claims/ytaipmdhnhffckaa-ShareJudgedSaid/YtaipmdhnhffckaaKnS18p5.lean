/- Calls that the evaluator has carried out. -/
import Derived.Test.YtaipmdhnhffckaaKnF
import Derived.Test.YtaipmdhnhffckaaKnD18
namespace Go.Proofs.Ytaipmdhnhffckaa.Ev
open Go Go.Abs
set_option maxRecDepth 100000
theorem said18x30 : Said C (.call e18x30.f e18x30.args e18x30.H) (.val e18x30.v e18x30.H2) := checkO_said ok TabOK.nil (n := 1000) (by kernel_rfl)
theorem said18x31 : Said C (.call e18x31.f e18x31.args e18x31.H) (.val e18x31.v e18x31.H2) := checkO_said ok TabOK.nil (n := 1000) (by kernel_rfl)
theorem said18x32 : Said C (.call e18x32.f e18x32.args e18x32.H) (.val e18x32.v e18x32.H2) := checkO_said ok TabOK.nil (n := 1000) (by kernel_rfl)
theorem said18x33 : Said C (.call e18x33.f e18x33.args e18x33.H) (.val e18x33.v e18x33.H2) := checkO_said ok TabOK.nil (n := 1000) (by kernel_rfl)
theorem said18x34 : Said C (.call e18x34.f e18x34.args e18x34.H) (.val e18x34.v e18x34.H2) := checkO_said ok TabOK.nil (n := 1000) (by kernel_rfl)
theorem said18x35 : Said C (.call e18x35.f e18x35.args e18x35.H) (.val e18x35.v e18x35.H2) := checkO_said ok TabOK.nil (n := 1000) (by kernel_rfl)
end Go.Proofs.Ytaipmdhnhffckaa.Ev
