/- Calls that the evaluator has carried out. -/
import Derived.Test.YteopjpfhhekkoaaKnF
import Derived.Test.YteopjpfhhekkoaaKnD16
namespace Go.Proofs.Yteopjpfhhekkoaa.Ev
open Go Go.Abs
set_option maxRecDepth 100000
theorem said16x18 : Said C (.call e16x18.f e16x18.args e16x18.H) (.val e16x18.v e16x18.H2) := checkO_said ok TabOK.nil (n := 1000) (by kernel_rfl)
theorem said16x19 : Said C (.call e16x19.f e16x19.args e16x19.H) (.val e16x19.v e16x19.H2) := checkO_said ok TabOK.nil (n := 1000) (by kernel_rfl)
theorem said16x20 : Said C (.call e16x20.f e16x20.args e16x20.H) (.val e16x20.v e16x20.H2) := checkO_said ok TabOK.nil (n := 1000) (by kernel_rfl)
theorem said16x21 : Said C (.call e16x21.f e16x21.args e16x21.H) (.val e16x21.v e16x21.H2) := checkO_said ok TabOK.nil (n := 1000) (by kernel_rfl)
theorem said16x22 : Said C (.call e16x22.f e16x22.args e16x22.H) (.val e16x22.v e16x22.H2) := checkO_said ok TabOK.nil (n := 1000) (by kernel_rfl)
theorem said16x23 : Said C (.call e16x23.f e16x23.args e16x23.H) (.val e16x23.v e16x23.H2) := checkO_said ok TabOK.nil (n := 1000) (by kernel_rfl)
end Go.Proofs.Yteopjpfhhekkoaa.Ev
