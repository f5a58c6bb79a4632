/- Calls that the evaluator has carried out. -/
import Derived.Test.YteopjpfhhekkoaaKnF
import Derived.Test.YteopjpfhhekkoaaKnD16
namespace Go.Proofs.Yteopjpfhhekkoaa.Ev
open Go Go.Abs
set_option maxRecDepth 100000
theorem said16x0 : Said C (.call e16x0.f e16x0.args e16x0.H) (.val e16x0.v e16x0.H2) := checkO_said ok TabOK.nil (n := 1000) (by kernel_rfl)
theorem said16x1 : Said C (.call e16x1.f e16x1.args e16x1.H) (.val e16x1.v e16x1.H2) := checkO_said ok TabOK.nil (n := 1000) (by kernel_rfl)
theorem said16x2 : Said C (.call e16x2.f e16x2.args e16x2.H) (.val e16x2.v e16x2.H2) := checkO_said ok TabOK.nil (n := 1000) (by kernel_rfl)
theorem said16x3 : Said C (.call e16x3.f e16x3.args e16x3.H) (.val e16x3.v e16x3.H2) := checkO_said ok TabOK.nil (n := 1000) (by kernel_rfl)
theorem said16x4 : Said C (.call e16x4.f e16x4.args e16x4.H) (.val e16x4.v e16x4.H2) := checkO_said ok TabOK.nil (n := 1000) (by kernel_rfl)
theorem said16x5 : Said C (.call e16x5.f e16x5.args e16x5.H) (.val e16x5.v e16x5.H2) := checkO_said ok TabOK.nil (n := 1000) (by kernel_rfl)
end Go.Proofs.Yteopjpfhhekkoaa.Ev
