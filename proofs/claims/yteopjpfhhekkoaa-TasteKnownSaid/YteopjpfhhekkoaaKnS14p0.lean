/- Calls that the evaluator has carried out. -/
import Derived.Test.YteopjpfhhekkoaaKnF
import Derived.Test.YteopjpfhhekkoaaKnD14
namespace Go.Proofs.Yteopjpfhhekkoaa.Ev
open Go Go.Abs
set_option maxRecDepth 100000
theorem said14x0 : Said C (.call e14x0.f e14x0.args e14x0.H) (.val e14x0.v e14x0.H2) := checkO_said ok TabOK.nil (n := 1000) (by kernel_rfl)
theorem said14x1 : Said C (.call e14x1.f e14x1.args e14x1.H) (.val e14x1.v e14x1.H2) := checkO_said ok TabOK.nil (n := 1000) (by kernel_rfl)
theorem said14x2 : Said C (.call e14x2.f e14x2.args e14x2.H) (.val e14x2.v e14x2.H2) := checkO_said ok TabOK.nil (n := 1000) (by kernel_rfl)
theorem said14x3 : Said C (.call e14x3.f e14x3.args e14x3.H) (.val e14x3.v e14x3.H2) := checkO_said ok TabOK.nil (n := 1000) (by kernel_rfl)
theorem said14x4 : Said C (.call e14x4.f e14x4.args e14x4.H) (.val e14x4.v e14x4.H2) := checkO_said ok TabOK.nil (n := 1000) (by kernel_rfl)
theorem said14x5 : Said C (.call e14x5.f e14x5.args e14x5.H) (.val e14x5.v e14x5.H2) := checkO_said ok TabOK.nil (n := 1000) (by kernel_rfl)
end Go.Proofs.Yteopjpfhhekkoaa.Ev
