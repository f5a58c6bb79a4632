/- Calls that the evaluator has carried out. -/
import Derived.Test.YtamanhaoafaddaaKnF
import Derived.Test.YtamanhaoafaddaaKnD11
namespace Go.Proofs.Ytamanhaoafaddaa.Ev
open Go Go.Abs
set_option maxRecDepth 100000
theorem said11x0 : Said C (.call e11x0.f e11x0.args e11x0.H) (.val e11x0.v e11x0.H2) := checkO_said ok TabOK.nil (n := 1000) (by kernel_rfl)
theorem said11x1 : Said C (.call e11x1.f e11x1.args e11x1.H) (.val e11x1.v e11x1.H2) := checkO_said ok TabOK.nil (n := 1000) (by kernel_rfl)
end Go.Proofs.Ytamanhaoafaddaa.Ev
