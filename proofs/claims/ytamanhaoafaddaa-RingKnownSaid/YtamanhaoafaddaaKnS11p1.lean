/- Calls that the evaluator has carried out. -/
import Derived.Test.YtamanhaoafaddaaKnF
import Derived.Test.YtamanhaoafaddaaKnD11
namespace Go.Proofs.Ytamanhaoafaddaa.Ev
open Go Go.Abs
set_option maxRecDepth 100000
theorem said11x2 : Said C (.call e11x2.f e11x2.args e11x2.H) (.val e11x2.v e11x2.H2) := checkO_said ok TabOK.nil (n := 1000) (by kernel_rfl)
end Go.Proofs.Ytamanhaoafaddaa.Ev
