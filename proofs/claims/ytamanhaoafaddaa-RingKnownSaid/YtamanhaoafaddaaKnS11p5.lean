/- Calls that the evaluator has carried out. -/
import Derived.Test.YtamanhaoafaddaaKnF
import Derived.Test.YtamanhaoafaddaaKnD11
namespace Go.Proofs.Ytamanhaoafaddaa.Ev
open Go Go.Abs
set_option maxRecDepth 100000
theorem said11x11 : Said C (.call e11x11.f e11x11.args e11x11.H) (.val e11x11.v e11x11.H2) := checkO_said ok TabOK.nil (n := 1000) (by kernel_rfl)
end Go.Proofs.Ytamanhaoafaddaa.Ev
