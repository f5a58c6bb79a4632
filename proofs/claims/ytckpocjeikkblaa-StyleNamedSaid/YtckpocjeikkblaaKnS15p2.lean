/- Calls that the evaluator has carried out. -/
import Derived.Test.YtckpocjeikkblaaKnF
import Derived.Test.YtckpocjeikkblaaKnD15
namespace Go.Proofs.Ytckpocjeikkblaa.Ev
open Go Go.Abs
set_option maxRecDepth 100000
theorem said15x7 : Said C (.call e15x7.f e15x7.args e15x7.H) (.val e15x7.v e15x7.H2) := checkO_said ok TabOK.nil (n := 1000) (by kernel_rfl)
end Go.Proofs.Ytckpocjeikkblaa.Ev
