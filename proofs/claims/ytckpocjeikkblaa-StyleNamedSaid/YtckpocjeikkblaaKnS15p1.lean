/- Calls that the evaluator has carried out. -/
import Derived.Test.YtckpocjeikkblaaKnF
import Derived.Test.YtckpocjeikkblaaKnD15
namespace Go.Proofs.Ytckpocjeikkblaa.Ev
open Go Go.Abs
set_option maxRecDepth 100000
theorem said15x5 : Said C (.call e15x5.f e15x5.args e15x5.H) (.val e15x5.v e15x5.H2) := checkO_said ok TabOK.nil (n := 1000) (by kernel_rfl)
theorem said15x6 : Said C (.call e15x6.f e15x6.args e15x6.H) (.val e15x6.v e15x6.H2) := checkO_said ok TabOK.nil (n := 1000) (by kernel_rfl)
end Go.Proofs.Ytckpocjeikkblaa.Ev
