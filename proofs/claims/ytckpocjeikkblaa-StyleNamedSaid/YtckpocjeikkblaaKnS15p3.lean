/- Calls that the evaluator has carried out. -/
import Derived.Test.YtckpocjeikkblaaKnF
import Derived.Test.YtckpocjeikkblaaKnD15
namespace Go.Proofs.Ytckpocjeikkblaa.Ev
open Go Go.Abs
set_option maxRecDepth 100000
theorem said15x8 : Said C (.call e15x8.f e15x8.args e15x8.H) (.val e15x8.v e15x8.H2) := checkO_said ok TabOK.nil (n := 1000) (by kernel_rfl)
theorem said15x9 : Said C (.call e15x9.f e15x9.args e15x9.H) (.val e15x9.v e15x9.H2) := checkO_said ok TabOK.nil (n := 1000) (by kernel_rfl)
end Go.Proofs.Ytckpocjeikkblaa.Ev
