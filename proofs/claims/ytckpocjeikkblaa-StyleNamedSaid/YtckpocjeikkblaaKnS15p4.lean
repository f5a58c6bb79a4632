/- Calls that the evaluator has carried out. -/
import Derived.Test.YtckpocjeikkblaaKnF
import Derived.Test.YtckpocjeikkblaaKnD15
namespace Go.Proofs.Ytckpocjeikkblaa.Ev
open Go Go.Abs
set_option maxRecDepth 100000
theorem said15x10 : Said C (.call e15x10.f e15x10.args e15x10.H) (.val e15x10.v e15x10.H2) := checkO_said ok TabOK.nil (n := 1000) (by kernel_rfl)
theorem said15x11 : Said C (.call e15x11.f e15x11.args e15x11.H) (.val e15x11.v e15x11.H2) := checkO_said ok TabOK.nil (n := 1000) (by kernel_rfl)
theorem said15x12 : Said C (.call e15x12.f e15x12.args e15x12.H) (.val e15x12.v e15x12.H2) := checkO_said ok TabOK.nil (n := 1000) (by kernel_rfl)
end Go.Proofs.Ytckpocjeikkblaa.Ev
