/- Calls that the evaluator has carried out. -/
import Derived.Test.YtfnflkcjhefddaaKnF
import Derived.Test.YtfnflkcjhefddaaKnD15
namespace Go.Proofs.Ytfnflkcjhefddaa.Ev
open Go Go.Abs
set_option maxRecDepth 100000
theorem said15x59 : Said C (.call e15x59.f e15x59.args e15x59.H) (.val e15x59.v e15x59.H2) := checkO_said ok TabOK.nil (n := 1000) (by kernel_rfl)
theorem said15x60 : Said C (.call e15x60.f e15x60.args e15x60.H) (.val e15x60.v e15x60.H2) := checkO_said ok TabOK.nil (n := 1000) (by kernel_rfl)
theorem said15x61 : Said C (.call e15x61.f e15x61.args e15x61.H) (.val e15x61.v e15x61.H2) := checkO_said ok TabOK.nil (n := 1000) (by kernel_rfl)
end Go.Proofs.Ytfnflkcjhefddaa.Ev
