/- Calls that the evaluator has carried out. -/
import Derived.Test.YtfnflkcjhefddaaKnF
import Derived.Test.YtfnflkcjhefddaaKnD15
namespace Go.Proofs.Ytfnflkcjhefddaa.Ev
open Go Go.Abs
set_option maxRecDepth 100000
theorem said15x46 : Said C (.call e15x46.f e15x46.args e15x46.H) (.val e15x46.v e15x46.H2) := checkO_said ok TabOK.nil (n := 1000) (by kernel_rfl)
theorem said15x47 : Said C (.call e15x47.f e15x47.args e15x47.H) (.val e15x47.v e15x47.H2) := checkO_said ok TabOK.nil (n := 1000) (by kernel_rfl)
theorem said15x48 : Said C (.call e15x48.f e15x48.args e15x48.H) (.val e15x48.v e15x48.H2) := checkO_said ok TabOK.nil (n := 1000) (by kernel_rfl)
theorem said15x49 : Said C (.call e15x49.f e15x49.args e15x49.H) (.val e15x49.v e15x49.H2) := checkO_said ok TabOK.nil (n := 1000) (by kernel_rfl)
end Go.Proofs.Ytfnflkcjhefddaa.Ev
