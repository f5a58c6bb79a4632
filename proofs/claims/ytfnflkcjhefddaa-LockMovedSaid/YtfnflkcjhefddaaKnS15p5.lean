/- Calls that the evaluator has carried out. -/
import Derived.Test.YtfnflkcjhefddaaKnF
import Derived.Test.YtfnflkcjhefddaaKnD15
namespace Go.Proofs.Ytfnflkcjhefddaa.Ev
open Go Go.Abs
set_option maxRecDepth 100000
theorem said15x48 : Said C (.call e15x48.f e15x48.args e15x48.H) (.val e15x48.v e15x48.H2) := checkO_said ok TabOK.nil (n := 1000) (by kernel_rfl)
theorem said15x49 : Said C (.call e15x49.f e15x49.args e15x49.H) (.val e15x49.v e15x49.H2) := checkO_said ok TabOK.nil (n := 1000) (by kernel_rfl)
theorem said15x50 : Said C (.call e15x50.f e15x50.args e15x50.H) (.val e15x50.v e15x50.H2) := checkO_said ok TabOK.nil (n := 1000) (by kernel_rfl)
theorem said15x51 : Said C (.call e15x51.f e15x51.args e15x51.H) (.val e15x51.v e15x51.H2) := checkO_said ok TabOK.nil (n := 1000) (by kernel_rfl)
theorem said15x52 : Said C (.call e15x52.f e15x52.args e15x52.H) (.val e15x52.v e15x52.H2) := checkO_said ok TabOK.nil (n := 1000) (by kernel_rfl)
end Go.Proofs.Ytfnflkcjhefddaa.Ev
