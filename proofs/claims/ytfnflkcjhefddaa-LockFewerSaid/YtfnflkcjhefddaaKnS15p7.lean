/- Calls that the evaluator has carried out. -/
import Derived.Test.YtfnflkcjhefddaaKnF
import Derived.Test.YtfnflkcjhefddaaKnD15
namespace Go.Proofs.Ytfnflkcjhefddaa.Ev
open Go Go.Abs
set_option maxRecDepth 100000
theorem said15x43 : Said C (.call e15x43.f e15x43.args e15x43.H) (.val e15x43.v e15x43.H2) := checkO_said ok TabOK.nil (n := 1000) (by kernel_rfl)
theorem said15x44 : Said C (.call e15x44.f e15x44.args e15x44.H) (.val e15x44.v e15x44.H2) := checkO_said ok TabOK.nil (n := 1000) (by kernel_rfl)
theorem said15x45 : Said C (.call e15x45.f e15x45.args e15x45.H) (.val e15x45.v e15x45.H2) := checkO_said ok TabOK.nil (n := 1000) (by kernel_rfl)
theorem said15x46 : Said C (.call e15x46.f e15x46.args e15x46.H) (.val e15x46.v e15x46.H2) := checkO_said ok TabOK.nil (n := 1000) (by kernel_rfl)
theorem said15x47 : Said C (.call e15x47.f e15x47.args e15x47.H) (.val e15x47.v e15x47.H2) := checkO_said ok TabOK.nil (n := 1000) (by kernel_rfl)
end Go.Proofs.Ytfnflkcjhefddaa.Ev
