/- Calls that the evaluator has carried out. -/
import Derived.Test.YtfnflkcjhefddaaKnF
import Derived.Test.YtfnflkcjhefddaaKnD15
namespace Go.Proofs.Ytfnflkcjhefddaa.Ev
open Go Go.Abs
set_option maxRecDepth 100000
theorem said15x6 : Said C (.call e15x6.f e15x6.args e15x6.H) (.val e15x6.v e15x6.H2) := checkO_said ok TabOK.nil (n := 1000) (by kernel_rfl)
theorem said15x7 : Said C (.call e15x7.f e15x7.args e15x7.H) (.val e15x7.v e15x7.H2) := checkO_said ok TabOK.nil (n := 1000) (by kernel_rfl)
theorem said15x8 : Said C (.call e15x8.f e15x8.args e15x8.H) (.val e15x8.v e15x8.H2) := checkO_said ok TabOK.nil (n := 1000) (by kernel_rfl)
theorem said15x9 : Said C (.call e15x9.f e15x9.args e15x9.H) (.val e15x9.v e15x9.H2) := checkO_said ok TabOK.nil (n := 1000) (by kernel_rfl)
theorem said15x10 : Said C (.call e15x10.f e15x10.args e15x10.H) (.val e15x10.v e15x10.H2) := checkO_said ok TabOK.nil (n := 1000) (by kernel_rfl)
theorem said15x11 : Said C (.call e15x11.f e15x11.args e15x11.H) (.val e15x11.v e15x11.H2) := checkO_said ok TabOK.nil (n := 1000) (by kernel_rfl)
end Go.Proofs.Ytfnflkcjhefddaa.Ev
