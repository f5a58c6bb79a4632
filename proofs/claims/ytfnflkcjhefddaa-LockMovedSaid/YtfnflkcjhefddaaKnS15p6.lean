/- Calls that the evaluator has carried out. -/
import Derived.Test.YtfnflkcjhefddaaKnF
import Derived.Test.YtfnflkcjhefddaaKnD15
namespace Go.Proofs.Ytfnflkcjhefddaa.Ev
open Go Go.Abs
set_option maxRecDepth 100000
theorem said15x53 : Said C (.call e15x53.f e15x53.args e15x53.H) (.val e15x53.v e15x53.H2) := checkO_said ok TabOK.nil (n := 1000) (by kernel_rfl)
theorem said15x54 : Said C (.call e15x54.f e15x54.args e15x54.H) (.val e15x54.v e15x54.H2) := checkO_said ok TabOK.nil (n := 1000) (by kernel_rfl)
theorem said15x55 : Said C (.call e15x55.f e15x55.args e15x55.H) (.val e15x55.v e15x55.H2) := checkO_said ok TabOK.nil (n := 1000) (by kernel_rfl)
theorem said15x56 : Said C (.call e15x56.f e15x56.args e15x56.H) (.val e15x56.v e15x56.H2) := checkO_said ok TabOK.nil (n := 1000) (by kernel_rfl)
theorem said15x57 : Said C (.call e15x57.f e15x57.args e15x57.H) (.val e15x57.v e15x57.H2) := checkO_said ok TabOK.nil (n := 1000) (by kernel_rfl)
theorem said15x58 : Said C (.call e15x58.f e15x58.args e15x58.H) (.val e15x58.v e15x58.H2) := checkO_said ok TabOK.nil (n := 1000) (by kernel_rfl)
theorem said15x59 : Said C (.call e15x59.f e15x59.args e15x59.H) (.val e15x59.v e15x59.H2) := checkO_said ok TabOK.nil (n := 1000) (by kernel_rfl)
theorem said15x60 : Said C (.call e15x60.f e15x60.args e15x60.H) (.val e15x60.v e15x60.H2) := checkO_said ok TabOK.nil (n := 1000) (by kernel_rfl)
theorem said15x61 : Said C (.call e15x61.f e15x61.args e15x61.H) (.val e15x61.v e15x61.H2) := checkO_said ok TabOK.nil (n := 1000) (by kernel_rfl)
end Go.Proofs.Ytfnflkcjhefddaa.Ev
