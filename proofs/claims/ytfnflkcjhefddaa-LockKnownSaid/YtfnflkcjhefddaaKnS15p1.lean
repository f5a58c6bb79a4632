/- Calls that the evaluator has carried out. -/
import Derived.Test.YtfnflkcjhefddaaKnF
import Derived.Test.YtfnflkcjhefddaaKnD15
namespace Go.Proofs.Ytfnflkcjhefddaa.Ev
open Go Go.Abs
set_option maxRecDepth 100000
theorem said15x15 : Said C (.call e15x15.f e15x15.args e15x15.H) (.val e15x15.v e15x15.H2) := checkO_said ok TabOK.nil (n := 1000) (by kernel_rfl)
theorem said15x16 : Said C (.call e15x16.f e15x16.args e15x16.H) (.val e15x16.v e15x16.H2) := checkO_said ok TabOK.nil (n := 1000) (by kernel_rfl)
theorem said15x17 : Said C (.call e15x17.f e15x17.args e15x17.H) (.val e15x17.v e15x17.H2) := checkO_said ok TabOK.nil (n := 1000) (by kernel_rfl)
theorem said15x18 : Said C (.call e15x18.f e15x18.args e15x18.H) (.val e15x18.v e15x18.H2) := checkO_said ok TabOK.nil (n := 1000) (by kernel_rfl)
theorem said15x19 : Said C (.call e15x19.f e15x19.args e15x19.H) (.val e15x19.v e15x19.H2) := checkO_said ok TabOK.nil (n := 1000) (by kernel_rfl)
theorem said15x20 : Said C (.call e15x20.f e15x20.args e15x20.H) (.val e15x20.v e15x20.H2) := checkO_said ok TabOK.nil (n := 1000) (by kernel_rfl)
theorem said15x21 : Said C (.call e15x21.f e15x21.args e15x21.H) (.val e15x21.v e15x21.H2) := checkO_said ok TabOK.nil (n := 1000) (by kernel_rfl)
theorem said15x22 : Said C (.call e15x22.f e15x22.args e15x22.H) (.val e15x22.v e15x22.H2) := checkO_said ok TabOK.nil (n := 1000) (by kernel_rfl)
theorem said15x23 : Said C (.call e15x23.f e15x23.args e15x23.H) (.val e15x23.v e15x23.H2) := checkO_said ok TabOK.nil (n := 1000) (by kernel_rfl)
theorem said15x24 : Said C (.call e15x24.f e15x24.args e15x24.H) (.val e15x24.v e15x24.H2) := checkO_said ok TabOK.nil (n := 1000) (by kernel_rfl)
end Go.Proofs.Ytfnflkcjhefddaa.Ev
