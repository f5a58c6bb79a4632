/- Calls that the evaluator has carried out. -/
import Derived.Test.YtfnflkcjhefddaaKnF
import Derived.Test.YtfnflkcjhefddaaKnD14
namespace Go.Proofs.Ytfnflkcjhefddaa.Ev
open Go Go.Abs
set_option maxRecDepth 100000
theorem said14x18 : Said C (.call e14x18.f e14x18.args e14x18.H) (.val e14x18.v e14x18.H2) := checkO_said ok TabOK.nil (n := 1000) (by kernel_rfl)
theorem said14x19 : Said C (.call e14x19.f e14x19.args e14x19.H) (.val e14x19.v e14x19.H2) := checkO_said ok TabOK.nil (n := 1000) (by kernel_rfl)
theorem said14x20 : Said C (.call e14x20.f e14x20.args e14x20.H) (.val e14x20.v e14x20.H2) := checkO_said ok TabOK.nil (n := 1000) (by kernel_rfl)
theorem said14x21 : Said C (.call e14x21.f e14x21.args e14x21.H) (.val e14x21.v e14x21.H2) := checkO_said ok TabOK.nil (n := 1000) (by kernel_rfl)
theorem said14x22 : Said C (.call e14x22.f e14x22.args e14x22.H) (.val e14x22.v e14x22.H2) := checkO_said ok TabOK.nil (n := 1000) (by kernel_rfl)
theorem said14x23 : Said C (.call e14x23.f e14x23.args e14x23.H) (.val e14x23.v e14x23.H2) := checkO_said ok TabOK.nil (n := 1000) (by kernel_rfl)
theorem said14x24 : Said C (.call e14x24.f e14x24.args e14x24.H) (.val e14x24.v e14x24.H2) := checkO_said ok TabOK.nil (n := 1000) (by kernel_rfl)
theorem said14x25 : Said C (.call e14x25.f e14x25.args e14x25.H) (.val e14x25.v e14x25.H2) := checkO_said ok TabOK.nil (n := 1000) (by kernel_rfl)
theorem said14x26 : Said C (.call e14x26.f e14x26.args e14x26.H) (.val e14x26.v e14x26.H2) := checkO_said ok TabOK.nil (n := 1000) (by kernel_rfl)
theorem said14x27 : Said C (.call e14x27.f e14x27.args e14x27.H) (.val e14x27.v e14x27.H2) := checkO_said ok TabOK.nil (n := 1000) (by kernel_rfl)
end Go.Proofs.Ytfnflkcjhefddaa.Ev
