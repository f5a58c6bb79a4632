/- Calls that the evaluator has carried out. -/
import Derived.Test.YtfnflkcjhefddaaKnF
import Derived.Test.YtfnflkcjhefddaaKnD14
namespace Go.Proofs.Ytfnflkcjhefddaa.Ev
open Go Go.Abs
set_option maxRecDepth 100000
theorem said14x49 : Said C (.call e14x49.f e14x49.args e14x49.H) (.val e14x49.v e14x49.H2) := checkO_said ok TabOK.nil (n := 1000) (by kernel_rfl)
theorem said14x50 : Said C (.call e14x50.f e14x50.args e14x50.H) (.val e14x50.v e14x50.H2) := checkO_said ok TabOK.nil (n := 1000) (by kernel_rfl)
theorem said14x51 : Said C (.call e14x51.f e14x51.args e14x51.H) (.val e14x51.v e14x51.H2) := checkO_said ok TabOK.nil (n := 1000) (by kernel_rfl)
theorem said14x52 : Said C (.call e14x52.f e14x52.args e14x52.H) (.val e14x52.v e14x52.H2) := checkO_said ok TabOK.nil (n := 1000) (by kernel_rfl)
theorem said14x53 : Said C (.call e14x53.f e14x53.args e14x53.H) (.val e14x53.v e14x53.H2) := checkO_said ok TabOK.nil (n := 1000) (by kernel_rfl)
theorem said14x54 : Said C (.call e14x54.f e14x54.args e14x54.H) (.val e14x54.v e14x54.H2) := checkO_said ok TabOK.nil (n := 1000) (by kernel_rfl)
theorem said14x55 : Said C (.call e14x55.f e14x55.args e14x55.H) (.val e14x55.v e14x55.H2) := checkO_said ok TabOK.nil (n := 1000) (by kernel_rfl)
theorem said14x56 : Said C (.call e14x56.f e14x56.args e14x56.H) (.val e14x56.v e14x56.H2) := checkO_said ok TabOK.nil (n := 1000) (by kernel_rfl)
end Go.Proofs.Ytfnflkcjhefddaa.Ev
