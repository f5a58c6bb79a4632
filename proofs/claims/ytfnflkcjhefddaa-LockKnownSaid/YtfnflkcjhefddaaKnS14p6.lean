/- Calls that the evaluator has carried out. -/
import Derived.Test.YtfnflkcjhefddaaKnF
import Derived.Test.YtfnflkcjhefddaaKnD14
namespace Go.Proofs.Ytfnflkcjhefddaa.Ev
open Go Go.Abs
set_option maxRecDepth 100000
theorem said14x65 : Said C (.call e14x65.f e14x65.args e14x65.H) (.val e14x65.v e14x65.H2) := checkO_said ok TabOK.nil (n := 1000) (by kernel_rfl)
theorem said14x67 : Said C (.call e14x67.f e14x67.args e14x67.H) (.val e14x67.v e14x67.H2) := checkO_said ok TabOK.nil (n := 1000) (by kernel_rfl)
theorem said14x68 : Said C (.call e14x68.f e14x68.args e14x68.H) (.val e14x68.v e14x68.H2) := checkO_said ok TabOK.nil (n := 1000) (by kernel_rfl)
theorem said14x69 : Said C (.call e14x69.f e14x69.args e14x69.H) (.val e14x69.v e14x69.H2) := checkO_said ok TabOK.nil (n := 1000) (by kernel_rfl)
theorem said14x70 : Said C (.call e14x70.f e14x70.args e14x70.H) (.val e14x70.v e14x70.H2) := checkO_said ok TabOK.nil (n := 1000) (by kernel_rfl)
theorem said14x71 : Said C (.call e14x71.f e14x71.args e14x71.H) (.val e14x71.v e14x71.H2) := checkO_said ok TabOK.nil (n := 1000) (by kernel_rfl)
theorem said14x72 : Said C (.call e14x72.f e14x72.args e14x72.H) (.val e14x72.v e14x72.H2) := checkO_said ok TabOK.nil (n := 1000) (by kernel_rfl)
theorem said14x73 : Said C (.call e14x73.f e14x73.args e14x73.H) (.val e14x73.v e14x73.H2) := checkO_said ok TabOK.nil (n := 1000) (by kernel_rfl)
theorem said14x74 : Said C (.call e14x74.f e14x74.args e14x74.H) (.val e14x74.v e14x74.H2) := checkO_said ok TabOK.nil (n := 1000) (by kernel_rfl)
theorem said14x75 : Said C (.call e14x75.f e14x75.args e14x75.H) (.val e14x75.v e14x75.H2) := checkO_said ok TabOK.nil (n := 1000) (by kernel_rfl)
end Go.Proofs.Ytfnflkcjhefddaa.Ev
