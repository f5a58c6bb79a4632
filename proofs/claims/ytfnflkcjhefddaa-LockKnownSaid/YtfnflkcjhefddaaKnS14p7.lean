/- Calls that the evaluator has carried out. -/
import Derived.Test.YtfnflkcjhefddaaKnF
import Derived.Test.YtfnflkcjhefddaaKnD14
namespace Go.Proofs.Ytfnflkcjhefddaa.Ev
open Go Go.Abs
set_option maxRecDepth 100000
theorem said14x76 : Said C (.call e14x76.f e14x76.args e14x76.H) (.val e14x76.v e14x76.H2) := checkO_said ok TabOK.nil (n := 1000) (by kernel_rfl)
theorem said14x77 : Said C (.call e14x77.f e14x77.args e14x77.H) (.val e14x77.v e14x77.H2) := checkO_said ok TabOK.nil (n := 1000) (by kernel_rfl)
theorem said14x78 : Said C (.call e14x78.f e14x78.args e14x78.H) (.val e14x78.v e14x78.H2) := checkO_said ok TabOK.nil (n := 1000) (by kernel_rfl)
theorem said14x79 : Said C (.call e14x79.f e14x79.args e14x79.H) (.val e14x79.v e14x79.H2) := checkO_said ok TabOK.nil (n := 1000) (by kernel_rfl)
theorem said14x80 : Said C (.call e14x80.f e14x80.args e14x80.H) (.val e14x80.v e14x80.H2) := checkO_said ok TabOK.nil (n := 1000) (by kernel_rfl)
theorem said14x81 : Said C (.call e14x81.f e14x81.args e14x81.H) (.val e14x81.v e14x81.H2) := checkO_said ok TabOK.nil (n := 1000) (by kernel_rfl)
theorem said14x82 : Said C (.call e14x82.f e14x82.args e14x82.H) (.val e14x82.v e14x82.H2) := checkO_said ok TabOK.nil (n := 1000) (by kernel_rfl)
theorem said14x83 : Said C (.call e14x83.f e14x83.args e14x83.H) (.val e14x83.v e14x83.H2) := checkO_said ok TabOK.nil (n := 1000) (by kernel_rfl)
end Go.Proofs.Ytfnflkcjhefddaa.Ev
