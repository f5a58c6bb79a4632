/- Calls that the evaluator has carried out. -/
import Derived.Test.YtfnflkcjhefddaaKnF
import Derived.Test.YtfnflkcjhefddaaKnD14
namespace Go.Proofs.Ytfnflkcjhefddaa.Ev
open Go Go.Abs
set_option maxRecDepth 100000
theorem said14x37 : Said C (.call e14x37.f e14x37.args e14x37.H) (.val e14x37.v e14x37.H2) := checkO_said ok TabOK.nil (n := 1000) (by kernel_rfl)
theorem said14x38 : Said C (.call e14x38.f e14x38.args e14x38.H) (.val e14x38.v e14x38.H2) := checkO_said ok TabOK.nil (n := 1000) (by kernel_rfl)
theorem said14x39 : Said C (.call e14x39.f e14x39.args e14x39.H) (.val e14x39.v e14x39.H2) := checkO_said ok TabOK.nil (n := 1000) (by kernel_rfl)
theorem said14x40 : Said C (.call e14x40.f e14x40.args e14x40.H) (.val e14x40.v e14x40.H2) := checkO_said ok TabOK.nil (n := 1000) (by kernel_rfl)
theorem said14x42 : Said C (.call e14x42.f e14x42.args e14x42.H) (.val e14x42.v e14x42.H2) := checkO_said ok TabOK.nil (n := 1000) (by kernel_rfl)
theorem said14x43 : Said C (.call e14x43.f e14x43.args e14x43.H) (.val e14x43.v e14x43.H2) := checkO_said ok TabOK.nil (n := 1000) (by kernel_rfl)
theorem said14x44 : Said C (.call e14x44.f e14x44.args e14x44.H) (.val e14x44.v e14x44.H2) := checkO_said ok TabOK.nil (n := 1000) (by kernel_rfl)
theorem said14x45 : Said C (.call e14x45.f e14x45.args e14x45.H) (.val e14x45.v e14x45.H2) := checkO_said ok TabOK.nil (n := 1000) (by kernel_rfl)
theorem said14x46 : Said C (.call e14x46.f e14x46.args e14x46.H) (.val e14x46.v e14x46.H2) := checkO_said ok TabOK.nil (n := 1000) (by kernel_rfl)
theorem said14x47 : Said C (.call e14x47.f e14x47.args e14x47.H) (.val e14x47.v e14x47.H2) := checkO_said ok TabOK.nil (n := 1000) (by kernel_rfl)
theorem said14x48 : Said C (.call e14x48.f e14x48.args e14x48.H) (.val e14x48.v e14x48.H2) := checkO_said ok TabOK.nil (n := 1000) (by kernel_rfl)
end Go.Proofs.Ytfnflkcjhefddaa.Ev
