/- Calls that the evaluator has carried out. -/
import Derived.Test.YtfnflkcjhefddaaKnF
import Derived.Test.YtfnflkcjhefddaaKnD14
namespace Go.Proofs.Ytfnflkcjhefddaa.Ev
open Go Go.Abs
set_option maxRecDepth 100000
theorem said14x57 : Said C (.call e14x57.f e14x57.args e14x57.H) (.val e14x57.v e14x57.H2) := checkO_said ok TabOK.nil (n := 1000) (by kernel_rfl)
theorem said14x58 : Said C (.call e14x58.f e14x58.args e14x58.H) (.val e14x58.v e14x58.H2) := checkO_said ok TabOK.nil (n := 1000) (by kernel_rfl)
theorem said14x59 : Said C (.call e14x59.f e14x59.args e14x59.H) (.val e14x59.v e14x59.H2) := checkO_said ok TabOK.nil (n := 1000) (by kernel_rfl)
theorem said14x60 : Said C (.call e14x60.f e14x60.args e14x60.H) (.val e14x60.v e14x60.H2) := checkO_said ok TabOK.nil (n := 1000) (by kernel_rfl)
theorem said14x61 : Said C (.call e14x61.f e14x61.args e14x61.H) (.val e14x61.v e14x61.H2) := checkO_said ok TabOK.nil (n := 1000) (by kernel_rfl)
theorem said14x62 : Said C (.call e14x62.f e14x62.args e14x62.H) (.val e14x62.v e14x62.H2) := checkO_said ok TabOK.nil (n := 1000) (by kernel_rfl)
theorem said14x63 : Said C (.call e14x63.f e14x63.args e14x63.H) (.val e14x63.v e14x63.H2) := checkO_said ok TabOK.nil (n := 1000) (by kernel_rfl)
theorem said14x64 : Said C (.call e14x64.f e14x64.args e14x64.H) (.val e14x64.v e14x64.H2) := checkO_said ok TabOK.nil (n := 1000) (by kernel_rfl)
end Go.Proofs.Ytfnflkcjhefddaa.Ev
