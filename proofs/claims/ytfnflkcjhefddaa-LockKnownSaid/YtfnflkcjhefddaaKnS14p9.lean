/- Calls that the evaluator has carried out. -/
import Derived.Test.YtfnflkcjhefddaaKnF
import Derived.Test.YtfnflkcjhefddaaKnD14
namespace Go.Proofs.Ytfnflkcjhefddaa.Ev
open Go Go.Abs
set_option maxRecDepth 100000
theorem said14x95 : Said C (.call e14x95.f e14x95.args e14x95.H) (.val e14x95.v e14x95.H2) := checkO_said ok TabOK.nil (n := 1000) (by kernel_rfl)
theorem said14x96 : Said C (.call e14x96.f e14x96.args e14x96.H) (.val e14x96.v e14x96.H2) := checkO_said ok TabOK.nil (n := 1000) (by kernel_rfl)
theorem said14x97 : Said C (.call e14x97.f e14x97.args e14x97.H) (.val e14x97.v e14x97.H2) := checkO_said ok TabOK.nil (n := 1000) (by kernel_rfl)
theorem said14x98 : Said C (.call e14x98.f e14x98.args e14x98.H) (.val e14x98.v e14x98.H2) := checkO_said ok TabOK.nil (n := 1000) (by kernel_rfl)
theorem said14x99 : Said C (.call e14x99.f e14x99.args e14x99.H) (.val e14x99.v e14x99.H2) := checkO_said ok TabOK.nil (n := 1000) (by kernel_rfl)
theorem said14x100 : Said C (.call e14x100.f e14x100.args e14x100.H) (.val e14x100.v e14x100.H2) := checkO_said ok TabOK.nil (n := 1000) (by kernel_rfl)
theorem said14x101 : Said C (.call e14x101.f e14x101.args e14x101.H) (.val e14x101.v e14x101.H2) := checkO_said ok TabOK.nil (n := 1000) (by kernel_rfl)
theorem said14x102 : Said C (.call e14x102.f e14x102.args e14x102.H) (.val e14x102.v e14x102.H2) := checkO_said ok TabOK.nil (n := 1000) (by kernel_rfl)
theorem said14x103 : Said C (.call e14x103.f e14x103.args e14x103.H) (.val e14x103.v e14x103.H2) := checkO_said ok TabOK.nil (n := 1000) (by kernel_rfl)
end Go.Proofs.Ytfnflkcjhefddaa.Ev
