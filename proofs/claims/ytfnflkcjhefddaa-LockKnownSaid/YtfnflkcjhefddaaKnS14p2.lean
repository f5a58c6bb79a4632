/- Calls that the evaluator has carried out. -/
import Derived.Test.YtfnflkcjhefddaaKnF
import Derived.Test.YtfnflkcjhefddaaKnD14
namespace Go.Proofs.Ytfnflkcjhefddaa.Ev
open Go Go.Abs
set_option maxRecDepth 100000
theorem said14x28 : Said C (.call e14x28.f e14x28.args e14x28.H) (.val e14x28.v e14x28.H2) := checkO_said ok TabOK.nil (n := 1000) (by kernel_rfl)
theorem said14x29 : Said C (.call e14x29.f e14x29.args e14x29.H) (.val e14x29.v e14x29.H2) := checkO_said ok TabOK.nil (n := 1000) (by kernel_rfl)
theorem said14x30 : Said C (.call e14x30.f e14x30.args e14x30.H) (.val e14x30.v e14x30.H2) := checkO_said ok TabOK.nil (n := 1000) (by kernel_rfl)
theorem said14x31 : Said C (.call e14x31.f e14x31.args e14x31.H) (.val e14x31.v e14x31.H2) := checkO_said ok TabOK.nil (n := 1000) (by kernel_rfl)
theorem said14x32 : Said C (.call e14x32.f e14x32.args e14x32.H) (.val e14x32.v e14x32.H2) := checkO_said ok TabOK.nil (n := 1000) (by kernel_rfl)
theorem said14x33 : Said C (.call e14x33.f e14x33.args e14x33.H) (.val e14x33.v e14x33.H2) := checkO_said ok TabOK.nil (n := 1000) (by kernel_rfl)
theorem said14x34 : Said C (.call e14x34.f e14x34.args e14x34.H) (.val e14x34.v e14x34.H2) := checkO_said ok TabOK.nil (n := 1000) (by kernel_rfl)
theorem said14x35 : Said C (.call e14x35.f e14x35.args e14x35.H) (.val e14x35.v e14x35.H2) := checkO_said ok TabOK.nil (n := 1000) (by kernel_rfl)
theorem said14x36 : Said C (.call e14x36.f e14x36.args e14x36.H) (.val e14x36.v e14x36.H2) := checkO_said ok TabOK.nil (n := 1000) (by kernel_rfl)
end Go.Proofs.Ytfnflkcjhefddaa.Ev
