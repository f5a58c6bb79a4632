/- Calls that the evaluator has carried out. -/
import Derived.Test.YtfnflkcjhefddaaKnF
import Derived.Test.YtfnflkcjhefddaaKnD15
namespace Go.Proofs.Ytfnflkcjhefddaa.Ev
open Go Go.Abs
set_option maxRecDepth 100000
theorem said15x25 : Said C (.call e15x25.f e15x25.args e15x25.H) (.val e15x25.v e15x25.H2) := checkO_said ok TabOK.nil (n := 1000) (by kernel_rfl)
theorem said15x26 : Said C (.call e15x26.f e15x26.args e15x26.H) (.val e15x26.v e15x26.H2) := checkO_said ok TabOK.nil (n := 1000) (by kernel_rfl)
theorem said15x27 : Said C (.call e15x27.f e15x27.args e15x27.H) (.val e15x27.v e15x27.H2) := checkO_said ok TabOK.nil (n := 1000) (by kernel_rfl)
theorem said15x28 : Said C (.call e15x28.f e15x28.args e15x28.H) (.val e15x28.v e15x28.H2) := checkO_said ok TabOK.nil (n := 1000) (by kernel_rfl)
theorem said15x29 : Said C (.call e15x29.f e15x29.args e15x29.H) (.val e15x29.v e15x29.H2) := checkO_said ok TabOK.nil (n := 1000) (by kernel_rfl)
theorem said15x30 : Said C (.call e15x30.f e15x30.args e15x30.H) (.val e15x30.v e15x30.H2) := checkO_said ok TabOK.nil (n := 1000) (by kernel_rfl)
theorem said15x31 : Said C (.call e15x31.f e15x31.args e15x31.H) (.val e15x31.v e15x31.H2) := checkO_said ok TabOK.nil (n := 1000) (by kernel_rfl)
theorem said15x32 : Said C (.call e15x32.f e15x32.args e15x32.H) (.val e15x32.v e15x32.H2) := checkO_said ok TabOK.nil (n := 1000) (by kernel_rfl)
theorem said15x33 : Said C (.call e15x33.f e15x33.args e15x33.H) (.val e15x33.v e15x33.H2) := checkO_said ok TabOK.nil (n := 1000) (by kernel_rfl)
end Go.Proofs.Ytfnflkcjhefddaa.Ev
