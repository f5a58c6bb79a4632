/- Calls that the evaluator has carried out. -/
import Derived.Test.YtpjmobhhejdhbaaDoorKnF
import Derived.Test.YtpjmobhhejdhbaaDoorKnD15
import Derived.Test.YtpjmobhhejdhbaaDoorKnO
namespace Go.Proofs.YtpjmobhhejdhbaaDoor.Ev
open Go Go.Abs
set_option maxRecDepth 100000
set_option linter.unusedSectionVars false
variable [HG]
theorem said15x34 : Said C (.call e15x34.f e15x34.args e15x34.H) (.val e15x34.v e15x34.H2) := checkO_said ok TabOK.nil (n := 1000) (by kernel_rfl)
theorem said15x35 : Said C (.call e15x35.f e15x35.args e15x35.H) (.val e15x35.v e15x35.H2) := checkO_said ok TabOK.nil (n := 1000) (by kernel_rfl)
theorem said15x36 : Said C (.call e15x36.f e15x36.args e15x36.H) (.val e15x36.v e15x36.H2) := checkO_said ok TabOK.nil (n := 1000) (by kernel_rfl)
theorem said15x37 : Said C (.call e15x37.f e15x37.args e15x37.H) (.val e15x37.v e15x37.H2) := checkO_said ok TabOK.nil (n := 1000) (by kernel_rfl)
theorem said15x38 : Said C (.call e15x38.f e15x38.args e15x38.H) (.val e15x38.v e15x38.H2) := checkO_said ok TabOK.nil (n := 1000) (by kernel_rfl)
theorem said15x39 : Said C (.call e15x39.f e15x39.args e15x39.H) (.val e15x39.v e15x39.H2) := checkO_said ok TabOK.nil (n := 1000) (by kernel_rfl)
end Go.Proofs.YtpjmobhhejdhbaaDoor.Ev
