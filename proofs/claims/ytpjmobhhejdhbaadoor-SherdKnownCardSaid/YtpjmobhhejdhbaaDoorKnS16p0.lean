/- Calls that the evaluator has carried out. -/
import Derived.Test.YtpjmobhhejdhbaaDoorKnF
import Derived.Test.YtpjmobhhejdhbaaDoorKnD16
import Derived.Test.YtpjmobhhejdhbaaDoorKnO
namespace Go.Proofs.YtpjmobhhejdhbaaDoor.Ev
open Go Go.Abs
set_option maxRecDepth 100000
set_option linter.unusedSectionVars false
variable [HG]
theorem said16x0 : Said C (.call e16x0.f e16x0.args e16x0.H) (.val e16x0.v e16x0.H2) := checkO_said ok TabOK.nil (n := 1000) (by kernel_rfl)
theorem said16x1 : Said C (.call e16x1.f e16x1.args e16x1.H) (.val e16x1.v e16x1.H2) := checkO_said ok TabOK.nil (n := 1000) (by kernel_rfl)
theorem said16x2 : Said C (.call e16x2.f e16x2.args e16x2.H) (.val e16x2.v e16x2.H2) := checkO_said ok TabOK.nil (n := 1000) (by kernel_rfl)
theorem said16x3 : Said C (.call e16x3.f e16x3.args e16x3.H) (.val e16x3.v e16x3.H2) := checkO_said ok TabOK.nil (n := 1000) (by kernel_rfl)
theorem said16x4 : Said C (.call e16x4.f e16x4.args e16x4.H) (.val e16x4.v e16x4.H2) := checkO_said ok TabOK.nil (n := 1000) (by kernel_rfl)
theorem said16x5 : Said C (.call e16x5.f e16x5.args e16x5.H) (.val e16x5.v e16x5.H2) := checkO_said ok TabOK.nil (n := 1000) (by kernel_rfl)
theorem said16x6 : Said C (.call e16x6.f e16x6.args e16x6.H) (.val e16x6.v e16x6.H2) := checkO_said ok TabOK.nil (n := 1000) (by kernel_rfl)
theorem said16x7 : Said C (.call e16x7.f e16x7.args e16x7.H) (.val e16x7.v e16x7.H2) := checkO_said ok TabOK.nil (n := 1000) (by kernel_rfl)
theorem said16x8 : Said C (.call e16x8.f e16x8.args e16x8.H) (.val e16x8.v e16x8.H2) := checkO_said ok TabOK.nil (n := 1000) (by kernel_rfl)
theorem said16x9 : Said C (.call e16x9.f e16x9.args e16x9.H) (.val e16x9.v e16x9.H2) := checkO_said ok TabOK.nil (n := 1000) (by kernel_rfl)
theorem said16x10 : Said C (.call e16x10.f e16x10.args e16x10.H) (.val e16x10.v e16x10.H2) := checkO_said ok TabOK.nil (n := 1000) (by kernel_rfl)
theorem said16x11 : Said C (.call e16x11.f e16x11.args e16x11.H) (.val e16x11.v e16x11.H2) := checkO_said ok TabOK.nil (n := 1000) (by kernel_rfl)
end Go.Proofs.YtpjmobhhejdhbaaDoor.Ev
