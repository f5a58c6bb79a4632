/- Calls that the evaluator has carried out. -/
import Derived.Test.YtcfffhkabhmkmaaDoorKnF
import Derived.Test.YtcfffhkabhmkmaaDoorKnD19
namespace Go.Proofs.YtcfffhkabhmkmaaDoor.Ev
open Go Go.Abs
set_option maxRecDepth 100000
theorem said19x7 : Said C (.call e19x7.f e19x7.args e19x7.H) (.val e19x7.v e19x7.H2) := checkO_said ok TabOK.nil (n := 1000) (by kernel_rfl)
theorem said19x8 : Said C (.call e19x8.f e19x8.args e19x8.H) (.val e19x8.v e19x8.H2) := checkO_said ok TabOK.nil (n := 1000) (by kernel_rfl)
theorem said19x9 : Said C (.call e19x9.f e19x9.args e19x9.H) (.val e19x9.v e19x9.H2) := checkO_said ok TabOK.nil (n := 1000) (by kernel_rfl)
theorem said19x10 : Said C (.call e19x10.f e19x10.args e19x10.H) (.val e19x10.v e19x10.H2) := checkO_said ok TabOK.nil (n := 1000) (by kernel_rfl)
theorem said19x11 : Said C (.call e19x11.f e19x11.args e19x11.H) (.val e19x11.v e19x11.H2) := checkO_said ok TabOK.nil (n := 1000) (by kernel_rfl)
theorem said19x12 : Said C (.call e19x12.f e19x12.args e19x12.H) (.val e19x12.v e19x12.H2) := checkO_said ok TabOK.nil (n := 1000) (by kernel_rfl)
theorem said19x13 : Said C (.call e19x13.f e19x13.args e19x13.H) (.val e19x13.v e19x13.H2) := checkO_said ok TabOK.nil (n := 1000) (by kernel_rfl)
end Go.Proofs.YtcfffhkabhmkmaaDoor.Ev
