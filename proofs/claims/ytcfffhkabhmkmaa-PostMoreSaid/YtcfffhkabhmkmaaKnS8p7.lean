/- Calls that the evaluator has carried out. -/
import Derived.Test.YtcfffhkabhmkmaaKnF
import Derived.Test.YtcfffhkabhmkmaaKnD8
namespace Go.Proofs.Ytcfffhkabhmkmaa.Ev
open Go Go.Abs
set_option maxRecDepth 100000
theorem said8x7 : Said C (.call e8x7.f e8x7.args e8x7.H) (.val e8x7.v e8x7.H2) := checkO_said ok TabOK.nil (n := 1000) (by kernel_rfl)
theorem said8x8 : Said C (.call e8x8.f e8x8.args e8x8.H) (.val e8x8.v e8x8.H2) := checkO_said ok TabOK.nil (n := 1000) (by kernel_rfl)
theorem said8x9 : Said C (.call e8x9.f e8x9.args e8x9.H) (.val e8x9.v e8x9.H2) := checkO_said ok TabOK.nil (n := 1000) (by kernel_rfl)
theorem said8x10 : Said C (.call e8x10.f e8x10.args e8x10.H) (.val e8x10.v e8x10.H2) := checkO_said ok TabOK.nil (n := 1000) (by kernel_rfl)
theorem said8x11 : Said C (.call e8x11.f e8x11.args e8x11.H) (.val e8x11.v e8x11.H2) := checkO_said ok TabOK.nil (n := 1000) (by kernel_rfl)
theorem said8x12 : Said C (.call e8x12.f e8x12.args e8x12.H) (.val e8x12.v e8x12.H2) := checkO_said ok TabOK.nil (n := 1000) (by kernel_rfl)
theorem said8x13 : Said C (.call e8x13.f e8x13.args e8x13.H) (.val e8x13.v e8x13.H2) := checkO_said ok TabOK.nil (n := 1000) (by kernel_rfl)
end Go.Proofs.Ytcfffhkabhmkmaa.Ev
