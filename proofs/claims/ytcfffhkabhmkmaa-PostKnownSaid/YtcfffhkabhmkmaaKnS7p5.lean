/- Calls that the evaluator has carried out. -/
import Derived.Test.YtcfffhkabhmkmaaKnF
import Derived.Test.YtcfffhkabhmkmaaKnD7
namespace Go.Proofs.Ytcfffhkabhmkmaa.Ev
open Go Go.Abs
set_option maxRecDepth 100000
theorem said7x10 : Said C (.call e7x10.f e7x10.args e7x10.H) (.val e7x10.v e7x10.H2) := checkO_said ok TabOK.nil (n := 1000) (by kernel_rfl)
theorem said7x11 : Said C (.call e7x11.f e7x11.args e7x11.H) (.val e7x11.v e7x11.H2) := checkO_said ok TabOK.nil (n := 1000) (by kernel_rfl)
theorem said7x12 : Said C (.call e7x12.f e7x12.args e7x12.H) (.val e7x12.v e7x12.H2) := checkO_said ok TabOK.nil (n := 1000) (by kernel_rfl)
theorem said7x13 : Said C (.call e7x13.f e7x13.args e7x13.H) (.val e7x13.v e7x13.H2) := checkO_said ok TabOK.nil (n := 1000) (by kernel_rfl)
theorem said7x14 : Said C (.call e7x14.f e7x14.args e7x14.H) (.val e7x14.v e7x14.H2) := checkO_said ok TabOK.nil (n := 1000) (by kernel_rfl)
theorem said7x15 : Said C (.call e7x15.f e7x15.args e7x15.H) (.val e7x15.v e7x15.H2) := checkO_said ok TabOK.nil (n := 1000) (by kernel_rfl)
theorem said7x16 : Said C (.call e7x16.f e7x16.args e7x16.H) (.val e7x16.v e7x16.H2) := checkO_said ok TabOK.nil (n := 1000) (by kernel_rfl)
theorem said7x17 : Said C (.call e7x17.f e7x17.args e7x17.H) (.val e7x17.v e7x17.H2) := checkO_said ok TabOK.nil (n := 1000) (by kernel_rfl)
end Go.Proofs.Ytcfffhkabhmkmaa.Ev
