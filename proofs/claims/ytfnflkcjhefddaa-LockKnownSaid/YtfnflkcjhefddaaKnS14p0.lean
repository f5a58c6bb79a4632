/- Calls that the evaluator has carried out. -/
import Derived.Test.YtfnflkcjhefddaaKnF
import Derived.Test.YtfnflkcjhefddaaKnD14
namespace Go.Proofs.Ytfnflkcjhefddaa.Ev
open Go Go.Abs
set_option maxRecDepth 100000
theorem said14x0 : Said C (.call e14x0.f e14x0.args e14x0.H) (.val e14x0.v e14x0.H2) := checkO_said ok TabOK.nil (n := 1000) (by kernel_rfl)
theorem said14x1 : Said C (.call e14x1.f e14x1.args e14x1.H) (.val e14x1.v e14x1.H2) := checkO_said ok TabOK.nil (n := 1000) (by kernel_rfl)
theorem said14x2 : Said C (.call e14x2.f e14x2.args e14x2.H) (.val e14x2.v e14x2.H2) := checkO_said ok TabOK.nil (n := 1000) (by kernel_rfl)
theorem said14x3 : Said C (.call e14x3.f e14x3.args e14x3.H) (.val e14x3.v e14x3.H2) := checkO_said ok TabOK.nil (n := 1000) (by kernel_rfl)
theorem said14x4 : Said C (.call e14x4.f e14x4.args e14x4.H) (.val e14x4.v e14x4.H2) := checkO_said ok TabOK.nil (n := 1000) (by kernel_rfl)
theorem said14x5 : Said C (.call e14x5.f e14x5.args e14x5.H) (.val e14x5.v e14x5.H2) := checkO_said ok TabOK.nil (n := 1000) (by kernel_rfl)
theorem said14x6 : Said C (.call e14x6.f e14x6.args e14x6.H) (.val e14x6.v e14x6.H2) := checkO_said ok TabOK.nil (n := 1000) (by kernel_rfl)
theorem said14x7 : Said C (.call e14x7.f e14x7.args e14x7.H) (.val e14x7.v e14x7.H2) := checkO_said ok TabOK.nil (n := 1000) (by kernel_rfl)
theorem said14x8 : Said C (.call e14x8.f e14x8.args e14x8.H) (.val e14x8.v e14x8.H2) := checkO_said ok TabOK.nil (n := 1000) (by kernel_rfl)
theorem said14x9 : Said C (.call e14x9.f e14x9.args e14x9.H) (.val e14x9.v e14x9.H2) := checkO_said ok TabOK.nil (n := 1000) (by kernel_rfl)
theorem said14x10 : Said C (.call e14x10.f e14x10.args e14x10.H) (.val e14x10.v e14x10.H2) := checkO_said ok TabOK.nil (n := 1000) (by kernel_rfl)
theorem said14x11 : Said C (.call e14x11.f e14x11.args e14x11.H) (.val e14x11.v e14x11.H2) := checkO_said ok TabOK.nil (n := 1000) (by kernel_rfl)
theorem said14x12 : Said C (.call e14x12.f e14x12.args e14x12.H) (.val e14x12.v e14x12.H2) := checkO_said ok TabOK.nil (n := 1000) (by kernel_rfl)
theorem said14x13 : Said C (.call e14x13.f e14x13.args e14x13.H) (.val e14x13.v e14x13.H2) := checkO_said ok TabOK.nil (n := 1000) (by kernel_rfl)
theorem said14x14 : Said C (.call e14x14.f e14x14.args e14x14.H) (.val e14x14.v e14x14.H2) := checkO_said ok TabOK.nil (n := 1000) (by kernel_rfl)
theorem said14x15 : Said C (.call e14x15.f e14x15.args e14x15.H) (.val e14x15.v e14x15.H2) := checkO_said ok TabOK.nil (n := 1000) (by kernel_rfl)
theorem said14x16 : Said C (.call e14x16.f e14x16.args e14x16.H) (.val e14x16.v e14x16.H2) := checkO_said ok TabOK.nil (n := 1000) (by kernel_rfl)
theorem said14x17 : Said C (.call e14x17.f e14x17.args e14x17.H) (.val e14x17.v e14x17.H2) := checkO_said ok TabOK.nil (n := 1000) (by kernel_rfl)
end Go.Proofs.Ytfnflkcjhefddaa.Ev
