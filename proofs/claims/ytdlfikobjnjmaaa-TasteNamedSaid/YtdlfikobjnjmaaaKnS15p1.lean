/- Calls that the evaluator has carried out. -/
import Derived.Test.YtdlfikobjnjmaaaKnF
import Derived.Test.YtdlfikobjnjmaaaKnD15
namespace Go.Proofs.Ytdlfikobjnjmaaa.Ev
open Go Go.Abs
set_option maxRecDepth 100000
theorem said15x10 : Said C (.call e15x10.f e15x10.args e15x10.H) (.val e15x10.v e15x10.H2) := checkO_said ok TabOK.nil (n := 1000) (by kernel_rfl)
theorem said15x11 : Said C (.call e15x11.f e15x11.args e15x11.H) (.val e15x11.v e15x11.H2) := checkO_said ok TabOK.nil (n := 1000) (by kernel_rfl)
theorem said15x12 : Said C (.call e15x12.f e15x12.args e15x12.H) (.val e15x12.v e15x12.H2) := checkO_said ok TabOK.nil (n := 1000) (by kernel_rfl)
theorem said15x13 : Said C (.call e15x13.f e15x13.args e15x13.H) (.val e15x13.v e15x13.H2) := checkO_said ok TabOK.nil (n := 1000) (by kernel_rfl)
theorem said15x14 : Said C (.call e15x14.f e15x14.args e15x14.H) (.val e15x14.v e15x14.H2) := checkO_said ok TabOK.nil (n := 1000) (by kernel_rfl)
theorem said15x15 : Said C (.call e15x15.f e15x15.args e15x15.H) (.val e15x15.v e15x15.H2) := checkO_said ok TabOK.nil (n := 1000) (by kernel_rfl)
theorem said15x16 : Said C (.call e15x16.f e15x16.args e15x16.H) (.val e15x16.v e15x16.H2) := checkO_said ok TabOK.nil (n := 1000) (by kernel_rfl)
theorem said15x17 : Said C (.call e15x17.f e15x17.args e15x17.H) (.val e15x17.v e15x17.H2) := checkO_said ok TabOK.nil (n := 1000) (by kernel_rfl)
theorem said15x18 : Said C (.call e15x18.f e15x18.args e15x18.H) (.val e15x18.v e15x18.H2) := checkO_said ok TabOK.nil (n := 1000) (by kernel_rfl)
theorem said15x19 : Said C (.call e15x19.f e15x19.args e15x19.H) (.val e15x19.v e15x19.H2) := checkO_said ok TabOK.nil (n := 1000) (by kernel_rfl)
end Go.Proofs.Ytdlfikobjnjmaaa.Ev
