/- Calls that the evaluator has carried out. -/
import Derived.Test.YtdlfikobjnjmaaaKnF
import Derived.Test.YtdlfikobjnjmaaaKnD15
namespace Go.Proofs.Ytdlfikobjnjmaaa.Ev
open Go Go.Abs
set_option maxRecDepth 100000
theorem said15x0 : Said C (.call e15x0.f e15x0.args e15x0.H) (.val e15x0.v e15x0.H2) := checkO_said ok TabOK.nil (n := 1000) (by kernel_rfl)
theorem said15x1 : Said C (.call e15x1.f e15x1.args e15x1.H) (.val e15x1.v e15x1.H2) := checkO_said ok TabOK.nil (n := 1000) (by kernel_rfl)
theorem said15x2 : Said C (.call e15x2.f e15x2.args e15x2.H) (.val e15x2.v e15x2.H2) := checkO_said ok TabOK.nil (n := 1000) (by kernel_rfl)
theorem said15x3 : Said C (.call e15x3.f e15x3.args e15x3.H) (.val e15x3.v e15x3.H2) := checkO_said ok TabOK.nil (n := 1000) (by kernel_rfl)
theorem said15x4 : Said C (.call e15x4.f e15x4.args e15x4.H) (.val e15x4.v e15x4.H2) := checkO_said ok TabOK.nil (n := 1000) (by kernel_rfl)
theorem said15x5 : Said C (.call e15x5.f e15x5.args e15x5.H) (.val e15x5.v e15x5.H2) := checkO_said ok TabOK.nil (n := 1000) (by kernel_rfl)
theorem said15x6 : Said C (.call e15x6.f e15x6.args e15x6.H) (.val e15x6.v e15x6.H2) := checkO_said ok TabOK.nil (n := 1000) (by kernel_rfl)
theorem said15x7 : Said C (.call e15x7.f e15x7.args e15x7.H) (.val e15x7.v e15x7.H2) := checkO_said ok TabOK.nil (n := 1000) (by kernel_rfl)
theorem said15x8 : Said C (.call e15x8.f e15x8.args e15x8.H) (.val e15x8.v e15x8.H2) := checkO_said ok TabOK.nil (n := 1000) (by kernel_rfl)
theorem said15x9 : Said C (.call e15x9.f e15x9.args e15x9.H) (.val e15x9.v e15x9.H2) := checkO_said ok TabOK.nil (n := 1000) (by kernel_rfl)
end Go.Proofs.Ytdlfikobjnjmaaa.Ev
