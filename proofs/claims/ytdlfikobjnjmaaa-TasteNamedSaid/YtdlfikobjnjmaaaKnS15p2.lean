/- Calls that the evaluator has carried out. -/
import Derived.Test.YtdlfikobjnjmaaaKnF
import Derived.Test.YtdlfikobjnjmaaaKnD15
namespace Go.Proofs.Ytdlfikobjnjmaaa.Ev
open Go Go.Abs
set_option maxRecDepth 100000
theorem said15x20 : Said C (.call e15x20.f e15x20.args e15x20.H) (.val e15x20.v e15x20.H2) := checkO_said ok TabOK.nil (n := 1000) (by kernel_rfl)
theorem said15x21 : Said C (.call e15x21.f e15x21.args e15x21.H) (.val e15x21.v e15x21.H2) := checkO_said ok TabOK.nil (n := 1000) (by kernel_rfl)
theorem said15x22 : Said C (.call e15x22.f e15x22.args e15x22.H) (.val e15x22.v e15x22.H2) := checkO_said ok TabOK.nil (n := 1000) (by kernel_rfl)
theorem said15x23 : Said C (.call e15x23.f e15x23.args e15x23.H) (.val e15x23.v e15x23.H2) := checkO_said ok TabOK.nil (n := 1000) (by kernel_rfl)
theorem said15x24 : Said C (.call e15x24.f e15x24.args e15x24.H) (.val e15x24.v e15x24.H2) := checkO_said ok TabOK.nil (n := 1000) (by kernel_rfl)
theorem said15x25 : Said C (.call e15x25.f e15x25.args e15x25.H) (.val e15x25.v e15x25.H2) := checkO_said ok TabOK.nil (n := 1000) (by kernel_rfl)
theorem said15x26 : Said C (.call e15x26.f e15x26.args e15x26.H) (.val e15x26.v e15x26.H2) := checkO_said ok TabOK.nil (n := 1000) (by kernel_rfl)
theorem said15x27 : Said C (.call e15x27.f e15x27.args e15x27.H) (.val e15x27.v e15x27.H2) := checkO_said ok TabOK.nil (n := 1000) (by kernel_rfl)
theorem said15x28 : Said C (.call e15x28.f e15x28.args e15x28.H) (.val e15x28.v e15x28.H2) := checkO_said ok TabOK.nil (n := 1000) (by kernel_rfl)
theorem said15x29 : Said C (.call e15x29.f e15x29.args e15x29.H) (.val e15x29.v e15x29.H2) := checkO_said ok TabOK.nil (n := 1000) (by kernel_rfl)
end Go.Proofs.Ytdlfikobjnjmaaa.Ev
