/- Calls that the evaluator has carried out. -/
import Derived.Test.YtdlfikobjnjmaaaKnF
import Derived.Test.YtdlfikobjnjmaaaKnD15
namespace Go.Proofs.Ytdlfikobjnjmaaa.Ev
open Go Go.Abs
set_option maxRecDepth 100000
theorem said15x40 : Said C (.call e15x40.f e15x40.args e15x40.H) (.val e15x40.v e15x40.H2) := checkO_said ok TabOK.nil (n := 1000) (by kernel_rfl)
theorem said15x41 : Said C (.call e15x41.f e15x41.args e15x41.H) (.val e15x41.v e15x41.H2) := checkO_said ok TabOK.nil (n := 1000) (by kernel_rfl)
theorem said15x42 : Said C (.call e15x42.f e15x42.args e15x42.H) (.val e15x42.v e15x42.H2) := checkO_said ok TabOK.nil (n := 1000) (by kernel_rfl)
theorem said15x43 : Said C (.call e15x43.f e15x43.args e15x43.H) (.val e15x43.v e15x43.H2) := checkO_said ok TabOK.nil (n := 1000) (by kernel_rfl)
theorem said15x44 : Said C (.call e15x44.f e15x44.args e15x44.H) (.val e15x44.v e15x44.H2) := checkO_said ok TabOK.nil (n := 1000) (by kernel_rfl)
theorem said15x45 : Said C (.call e15x45.f e15x45.args e15x45.H) (.val e15x45.v e15x45.H2) := checkO_said ok TabOK.nil (n := 1000) (by kernel_rfl)
theorem said15x46 : Said C (.call e15x46.f e15x46.args e15x46.H) (.val e15x46.v e15x46.H2) := checkO_said ok TabOK.nil (n := 1000) (by kernel_rfl)
theorem said15x47 : Said C (.call e15x47.f e15x47.args e15x47.H) (.val e15x47.v e15x47.H2) := checkO_said ok TabOK.nil (n := 1000) (by kernel_rfl)
theorem said15x48 : Said C (.call e15x48.f e15x48.args e15x48.H) (.val e15x48.v e15x48.H2) := checkO_said ok TabOK.nil (n := 1000) (by kernel_rfl)
theorem said15x49 : Said C (.call e15x49.f e15x49.args e15x49.H) (.val e15x49.v e15x49.H2) := checkO_said ok TabOK.nil (n := 1000) (by kernel_rfl)
end Go.Proofs.Ytdlfikobjnjmaaa.Ev
