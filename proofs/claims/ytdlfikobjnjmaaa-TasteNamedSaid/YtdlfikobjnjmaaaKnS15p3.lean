/- Calls that the evaluator has carried out. -/
import Derived.Test.YtdlfikobjnjmaaaKnF
import Derived.Test.YtdlfikobjnjmaaaKnD15
namespace Go.Proofs.Ytdlfikobjnjmaaa.Ev
open Go Go.Abs
set_option maxRecDepth 100000
theorem said15x30 : Said C (.call e15x30.f e15x30.args e15x30.H) (.val e15x30.v e15x30.H2) := checkO_said ok TabOK.nil (n := 1000) (by kernel_rfl)
theorem said15x31 : Said C (.call e15x31.f e15x31.args e15x31.H) (.val e15x31.v e15x31.H2) := checkO_said ok TabOK.nil (n := 1000) (by kernel_rfl)
theorem said15x32 : Said C (.call e15x32.f e15x32.args e15x32.H) (.val e15x32.v e15x32.H2) := checkO_said ok TabOK.nil (n := 1000) (by kernel_rfl)
theorem said15x33 : Said C (.call e15x33.f e15x33.args e15x33.H) (.val e15x33.v e15x33.H2) := checkO_said ok TabOK.nil (n := 1000) (by kernel_rfl)
theorem said15x34 : Said C (.call e15x34.f e15x34.args e15x34.H) (.val e15x34.v e15x34.H2) := checkO_said ok TabOK.nil (n := 1000) (by kernel_rfl)
theorem said15x35 : Said C (.call e15x35.f e15x35.args e15x35.H) (.val e15x35.v e15x35.H2) := checkO_said ok TabOK.nil (n := 1000) (by kernel_rfl)
theorem said15x36 : Said C (.call e15x36.f e15x36.args e15x36.H) (.val e15x36.v e15x36.H2) := checkO_said ok TabOK.nil (n := 1000) (by kernel_rfl)
theorem said15x37 : Said C (.call e15x37.f e15x37.args e15x37.H) (.val e15x37.v e15x37.H2) := checkO_said ok TabOK.nil (n := 1000) (by kernel_rfl)
theorem said15x38 : Said C (.call e15x38.f e15x38.args e15x38.H) (.val e15x38.v e15x38.H2) := checkO_said ok TabOK.nil (n := 1000) (by kernel_rfl)
theorem said15x39 : Said C (.call e15x39.f e15x39.args e15x39.H) (.val e15x39.v e15x39.H2) := checkO_said ok TabOK.nil (n := 1000) (by kernel_rfl)
end Go.Proofs.Ytdlfikobjnjmaaa.Ev
