/- Calls that the evaluator has carried out. -/
import Derived.Test.YtfnflkcjhefddaaKnF
import Derived.Test.YtfnflkcjhefddaaKnD15
namespace Go.Proofs.Ytfnflkcjhefddaa.Ev
open Go Go.Abs
set_option maxRecDepth 100000
theorem said15x34 : Said C (.call e15x34.f e15x34.args e15x34.H) (.val e15x34.v e15x34.H2) := checkO_said ok TabOK.nil (n := 1000) (by kernel_rfl)
theorem said15x35 : Said C (.call e15x35.f e15x35.args e15x35.H) (.val e15x35.v e15x35.H2) := checkO_said ok TabOK.nil (n := 1000) (by kernel_rfl)
theorem said15x36 : Said C (.call e15x36.f e15x36.args e15x36.H) (.val e15x36.v e15x36.H2) := checkO_said ok TabOK.nil (n := 1000) (by kernel_rfl)
theorem said15x37 : Said C (.call e15x37.f e15x37.args e15x37.H) (.val e15x37.v e15x37.H2) := checkO_said ok TabOK.nil (n := 1000) (by kernel_rfl)
theorem said15x39 : Said C (.call e15x39.f e15x39.args e15x39.H) (.val e15x39.v e15x39.H2) := checkO_said ok TabOK.nil (n := 1000) (by kernel_rfl)
theorem said15x40 : Said C (.call e15x40.f e15x40.args e15x40.H) (.val e15x40.v e15x40.H2) := checkO_said ok TabOK.nil (n := 1000) (by kernel_rfl)
theorem said15x41 : Said C (.call e15x41.f e15x41.args e15x41.H) (.val e15x41.v e15x41.H2) := checkO_said ok TabOK.nil (n := 1000) (by kernel_rfl)
theorem said15x42 : Said C (.call e15x42.f e15x42.args e15x42.H) (.val e15x42.v e15x42.H2) := checkO_said ok TabOK.nil (n := 1000) (by kernel_rfl)
theorem said15x43 : Said C (.call e15x43.f e15x43.args e15x43.H) (.val e15x43.v e15x43.H2) := checkO_said ok TabOK.nil (n := 1000) (by kernel_rfl)
theorem said15x44 : Said C (.call e15x44.f e15x44.args e15x44.H) (.val e15x44.v e15x44.H2) := checkO_said ok TabOK.nil (n := 1000) (by kernel_rfl)
theorem said15x45 : Said C (.call e15x45.f e15x45.args e15x45.H) (.val e15x45.v e15x45.H2) := checkO_said ok TabOK.nil (n := 1000) (by kernel_rfl)
end Go.Proofs.Ytfnflkcjhefddaa.Ev
