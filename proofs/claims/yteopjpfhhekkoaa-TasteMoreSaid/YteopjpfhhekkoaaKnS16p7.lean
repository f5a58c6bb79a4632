/- Calls that the evaluator has carried out. -/
import Derived.Test.YteopjpfhhekkoaaKnF
import Derived.Test.YteopjpfhhekkoaaKnD16
namespace Go.Proofs.Yteopjpfhhekkoaa.Ev
open Go Go.Abs
set_option maxRecDepth 100000
theorem said16x42 : Said C (.call e16x42.f e16x42.args e16x42.H) (.val e16x42.v e16x42.H2) := checkO_said ok TabOK.nil (n := 1000) (by kernel_rfl)
theorem said16x43 : Said C (.call e16x43.f e16x43.args e16x43.H) (.val e16x43.v e16x43.H2) := checkO_said ok TabOK.nil (n := 1000) (by kernel_rfl)
theorem said16x44 : Said C (.call e16x44.f e16x44.args e16x44.H) (.val e16x44.v e16x44.H2) := checkO_said ok TabOK.nil (n := 1000) (by kernel_rfl)
theorem said16x45 : Said C (.call e16x45.f e16x45.args e16x45.H) (.val e16x45.v e16x45.H2) := checkO_said ok TabOK.nil (n := 1000) (by kernel_rfl)
theorem said16x46 : Said C (.call e16x46.f e16x46.args e16x46.H) (.val e16x46.v e16x46.H2) := checkO_said ok TabOK.nil (n := 1000) (by kernel_rfl)
theorem said16x47 : Said C (.call e16x47.f e16x47.args e16x47.H) (.val e16x47.v e16x47.H2) := checkO_said ok TabOK.nil (n := 1000) (by kernel_rfl)
end Go.Proofs.Yteopjpfhhekkoaa.Ev
