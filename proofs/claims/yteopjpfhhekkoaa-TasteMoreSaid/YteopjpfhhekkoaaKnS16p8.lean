/- Calls that the evaluator has carried out. -/
import Derived.Test.YteopjpfhhekkoaaKnF
import Derived.Test.YteopjpfhhekkoaaKnD16
namespace Go.Proofs.Yteopjpfhhekkoaa.Ev
open Go Go.Abs
set_option maxRecDepth 100000
theorem said16x48 : Said C (.call e16x48.f e16x48.args e16x48.H) (.val e16x48.v e16x48.H2) := checkO_said ok TabOK.nil (n := 1000) (by kernel_rfl)
theorem said16x49 : Said C (.call e16x49.f e16x49.args e16x49.H) (.val e16x49.v e16x49.H2) := checkO_said ok TabOK.nil (n := 1000) (by kernel_rfl)
theorem said16x50 : Said C (.call e16x50.f e16x50.args e16x50.H) (.val e16x50.v e16x50.H2) := checkO_said ok TabOK.nil (n := 1000) (by kernel_rfl)
theorem said16x51 : Said C (.call e16x51.f e16x51.args e16x51.H) (.val e16x51.v e16x51.H2) := checkO_said ok TabOK.nil (n := 1000) (by kernel_rfl)
end Go.Proofs.Yteopjpfhhekkoaa.Ev
