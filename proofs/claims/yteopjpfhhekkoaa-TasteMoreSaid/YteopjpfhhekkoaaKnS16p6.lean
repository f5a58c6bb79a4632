/- Calls that the evaluator has carried out. -/
import Derived.Test.YteopjpfhhekkoaaKnF
import Derived.Test.YteopjpfhhekkoaaKnD16
namespace Go.Proofs.Yteopjpfhhekkoaa.Ev
open Go Go.Abs
set_option maxRecDepth 100000
theorem said16x36 : Said C (.call e16x36.f e16x36.args e16x36.H) (.val e16x36.v e16x36.H2) := checkO_said ok TabOK.nil (n := 1000) (by kernel_rfl)
theorem said16x37 : Said C (.call e16x37.f e16x37.args e16x37.H) (.val e16x37.v e16x37.H2) := checkO_said ok TabOK.nil (n := 1000) (by kernel_rfl)
theorem said16x38 : Said C (.call e16x38.f e16x38.args e16x38.H) (.val e16x38.v e16x38.H2) := checkO_said ok TabOK.nil (n := 1000) (by kernel_rfl)
theorem said16x39 : Said C (.call e16x39.f e16x39.args e16x39.H) (.val e16x39.v e16x39.H2) := checkO_said ok TabOK.nil (n := 1000) (by kernel_rfl)
theorem said16x40 : Said C (.call e16x40.f e16x40.args e16x40.H) (.val e16x40.v e16x40.H2) := checkO_said ok TabOK.nil (n := 1000) (by kernel_rfl)
theorem said16x41 : Said C (.call e16x41.f e16x41.args e16x41.H) (.val e16x41.v e16x41.H2) := checkO_said ok TabOK.nil (n := 1000) (by kernel_rfl)
end Go.Proofs.Yteopjpfhhekkoaa.Ev
