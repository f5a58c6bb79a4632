/- Calls that the evaluator has carried out. -/
import Derived.Test.YteopjpfhhekkoaaKnF
import Derived.Test.YteopjpfhhekkoaaKnD16
namespace Go.Proofs.Yteopjpfhhekkoaa.Ev
open Go Go.Abs
set_option maxRecDepth 100000
theorem said16x24 : Said C (.call e16x24.f e16x24.args e16x24.H) (.val e16x24.v e16x24.H2) := checkO_said ok TabOK.nil (n := 1000) (by kernel_rfl)
theorem said16x25 : Said C (.call e16x25.f e16x25.args e16x25.H) (.val e16x25.v e16x25.H2) := checkO_said ok TabOK.nil (n := 1000) (by kernel_rfl)
theorem said16x26 : Said C (.call e16x26.f e16x26.args e16x26.H) (.val e16x26.v e16x26.H2) := checkO_said ok TabOK.nil (n := 1000) (by kernel_rfl)
theorem said16x27 : Said C (.call e16x27.f e16x27.args e16x27.H) (.val e16x27.v e16x27.H2) := checkO_said ok TabOK.nil (n := 1000) (by kernel_rfl)
theorem said16x28 : Said C (.call e16x28.f e16x28.args e16x28.H) (.val e16x28.v e16x28.H2) := checkO_said ok TabOK.nil (n := 1000) (by kernel_rfl)
theorem said16x29 : Said C (.call e16x29.f e16x29.args e16x29.H) (.val e16x29.v e16x29.H2) := checkO_said ok TabOK.nil (n := 1000) (by kernel_rfl)
end Go.Proofs.Yteopjpfhhekkoaa.Ev
