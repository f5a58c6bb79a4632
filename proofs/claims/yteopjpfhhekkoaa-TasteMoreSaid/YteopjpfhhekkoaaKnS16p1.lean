/- Calls that the evaluator has carried out. -/
import Derived.Test.YteopjpfhhekkoaaKnF
import Derived.Test.YteopjpfhhekkoaaKnD16
namespace Go.Proofs.Yteopjpfhhekkoaa.Ev
open Go Go.Abs
set_option maxRecDepth 100000
theorem said16x6 : Said C (.call e16x6.f e16x6.args e16x6.H) (.val e16x6.v e16x6.H2) := checkO_said ok TabOK.nil (n := 1000) (by kernel_rfl)
theorem said16x7 : Said C (.call e16x7.f e16x7.args e16x7.H) (.val e16x7.v e16x7.H2) := checkO_said ok TabOK.nil (n := 1000) (by kernel_rfl)
theorem said16x8 : Said C (.call e16x8.f e16x8.args e16x8.H) (.val e16x8.v e16x8.H2) := checkO_said ok TabOK.nil (n := 1000) (by kernel_rfl)
theorem said16x9 : Said C (.call e16x9.f e16x9.args e16x9.H) (.val e16x9.v e16x9.H2) := checkO_said ok TabOK.nil (n := 1000) (by kernel_rfl)
theorem said16x10 : Said C (.call e16x10.f e16x10.args e16x10.H) (.val e16x10.v e16x10.H2) := checkO_said ok TabOK.nil (n := 1000) (by kernel_rfl)
theorem said16x11 : Said C (.call e16x11.f e16x11.args e16x11.H) (.val e16x11.v e16x11.H2) := checkO_said ok TabOK.nil (n := 1000) (by kernel_rfl)
end Go.Proofs.Yteopjpfhhekkoaa.Ev
