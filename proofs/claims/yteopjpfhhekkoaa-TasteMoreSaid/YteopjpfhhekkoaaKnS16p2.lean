/- Calls that the evaluator has carried out. -/
import Derived.Test.YteopjpfhhekkoaaKnF
import Derived.Test.YteopjpfhhekkoaaKnD16
namespace Go.Proofs.Yteopjpfhhekkoaa.Ev
open Go Go.Abs
set_option maxRecDepth 100000
theorem said16x12 : Said C (.call e16x12.f e16x12.args e16x12.H) (.val e16x12.v e16x12.H2) := checkO_said ok TabOK.nil (n := 1000) (by kernel_rfl)
theorem said16x13 : Said C (.call e16x13.f e16x13.args e16x13.H) (.val e16x13.v e16x13.H2) := checkO_said ok TabOK.nil (n := 1000) (by kernel_rfl)
theorem said16x14 : Said C (.call e16x14.f e16x14.args e16x14.H) (.val e16x14.v e16x14.H2) := checkO_said ok TabOK.nil (n := 1000) (by kernel_rfl)
theorem said16x15 : Said C (.call e16x15.f e16x15.args e16x15.H) (.val e16x15.v e16x15.H2) := checkO_said ok TabOK.nil (n := 1000) (by kernel_rfl)
theorem said16x16 : Said C (.call e16x16.f e16x16.args e16x16.H) (.val e16x16.v e16x16.H2) := checkO_said ok TabOK.nil (n := 1000) (by kernel_rfl)
theorem said16x17 : Said C (.call e16x17.f e16x17.args e16x17.H) (.val e16x17.v e16x17.H2) := checkO_said ok TabOK.nil (n := 1000) (by kernel_rfl)
end Go.Proofs.Yteopjpfhhekkoaa.Ev
