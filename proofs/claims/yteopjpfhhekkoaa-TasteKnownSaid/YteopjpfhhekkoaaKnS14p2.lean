/- Calls that the evaluator has carried out. -/
import Derived.Test.YteopjpfhhekkoaaKnF
import Derived.Test.YteopjpfhhekkoaaKnD14
namespace Go.Proofs.Yteopjpfhhekkoaa.Ev
open Go Go.Abs
set_option maxRecDepth 100000
theorem said14x12 : Said C (.call e14x12.f e14x12.args e14x12.H) (.val e14x12.v e14x12.H2) := checkO_said ok TabOK.nil (n := 1000) (by kernel_rfl)
theorem said14x13 : Said C (.call e14x13.f e14x13.args e14x13.H) (.val e14x13.v e14x13.H2) := checkO_said ok TabOK.nil (n := 1000) (by kernel_rfl)
theorem said14x14 : Said C (.call e14x14.f e14x14.args e14x14.H) (.val e14x14.v e14x14.H2) := checkO_said ok TabOK.nil (n := 1000) (by kernel_rfl)
theorem said14x15 : Said C (.call e14x15.f e14x15.args e14x15.H) (.val e14x15.v e14x15.H2) := checkO_said ok TabOK.nil (n := 1000) (by kernel_rfl)
theorem said14x16 : Said C (.call e14x16.f e14x16.args e14x16.H) (.val e14x16.v e14x16.H2) := checkO_said ok TabOK.nil (n := 1000) (by kernel_rfl)
theorem said14x17 : Said C (.call e14x17.f e14x17.args e14x17.H) (.val e14x17.v e14x17.H2) := checkO_said ok TabOK.nil (n := 1000) (by kernel_rfl)
end Go.Proofs.Yteopjpfhhekkoaa.Ev
