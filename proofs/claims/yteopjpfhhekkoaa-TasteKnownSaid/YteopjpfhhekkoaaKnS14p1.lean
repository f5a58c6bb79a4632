/- Calls that the evaluator has carried out. -/
import Derived.Test.YteopjpfhhekkoaaKnF
import Derived.Test.YteopjpfhhekkoaaKnD14
namespace Go.Proofs.Yteopjpfhhekkoaa.Ev
open Go Go.Abs
set_option maxRecDepth 100000
theorem said14x6 : Said C (.call e14x6.f e14x6.args e14x6.H) (.val e14x6.v e14x6.H2) := checkO_said ok TabOK.nil (n := 1000) (by kernel_rfl)
theorem said14x7 : Said C (.call e14x7.f e14x7.args e14x7.H) (.val e14x7.v e14x7.H2) := checkO_said ok TabOK.nil (n := 1000) (by kernel_rfl)
theorem said14x8 : Said C (.call e14x8.f e14x8.args e14x8.H) (.val e14x8.v e14x8.H2) := checkO_said ok TabOK.nil (n := 1000) (by kernel_rfl)
theorem said14x9 : Said C (.call e14x9.f e14x9.args e14x9.H) (.val e14x9.v e14x9.H2) := checkO_said ok TabOK.nil (n := 1000) (by kernel_rfl)
theorem said14x10 : Said C (.call e14x10.f e14x10.args e14x10.H) (.val e14x10.v e14x10.H2) := checkO_said ok TabOK.nil (n := 1000) (by kernel_rfl)
theorem said14x11 : Said C (.call e14x11.f e14x11.args e14x11.H) (.val e14x11.v e14x11.H2) := checkO_said ok TabOK.nil (n := 1000) (by kernel_rfl)
end Go.Proofs.Yteopjpfhhekkoaa.Ev
