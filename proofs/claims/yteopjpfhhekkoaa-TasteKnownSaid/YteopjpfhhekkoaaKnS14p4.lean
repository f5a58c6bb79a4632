/- Calls that the evaluator has carried out. -/
import Derived.Test.YteopjpfhhekkoaaKnF
import Derived.Test.YteopjpfhhekkoaaKnD14
namespace Go.Proofs.Yteopjpfhhekkoaa.Ev
open Go Go.Abs
set_option maxRecDepth 100000
theorem said14x24 : Said C (.call e14x24.f e14x24.args e14x24.H) (.val e14x24.v e14x24.H2) := checkO_said ok TabOK.nil (n := 1000) (by kernel_rfl)
theorem said14x25 : Said C (.call e14x25.f e14x25.args e14x25.H) (.val e14x25.v e14x25.H2) := checkO_said ok TabOK.nil (n := 1000) (by kernel_rfl)
theorem said14x26 : Said C (.call e14x26.f e14x26.args e14x26.H) (.val e14x26.v e14x26.H2) := checkO_said ok TabOK.nil (n := 1000) (by kernel_rfl)
theorem said14x27 : Said C (.call e14x27.f e14x27.args e14x27.H) (.val e14x27.v e14x27.H2) := checkO_said ok TabOK.nil (n := 1000) (by kernel_rfl)
theorem said14x28 : Said C (.call e14x28.f e14x28.args e14x28.H) (.val e14x28.v e14x28.H2) := checkO_said ok TabOK.nil (n := 1000) (by kernel_rfl)
theorem said14x29 : Said C (.call e14x29.f e14x29.args e14x29.H) (.val e14x29.v e14x29.H2) := checkO_said ok TabOK.nil (n := 1000) (by kernel_rfl)
end Go.Proofs.Yteopjpfhhekkoaa.Ev
