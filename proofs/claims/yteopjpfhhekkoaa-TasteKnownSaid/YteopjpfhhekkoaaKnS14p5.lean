/- Calls that the evaluator has carried out. -/
import Derived.Test.YteopjpfhhekkoaaKnF
import Derived.Test.YteopjpfhhekkoaaKnD14
namespace Go.Proofs.Yteopjpfhhekkoaa.Ev
open Go Go.Abs
set_option maxRecDepth 100000
theorem said14x30 : Said C (.call e14x30.f e14x30.args e14x30.H) (.val e14x30.v e14x30.H2) := checkO_said ok TabOK.nil (n := 1000) (by kernel_rfl)
theorem said14x31 : Said C (.call e14x31.f e14x31.args e14x31.H) (.val e14x31.v e14x31.H2) := checkO_said ok TabOK.nil (n := 1000) (by kernel_rfl)
theorem said14x32 : Said C (.call e14x32.f e14x32.args e14x32.H) (.val e14x32.v e14x32.H2) := checkO_said ok TabOK.nil (n := 1000) (by kernel_rfl)
end Go.Proofs.Yteopjpfhhekkoaa.Ev
