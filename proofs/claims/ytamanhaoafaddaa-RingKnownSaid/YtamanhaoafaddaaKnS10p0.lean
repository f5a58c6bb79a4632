/- Calls that the evaluator has carried out. -/
import Derived.Test.YtamanhaoafaddaaKnF
import Derived.Test.YtamanhaoafaddaaKnD10
namespace Go.Proofs.Ytamanhaoafaddaa.Ev
open Go Go.Abs
set_option maxRecDepth 100000
theorem said10x0 : Said C (.call e10x0.f e10x0.args e10x0.H) (.val e10x0.v e10x0.H2) := checkO_said ok TabOK.nil (n := 1000) (by kernel_rfl)
theorem said10x1 : Said C (.call e10x1.f e10x1.args e10x1.H) (.val e10x1.v e10x1.H2) := checkO_said ok TabOK.nil (n := 1000) (by kernel_rfl)
end Go.Proofs.Ytamanhaoafaddaa.Ev
