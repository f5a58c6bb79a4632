/- Calls that the evaluator has carried out. -/
import Derived.Test.YtamanhaoafaddaaKnF
import Derived.Test.YtamanhaoafaddaaKnD10
namespace Go.Proofs.Ytamanhaoafaddaa.Ev
open Go Go.Abs
set_option maxRecDepth 100000
theorem said10x3 : Said C (.call e10x3.f e10x3.args e10x3.H) (.val e10x3.v e10x3.H2) := checkO_said ok TabOK.nil (n := 1000) (by kernel_rfl)
theorem said10x4 : Said C (.call e10x4.f e10x4.args e10x4.H) (.val e10x4.v e10x4.H2) := checkO_said ok TabOK.nil (n := 1000) (by kernel_rfl)
theorem said10x5 : Said C (.call e10x5.f e10x5.args e10x5.H) (.val e10x5.v e10x5.H2) := checkO_said ok TabOK.nil (n := 1000) (by kernel_rfl)
end Go.Proofs.Ytamanhaoafaddaa.Ev
