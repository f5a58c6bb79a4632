/- Calls that the evaluator has carried out. -/
import Derived.Test.YtamanhaoafaddaaKnF
import Derived.Test.YtamanhaoafaddaaKnD10
namespace Go.Proofs.Ytamanhaoafaddaa.Ev
open Go Go.Abs
set_option maxRecDepth 100000
theorem said10x7 : Said C (.call e10x7.f e10x7.args e10x7.H) (.val e10x7.v e10x7.H2) := checkO_said ok TabOK.nil (n := 1000) (by kernel_rfl)
theorem said10x8 : Said C (.call e10x8.f e10x8.args e10x8.H) (.val e10x8.v e10x8.H2) := checkO_said ok TabOK.nil (n := 1000) (by kernel_rfl)
theorem said10x9 : Said C (.call e10x9.f e10x9.args e10x9.H) (.val e10x9.v e10x9.H2) := checkO_said ok TabOK.nil (n := 1000) (by kernel_rfl)
theorem said10x10 : Said C (.call e10x10.f e10x10.args e10x10.H) (.val e10x10.v e10x10.H2) := checkO_said ok TabOK.nil (n := 1000) (by kernel_rfl)
theorem said10x11 : Said C (.call e10x11.f e10x11.args e10x11.H) (.val e10x11.v e10x11.H2) := checkO_said ok TabOK.nil (n := 1000) (by kernel_rfl)
theorem said10x12 : Said C (.call e10x12.f e10x12.args e10x12.H) (.val e10x12.v e10x12.H2) := checkO_said ok TabOK.nil (n := 1000) (by kernel_rfl)
end Go.Proofs.Ytamanhaoafaddaa.Ev
