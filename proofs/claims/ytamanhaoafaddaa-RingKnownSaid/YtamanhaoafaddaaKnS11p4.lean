/- Calls that the evaluator has carried out. -/
import Derived.Test.YtamanhaoafaddaaKnF
import Derived.Test.YtamanhaoafaddaaKnD11
namespace Go.Proofs.Ytamanhaoafaddaa.Ev
open Go Go.Abs
set_option maxRecDepth 100000
theorem said11x5 : Said C (.call e11x5.f e11x5.args e11x5.H) (.val e11x5.v e11x5.H2) := checkO_said ok TabOK.nil (n := 1000) (by kernel_rfl)
theorem said11x6 : Said C (.call e11x6.f e11x6.args e11x6.H) (.val e11x6.v e11x6.H2) := checkO_said ok TabOK.nil (n := 1000) (by kernel_rfl)
theorem said11x7 : Said C (.call e11x7.f e11x7.args e11x7.H) (.val e11x7.v e11x7.H2) := checkO_said ok TabOK.nil (n := 1000) (by kernel_rfl)
theorem said11x8 : Said C (.call e11x8.f e11x8.args e11x8.H) (.val e11x8.v e11x8.H2) := checkO_said ok TabOK.nil (n := 1000) (by kernel_rfl)
theorem said11x9 : Said C (.call e11x9.f e11x9.args e11x9.H) (.val e11x9.v e11x9.H2) := checkO_said ok TabOK.nil (n := 1000) (by kernel_rfl)
theorem said11x10 : Said C (.call e11x10.f e11x10.args e11x10.H) (.val e11x10.v e11x10.H2) := checkO_said ok TabOK.nil (n := 1000) (by kernel_rfl)
end Go.Proofs.Ytamanhaoafaddaa.Ev
