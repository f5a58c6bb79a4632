/- Calls that the evaluator has carried out. -/
import Derived.Test.YtblopbimchkneaaKnF
import Derived.Test.YtblopbimchkneaaKnD13
namespace Go.Proofs.Ytblopbimchkneaa.Ev
open Go Go.Abs
set_option maxRecDepth 100000
theorem said13x0 : Said C (.call e13x0.f e13x0.args e13x0.H) (.val e13x0.v e13x0.H2) := checkO_said ok TabOK.nil (n := 1000) (by kernel_rfl)
theorem said13x1 : Said C (.call e13x1.f e13x1.args e13x1.H) (.val e13x1.v e13x1.H2) := checkO_said ok TabOK.nil (n := 1000) (by kernel_rfl)
theorem said13x2 : Said C (.call e13x2.f e13x2.args e13x2.H) (.val e13x2.v e13x2.H2) := checkO_said ok TabOK.nil (n := 1000) (by kernel_rfl)
theorem said13x3 : Said C (.call e13x3.f e13x3.args e13x3.H) (.val e13x3.v e13x3.H2) := checkO_said ok TabOK.nil (n := 1000) (by kernel_rfl)
theorem said13x4 : Said C (.call e13x4.f e13x4.args e13x4.H) (.val e13x4.v e13x4.H2) := checkO_said ok TabOK.nil (n := 1000) (by kernel_rfl)
theorem said13x5 : Said C (.call e13x5.f e13x5.args e13x5.H) (.val e13x5.v e13x5.H2) := checkO_said ok TabOK.nil (n := 1000) (by kernel_rfl)
end Go.Proofs.Ytblopbimchkneaa.Ev
