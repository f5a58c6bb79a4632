/- Calls that the evaluator has carried out. -/
import Derived.Test.YtblopbimchkneaaKnF
import Derived.Test.YtblopbimchkneaaKnD13
namespace Go.Proofs.Ytblopbimchkneaa.Ev
open Go Go.Abs
set_option maxRecDepth 100000
theorem said13x6 : Said C (.call e13x6.f e13x6.args e13x6.H) (.val e13x6.v e13x6.H2) := checkO_said ok TabOK.nil (n := 1000) (by kernel_rfl)
theorem said13x7 : Said C (.call e13x7.f e13x7.args e13x7.H) (.val e13x7.v e13x7.H2) := checkO_said ok TabOK.nil (n := 1000) (by kernel_rfl)
theorem said13x8 : Said C (.call e13x8.f e13x8.args e13x8.H) (.val e13x8.v e13x8.H2) := checkO_said ok TabOK.nil (n := 1000) (by kernel_rfl)
theorem said13x9 : Said C (.call e13x9.f e13x9.args e13x9.H) (.val e13x9.v e13x9.H2) := checkO_said ok TabOK.nil (n := 1000) (by kernel_rfl)
theorem said13x10 : Said C (.call e13x10.f e13x10.args e13x10.H) (.val e13x10.v e13x10.H2) := checkO_said ok TabOK.nil (n := 1000) (by kernel_rfl)
end Go.Proofs.Ytblopbimchkneaa.Ev
