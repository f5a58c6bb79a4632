/- Calls that the evaluator has carried out. -/
import Derived.Test.YtblopbimchkneaaKnF
import Derived.Test.YtblopbimchkneaaKnD13
namespace Go.Proofs.Ytblopbimchkneaa.Ev
open Go Go.Abs
set_option maxRecDepth 100000
theorem said13x11 : Said C (.call e13x11.f e13x11.args e13x11.H) (.val e13x11.v e13x11.H2) := checkO_said ok TabOK.nil (n := 1000) (by kernel_rfl)
theorem said13x12 : Said C (.call e13x12.f e13x12.args e13x12.H) (.val e13x12.v e13x12.H2) := checkO_said ok TabOK.nil (n := 1000) (by kernel_rfl)
theorem said13x13 : Said C (.call e13x13.f e13x13.args e13x13.H) (.val e13x13.v e13x13.H2) := checkO_said ok TabOK.nil (n := 1000) (by kernel_rfl)
theorem said13x14 : Said C (.call e13x14.f e13x14.args e13x14.H) (.val e13x14.v e13x14.H2) := checkO_said ok TabOK.nil (n := 1000) (by kernel_rfl)
theorem said13x15 : Said C (.call e13x15.f e13x15.args e13x15.H) (.val e13x15.v e13x15.H2) := checkO_said ok TabOK.nil (n := 1000) (by kernel_rfl)
theorem said13x16 : Said C (.call e13x16.f e13x16.args e13x16.H) (.val e13x16.v e13x16.H2) := checkO_said ok TabOK.nil (n := 1000) (by kernel_rfl)
end Go.Proofs.Ytblopbimchkneaa.Ev
