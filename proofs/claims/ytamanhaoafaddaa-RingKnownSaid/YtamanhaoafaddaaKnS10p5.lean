/- Calls that the evaluator has carried out. -/
import Derived.Test.YtamanhaoafaddaaKnF
import Derived.Test.YtamanhaoafaddaaKnD10
namespace Go.Proofs.Ytamanhaoafaddaa.Ev
open Go Go.Abs
set_option maxRecDepth 100000
theorem said10x13 : Said C (.call e10x13.f e10x13.args e10x13.H) (.val e10x13.v e10x13.H2) := checkO_said ok TabOK.nil (n := 1000) (by kernel_rfl)
theorem said10x14 : Said C (.call e10x14.f e10x14.args e10x14.H) (.val e10x14.v e10x14.H2) := checkO_said ok TabOK.nil (n := 1000) (by kernel_rfl)
theorem said10x15 : Said C (.call e10x15.f e10x15.args e10x15.H) (.val e10x15.v e10x15.H2) := checkO_said ok TabOK.nil (n := 1000) (by kernel_rfl)
theorem said10x16 : Said C (.call e10x16.f e10x16.args e10x16.H) (.val e10x16.v e10x16.H2) := checkO_said ok TabOK.nil (n := 1000) (by kernel_rfl)
theorem said10x17 : Said C (.call e10x17.f e10x17.args e10x17.H) (.val e10x17.v e10x17.H2) := checkO_said ok TabOK.nil (n := 1000) (by kernel_rfl)
end Go.Proofs.Ytamanhaoafaddaa.Ev
