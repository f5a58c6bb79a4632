/- Calls that the evaluator has carried out. -/
import Derived.Test.YtpjmobhhejdhbaaDoorKnF
import Derived.Test.YtpjmobhhejdhbaaDoorKnD16
import Derived.Test.YtpjmobhhejdhbaaDoorKnO
namespace Go.Proofs.YtpjmobhhejdhbaaDoor.Ev
open Go Go.Abs
set_option maxRecDepth 100000
set_option linter.unusedSectionVars false
variable [HG]
theorem said16x12 : Said C (.call e16x12.f e16x12.args e16x12.H) (.val e16x12.v e16x12.H2) := checkO_said ok TabOK.nil (n := 1000) (by kernel_rfl)
theorem said16x13 : Said C (.call e16x13.f e16x13.args e16x13.H) (.val e16x13.v e16x13.H2) := checkO_said ok TabOK.nil (n := 1000) (by kernel_rfl)
theorem said16x14 : Said C (.call e16x14.f e16x14.args e16x14.H) (.val e16x14.v e16x14.H2) := checkO_said ok TabOK.nil (n := 1000) (by kernel_rfl)
theorem said16x15 : Said C (.call e16x15.f e16x15.args e16x15.H) (.val e16x15.v e16x15.H2) := (ora56 (by kernel_rfl) (by kernel_rfl) (by kernel_rfl) : Said C (.call 56 [(.string ⟨#[98, 98]⟩), (.string ⟨#[98]⟩)] h16x15a) (.val (.bool true) h16x15b))
theorem said16x16 : Said C (.call e16x16.f e16x16.args e16x16.H) (.val e16x16.v e16x16.H2) := checkO_said ok TabOK.nil (n := 1000) (by kernel_rfl)
theorem said16x17 : Said C (.call e16x17.f e16x17.args e16x17.H) (.val e16x17.v e16x17.H2) := checkO_said ok TabOK.nil (n := 1000) (by kernel_rfl)
theorem said16x18 : Said C (.call e16x18.f e16x18.args e16x18.H) (.val e16x18.v e16x18.H2) := checkO_said ok TabOK.nil (n := 1000) (by kernel_rfl)
theorem said16x19 : Said C (.call e16x19.f e16x19.args e16x19.H) (.val e16x19.v e16x19.H2) := checkO_said ok TabOK.nil (n := 1000) (by kernel_rfl)
theorem said16x20 : Said C (.call e16x20.f e16x20.args e16x20.H) (.val e16x20.v e16x20.H2) := (ora56 (by kernel_rfl) (by kernel_rfl) (by kernel_rfl) : Said C (.call 56 [(.string ⟨#[97, 98, 97, 98]⟩), (.string ⟨#[97, 66]⟩)] h16x20a) (.val (.bool false) h16x20b))
theorem said16x21 : Said C (.call e16x21.f e16x21.args e16x21.H) (.val e16x21.v e16x21.H2) := checkO_said ok TabOK.nil (n := 1000) (by kernel_rfl)
theorem said16x22 : Said C (.call e16x22.f e16x22.args e16x22.H) (.val e16x22.v e16x22.H2) := checkO_said ok TabOK.nil (n := 1000) (by kernel_rfl)
theorem said16x23 : Said C (.call e16x23.f e16x23.args e16x23.H) (.val e16x23.v e16x23.H2) := checkO_said ok TabOK.nil (n := 1000) (by kernel_rfl)
end Go.Proofs.YtpjmobhhejdhbaaDoor.Ev
