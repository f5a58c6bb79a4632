/- Calls that the evaluator has carried out. -/
import Derived.Test.YtfnflkcjhefddaaKnF
import Derived.Test.YtfnflkcjhefddaaKnD14
namespace Go.Proofs.Ytfnflkcjhefddaa.Ev
open Go Go.Abs
set_option maxRecDepth 100000
theorem said14x125 : Said C (.call e14x125.f e14x125.args e14x125.H) (.val e14x125.v e14x125.H2) := checkO_said ok TabOK.nil (n := 1000) (by kernel_rfl)
theorem said14x126 : Said C (.call e14x126.f e14x126.args e14x126.H) (.val e14x126.v e14x126.H2) := checkO_said ok TabOK.nil (n := 1000) (by kernel_rfl)
theorem said14x127 : Said C (.call e14x127.f e14x127.args e14x127.H) (.val e14x127.v e14x127.H2) := checkO_said ok TabOK.nil (n := 1000) (by kernel_rfl)
theorem said14x128 : Said C (.call e14x128.f e14x128.args e14x128.H) (.val e14x128.v e14x128.H2) := checkO_said ok TabOK.nil (n := 1000) (by kernel_rfl)
theorem said14x129 : Said C (.call e14x129.f e14x129.args e14x129.H) (.val e14x129.v e14x129.H2) := checkO_said ok TabOK.nil (n := 1000) (by kernel_rfl)
theorem said14x130 : Said C (.call e14x130.f e14x130.args e14x130.H) (.val e14x130.v e14x130.H2) := checkO_said ok TabOK.nil (n := 1000) (by kernel_rfl)
theorem said14x131 : Said C (.call e14x131.f e14x131.args e14x131.H) (.val e14x131.v e14x131.H2) := checkO_said ok TabOK.nil (n := 1000) (by kernel_rfl)
theorem said14x132 : Said C (.call e14x132.f e14x132.args e14x132.H) (.val e14x132.v e14x132.H2) := checkO_said ok TabOK.nil (n := 1000) (by kernel_rfl)
theorem said14x133 : Said C (.call e14x133.f e14x133.args e14x133.H) (.val e14x133.v e14x133.H2) := checkO_said ok TabOK.nil (n := 1000) (by kernel_rfl)
theorem said14x134 : Said C (.call e14x134.f e14x134.args e14x134.H) (.val e14x134.v e14x134.H2) := checkO_said ok TabOK.nil (n := 1000) (by kernel_rfl)
theorem said14x135 : Said C (.call e14x135.f e14x135.args e14x135.H) (.val e14x135.v e14x135.H2) := checkO_said ok TabOK.nil (n := 1000) (by kernel_rfl)
theorem said14x136 : Said C (.call e14x136.f e14x136.args e14x136.H) (.val e14x136.v e14x136.H2) := checkO_said ok TabOK.nil (n := 1000) (by kernel_rfl)
theorem said14x137 : Said C (.call e14x137.f e14x137.args e14x137.H) (.val e14x137.v e14x137.H2) := checkO_said ok TabOK.nil (n := 1000) (by kernel_rfl)
theorem said14x138 : Said C (.call e14x138.f e14x138.args e14x138.H) (.val e14x138.v e14x138.H2) := checkO_said ok TabOK.nil (n := 1000) (by kernel_rfl)
theorem said14x139 : Said C (.call e14x139.f e14x139.args e14x139.H) (.val e14x139.v e14x139.H2) := checkO_said ok TabOK.nil (n := 1000) (by kernel_rfl)
theorem said14x140 : Said C (.call e14x140.f e14x140.args e14x140.H) (.val e14x140.v e14x140.H2) := checkO_said ok TabOK.nil (n := 1000) (by kernel_rfl)
theorem said14x141 : Said C (.call e14x141.f e14x141.args e14x141.H) (.val e14x141.v e14x141.H2) := checkO_said ok TabOK.nil (n := 1000) (by kernel_rfl)
theorem said14x142 : Said C (.call e14x142.f e14x142.args e14x142.H) (.val e14x142.v e14x142.H2) := checkO_said ok TabOK.nil (n := 1000) (by kernel_rfl)
theorem said14x143 : Said C (.call e14x143.f e14x143.args e14x143.H) (.val e14x143.v e14x143.H2) := checkO_said ok TabOK.nil (n := 1000) (by kernel_rfl)
end Go.Proofs.Ytfnflkcjhefddaa.Ev
