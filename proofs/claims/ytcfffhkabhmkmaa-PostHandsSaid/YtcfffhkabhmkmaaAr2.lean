/- Pairs of numbers that are compared. -/
import Derived.Test.YtcfffhkabhmkmaaJ1
namespace Go.Abs
set_option linter.unusedSectionVars false
variable [Globs]
open Go
set_option linter.unusedSimpArgs false
section
variable {C : CW} {L : Env} {H : Heap}
end
section
variable {C : CW} {L : Env} {H : Heap}
end
end Go.Abs
