/- No package-level variable is read. -/
import Derived.Test.YtcfffhkabhmkmaaAbsEv
namespace Go.Abs
instance noGlobs : Globs := ⟨fun _ => none⟩
end Go.Abs
