/- What the package-level variable of the laws of chart holds: the other end of each end. -/
import Derived.Test.YtmgmkglmjmaipaaDoorAbsEv
namespace Go.Abs
def otherEnds9 : List Value := [.int .i64 1, .int .i64 0, .int .i64 3, .int .i64 2, .int .i64 5, .int .i64 4, .int .i64 7, .int .i64 6, .int .i64 9, .int .i64 8, .int .i64 11, .int .i64 10, .int .i64 13, .int .i64 12, .int .i64 15, .int .i64 14]
instance gl9 : Globs := ⟨fun g => bif Nat.beq g 0 then some otherEnds9 else none⟩
end Go.Abs
