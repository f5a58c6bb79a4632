/- What the package-level variables of the laws of sherd hold: noJoin its two numbers, MaxLen (of the library) some number. -/
import Derived.Test.YtpjmobhhejdhbaaDoorAbsEv
namespace Go.Abs
class HG where
  m : Int
def glL [HG] (g : Nat) : Option (List Value) :=
  bif Nat.beq g 0 then some [.int .i64 (.negSucc 0), .int .i64 (.negSucc 0)] else bif Nat.beq g 1 then some [.int .i64 HG.m] else none
instance glH [HG] : Globs := ⟨glL⟩
end Go.Abs
