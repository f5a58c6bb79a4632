/- Bits of numbers that are not negative. -/
import Derived.Test.YtfnflkcjhefddaaSymX
namespace Go.Abs
set_option linter.unusedSectionVars false
variable [Globs]
open Go
set_option linter.unusedVariables false
set_option linter.unusedSimpArgs false

/-- Numbers below it are what they are in each kind. -/
def capK (k : IntKind) : Nat := 2 ^ (if k.signed then k.bits - 1 else k.bits)
section
variable {C : CW} {ro : Option Nat} {fn : FuncId} {nt : Nat} {L L' : Env} {D : List Nat} {H H' : Heap} {K : St → Prop} {M M' : HL} {n : Nat} {i d : Nat} {gd : Option (Tmp × Bool)} {lo : List Nat} {l : List POp}
end

/-- The bits of a list. -/
def maskN (l : List Nat) : Nat := l.foldl (fun a x => a ||| 2 ^ x) 0
end Go.Abs
