/- Bits of numbers that are not negative. -/
import Derived.Test.YtnmlfjohoeebiaaSymX
namespace Go.Abs
set_option linter.unusedSectionVars false
variable [Globs]
open Go
set_option linter.unusedVariables false
set_option linter.unusedSimpArgs false

/-- Numbers below it are what they are in each kind. -/
def capK (k : IntKind) : Nat := 2 ^ (if k.signed then k.bits - 1 else k.bits)
theorem wrap_cap {k : IntKind} {r : Nat} (h : r < capK k) : k.wrap (r : Int) = (r : Int) := by
  cases k
  · exact IntWalk.i8_in _ (by have : capK .i8 = 128 := by decide
                              omega)
  · exact IntWalk.i16_in _ (by have : capK .i16 = 32768 := by decide
                               omega)
  · exact IntWalk.i32_in _ (by have : capK .i32 = 2147483648 := by decide
                               omega)
  · exact IntWalk.i64_in _ (by have : capK .i64 = 9223372036854775808 := by decide
                               omega)
  · exact IntWalk.u8_in _ (by have : capK .u8 = 256 := by decide
                              omega)
  · exact IntWalk.u16_in _ (by have : capK .u16 = 65536 := by decide
                               omega)
  · exact IntWalk.u32_in _ (by have : capK .u32 = 4294967296 := by decide
                               omega)
  · exact IntWalk.u64_in _ (by have : capK .u64 = 18446744073709551616 := by decide
                               omega)
section
variable {C : CW} {ro : Option Nat} {fn : FuncId} {nt : Nat} {L L' : Env} {D : List Nat} {H H' : Heap} {K : St → Prop} {M M' : HL} {n : Nat} {i d : Nat} {gd : Option (Tmp × Bool)} {lo : List Nat} {l : List POp}
theorem OpV.shlN {dst : Option Tmp} {x y : Operand} {ty ty2 ty3 : TypeId} {pos : String} {af : Array Edge} {g : Option (Nat × Bool)} {k k' : IntKind} {a m : Nat} (hx : ev L x = some (.int k (a : Int))) (hy : ev L y = some (.int k' (m : Int))) (hm : m ≤ k.bits) (hc : a * 2 ^ m < capK k) :
    OpV C (.plain ⟨dst, .binOp .shl ty x y ty2, ty3, pos, af, g⟩) L H (.int k ((a * 2 ^ m : Nat) : Int)) H := by
  refine OpV.shl hx hy (by omega) ?_
  rw [Int.toNat_natCast, Nat.min_eq_left hm, ← wrap_cap hc]
  congr 1
theorem OpV.shl1 {dst : Option Tmp} {x y : Operand} {ty ty2 ty3 : TypeId} {pos : String} {af : Array Edge} {g : Option (Nat × Bool)} {k k' : IntKind} {m : Nat} (hx : ev L x = some (.int k 1)) (hy : ev L y = some (.int k' (m : Int))) (hm : m ≤ k.bits) (hc : 2 ^ m < capK k) :
    OpV C (.plain ⟨dst, .binOp .shl ty x y ty2, ty3, pos, af, g⟩) L H (.int k ((2 ^ m : Nat) : Int)) H := by
  have := OpV.shlN (C := C) (H := H) (dst := dst) (ty := ty) (ty2 := ty2) (ty3 := ty3) (pos := pos) (af := af) (g := g) (a := 1) hx hy hm (by rwa [Nat.one_mul])
  rwa [Nat.one_mul] at this
end

/-- The bits of a list. -/
def maskN (l : List Nat) : Nat := l.foldl (fun a x => a ||| 2 ^ x) 0
end Go.Abs
