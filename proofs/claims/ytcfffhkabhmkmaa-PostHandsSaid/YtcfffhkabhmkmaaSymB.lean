/- Bits of numbers that are not negative. -/
import Derived.Test.YtcfffhkabhmkmaaSymX
namespace Go.Abs
set_option linter.unusedSectionVars false
variable [Globs]
open Go
set_option linter.unusedVariables false
set_option linter.unusedSimpArgs false

/-- Numbers below it are what they are in each kind. -/
def capK (k : IntKind) : Nat := 2 ^ (if k.signed then k.bits - 1 else k.bits)

theorem capK_le (k : IntKind) : capK k ≤ 2 ^ k.bits := by cases k <;> decide
theorem wrap_cap {k : IntKind} {r : Nat} (h : r < capK k) : k.wrap (r : Int) = (r : Int) := by
  cases k
  · exact IntWalk.i8_in _ (by have : capK .i8 = 128 := by decide
                              omega)
  · exact IntWalk.i16_in _ (by have : capK .i16 = 32768 := by decide
                               omega)
  · exact IntWalk.i32_in _ (by have : capK .i32 = 2147483648 := by decide
                               omega)
  · exact IntWalk.i64_in _ (by have : capK .i64 = 9223372036854775808 := by decide
                               omega)
  · exact IntWalk.u8_in _ (by have : capK .u8 = 256 := by decide
                              omega)
  · exact IntWalk.u16_in _ (by have : capK .u16 = 65536 := by decide
                               omega)
  · exact IntWalk.u32_in _ (by have : capK .u32 = 4294967296 := by decide
                               omega)
  · exact IntWalk.u64_in _ (by have : capK .u64 = 18446744073709551616 := by decide
                               omega)
theorem or_cap {k : IntKind} {a b : Nat} (ha : a < capK k) (hb : b < capK k) : a ||| b < capK k := Nat.or_lt_two_pow ha hb
theorem and_cap {k : IntKind} {a b : Nat} (ha : a < capK k) : a &&& b < capK k := Nat.lt_of_le_of_lt Nat.and_le_left ha
theorem ofInt_nat (w a : Nat) : BitVec.ofInt w (a : Int) = BitVec.ofNat w a := by
  apply BitVec.eq_of_toNat_eq
  rw [BitVec.toNat_ofInt, BitVec.toNat_ofNat]
  have : ((a : Int) % ((2 ^ w : Nat) : Int)) = ((a % 2 ^ w : Nat) : Int) := by omega
  rw [this]; rfl

theorem bits_or {P : Program} {k : IntKind} {a b : Nat} (ha : a < capK k) (hb : b < capK k) : pureRun P (Op.intBits .or k (a : Int) (b : Int)) = some (.int k ((a ||| b : Nat) : Int)) := by
  have h1 := Nat.lt_of_lt_of_le ha (capK_le k)
  have h2 := Nat.lt_of_lt_of_le hb (capK_le k)
  have e : (BitVec.ofInt k.bits (a : Int) ||| BitVec.ofInt k.bits (b : Int)).toNat = a ||| b := by
    rw [ofInt_nat, ofInt_nat, BitVec.toNat_or, BitVec.toNat_ofNat, BitVec.toNat_ofNat, Nat.mod_eq_of_lt h1, Nat.mod_eq_of_lt h2]
  show some (Value.int k (k.wrap ((BitVec.ofInt k.bits (a : Int) ||| BitVec.ofInt k.bits (b : Int)).toNat : Int))) = _
  rw [e, wrap_cap (or_cap ha hb)]
theorem bits_and {P : Program} {k : IntKind} {a b : Nat} (ha : a < capK k) (hb : b < capK k) : pureRun P (Op.intBits .and k (a : Int) (b : Int)) = some (.int k ((a &&& b : Nat) : Int)) := by
  have h1 := Nat.lt_of_lt_of_le ha (capK_le k)
  have h2 := Nat.lt_of_lt_of_le hb (capK_le k)
  have e : (BitVec.ofInt k.bits (a : Int) &&& BitVec.ofInt k.bits (b : Int)).toNat = a &&& b := by
    rw [ofInt_nat, ofInt_nat, BitVec.toNat_and, BitVec.toNat_ofNat, BitVec.toNat_ofNat, Nat.mod_eq_of_lt h1, Nat.mod_eq_of_lt h2]
  show some (Value.int k (k.wrap ((BitVec.ofInt k.bits (a : Int) &&& BitVec.ofInt k.bits (b : Int)).toNat : Int))) = _
  rw [e, wrap_cap (and_cap ha)]
/-! Tests of one bit. -/
theorem and_pow_ne {a m : Nat} : ((((a &&& 2 ^ m : Nat) : Int)) ≠ 0) ↔ a.testBit m = true := by
  constructor
  · intro h
    obtain ⟨i, hi⟩ := Nat.exists_testBit_of_ne_zero (x := a &&& 2 ^ m) (by omega)
    rw [Nat.testBit_and, Nat.testBit_two_pow, Bool.and_eq_true, decide_eq_true_eq] at hi
    rw [hi.2]; exact hi.1
  · intro h h0
    have h1 : (a &&& 2 ^ m).testBit m = true := by rw [Nat.testBit_and, h, Nat.testBit_two_pow]; simp
    have h2 : a &&& 2 ^ m = 0 := by omega
    rw [h2, Nat.zero_testBit] at h1; cases h1
section
variable {C : CW} {ro : Option Nat} {fn : FuncId} {nt : Nat} {L L' : Env} {D : List Nat} {H H' : Heap} {K : St → Prop} {M M' : HL} {n : Nat} {i d : Nat} {gd : Option (Tmp × Bool)} {lo : List Nat} {l : List POp}

theorem OpV.orN {k : IntKind} {x y : Operand} {a b : Nat} (hx : ev L x = some (.int k (a : Int))) (hy : ev L y = some (.int k (b : Int))) (ha : a < capK k) (hb : b < capK k) : OpV C (.ibin .or k x y) L H (.int k ((a ||| b : Nat) : Int)) H :=
  OpV.bits hx hy rfl (bits_or ha hb) (.inr rfl) rfl
theorem OpV.andN {k : IntKind} {x y : Operand} {a b : Nat} (hx : ev L x = some (.int k (a : Int))) (hy : ev L y = some (.int k (b : Int))) (ha : a < capK k) (hb : b < capK k) : OpV C (.ibin .and k x y) L H (.int k ((a &&& b : Nat) : Int)) H :=
  OpV.bits hx hy rfl (bits_and ha hb) (.inl rfl) rfl
theorem OpV.shlN {dst : Option Tmp} {x y : Operand} {ty ty2 ty3 : TypeId} {pos : String} {af : Array Edge} {g : Option (Nat × Bool)} {k k' : IntKind} {a m : Nat} (hx : ev L x = some (.int k (a : Int))) (hy : ev L y = some (.int k' (m : Int))) (hm : m ≤ k.bits) (hc : a * 2 ^ m < capK k) :
    OpV C (.plain ⟨dst, .binOp .shl ty x y ty2, ty3, pos, af, g⟩) L H (.int k ((a * 2 ^ m : Nat) : Int)) H := by
  refine OpV.shl hx hy (by omega) ?_
  rw [Int.toNat_natCast, Nat.min_eq_left hm, ← wrap_cap hc]
  congr 1
theorem OpV.shl1 {dst : Option Tmp} {x y : Operand} {ty ty2 ty3 : TypeId} {pos : String} {af : Array Edge} {g : Option (Nat × Bool)} {k k' : IntKind} {m : Nat} (hx : ev L x = some (.int k 1)) (hy : ev L y = some (.int k' (m : Int))) (hm : m ≤ k.bits) (hc : 2 ^ m < capK k) :
    OpV C (.plain ⟨dst, .binOp .shl ty x y ty2, ty3, pos, af, g⟩) L H (.int k ((2 ^ m : Nat) : Int)) H := by
  have := OpV.shlN (C := C) (H := H) (dst := dst) (ty := ty) (ty2 := ty2) (ty3 := ty3) (pos := pos) (af := af) (g := g) (a := 1) hx hy hm (by rwa [Nat.one_mul])
  rwa [Nat.one_mul] at this
end

/-- The bits of a list. -/
def maskN (l : List Nat) : Nat := l.foldl (fun a x => a ||| 2 ^ x) 0
theorem mask_from : ∀ (l : List Nat) (a i : Nat), (l.foldl (fun a x => a ||| 2 ^ x) a).testBit i = true ↔ a.testBit i = true ∨ i ∈ l
  | [], a, i => by simp
  | x :: l, a, i => by
    rw [List.foldl_cons, mask_from l, Nat.testBit_or, Nat.testBit_two_pow, List.mem_cons]
    simp only [Bool.or_eq_true, decide_eq_true_eq]
    constructor
    · rintro ((h | h) | h)
      · exact .inl h
      · exact .inr (.inl h.symm)
      · exact .inr (.inr h)
    · rintro (h | h | h)
      · exact .inl (.inl h)
      · exact .inl (.inr h.symm)
      · exact .inr h
theorem mask_bit {l : List Nat} {i : Nat} : (maskN l).testBit i = true ↔ i ∈ l := by
  unfold maskN; rw [mask_from]; simp
theorem mask_lt : ∀ {l : List Nat} {k : Nat}, (∀ x ∈ l, x < k) → maskN l < 2 ^ k := by
  intro l k h
  refine Nat.lt_pow_two_of_testBit _ fun i hi => ?_
  cases hb : (maskN l).testBit i with
  | false => rfl
  | true => have := h i (mask_bit.1 hb); omega
end Go.Abs
