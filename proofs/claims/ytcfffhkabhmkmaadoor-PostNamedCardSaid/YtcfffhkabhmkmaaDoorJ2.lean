/- Texts of the law, joined. -/
import Derived.Test.YtcfffhkabhmkmaaDoorSymX
import Derived.Test.YtcfffhkabhmkmaaDoorAbsEv
/- Bits of numbers that are not negative. -/
namespace Go.Abs
set_option linter.unusedSectionVars false
variable [Globs]
open Go
set_option linter.unusedVariables false
set_option linter.unusedSimpArgs false

/-- Numbers below it are what they are in each kind. -/
def capK (k : IntKind) : Nat := 2 ^ (if k.signed then k.bits - 1 else k.bits)

theorem capK_le (k : IntKind) : capK k ≤ 2 ^ k.bits := by cases k <;> decide
theorem wrap_cap {k : IntKind} {r : Nat} (h : r < capK k) : k.wrap (r : Int) = (r : Int) := by
  cases k
  · exact IntWalk.i8_in _ (by have : capK .i8 = 128 := by decide
                              omega)
  · exact IntWalk.i16_in _ (by have : capK .i16 = 32768 := by decide
                               omega)
  · exact IntWalk.i32_in _ (by have : capK .i32 = 2147483648 := by decide
                               omega)
  · exact IntWalk.i64_in _ (by have : capK .i64 = 9223372036854775808 := by decide
                               omega)
  · exact IntWalk.u8_in _ (by have : capK .u8 = 256 := by decide
                              omega)
  · exact IntWalk.u16_in _ (by have : capK .u16 = 65536 := by decide
                               omega)
  · exact IntWalk.u32_in _ (by have : capK .u32 = 4294967296 := by decide
                               omega)
  · exact IntWalk.u64_in _ (by have : capK .u64 = 18446744073709551616 := by decide
                               omega)
theorem or_cap {k : IntKind} {a b : Nat} (ha : a < capK k) (hb : b < capK k) : a ||| b < capK k := Nat.or_lt_two_pow ha hb
theorem and_cap {k : IntKind} {a b : Nat} (ha : a < capK k) : a &&& b < capK k := Nat.lt_of_le_of_lt Nat.and_le_left ha
theorem ofInt_nat (w a : Nat) : BitVec.ofInt w (a : Int) = BitVec.ofNat w a := by
  apply BitVec.eq_of_toNat_eq
  rw [BitVec.toNat_ofInt, BitVec.toNat_ofNat]
  have : ((a : Int) % ((2 ^ w : Nat) : Int)) = ((a % 2 ^ w : Nat) : Int) := by omega
  rw [this]; rfl

theorem bits_or {P : Program} {k : IntKind} {a b : Nat} (ha : a < capK k) (hb : b < capK k) : pureRun P (Op.intBits .or k (a : Int) (b : Int)) = some (.int k ((a ||| b : Nat) : Int)) := by
  have h1 := Nat.lt_of_lt_of_le ha (capK_le k)
  have h2 := Nat.lt_of_lt_of_le hb (capK_le k)
  have e : (BitVec.ofInt k.bits (a : Int) ||| BitVec.ofInt k.bits (b : Int)).toNat = a ||| b := by
    rw [ofInt_nat, ofInt_nat, BitVec.toNat_or, BitVec.toNat_ofNat, BitVec.toNat_ofNat, Nat.mod_eq_of_lt h1, Nat.mod_eq_of_lt h2]
  show some (Value.int k (k.wrap ((BitVec.ofInt k.bits (a : Int) ||| BitVec.ofInt k.bits (b : Int)).toNat : Int))) = _
  rw [e, wrap_cap (or_cap ha hb)]
theorem bits_and {P : Program} {k : IntKind} {a b : Nat} (ha : a < capK k) (hb : b < capK k) : pureRun P (Op.intBits .and k (a : Int) (b : Int)) = some (.int k ((a &&& b : Nat) : Int)) := by
  have h1 := Nat.lt_of_lt_of_le ha (capK_le k)
  have h2 := Nat.lt_of_lt_of_le hb (capK_le k)
  have e : (BitVec.ofInt k.bits (a : Int) &&& BitVec.ofInt k.bits (b : Int)).toNat = a &&& b := by
    rw [ofInt_nat, ofInt_nat, BitVec.toNat_and, BitVec.toNat_ofNat, BitVec.toNat_ofNat, Nat.mod_eq_of_lt h1, Nat.mod_eq_of_lt h2]
  show some (Value.int k (k.wrap ((BitVec.ofInt k.bits (a : Int) &&& BitVec.ofInt k.bits (b : Int)).toNat : Int))) = _
  rw [e, wrap_cap (and_cap ha)]
section
variable {C : CW} {ro : Option Nat} {fn : FuncId} {nt : Nat} {L L' : Env} {D : List Nat} {H H' : Heap} {K : St → Prop} {M M' : HL} {n : Nat} {i d : Nat} {gd : Option (Tmp × Bool)} {lo : List Nat} {l : List POp}

theorem OpV.orN {k : IntKind} {x y : Operand} {a b : Nat} (hx : ev L x = some (.int k (a : Int))) (hy : ev L y = some (.int k (b : Int))) (ha : a < capK k) (hb : b < capK k) : OpV C (.ibin .or k x y) L H (.int k ((a ||| b : Nat) : Int)) H :=
  OpV.bits hx hy rfl (bits_or ha hb) (.inr rfl) rfl
theorem OpV.andN {k : IntKind} {x y : Operand} {a b : Nat} (hx : ev L x = some (.int k (a : Int))) (hy : ev L y = some (.int k (b : Int))) (ha : a < capK k) (hb : b < capK k) : OpV C (.ibin .and k x y) L H (.int k ((a &&& b : Nat) : Int)) H :=
  OpV.bits hx hy rfl (bits_and ha hb) (.inl rfl) rfl
theorem OpV.shlN {dst : Option Tmp} {x y : Operand} {ty ty2 ty3 : TypeId} {pos : String} {af : Array Edge} {g : Option (Nat × Bool)} {k k' : IntKind} {a m : Nat} (hx : ev L x = some (.int k (a : Int))) (hy : ev L y = some (.int k' (m : Int))) (hm : m ≤ k.bits) (hc : a * 2 ^ m < capK k) :
    OpV C (.plain ⟨dst, .binOp .shl ty x y ty2, ty3, pos, af, g⟩) L H (.int k ((a * 2 ^ m : Nat) : Int)) H := by
  refine OpV.shl hx hy (by omega) ?_
  rw [Int.toNat_natCast, Nat.min_eq_left hm, ← wrap_cap hc]
  congr 1
theorem OpV.shl1 {dst : Option Tmp} {x y : Operand} {ty ty2 ty3 : TypeId} {pos : String} {af : Array Edge} {g : Option (Nat × Bool)} {k k' : IntKind} {m : Nat} (hx : ev L x = some (.int k 1)) (hy : ev L y = some (.int k' (m : Int))) (hm : m ≤ k.bits) (hc : 2 ^ m < capK k) :
    OpV C (.plain ⟨dst, .binOp .shl ty x y ty2, ty3, pos, af, g⟩) L H (.int k ((2 ^ m : Nat) : Int)) H := by
  have := OpV.shlN (C := C) (H := H) (dst := dst) (ty := ty) (ty2 := ty2) (ty3 := ty3) (pos := pos) (af := af) (g := g) (a := 1) hx hy hm (by rwa [Nat.one_mul])
  rwa [Nat.one_mul] at this
theorem OpV.shrN {dst : Option Tmp} {x y : Operand} {ty ty2 ty3 : TypeId} {pos : String} {af : Array Edge} {g : Option (Nat × Bool)} {k k' : IntKind} {a m : Nat} (hx : ev L x = some (.int k (a : Int))) (hy : ev L y = some (.int k' (m : Int))) (hm : m ≤ k.bits) :
    OpV C (.plain ⟨dst, .binOp .shr ty x y ty2, ty3, pos, af, g⟩) L H (.int k ((a >>> m : Nat) : Int)) H := by
  refine OpV.shr hx hy (by omega) ?_
  rw [Int.toNat_natCast, Nat.min_eq_left hm, Nat.shiftRight_eq_div_pow]
  have : (2 : Int) ^ m = ((2 ^ m : Nat) : Int) := by simp
  rw [this, Int.fdiv_eq_ediv_of_nonneg _ (Int.natCast_nonneg _)]
  exact (Int.natCast_ediv _ _).symm
end

/-- The bits of a list. -/
def maskN (l : List Nat) : Nat := l.foldl (fun a x => a ||| 2 ^ x) 0
theorem mask_from : ∀ (l : List Nat) (a i : Nat), (l.foldl (fun a x => a ||| 2 ^ x) a).testBit i = true ↔ a.testBit i = true ∨ i ∈ l
  | [], a, i => by simp
  | x :: l, a, i => by
    rw [List.foldl_cons, mask_from l, Nat.testBit_or, Nat.testBit_two_pow, List.mem_cons]
    simp only [Bool.or_eq_true, decide_eq_true_eq]
    constructor
    · rintro ((h | h) | h)
      · exact .inl h
      · exact .inr (.inl h.symm)
      · exact .inr (.inr h)
    · rintro (h | h | h)
      · exact .inl (.inl h)
      · exact .inl (.inr h.symm)
      · exact .inr h
theorem mask_bit {l : List Nat} {i : Nat} : (maskN l).testBit i = true ↔ i ∈ l := by
  unfold maskN; rw [mask_from]; simp
theorem mask_lt : ∀ {l : List Nat} {k : Nat}, (∀ x ∈ l, x < k) → maskN l < 2 ^ k := by
  intro l k h
  refine Nat.lt_pow_two_of_testBit _ fun i hi => ?_
  cases hb : (maskN l).testBit i with
  | false => rfl
  | true => have := h i (mask_bit.1 hb); omega
end Go.Abs

/- Mathematics of lists and of what is found first: no word of the program. -/
namespace Go.Mth
set_option linter.unusedVariables false

/-! The first error of several tests. -/
def firstE (f : Nat → Int) : Nat → Int
  | 0 => 0
  | k + 1 => if firstE f k = 0 then f k else firstE f k

theorem firstE_at {f : Nat → Int} {i : Nat} (h0 : firstE f i = 0) (hi : f i ≠ 0) : ∀ {m : Nat}, i < m → firstE f m = f i := by
  intro m
  induction m with
  | zero => intro h; omega
  | succ m ih =>
    intro h
    rcases Nat.lt_or_ge i m with h1 | h1
    · have := ih h1
      simp only [firstE]; rw [if_neg (by rw [this]; exact hi)]; exact this
    · have : i = m := by omega
      subst this
      simp only [firstE]; rw [if_pos h0]

theorem firstE_succ {f : Nat → Int} {i : Nat} (h0 : firstE f i = 0) (hi : f i = 0) : firstE f (i + 1) = 0 := by simp only [firstE]; rw [if_pos h0]; exact hi
theorem firstE_zero {f : Nat → Int} : ∀ {m : Nat}, firstE f m = 0 ↔ ∀ i, i < m → f i = 0 := by
  intro m
  induction m with
  | zero => simp [firstE]
  | succ m ih =>
    simp only [firstE]
    constructor
    · intro h i hi
      by_cases h0 : firstE f m = 0
      · rw [if_pos h0] at h
        rcases Nat.lt_or_ge i m with h1 | h1
        · exact ih.1 h0 i h1
        · have : i = m := by omega
          subst this; exact h
      · rw [if_neg h0] at h; exact absurd h h0
    · intro h
      have h0 : firstE f m = 0 := ih.2 fun i hi => h i (by omega)
      rw [if_pos h0]; exact h m (by omega)
/-! Lists without repetition. -/
theorem nodup_le : ∀ (r : Nat) (l : List Nat), l.Nodup → (∀ y ∈ l, y < r) → l.length ≤ r
  | 0, l, _, h => by
    cases l with
    | nil => exact Nat.le_refl _
    | cons x l => have := h x (by simp); omega
  | r + 1, l, hn, h => by
    have h1 := nodup_le r (l.filter (fun y => decide (y ≠ r))) (hn.filter _) (fun y hy => by
      obtain ⟨h2, h3⟩ := List.mem_filter.1 hy
      have := h y h2
      have : y ≠ r := by simpa using h3
      omega)
    have h2 : (l.filter (fun y => decide (y = r))).length ≤ 1 := by
      have h3 : (l.filter (fun y => decide (y = r))).Nodup := hn.filter _
      match hf : l.filter (fun y => decide (y = r)) with
      | [] => simp
      | [a] => simp
      | a :: b :: m =>
        rw [hf] at h3
        have ha : a ∈ l.filter (fun y => decide (y = r)) := by rw [hf]; simp
        have hb : b ∈ l.filter (fun y => decide (y = r)) := by rw [hf]; simp
        have e1 := (List.mem_filter.1 ha).2
        have e2 := (List.mem_filter.1 hb).2
        simp only [decide_eq_true_eq] at e1 e2
        rw [e1, e2] at h3
        simp at h3
    have h4 : ∀ m : List Nat, m.length = (m.filter (fun y => decide (y = r))).length + (m.filter (fun y => decide (y ≠ r))).length := by
      intro m
      induction m with
      | nil => rfl
      | cons x m ih => by_cases h : x = r <;> simp [h] <;> simp at ih <;> omega
    have := h4 l
    omega
/-! Runs: a place at which a run begins. -/
section
variable (p : Nat → Bool)
/-- The first and the last place. -/
structure Ends2 (k a b : Nat) : Prop where
  pa : p a = true
  ak : a < k
  lo : ∀ i, i < a → p i = false
  pb : p b = true
  bk : b < k
  hi : ∀ i, b < i → i < k → p i = false

variable {p}
theorem Ends2.le {k a b : Nat} (h : Ends2 p k a b) : a ≤ b := by
  rcases Nat.lt_or_ge b a with h1 | h1
  · have := h.lo b h1; rw [h.pb] at this; cases this
  · exact h1
theorem Ends2.first {k : Nat} (hk : p k = true) (hn : ∀ i, i < k → p i = false) : Ends2 p (k + 1) k k := ⟨hk, by omega, hn, hk, by omega, fun i h1 h2 => by omega⟩
theorem Ends2.next {k a b : Nat} (h : Ends2 p k a b) (hk : p k = true) : Ends2 p (k + 1) a k := ⟨h.pa, by have := h.ak; omega, h.lo, hk, by omega, fun i h1 h2 => by omega⟩
theorem Ends2.skip {k a b : Nat} (h : Ends2 p k a b) (hk : p k = false) : Ends2 p (k + 1) a b := ⟨h.pa, by have := h.ak; omega, h.lo, h.pb, by have := h.bk; omega, fun i h1 h2 => by
  rcases Nat.lt_or_ge i k with h3 | h3
  · exact h.hi i h1 h3
  · have : i = k := by omega
    subst this; exact hk⟩
end
end Go.Mth

/- What all laws' texts share. -/
namespace Go.Abs
set_option linter.unusedSectionVars false
variable [Globs]
open Go Go.Mth
set_option linter.unusedVariables false
abbrev ints (xs : List Int) : List Value := xs.map (Value.int .i64)
abbrev bools (xs : List Bool) : List Value := xs.map Value.bool
abbrev nodes (l : List Nat) : List Value := l.map (fun (x : Nat) => Value.int .i64 (x : Int))
theorem nodesI (l : List Nat) : nodes l = ints (l.map fun (x : Nat) => (x : Int)) := by simp [nodes, ints]
theorem mem_cast {l : List Nat} {q : Nat} : ((q : Int) ∈ l.map fun (x : Nat) => (x : Int)) ↔ q ∈ l := by
  rw [List.mem_map]
  constructor
  · rintro ⟨x, hx, he⟩
    have : x = q := by omega
    exact this ▸ hx
  · exact fun h => ⟨q, h, rfl⟩
theorem getD_eq {α : Type} {l : List α} {k : Nat} {a : α} (h : k < l.length) : l.getD k a = l[k] := by rw [List.getD_eq_getElem?_getD, List.getElem?_eq_getElem h]; rfl
theorem getD_mem {α : Type} {l : List α} {k : Nat} {a : α} (h : k < l.length) : l.getD k a ∈ l := by rw [getD_eq h]; exact List.getElem_mem h
theorem getD_set' {α : Type} {l : List α} {y z : Nat} {v a : α} (h : y < l.length) : (l.set y v).getD z a = if z = y then v else l.getD z a := by
  rw [List.getD_eq_getElem?_getD, List.getD_eq_getElem?_getD, List.getElem?_set]
  by_cases e : y = z
  · subst e; rw [if_pos rfl, if_pos h, if_pos rfl]; rfl
  · rw [if_neg e, if_neg (fun q => e q.symm)]
theorem getD_app_l {α : Type} {l m : List α} {k : Nat} {a : α} (h : k < l.length) : (l ++ m).getD k a = l.getD k a := by
  rw [List.getD_eq_getElem?_getD, List.getD_eq_getElem?_getD, List.getElem?_append_left h]
theorem getD_snoc {α : Type} {l : List α} {x a : α} : (l ++ [x]).getD l.length a = x := by
  rw [List.getD_eq_getElem?_getD, List.getElem?_append_right (Nat.le_refl _)]; simp
theorem getD_take {α : Type} {l : List α} {k m : Nat} {a : α} (h : m < k) : (l.take k).getD m a = l.getD m a := by
  rw [List.getD_eq_getElem?_getD, List.getD_eq_getElem?_getD, List.getElem?_take_of_lt h]
theorem ext_getD {α : Type} {l m : List α} {a : α} (h : l.length = m.length) (k : ∀ i, i < l.length → l.getD i a = m.getD i a) : l = m := by
  apply List.ext_getElem h
  intro i h1 h2
  have := k i h1
  rwa [getD_eq h1, getD_eq h2] at this

/-- A slice of slices of numbers. -/
def RowsI (M : HL) (v : Value) (fs : List (List Int)) : Prop := ∃ vs : List Value, Sl M 1 v vs ∧ vs.length = fs.length ∧ ∀ i, i < fs.length → Sl M 1 (vs.getD i undef) (ints (fs.getD i []))
theorem RowsI.mono {M M' : HL} {v : Value} {fs : List (List Int)} (h : RowsI M v fs) (k : ∀ p ∈ M, p ∈ M') : RowsI M' v fs := by
  obtain ⟨vs, h1, h2, h3⟩ := h
  exact ⟨vs, h1.mono k, h2, fun i hi => (h3 i hi).mono k⟩
theorem RowsI.cons {M : HL} {p : Nat × Ch} {v : Value} {fs : List (List Int)} (h : RowsI M v fs) : RowsI (p :: M) v fs := h.mono fun q hq => List.mem_cons_of_mem _ hq
theorem RowsI.one_ {M : HL} {v : Value} {fs : List (List Int)} (h : RowsI M v fs) : one v = true := by obtain ⟨vs, h1, _⟩ := h; exact h1.one_
section
variable {C : CW} {nt : Nat} {L : Env} {D : List Nat} {H : Heap} {K : St → Prop} {M M' : HL} {n i d : Nat} {gd : Option (Tmp × Bool)} {lo' : List Nat} {l : List POp}
end
section
variable {C : CW} {nt : Nat} {L : Env} {D : List Nat} {H : Heap} {K : St → Prop} {M M' : HL} {n i d : Nat} {gd : Option (Tmp × Bool)} {lo : List Nat} {l : List POp}
theorem WR.mkSL {e m : Nat} {z : List Value} {x y : Operand} {kd kd2 : IntKind} (hg : gOK L gd) (hd : Nat.blt d nt = true) (hH : hasH M n H) (hx : ev L x = some (.int kd (m : Int))) (hy : ev L y = some (.int kd2 (m : Int)))
    (hm : m ≤ 100000) (hz : z.all one = true)
    (kk : ∀ H', hasH ((n, .row e 0 0 (List.replicate m z).flatten) :: M) (n + 1) H' → WR C nt l ((d, .slice (some ⟨n, 0, some 0⟩) m (2 * m + 1)) :: L) D H' K) : WR C nt (⟨i, some d, .mkS e z x y, gd, lo⟩ :: l) L D H K := by
  have e1 : natOf (.int kd (m : Int)) = some m := rfl
  have e2 : natOf (.int kd2 (m : Int)) = some m := rfl
  refine WR.op hg hd (H' := H.row e (List.replicate m z).flatten) (v := .slice (some ⟨n, 0, some 0⟩) m (2 * m + 1)) (fun t ht => ?_) (kk _ (hH.row e ?_))
  · simp only [opA, ev_ok ht hx, ev_ok ht hy, oMkS, e1, e2, newAddr, hH.next]
    have b1 : Nat.ble m m = true := Nat.ble_eq_true_of_le (Nat.le_refl _)
    have b2 : Nat.ble m 100000 = true := Nat.ble_eq_true_of_le hm
    rw [b1, b2]; rfl
  · rw [List.all_eq_true]; intro q hq
    obtain ⟨l, hl, hq⟩ := List.mem_flatten.1 hq
    rw [(List.mem_replicate.1 hl).2] at hq
    exact List.all_eq_true.1 hz q hq
end
abbrev numsK (kk : IntKind) (l : List Nat) : List Value := l.map (fun (x : Nat) => Value.int kk (x : Int))
/-- Two cells, one behind another. -/
def PCell (M : HL) (b o u : Nat) (p : Int × Int) : Prop := ∃ ch lo cs, (b, ch) ∈ M ∧ ch.cellsAre u lo cs ∧ lo ≤ o ∧ cs[o - lo]? = some (.int .i64 p.1) ∧ cs[o - lo + 1]? = some (.int .i64 p.2)
theorem PCell.readN {M : HL} {n : Nat} {H : Heap} {b o u : Nat} {p : Int × Int} (h : PCell M b o u p) (hH : hasH M n H) : H.readN ⟨b, o, some u⟩ 2 = some [.int .i64 p.1, .int .i64 p.2] := by
  obtain ⟨ch, lo, cs, h1, h2, h3, h4, h5⟩ := h
  have hlt : o - lo + 1 < cs.length := (List.getElem?_eq_some_iff.1 h5).1
  rw [hH.readN (k := 2) h1 h2 h3 (by omega)]
  congr 1
  refine List.ext_getElem? fun i => ?_
  rcases i with _ | _ | i
  · rw [List.getElem?_take_of_lt (by omega), List.getElem?_drop, Nat.add_zero, h4]; rfl
  · rw [List.getElem?_take_of_lt (by omega), List.getElem?_drop, h5]; rfl
  · rw [List.getElem?_eq_none (by simp; omega), List.getElem?_eq_none (by simp)]
section
variable {C : CW} {nt : Nat} {L : Env} {D : List Nat} {H : Heap} {K : St → Prop} {M M' : HL} {n i d : Nat} {gd : Option (Tmp × Bool)} {lo : List Nat} {l : List POp} {rs : List Rd}
end
end Go.Abs

/- Rows of elements of several cells each. -/
namespace Go.Abs
set_option linter.unusedSectionVars false
variable [Globs]
open Go Go.Mth
set_option linter.unusedVariables false
section
variable {α : Type} {F : α → List Value} {K : Nat}
/-- Several cells, one behind another. -/
def KCell (M : HL) (b o u : Nat) (vs : List Value) : Prop := ∃ ch lo cs, (b, ch) ∈ M ∧ ch.cellsAre u lo cs ∧ lo ≤ o ∧ o - lo + vs.length ≤ cs.length ∧ (cs.drop (o - lo)).take vs.length = vs
theorem KCell.at {M : HL} {b o u j : Nat} {vs : List Value} {v : Value} (h : KCell M b o u vs) (hv : vs[j]? = some v) : Cell M b (o + j) u v := by
  obtain ⟨ch, lo, cs, h1, h2, h3, h4, h5⟩ := h
  have hj : j < vs.length := (List.getElem?_eq_some_iff.1 hv).1
  refine ⟨ch, lo, cs, h1, h2, by omega, ?_⟩
  rw [← h5, List.getElem?_take_of_lt hj, List.getElem?_drop] at hv
  rw [← hv]; congr 1; omega
theorem KCell.mono {M M' : HL} {b o u : Nat} {vs : List Value} (h : KCell M b o u vs) (k : ∀ p ∈ M, p ∈ M') : KCell M' b o u vs := by
  obtain ⟨ch, lo, cs, h1, h2⟩ := h
  exact ⟨ch, lo, cs, k _ h1, h2⟩
end
section
variable {C : CW} {nt : Nat} {L : Env} {D : List Nat} {H : Heap} {K : St → Prop} {M M' : HL} {n i d : Nat} {gd : Option (Tmp × Bool)} {lo : List Nat} {l : List POp} {rs : List Rd}
variable {α : Type} {F : α → List Value} {z : Nat}
end
end Go.Abs

/- What the package-level variable that the laws of post read holds: a table of the library's. -/
namespace Go.Abs
def bruijn64 : List Value := [0, 1, 56, 2, 57, 49, 28, 3, 61, 58, 42, 50, 38, 29, 17, 4, 62, 47, 59, 36, 45, 43, 51, 22, 53, 39, 33, 30, 24, 18, 12, 5, 63, 55, 48, 27, 60, 41, 37, 16, 46, 35, 44, 21, 52, 32, 23, 11, 54, 26, 40, 15, 34, 20, 31, 10, 25, 14, 19, 9, 13, 8, 7, 6].map (Value.int .u8)
instance gl12 : Globs := ⟨fun g => bif Nat.beq g 1 then some bruijn64 else none⟩
end Go.Abs
