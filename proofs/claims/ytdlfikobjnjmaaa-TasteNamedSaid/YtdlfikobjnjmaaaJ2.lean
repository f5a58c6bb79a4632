/- Texts of the law, joined. -/
import Derived.Test.YtdlfikobjnjmaaaSymX
import Derived.Test.YtdlfikobjnjmaaaAbsEv
import Derived.Test.YtdlfikobjnjmaaaPerm
/- Bits of numbers that are not negative. -/
namespace Go.Abs
set_option linter.unusedSectionVars false
variable [Globs]
open Go
set_option linter.unusedVariables false
set_option linter.unusedSimpArgs false

/-- Numbers below it are what they are in each kind. -/
def capK (k : IntKind) : Nat := 2 ^ (if k.signed then k.bits - 1 else k.bits)

theorem capK_le (k : IntKind) : capK k ≤ 2 ^ k.bits := by cases k <;> decide
theorem wrap_cap {k : IntKind} {r : Nat} (h : r < capK k) : k.wrap (r : Int) = (r : Int) := by
  cases k
  · exact IntWalk.i8_in _ (by have : capK .i8 = 128 := by decide
                              omega)
  · exact IntWalk.i16_in _ (by have : capK .i16 = 32768 := by decide
                               omega)
  · exact IntWalk.i32_in _ (by have : capK .i32 = 2147483648 := by decide
                               omega)
  · exact IntWalk.i64_in _ (by have : capK .i64 = 9223372036854775808 := by decide
                               omega)
  · exact IntWalk.u8_in _ (by have : capK .u8 = 256 := by decide
                              omega)
  · exact IntWalk.u16_in _ (by have : capK .u16 = 65536 := by decide
                               omega)
  · exact IntWalk.u32_in _ (by have : capK .u32 = 4294967296 := by decide
                               omega)
  · exact IntWalk.u64_in _ (by have : capK .u64 = 18446744073709551616 := by decide
                               omega)
theorem and_cap {k : IntKind} {a b : Nat} (ha : a < capK k) : a &&& b < capK k := Nat.lt_of_le_of_lt Nat.and_le_left ha
theorem ofInt_nat (w a : Nat) : BitVec.ofInt w (a : Int) = BitVec.ofNat w a := by
  apply BitVec.eq_of_toNat_eq
  rw [BitVec.toNat_ofInt, BitVec.toNat_ofNat]
  have : ((a : Int) % ((2 ^ w : Nat) : Int)) = ((a % 2 ^ w : Nat) : Int) := by omega
  rw [this]; rfl
theorem bits_and {P : Program} {k : IntKind} {a b : Nat} (ha : a < capK k) (hb : b < capK k) : pureRun P (Op.intBits .and k (a : Int) (b : Int)) = some (.int k ((a &&& b : Nat) : Int)) := by
  have h1 := Nat.lt_of_lt_of_le ha (capK_le k)
  have h2 := Nat.lt_of_lt_of_le hb (capK_le k)
  have e : (BitVec.ofInt k.bits (a : Int) &&& BitVec.ofInt k.bits (b : Int)).toNat = a &&& b := by
    rw [ofInt_nat, ofInt_nat, BitVec.toNat_and, BitVec.toNat_ofNat, BitVec.toNat_ofNat, Nat.mod_eq_of_lt h1, Nat.mod_eq_of_lt h2]
  show some (Value.int k (k.wrap ((BitVec.ofInt k.bits (a : Int) &&& BitVec.ofInt k.bits (b : Int)).toNat : Int))) = _
  rw [e, wrap_cap (and_cap ha)]
theorem shr_and_one {a m : Nat} : (((((a >>> m) &&& 1 : Nat) : Int)) = 1) ↔ a.testBit m = true := by
  rw [Nat.testBit, Nat.and_one_is_mod, bne_iff_ne, Nat.one_and_eq_mod_two]
  have := Nat.mod_two_eq_zero_or_one (a >>> m)
  omega

section
variable {C : CW} {ro : Option Nat} {fn : FuncId} {nt : Nat} {L L' : Env} {D : List Nat} {H H' : Heap} {K : St → Prop} {M M' : HL} {n : Nat} {i d : Nat} {gd : Option (Tmp × Bool)} {lo : List Nat} {l : List POp}
theorem OpV.andN {k : IntKind} {x y : Operand} {a b : Nat} (hx : ev L x = some (.int k (a : Int))) (hy : ev L y = some (.int k (b : Int))) (ha : a < capK k) (hb : b < capK k) : OpV C (.ibin .and k x y) L H (.int k ((a &&& b : Nat) : Int)) H :=
  OpV.bits hx hy rfl (bits_and ha hb) (.inl rfl) rfl
theorem OpV.shlN {dst : Option Tmp} {x y : Operand} {ty ty2 ty3 : TypeId} {pos : String} {af : Array Edge} {g : Option (Nat × Bool)} {k k' : IntKind} {a m : Nat} (hx : ev L x = some (.int k (a : Int))) (hy : ev L y = some (.int k' (m : Int))) (hm : m ≤ k.bits) (hc : a * 2 ^ m < capK k) :
    OpV C (.plain ⟨dst, .binOp .shl ty x y ty2, ty3, pos, af, g⟩) L H (.int k ((a * 2 ^ m : Nat) : Int)) H := by
  refine OpV.shl hx hy (by omega) ?_
  rw [Int.toNat_natCast, Nat.min_eq_left hm, ← wrap_cap hc]
  congr 1
theorem OpV.shl1 {dst : Option Tmp} {x y : Operand} {ty ty2 ty3 : TypeId} {pos : String} {af : Array Edge} {g : Option (Nat × Bool)} {k k' : IntKind} {m : Nat} (hx : ev L x = some (.int k 1)) (hy : ev L y = some (.int k' (m : Int))) (hm : m ≤ k.bits) (hc : 2 ^ m < capK k) :
    OpV C (.plain ⟨dst, .binOp .shl ty x y ty2, ty3, pos, af, g⟩) L H (.int k ((2 ^ m : Nat) : Int)) H := by
  have := OpV.shlN (C := C) (H := H) (dst := dst) (ty := ty) (ty2 := ty2) (ty3 := ty3) (pos := pos) (af := af) (g := g) (a := 1) hx hy hm (by rwa [Nat.one_mul])
  rwa [Nat.one_mul] at this
theorem OpV.shrN {dst : Option Tmp} {x y : Operand} {ty ty2 ty3 : TypeId} {pos : String} {af : Array Edge} {g : Option (Nat × Bool)} {k k' : IntKind} {a m : Nat} (hx : ev L x = some (.int k (a : Int))) (hy : ev L y = some (.int k' (m : Int))) (hm : m ≤ k.bits) :
    OpV C (.plain ⟨dst, .binOp .shr ty x y ty2, ty3, pos, af, g⟩) L H (.int k ((a >>> m : Nat) : Int)) H := by
  refine OpV.shr hx hy (by omega) ?_
  rw [Int.toNat_natCast, Nat.min_eq_left hm, Nat.shiftRight_eq_div_pow]
  have : (2 : Int) ^ m = ((2 ^ m : Nat) : Int) := by simp
  rw [this, Int.fdiv_eq_ediv_of_nonneg _ (Int.natCast_nonneg _)]
  exact (Int.natCast_ediv _ _).symm
end

/-- The bits of a list. -/
def maskN (l : List Nat) : Nat := l.foldl (fun a x => a ||| 2 ^ x) 0
end Go.Abs

/- Mathematics of lists and of what is found first: no word of the program. -/
namespace Go.Mth
set_option linter.unusedVariables false

/-! The first error of several tests. -/
def firstE (f : Nat → Int) : Nat → Int
  | 0 => 0
  | k + 1 => if firstE f k = 0 then f k else firstE f k

theorem firstE_at {f : Nat → Int} {i : Nat} (h0 : firstE f i = 0) (hi : f i ≠ 0) : ∀ {m : Nat}, i < m → firstE f m = f i := by
  intro m
  induction m with
  | zero => intro h; omega
  | succ m ih =>
    intro h
    rcases Nat.lt_or_ge i m with h1 | h1
    · have := ih h1
      simp only [firstE]; rw [if_neg (by rw [this]; exact hi)]; exact this
    · have : i = m := by omega
      subst this
      simp only [firstE]; rw [if_pos h0]

theorem firstE_succ {f : Nat → Int} {i : Nat} (h0 : firstE f i = 0) (hi : f i = 0) : firstE f (i + 1) = 0 := by simp only [firstE]; rw [if_pos h0]; exact hi
theorem firstE_zero {f : Nat → Int} : ∀ {m : Nat}, firstE f m = 0 ↔ ∀ i, i < m → f i = 0 := by
  intro m
  induction m with
  | zero => simp [firstE]
  | succ m ih =>
    simp only [firstE]
    constructor
    · intro h i hi
      by_cases h0 : firstE f m = 0
      · rw [if_pos h0] at h
        rcases Nat.lt_or_ge i m with h1 | h1
        · exact ih.1 h0 i h1
        · have : i = m := by omega
          subst this; exact h
      · rw [if_neg h0] at h; exact absurd h h0
    · intro h
      have h0 : firstE f m = 0 := ih.2 fun i hi => h i (by omega)
      rw [if_pos h0]; exact h m (by omega)
/-! Lists without repetition. -/
theorem nodup_le : ∀ (r : Nat) (l : List Nat), l.Nodup → (∀ y ∈ l, y < r) → l.length ≤ r
  | 0, l, _, h => by
    cases l with
    | nil => exact Nat.le_refl _
    | cons x l => have := h x (by simp); omega
  | r + 1, l, hn, h => by
    have h1 := nodup_le r (l.filter (fun y => decide (y ≠ r))) (hn.filter _) (fun y hy => by
      obtain ⟨h2, h3⟩ := List.mem_filter.1 hy
      have := h y h2
      have : y ≠ r := by simpa using h3
      omega)
    have h2 : (l.filter (fun y => decide (y = r))).length ≤ 1 := by
      have h3 : (l.filter (fun y => decide (y = r))).Nodup := hn.filter _
      match hf : l.filter (fun y => decide (y = r)) with
      | [] => simp
      | [a] => simp
      | a :: b :: m =>
        rw [hf] at h3
        have ha : a ∈ l.filter (fun y => decide (y = r)) := by rw [hf]; simp
        have hb : b ∈ l.filter (fun y => decide (y = r)) := by rw [hf]; simp
        have e1 := (List.mem_filter.1 ha).2
        have e2 := (List.mem_filter.1 hb).2
        simp only [decide_eq_true_eq] at e1 e2
        rw [e1, e2] at h3
        simp at h3
    have h4 : ∀ m : List Nat, m.length = (m.filter (fun y => decide (y = r))).length + (m.filter (fun y => decide (y ≠ r))).length := by
      intro m
      induction m with
      | nil => rfl
      | cons x m ih => by_cases h : x = r <;> simp [h] <;> simp at ih <;> omega
    have := h4 l
    omega
/-! Runs: a place at which a run begins. -/
section
variable (p : Nat → Bool)
/-- The first and the last place. -/
structure Ends2 (k a b : Nat) : Prop where
  pa : p a = true
  ak : a < k
  lo : ∀ i, i < a → p i = false
  pb : p b = true
  bk : b < k
  hi : ∀ i, b < i → i < k → p i = false

variable {p}
theorem Ends2.unique {k a b a' b' : Nat} (h : Ends2 p k a b) (h' : Ends2 p k a' b') : a = a' ∧ b = b' := by
  constructor
  · rcases Nat.lt_trichotomy a a' with h1 | h1 | h1
    · have := h'.lo a h1; rw [h.pa] at this; cases this
    · exact h1
    · have := h.lo a' h1; rw [h'.pa] at this; cases this
  · rcases Nat.lt_trichotomy b b' with h1 | h1 | h1
    · have := h.hi b' h1 h'.bk; rw [h'.pb] at this; cases this
    · exact h1
    · have := h'.hi b h1 h.bk; rw [h.pb] at this; cases this
theorem Ends2.le {k a b : Nat} (h : Ends2 p k a b) : a ≤ b := by
  rcases Nat.lt_or_ge b a with h1 | h1
  · have := h.lo b h1; rw [h.pb] at this; cases this
  · exact h1
theorem Ends2.first {k : Nat} (hk : p k = true) (hn : ∀ i, i < k → p i = false) : Ends2 p (k + 1) k k := ⟨hk, by omega, hn, hk, by omega, fun i h1 h2 => by omega⟩
theorem Ends2.next {k a b : Nat} (h : Ends2 p k a b) (hk : p k = true) : Ends2 p (k + 1) a k := ⟨h.pa, by have := h.ak; omega, h.lo, hk, by omega, fun i h1 h2 => by omega⟩
theorem Ends2.skip {k a b : Nat} (h : Ends2 p k a b) (hk : p k = false) : Ends2 p (k + 1) a b := ⟨h.pa, by have := h.ak; omega, h.lo, h.pb, by have := h.bk; omega, fun i h1 h2 => by
  rcases Nat.lt_or_ge i k with h3 | h3
  · exact h.hi i h1 h3
  · have : i = k := by omega
    subst this; exact hk⟩
end
end Go.Mth

/- What all laws' texts share. -/
namespace Go.Abs
set_option linter.unusedSectionVars false
variable [Globs]
open Go Go.Mth
set_option linter.unusedVariables false
abbrev ints (xs : List Int) : List Value := xs.map (Value.int .i64)
abbrev bools (xs : List Bool) : List Value := xs.map Value.bool
abbrev nodes (l : List Nat) : List Value := l.map (fun (x : Nat) => Value.int .i64 (x : Int))
theorem getD_eq {α : Type} {l : List α} {k : Nat} {a : α} (h : k < l.length) : l.getD k a = l[k] := by rw [List.getD_eq_getElem?_getD, List.getElem?_eq_getElem h]; rfl
theorem getD_mem {α : Type} {l : List α} {k : Nat} {a : α} (h : k < l.length) : l.getD k a ∈ l := by rw [getD_eq h]; exact List.getElem_mem h
theorem getD_set' {α : Type} {l : List α} {y z : Nat} {v a : α} (h : y < l.length) : (l.set y v).getD z a = if z = y then v else l.getD z a := by
  rw [List.getD_eq_getElem?_getD, List.getD_eq_getElem?_getD, List.getElem?_set]
  by_cases e : y = z
  · subst e; rw [if_pos rfl, if_pos h, if_pos rfl]; rfl
  · rw [if_neg e, if_neg (fun q => e q.symm)]
theorem getD_app_l {α : Type} {l m : List α} {k : Nat} {a : α} (h : k < l.length) : (l ++ m).getD k a = l.getD k a := by
  rw [List.getD_eq_getElem?_getD, List.getD_eq_getElem?_getD, List.getElem?_append_left h]
theorem getD_snoc {α : Type} {l : List α} {x a : α} : (l ++ [x]).getD l.length a = x := by
  rw [List.getD_eq_getElem?_getD, List.getElem?_append_right (Nat.le_refl _)]; simp
theorem getD_take {α : Type} {l : List α} {k m : Nat} {a : α} (h : m < k) : (l.take k).getD m a = l.getD m a := by
  rw [List.getD_eq_getElem?_getD, List.getD_eq_getElem?_getD, List.getElem?_take_of_lt h]
theorem ext_getD {α : Type} {l m : List α} {a : α} (h : l.length = m.length) (k : ∀ i, i < l.length → l.getD i a = m.getD i a) : l = m := by
  apply List.ext_getElem h
  intro i h1 h2
  have := k i h1
  rwa [getD_eq h1, getD_eq h2] at this

/-- A slice of slices of numbers. -/
def RowsI (M : HL) (v : Value) (fs : List (List Int)) : Prop := ∃ vs : List Value, Sl M 1 v vs ∧ vs.length = fs.length ∧ ∀ i, i < fs.length → Sl M 1 (vs.getD i undef) (ints (fs.getD i []))
theorem RowsI.mono {M M' : HL} {v : Value} {fs : List (List Int)} (h : RowsI M v fs) (k : ∀ p ∈ M, p ∈ M') : RowsI M' v fs := by
  obtain ⟨vs, h1, h2, h3⟩ := h
  exact ⟨vs, h1.mono k, h2, fun i hi => (h3 i hi).mono k⟩
theorem RowsI.cons {M : HL} {p : Nat × Ch} {v : Value} {fs : List (List Int)} (h : RowsI M v fs) : RowsI (p :: M) v fs := h.mono fun q hq => List.mem_cons_of_mem _ hq
theorem RowsI.one_ {M : HL} {v : Value} {fs : List (List Int)} (h : RowsI M v fs) : one v = true := by obtain ⟨vs, h1, _⟩ := h; exact h1.one_
section
variable {C : CW} {nt : Nat} {L : Env} {D : List Nat} {H : Heap} {K : St → Prop} {M M' : HL} {n i d : Nat} {gd : Option (Tmp × Bool)} {lo' : List Nat} {l : List POp}
end
section
variable {C : CW} {nt : Nat} {L : Env} {D : List Nat} {H : Heap} {K : St → Prop} {M M' : HL} {n i d : Nat} {gd : Option (Tmp × Bool)} {lo : List Nat} {l : List POp}
end
abbrev numsK (kk : IntKind) (l : List Nat) : List Value := l.map (fun (x : Nat) => Value.int kk (x : Int))
/-- Two cells, one behind another. -/
def PCell (M : HL) (b o u : Nat) (p : Int × Int) : Prop := ∃ ch lo cs, (b, ch) ∈ M ∧ ch.cellsAre u lo cs ∧ lo ≤ o ∧ cs[o - lo]? = some (.int .i64 p.1) ∧ cs[o - lo + 1]? = some (.int .i64 p.2)
theorem PCell.snd {M : HL} {b o u : Nat} {p : Int × Int} (h : PCell M b o u p) : Cell M b (o + 1) u (.int .i64 p.2) := by
  obtain ⟨ch, lo, cs, h1, h2, h3, h4, h5⟩ := h
  exact ⟨ch, lo, cs, h1, h2, by omega, by rw [show o + 1 - lo = o - lo + 1 by omega]; exact h5⟩
theorem PCell.readN {M : HL} {n : Nat} {H : Heap} {b o u : Nat} {p : Int × Int} (h : PCell M b o u p) (hH : hasH M n H) : H.readN ⟨b, o, some u⟩ 2 = some [.int .i64 p.1, .int .i64 p.2] := by
  obtain ⟨ch, lo, cs, h1, h2, h3, h4, h5⟩ := h
  have hlt : o - lo + 1 < cs.length := (List.getElem?_eq_some_iff.1 h5).1
  rw [hH.readN (k := 2) h1 h2 h3 (by omega)]
  congr 1
  refine List.ext_getElem? fun i => ?_
  rcases i with _ | _ | i
  · rw [List.getElem?_take_of_lt (by omega), List.getElem?_drop, Nat.add_zero, h4]; rfl
  · rw [List.getElem?_take_of_lt (by omega), List.getElem?_drop, h5]; rfl
  · rw [List.getElem?_eq_none (by simp; omega), List.getElem?_eq_none (by simp)]
section
variable {C : CW} {nt : Nat} {L : Env} {D : List Nat} {H : Heap} {K : St → Prop} {M M' : HL} {n i d : Nat} {gd : Option (Tmp × Bool)} {lo : List Nat} {l : List POp} {rs : List Rd}
end
end Go.Abs

/- Rows of elements of several cells each. -/
namespace Go.Abs
set_option linter.unusedSectionVars false
variable [Globs]
open Go Go.Mth
set_option linter.unusedVariables false
def cellsF {α : Type} (F : α → List Value) (l : List α) : List Value := (l.map F).flatten
section
variable {α : Type} {F : α → List Value} {K : Nat}
theorem cellsF_len (hF : ∀ a, (F a).length = K) : ∀ l : List α, (cellsF F l).length = l.length * K
  | [] => by simp [cellsF]
  | a :: l => by
    have := cellsF_len hF l
    simp only [cellsF, List.map_cons, List.flatten_cons, List.length_append, List.length_cons, hF] at this ⊢
    rw [this, Nat.succ_mul]; omega
theorem cellsF_drop (hF : ∀ a, (F a).length = K) : ∀ (l : List α) (m : Nat), (cellsF F l).drop (m * K) = cellsF F (l.drop m)
  | l, 0 => by simp
  | [], m + 1 => by simp [cellsF]
  | a :: l, m + 1 => by
    have := cellsF_drop hF l m
    simp only [cellsF, List.map_cons, List.flatten_cons, List.drop_succ_cons] at this ⊢
    rw [← this, Nat.succ_mul, Nat.add_comm, ← List.drop_drop, List.drop_left' (hF a)]
theorem cellsF_at (hF : ∀ a, (F a).length = K) {l : List α} {m : Nat} (h : m < l.length) : ((cellsF F l).drop (m * K)).take K = F l[m] := by
  rw [cellsF_drop hF, List.drop_eq_getElem_cons h]
  simp only [cellsF, List.map_cons, List.flatten_cons]
  exact List.take_left' (hF _)
/-- Several cells, one behind another. -/
def KCell (M : HL) (b o u : Nat) (vs : List Value) : Prop := ∃ ch lo cs, (b, ch) ∈ M ∧ ch.cellsAre u lo cs ∧ lo ≤ o ∧ o - lo + vs.length ≤ cs.length ∧ (cs.drop (o - lo)).take vs.length = vs
theorem KCell.at {M : HL} {b o u j : Nat} {vs : List Value} {v : Value} (h : KCell M b o u vs) (hv : vs[j]? = some v) : Cell M b (o + j) u v := by
  obtain ⟨ch, lo, cs, h1, h2, h3, h4, h5⟩ := h
  have hj : j < vs.length := (List.getElem?_eq_some_iff.1 hv).1
  refine ⟨ch, lo, cs, h1, h2, by omega, ?_⟩
  rw [← h5, List.getElem?_take_of_lt hj, List.getElem?_drop] at hv
  rw [← hv]; congr 1; omega
theorem KCell.mono {M M' : HL} {b o u : Nat} {vs : List Value} (h : KCell M b o u vs) (k : ∀ p ∈ M, p ∈ M') : KCell M' b o u vs := by
  obtain ⟨ch, lo, cs, h1, h2⟩ := h
  exact ⟨ch, lo, cs, k _ h1, h2⟩
theorem Sl.lenK {M : HL} {v : Value} {l : List α} (hF : ∀ a, (F a).length = K) (hK : 1 ≤ K) (h : Sl M K v (cellsF F l)) : ∃ a c, v = .slice a l.length c := by
  have hl := cellsF_len hF l
  generalize cellsF F l = cs at h hl
  have h0 : ∀ {n : Nat}, n * K = 0 → n = 0 := fun {n} h => by rcases Nat.mul_eq_zero.1 h with h | h <;> omega
  cases h with
  | nil c => have := h0 (n := l.length) (by simp at hl; omega)
             exact ⟨none, c, by rw [this]⟩
  | emp a => have := h0 (n := l.length) (by simp at hl; omega)
             exact ⟨some a, _, by rw [this]⟩
  | row hm hcl hlo hln hv hin hcap =>
    rename_i b o u lo len cap ch cs'
    have : l.length = len := Nat.eq_of_mul_eq_mul_right hK (by omega)
    exact ⟨_, _, by rw [this]⟩
end
section
variable {C : CW} {nt : Nat} {L : Env} {D : List Nat} {H : Heap} {K : St → Prop} {M M' : HL} {n i d : Nat} {gd : Option (Tmp × Bool)} {lo : List Nat} {l : List POp} {rs : List Rd}
variable {α : Type} {F : α → List Value} {z : Nat}
theorem OpV.lenK {x : Operand} {v : Value} {ps : List α} (hF : ∀ a, (F a).length = z) (hz : 1 ≤ z) (hx : ev L x = some v) (hS : Sl M z v (cellsF F ps)) : OpV C (.len x) L H (.int .i64 (ps.length : Int)) H := by
  obtain ⟨a, c, rfl⟩ := hS.lenK hF hz
  exact OpV.len hx
theorem OpV.idxK {x ix : Operand} {kd : IntKind} {m : Nat} {v : Value} {ps : List α} (hF : ∀ a, (F a).length = z) (hz : 1 ≤ z) (hx : ev L x = some v) (hS : Sl M z v (cellsF F ps)) (hi : ev L ix = some (.int kd (m : Int))) (hm : m < ps.length) :
    ∃ b o u, OpV C (.idxS x ix z) L H (.pointer (some ⟨b, o, some u⟩)) H ∧ KCell M b o u (F ps[m]) := by
  have hg := cellsF_at hF hm
  have hl := cellsF_len hF ps
  generalize cellsF F ps = cs at hS hg hl
  have hm1 : m * z + z ≤ ps.length * z := by
    have := Nat.mul_le_mul_right z (show m + 1 ≤ ps.length by omega)
    rwa [Nat.succ_mul] at this
  cases hS with
  | nil c =>
    have h : ps.length * z = 0 := by simp only [List.length_nil] at hl; omega
    rcases Nat.mul_eq_zero.1 h with h | h <;> omega
  | emp a =>
    have h : ps.length * z = 0 := by simp only [List.length_nil] at hl; omega
    rcases Nat.mul_eq_zero.1 h with h | h <;> omega
  | row hm2 hc hlo hln hv hin hp =>
    rename_i b o u lo' len cap ch cs'
    have hlen : ps.length = len := Nat.eq_of_mul_eq_mul_right hz (by omega)
    refine ⟨b, o + m * z, u, OpV.idxS hx hi rfl (by omega) rfl, ch, lo', cs', hm2, hc, by omega, by rw [hF]; omega, ?_⟩
    rw [hF, ← hg, ← hv, List.drop_take, List.take_take, List.drop_drop, show o + m * z - lo' = o - lo' + m * z by omega, Nat.min_eq_left (by omega)]
theorem WR.idxK {x ix : Operand} {kd : IntKind} {m : Nat} {v : Value} {ps : List α} (hF : ∀ a, (F a).length = z) (hz : 1 ≤ z) (hg : gOK L gd) (hd : Nat.blt d nt = true) (hx : ev L x = some v) (hS : Sl M z v (cellsF F ps)) (hi : ev L ix = some (.int kd (m : Int))) (hm : m < ps.length)
    (k : ∀ b o u, KCell M b o u (F ps[m]) → WR C nt l ((d, .pointer (some ⟨b, o, some u⟩)) :: L) D H K) : WR C nt (⟨i, some d, .idxS x ix z, gd, lo⟩ :: l) L D H K := by
  obtain ⟨b, o, u, h1, h2⟩ := OpV.idxK (C := C) (H := H) hF hz hx hS hi hm
  exact WR.op hg hd h1 (k b o u h2)
theorem OpV.loadK {x : Operand} {b o u k : Nat} {vs : List Value} (hx : ev L x = some (.pointer (some ⟨b, o, some u⟩))) (hP : KCell M b o u vs) (hH : hasH M n H) (hk : vs.length = k) : OpV C (.loadN x k) L H (.agg vs.toArray) H := by
  obtain ⟨ch, lo', cs, h1, h2, h3, h4, h5⟩ := hP
  subst hk
  exact OpV.loadN hx hH h1 h2 h3 h4 h5
end
end Go.Abs

/- Comparisons of numbers and of lists. -/
namespace Go.Mth
set_option linter.unusedVariables false
def cmpI (a b : Int) : Int := if a < b then -1 else if b < a then 1 else 0
def lexC : List Int → List Int → Int
  | [], [] => 0
  | [], _ :: _ => -1
  | _ :: _, [] => 1
  | a :: l, b :: m => if cmpI a b ≠ 0 then cmpI a b else lexC l m
theorem cmp_zero {a b : Int} : cmpI a b = 0 ↔ a = b := by unfold cmpI; split <;> (try split) <;> omega
theorem cmp_lt {a b : Int} : cmpI a b < 0 ↔ a < b := by unfold cmpI; split <;> (try split) <;> omega
theorem lex_trans : ∀ a b c : List Int, lexC a b < 0 → lexC b c < 0 → lexC a c < 0
  | [], [], _, h, _ => by simp [lexC] at h
  | [], _ :: _, [], _, h => by simp [lexC] at h
  | [], _ :: _, _ :: _, _, _ => by simp [lexC]
  | _ :: _, [], _, h, _ => by simp [lexC] at h
  | _ :: _, _ :: _, [], _, h => by simp [lexC] at h
  | a :: l, b :: m, c :: k, h1, h2 => by
    have e1 := cmp_zero (a := a) (b := b)
    have e2 := cmp_zero (a := b) (b := c)
    have e3 := cmp_zero (a := a) (b := c)
    have f1 := cmp_lt (a := a) (b := b)
    have f2 := cmp_lt (a := b) (b := c)
    have f3 := cmp_lt (a := a) (b := c)
    have h3 := lex_trans l m k
    simp only [lexC] at h1 h2 ⊢
    split at h1 <;> split at h2 <;> split <;> first | omega | exact h3 (by omega) (by omega)
end Go.Mth

/- No package-level variable is read. -/
namespace Go.Abs
instance noGlobs : Globs := ⟨fun _ => none⟩
end Go.Abs

/- Lists of different numbers, each of which leads to the next one: the shorter ones first, then in their order. -/
namespace Go.Proofs.Ytdlfikobjnjmaaa.Tt
open Go Go.Abs Go.Mth
set_option linter.unusedVariables false
set_option linter.unusedSimpArgs false
def lexN : List Nat → List Nat → Prop
  | [], [] => False
  | [], _ :: _ => True
  | _ :: _, [] => False
  | a :: l, b :: m => a < b ∨ (a = b ∧ lexN l m)
def ordN (l m : List Nat) : Prop := l.length < m.length ∨ (l.length = m.length ∧ lexN l m)
theorem lexN_irr : ∀ l : List Nat, ¬ lexN l l
  | [] => fun h => h
  | a :: l => fun h => by
    rcases h with h | ⟨_, h⟩
    · exact absurd h (Nat.lt_irrefl _)
    · exact lexN_irr l h
theorem lexN_asym : ∀ {l m : List Nat}, lexN l m → ¬ lexN m l
  | [], [], h, _ => h
  | [], _ :: _, _, k => k
  | _ :: _, [], h, _ => h
  | a :: l, b :: m, h, k => by
    rcases h with h | ⟨h1, h2⟩ <;> rcases k with k | ⟨k1, k2⟩
    · omega
    · omega
    · omega
    · exact lexN_asym h2 k2
theorem lexN_tri : ∀ {l m : List Nat}, l.length = m.length → l ≠ m → lexN l m ∨ lexN m l
  | [], [], _, h => absurd rfl h
  | [], _ :: _, h, _ => by simp at h
  | _ :: _, [], h, _ => by simp at h
  | a :: l, b :: m, h, hne => by
    rcases Nat.lt_trichotomy a b with e | e | e
    · exact .inl (.inl e)
    · subst e
      rcases lexN_tri (l := l) (m := m) (by simpa using h) (fun e => hne (by rw [e])) with h1 | h1
      · exact .inl (.inr ⟨rfl, h1⟩)
      · exact .inr (.inr ⟨rfl, h1⟩)
    · exact .inr (.inl e)
theorem lexN_snoc : ∀ {l m : List Nat} {x y : Nat}, l.length = m.length → lexN l m → lexN (l ++ [x]) (m ++ [y])
  | [], [], _, _, _, h => h.elim
  | [], _ :: _, _, _, h, _ => by simp at h
  | _ :: _, [], _, _, h, _ => by simp at h
  | a :: l, b :: m, x, y, h, k => by
    rcases k with k | ⟨k1, k2⟩
    · exact .inl k
    · exact .inr ⟨k1, lexN_snoc (by simpa using h) k2⟩
theorem lexN_last : ∀ {l : List Nat} {x y : Nat}, x < y → lexN (l ++ [x]) (l ++ [y])
  | [], _, _, h => .inl h
  | _ :: l, _, _, h => .inr ⟨rfl, lexN_last (l := l) h⟩
def IL (l : List Nat) : List Int := l.map fun (x : Nat) => (x : Int)
theorem IL_len (l : List Nat) : (IL l).length = l.length := by simp [IL]
theorem lexN_C : ∀ {l m : List Nat}, lexC (IL l) (IL m) < 0 ↔ lexN l m
  | [], [] => by simp [IL, lexC, lexN]
  | [], _ :: _ => by simp [IL, lexC, lexN]
  | _ :: _, [] => by simp [IL, lexC, lexN]
  | a :: l, b :: m => by
    have ih := lexN_C (l := l) (m := m)
    have e1 := cmp_zero (a := (a : Int)) (b := (b : Int))
    have e2 := cmp_lt (a := (a : Int)) (b := (b : Int))
    show (if cmpI (a : Int) (b : Int) ≠ 0 then cmpI (a : Int) (b : Int) else lexC (IL l) (IL m)) < 0 ↔ (a < b ∨ (a = b ∧ lexN l m))
    by_cases h : a = b
    · have : cmpI (a : Int) (b : Int) = 0 := e1.2 (by omega)
      rw [if_neg (fun h => h this), ih]
      constructor
      · exact fun k => .inr ⟨h, k⟩
      · rintro (k | ⟨_, k⟩)
        · omega
        · exact k
    · have : cmpI (a : Int) (b : Int) ≠ 0 := fun k => h (by have := e1.1 k; omega)
      rw [if_pos this, e2]
      constructor
      · exact fun k => .inl (by omega)
      · rintro (k | ⟨k, _⟩)
        · omega
        · exact absurd k h
instance lexN_dec : ∀ l m : List Nat, Decidable (lexN l m) := fun l m => decidable_of_iff _ (lexN_C (l := l) (m := m))
instance ordN_dec (l m : List Nat) : Decidable (ordN l m) := by unfold ordN; infer_instance
theorem ordN_irr (l : List Nat) : ¬ ordN l l := by
  rintro (h | ⟨_, h⟩)
  · exact Nat.lt_irrefl _ h
  · exact lexN_irr l h
theorem ordN_asym {l m : List Nat} (h : ordN l m) : ¬ ordN m l := by
  rintro (k | ⟨k1, k2⟩) <;> rcases h with h | ⟨h1, h2⟩
  · omega
  · omega
  · omega
  · exact lexN_asym h2 k2
theorem ordN_tri {l m : List Nat} (h : l ≠ m) : ordN l m ∨ ordN m l := by
  rcases Nat.lt_trichotomy l.length m.length with e | e | e
  · exact .inl (.inl e)
  · rcases lexN_tri e h with k | k
    · exact .inl (.inr ⟨e, k⟩)
    · exact .inr (.inr ⟨e.symm, k⟩)
  · exact .inr (.inl e)
def LeastP (p : List Nat → Prop) (l : List Nat) : Prop := p l ∧ ∀ m, p m → ¬ ordN m l
theorem LeastP.unique {p : List Nat → Prop} {l m : List Nat} (h : LeastP p l) (k : LeastP p m) : l = m := by
  apply Decidable.byContradiction
  intro hne
  rcases ordN_tri hne with e | e
  · exact k.2 l h.1 e
  · exact h.2 m k.1 e
theorem LeastP.congr {p q : List Nat → Prop} {l : List Nat} (h : LeastP p l) (k : ∀ m, p m ↔ q m) : LeastP q l :=
  ⟨(k l).1 h.1, fun m hm => h.2 m ((k m).2 hm)⟩

/-! Chains. -/
section
variable (g : Nat → Nat → Bool) (n : Nat)
def extN (l : List Nat) : List Nat := (List.range n).filter fun x => g (l.getD (l.length - 1) 0) x && !decide (x ∈ l)
def extL (l : List Nat) : List (List Nat) := (extN g n l).map fun x => l ++ [x]
def lev : Nat → List (List Nat)
  | 0 => (List.range n).map fun x => [x]
  | k + 1 => (lev k).flatMap (extL g n)
def allC : List (List Nat) := (List.range n).flatMap (lev g n)
def Chain (l : List Nat) : Prop := l ≠ [] ∧ (∀ x ∈ l, x < n) ∧ l.Nodup ∧ ∀ j, j + 1 < l.length → g (l.getD j 0) (l.getD (j + 1) 0) = true
end
variable {g : Nat → Nat → Bool} {n : Nat}
theorem mem_extN {l : List Nat} {x : Nat} : x ∈ extN g n l ↔ x < n ∧ g (l.getD (l.length - 1) 0) x = true ∧ x ∉ l := by
  simp [extN]
theorem snoc_at {l : List Nat} {x : Nat} : (l ++ [x]).getD l.length 0 = x := getD_snoc
theorem Chain.one {x : Nat} (h : x < n) : Chain g n [x] := ⟨by simp, by simpa using h, by simp, fun j hj => by simp at hj⟩
theorem chain_snoc {l : List Nat} {x : Nat} (h0 : l ≠ []) : Chain g n (l ++ [x]) ↔ Chain g n l ∧ x ∈ extN g n l := by
  have hl := List.length_pos_iff.2 h0
  rw [mem_extN]
  constructor
  · rintro ⟨_, h1, h2, h3⟩
    refine ⟨⟨h0, fun y hy => h1 y (by simp [hy]), (List.nodup_append.1 h2).1, fun j hj => ?_⟩, h1 x (by simp), ?_, fun hx => ?_⟩
    · have := h3 j (by simp; omega)
      rwa [getD_app_l (by omega), getD_app_l hj] at this
    · have := h3 (l.length - 1) (by simp; omega)
      rwa [getD_app_l (by omega), show l.length - 1 + 1 = l.length by omega, snoc_at] at this
    · exact (List.nodup_append.1 h2).2.2 x hx x (by simp) rfl
  · rintro ⟨⟨_, h1, h2, h3⟩, h4, h5, h6⟩
    refine ⟨by simp, fun y hy => ?_, ?_, fun j hj => ?_⟩
    · rcases List.mem_append.1 hy with hy | hy
      · exact h1 y hy
      · rw [List.mem_singleton.1 hy]; exact h4
    · refine List.nodup_append.2 ⟨h2, by simp, fun a ha b hb => ?_⟩
      rw [List.mem_singleton.1 hb]
      exact fun e => h6 (e ▸ ha)
    · simp at hj
      by_cases e : j + 1 < l.length
      · rw [getD_app_l (by omega), getD_app_l e]; exact h3 j e
      · have : j + 1 = l.length := by omega
        rw [getD_app_l (by omega), this, snoc_at, show j = l.length - 1 by omega]; exact h5
theorem Chain.len {l : List Nat} (h : Chain g n l) : 1 ≤ l.length ∧ l.length ≤ n := ⟨List.length_pos_iff.2 h.1, nodup_le n l h.2.2.1 h.2.1⟩
theorem mem_lev : ∀ {k : Nat} {l : List Nat}, l ∈ lev g n k ↔ Chain g n l ∧ l.length = k + 1
  | 0, l => by
    simp only [lev, List.mem_map, List.mem_range]
    constructor
    · rintro ⟨x, hx, rfl⟩; exact ⟨.one hx, rfl⟩
    · rintro ⟨h, hl⟩
      match l, hl with
      | [x], _ => exact ⟨x, h.2.1 x (by simp), rfl⟩
  | k + 1, l => by
    simp only [lev, List.mem_flatMap, extL, List.mem_map]
    constructor
    · rintro ⟨m, hm, x, hx, rfl⟩
      obtain ⟨h1, h2⟩ := mem_lev.1 hm
      exact ⟨(chain_snoc h1.1).2 ⟨h1, hx⟩, by simp [h2]⟩
    · rintro ⟨h, hl⟩
      obtain ⟨m, x, rfl⟩ : ∃ m x, l = m ++ [x] := ⟨l.dropLast, l.getLast h.1, (List.dropLast_concat_getLast h.1).symm⟩
      have hm : m.length = k + 1 := by simpa using hl
      have h0 : m ≠ [] := fun e => by rw [e] at hm; simp at hm
      obtain ⟨h1, h2⟩ := (chain_snoc h0).1 h
      exact ⟨m, mem_lev.2 ⟨h1, hm⟩, x, h2, rfl⟩
theorem mem_allC {l : List Nat} : l ∈ allC g n ↔ Chain g n l := by
  simp only [allC, List.mem_flatMap, List.mem_range]
  constructor
  · rintro ⟨k, _, h⟩; exact (mem_lev.1 h).1
  · intro h
    have := h.len
    exact ⟨l.length - 1, by omega, mem_lev.2 ⟨h, by omega⟩⟩
theorem lev_sorted : ∀ k, (lev g n k).Pairwise lexN
  | 0 => by
    simp only [lev, List.pairwise_map]
    exact List.Pairwise.imp (fun h => .inl h) List.pairwise_lt_range
  | k + 1 => by
    simp only [lev]
    refine List.pairwise_flatMap.2 ⟨fun l hl => ?_, ?_⟩
    · simp only [extL, List.pairwise_map]
      exact (List.Pairwise.filter _ List.pairwise_lt_range).imp fun h => lexN_last h
    · refine (lev_sorted k).imp_of_mem fun {a b} ha hb h x hx y hy => ?_
      simp only [extL, List.mem_map] at hx hy
      obtain ⟨p, _, rfl⟩ := hx
      obtain ⟨q, _, rfl⟩ := hy
      exact lexN_snoc (by rw [(mem_lev.1 ha).2, (mem_lev.1 hb).2]) h
theorem all_sorted : (allC g n).Pairwise ordN := by
  unfold allC
  refine List.pairwise_flatMap.2 ⟨fun k _ => ?_, ?_⟩
  · exact (lev_sorted k).imp_of_mem fun {a b} ha hb h => .inr ⟨by rw [(mem_lev.1 ha).2, (mem_lev.1 hb).2], h⟩
  · exact List.pairwise_lt_range.imp fun {a b} h x hx y hy => .inl (by rw [(mem_lev.1 hx).2, (mem_lev.1 hy).2]; omega)
theorem find_least {p : List Nat → Bool} {l : List Nat} (h : (allC g n).find? p = some l) : LeastP (fun m => Chain g n m ∧ p m = true) l := by
  obtain ⟨h1, as, bs, h2, h3⟩ := List.find?_eq_some_iff_append.1 h
  have hs := all_sorted (g := g) (n := n)
  refine ⟨⟨mem_allC.1 (by rw [h2]; simp), h1⟩, fun m ⟨hm, hp⟩ ho => ?_⟩
  have hm2 := mem_allC.2 hm
  rw [h2] at hm2 hs
  rcases List.mem_append.1 hm2 with h4 | h4
  · have := h3 m h4; rw [hp] at this; cases this
  · rcases List.mem_cons.1 h4 with rfl | h4
    · exact ordN_irr _ ho
    · exact ordN_asym ho ((List.pairwise_cons.1 (List.pairwise_append.1 hs).2.1).1 m h4)
theorem find_none {p : List Nat → Bool} (h : (allC g n).find? p = none) : ∀ l, Chain g n l → p l = false := fun l hl => by
  have := List.find?_eq_none.1 h l (mem_allC.2 hl)
  simpa using this
inductive Bfs (f : List Nat → List (List Nat)) : List (List Nat) → List (List Nat) → Prop where
  | nil : Bfs f [] []
  | cons {w : List Nat} {W R : List (List Nat)} (h : Bfs f (W ++ f w) R) : Bfs f (w :: W) (w :: R)
theorem bfs_level {f : List Nat → List (List Nat)} : ∀ {T E R : List (List Nat)}, Bfs f (E ++ T.flatMap f) R → Bfs f (T ++ E) (T ++ R)
  | [], E, R, h => by simpa using h
  | t :: T, E, R, h => by
    refine .cons ?_
    have := bfs_level (f := f) (T := T) (E := E ++ f t) (R := R) (by simpa using h)
    simpa using this
theorem bfs_levs : ∀ (m k : Nat), k + m = n → Bfs (extL g n) (lev g n k) ((List.range' k m).flatMap (lev g n))
  | 0, k, h => by
    have : lev g n k = [] := by
      rw [List.eq_nil_iff_forall_not_mem]
      intro l hl
      obtain ⟨h1, h2⟩ := mem_lev.1 hl
      have := h1.len
      omega
    rw [this]; exact .nil
  | m + 1, k, h => by
    have := bfs_levs m (k + 1) (by omega)
    rw [List.range'_succ, List.flatMap_cons]
    have h2 := bfs_level (f := extL g n) (T := lev g n k) (E := []) (R := (List.range' (k + 1) m).flatMap (lev g n)) (by rw [List.nil_append]; exact this)
    simpa using h2
theorem bfs_all : Bfs (extL g n) ((List.range n).map fun x => [x]) (allC g n) := by
  have := bfs_levs (g := g) (n := n) n 0 (by omega)
  rwa [← List.range_eq_range'] at this
end Go.Proofs.Ytdlfikobjnjmaaa.Tt

/- Rings: what leads back to where a step shows better; than how many others a choice is better. -/
namespace Go.Proofs.Ytdlfikobjnjmaaa.Tt
open Go Go.Abs Go.Mth
set_option linter.unusedVariables false
set_option linter.unusedSimpArgs false
def gD (D : Nat → Nat → Int) (a b : Nat) : Bool := decide (0 ≤ D a b)
def betB (D : Nat → Nat → Int) (l : List Nat) : Bool := (List.range (l.length - 1)).any fun j => decide (0 < D (l.getD j 0) (l.getD (j + 1) 0))
def nxtE (l : List Nat) (i : Nat) : Nat := l.getD ((i + 1) % l.length) 0
def cycB (D : Nat → Nat → Int) (l : List Nat) : Bool := (List.range l.length).all fun i => decide (l.getD 0 0 ≤ l.getD i 0) && decide (0 ≤ D (l.getD i 0) (nxtE l i))
def strB (D : Nat → Nat → Int) (l : List Nat) : Bool := (List.range l.length).any fun i => decide (0 < D (l.getD i 0) (nxtE l i))
def closB (D : Nat → Nat → Int) (l : List Nat) : Bool := cycB D l && strB D l
inductive RT (g : Nat → Nat → Bool) (n : Nat) : Nat → Nat → Prop where
  | refl {a : Nat} (h : a < n) : RT g n a a
  | step {a b c : Nat} (h : RT g n a b) (hg : g b c = true) (hc : c < n) : RT g n a c
theorem getD_drop' {l : List Nat} {k j : Nat} : (l.drop k).getD j 0 = l.getD (k + j) 0 := by
  rw [List.getD_eq_getElem?_getD, List.getElem?_drop, ← List.getD_eq_getElem?_getD]
theorem mem_at {l : List Nat} {x : Nat} (h : x ∈ l) : ∃ k, k < l.length ∧ l.getD k 0 = x := by
  obtain ⟨k, hk, e⟩ := List.mem_iff_getElem.1 h
  exact ⟨k, hk, by rw [getD_eq hk]; exact e⟩
section
variable {g : Nat → Nat → Bool} {n : Nat}
theorem RT.lt {a b : Nat} (h : RT g n a b) : a < n ∧ b < n := by
  induction h with
  | refl h => exact ⟨h, h⟩
  | step h hg hc ih => exact ⟨ih.1, hc⟩
theorem RT.trans {a b c : Nat} (h : RT g n a b) (k : RT g n b c) : RT g n a c := by
  induction k with
  | refl _ => exact h
  | step _ hg hc ih => exact .step ih hg hc
theorem Chain.take {l : List Nat} (h : Chain g n l) {k : Nat} (hk : k < l.length) : Chain g n (l.take (k + 1)) := by
  obtain ⟨h0, h1, h2, h3⟩ := h
  refine ⟨fun e => ?_, fun x hx => h1 x (List.mem_of_mem_take hx), h2.sublist (List.take_sublist _ _), fun j hj => ?_⟩
  · have := congrArg List.length e; rw [List.length_take, List.length_nil] at this; omega
  · rw [List.length_take] at hj
    rw [getD_take (by omega), getD_take (by omega)]
    exact h3 j (by omega)
theorem Chain.drop {l : List Nat} (h : Chain g n l) {k : Nat} (hk : k < l.length) : Chain g n (l.drop k) := by
  obtain ⟨h0, h1, h2, h3⟩ := h
  refine ⟨fun e => ?_, fun x hx => h1 x (List.mem_of_mem_drop hx), h2.sublist (List.drop_sublist _ _), fun j hj => ?_⟩
  · have := congrArg List.length e; rw [List.length_drop, List.length_nil] at this; omega
  · rw [List.length_drop] at hj
    rw [getD_drop', getD_drop']
    exact h3 (k + j) (by omega)
theorem Chain.lt {l : List Nat} (h : Chain g n l) {j : Nat} (hj : j < l.length) : l.getD j 0 < n := h.2.1 _ (getD_mem hj)
theorem Chain.inj {l : List Nat} (h : l.Nodup) {i j : Nat} (hi : i < l.length) (hj : j < l.length) (he : l.getD i 0 = l.getD j 0) : i = j := by
  rw [getD_eq hi, getD_eq hj] at he
  rcases Nat.lt_trichotomy i j with e | e | e
  · exact absurd he (List.pairwise_iff_getElem.1 h i j hi hj e)
  · exact e
  · exact absurd he.symm (List.pairwise_iff_getElem.1 h j i hj hi e)
theorem Chain.cons {l : List Nat} {a : Nat} (h : Chain g n l) (ha : a < n) (hm : a ∉ l) (hg : g a (l.getD 0 0) = true) : Chain g n (a :: l) := by
  obtain ⟨h0, h1, h2, h3⟩ := h
  refine ⟨by simp, fun x hx => ?_, List.nodup_cons.2 ⟨hm, h2⟩, fun j hj => ?_⟩
  · rcases List.mem_cons.1 hx with rfl | hx
    · exact ha
    · exact h1 x hx
  · rcases j with _ | j
    · exact hg
    · exact h3 j (by simpa using hj)
theorem RT.chain {a b : Nat} (h : RT g n a b) : ∃ l, Chain g n l ∧ l.getD 0 0 = a ∧ l.getD (l.length - 1) 0 = b := by
  induction h with
  | refl h => exact ⟨[_], .one h, rfl, rfl⟩
  | step h hg hc ih =>
    rename_i b c
    obtain ⟨l, h1, h2, h3⟩ := ih
    have hl := h1.len
    by_cases hm : c ∈ l
    · obtain ⟨k, hk, he⟩ := mem_at hm
      refine ⟨l.take (k + 1), h1.take hk, by rw [getD_take (by omega)]; exact h2, ?_⟩
      rw [List.length_take, show min (k + 1) l.length - 1 = k by omega, getD_take (by omega)]; exact he
    · refine ⟨l ++ [c], (chain_snoc h1.1).2 ⟨h1, mem_extN.2 ⟨hc, by rw [h3]; exact hg, hm⟩⟩, by rw [getD_app_l (by omega)]; exact h2, ?_⟩
      rw [List.length_append, List.length_singleton, show l.length + 1 - 1 = l.length by omega, snoc_at]
theorem Chain.rt {l : List Nat} (h : Chain g n l) {i j : Nat} (hij : i ≤ j) (hj : j < l.length) : RT g n (l.getD i 0) (l.getD j 0) := by
  obtain ⟨d, rfl⟩ := Nat.le.dest hij
  induction d with
  | zero => exact .refl (h.lt hj)
  | succ d ih => exact .step (ih (Nat.le_add_right _ _) (by omega)) (h.2.2.2 (i + d) (by omega)) (h.lt hj)
end
section
variable {D : Nat → Nat → Int} {n : Nat}
theorem gD_iff {a b : Nat} : gD D a b = true ↔ 0 ≤ D a b := by simp [gD]
theorem cycB_iff {l : List Nat} : cycB D l = true ↔ ∀ i, i < l.length → l.getD 0 0 ≤ l.getD i 0 ∧ 0 ≤ D (l.getD i 0) (nxtE l i) := by
  simp only [cycB, List.all_eq_true, List.mem_range, Bool.and_eq_true, decide_eq_true_eq]
theorem strB_iff {l : List Nat} : strB D l = true ↔ ∃ i, i < l.length ∧ 0 < D (l.getD i 0) (nxtE l i) := by
  simp only [strB, List.any_eq_true, List.mem_range, decide_eq_true_eq]
theorem betB_iff {l : List Nat} : betB D l = true ↔ ∃ j, j + 1 < l.length ∧ 0 < D (l.getD j 0) (l.getD (j + 1) 0) := by
  simp only [betB, List.any_eq_true, List.mem_range, decide_eq_true_eq]
  constructor
  · rintro ⟨j, h1, h2⟩; exact ⟨j, by omega, h2⟩
  · rintro ⟨j, h1, h2⟩; exact ⟨j, by omega, h2⟩
theorem clos_rt {l : List Nat} (hlt : ∀ x ∈ l, x < n) (h : closB D l = true) : ∃ a b, a < n ∧ b < n ∧ 0 < D a b ∧ RT (gD D) n b a := by
  obtain ⟨hc, hs⟩ := Bool.and_eq_true_iff.1 h
  rw [cycB_iff] at hc
  obtain ⟨i, hi, h1⟩ := strB_iff.1 hs
  have hm : ∀ x, x % l.length < l.length := fun x => Nat.mod_lt _ (by omega)
  have go : ∀ s j, s < l.length → RT (gD D) n (l.getD s 0) (l.getD ((s + j) % l.length) 0) := by
    intro s j hs
    induction j with
    | zero => rw [Nat.add_zero, Nat.mod_eq_of_lt hs]; exact .refl (hlt _ (getD_mem hs))
    | succ j ih =>
      refine .step ih (gD_iff.2 ?_) (hlt _ (getD_mem (hm _)))
      have := (hc ((s + j) % l.length) (hm _)).2
      unfold nxtE at this
      rwa [Nat.mod_add_mod] at this
  refine ⟨l.getD i 0, nxtE l i, hlt _ (getD_mem hi), hlt _ (getD_mem (hm _)), h1, ?_⟩
  have := go ((i + 1) % l.length) (l.length - 1) (hm _)
  rw [Nat.mod_add_mod, show i + 1 + (l.length - 1) = i + l.length by omega, Nat.add_mod_right, Nat.mod_eq_of_lt hi] at this
  exact this
theorem rot_at {l : List Nat} {k i : Nat} (hk : k < l.length) (hi : i < l.length) : (l.drop k ++ l.take k).getD i 0 = l.getD ((i + k) % l.length) 0 := by
  by_cases h : i < l.length - k
  · rw [getD_app_l (by simpa using h), getD_drop', Nat.mod_eq_of_lt (by omega), Nat.add_comm]
  · rw [List.getD_eq_getElem?_getD, List.getElem?_append_right (by simp; omega), ← List.getD_eq_getElem?_getD, List.length_drop, getD_take (by omega)]
    rw [Nat.mod_eq_sub_mod (by omega), Nat.mod_eq_of_lt (by omega)]
    congr 1; omega
theorem min_at : ∀ {l : List Nat}, l ≠ [] → ∃ k, k < l.length ∧ ∀ i, i < l.length → l.getD k 0 ≤ l.getD i 0
  | [], h => absurd rfl h
  | [a], _ => ⟨0, by simp, fun i hi => by have : i = 0 := by simpa using hi
                                          rw [this]; exact Nat.le_refl _⟩
  | a :: b :: l, _ => by
    obtain ⟨k, hk, h⟩ := min_at (l := b :: l) (by simp)
    by_cases hab : a ≤ (b :: l).getD k 0
    · refine ⟨0, by simp, fun i hi => ?_⟩
      rcases i with _ | i
      · exact Nat.le_refl _
      · exact Nat.le_trans hab (h i (by simpa using hi))
    · refine ⟨k + 1, by simpa using hk, fun i hi => ?_⟩
      rcases i with _ | i
      · show (b :: l).getD k 0 ≤ a; omega
      · exact h i (by simpa using hi)
theorem rt_clos {a b : Nat} (h : 0 < D a b) (hr : RT (gD D) n b a) : ∃ l, Chain (gD D) n l ∧ closB D l = true := by
  obtain ⟨l, h1, h2, h3⟩ := hr.chain
  have hl := h1.len
  obtain ⟨k, hk, hmin⟩ := min_at h1.1
  have hlen : (l.drop k ++ l.take k).length = l.length := by simp; omega
  have hm : ∀ x, x % l.length < l.length := fun x => Nat.mod_lt _ (by omega)
  have hcyc : ∀ i, i < l.length → 0 ≤ D (l.getD i 0) (l.getD ((i + 1) % l.length) 0) := fun i hi => by
    by_cases e : i + 1 < l.length
    · rw [Nat.mod_eq_of_lt e]; exact gD_iff.1 (h1.2.2.2 i e)
    · have e2 : i + 1 = l.length := by omega
      rw [e2, Nat.mod_self, h2, show i = l.length - 1 by omega, h3]; omega
  have hnx : ∀ i, i < l.length → nxtE (l.drop k ++ l.take k) i = l.getD (((i + k) % l.length + 1) % l.length) 0 := fun i hi => by
    unfold nxtE
    rw [hlen, rot_at hk (hm _), Nat.mod_add_mod, Nat.mod_add_mod, show i + 1 + k = i + k + 1 by omega]
  have hcy : cycB D (l.drop k ++ l.take k) = true := cycB_iff.2 fun i hi => by
    rw [hlen] at hi
    rw [hnx i hi, rot_at hk hi, rot_at hk (by omega), Nat.zero_add, Nat.mod_eq_of_lt hk]
    exact ⟨hmin _ (hm _), hcyc _ (hm _)⟩
  refine ⟨l.drop k ++ l.take k, ⟨fun e => ?_, fun x hx => ?_, ?_, fun j hj => ?_⟩, ?_⟩
  · rw [e, List.length_nil] at hlen; omega
  · rcases List.mem_append.1 hx with hx | hx
    · exact h1.2.1 x (List.mem_of_mem_drop hx)
    · exact h1.2.1 x (List.mem_of_mem_take hx)
  · have hp : (l.drop k ++ l.take k).Perm l := (List.perm_append_comm).trans (by rw [List.take_append_drop])
    exact hp.nodup_iff.2 h1.2.2.1
  · have := (cycB_iff.1 hcy j (by omega)).2
    unfold nxtE at this
    rw [Nat.mod_eq_of_lt hj] at this
    exact gD_iff.2 this
  · refine Bool.and_eq_true_iff.2 ⟨hcy, strB_iff.2 ?_⟩
    refine ⟨(l.length - 1 + (l.length - k)) % l.length, by rw [hlen]; exact hm _, ?_⟩
    rw [hnx _ (hm _), rot_at hk (hm _), Nat.mod_add_mod, show l.length - 1 + (l.length - k) + k = l.length - 1 + l.length by omega, Nat.add_mod_right, Nat.mod_eq_of_lt (by omega), h3, show l.length - 1 + 1 = l.length by omega, Nat.mod_self, h2]
    exact h
def ringed (D : Nat → Nat → Int) (n : Nat) : Prop := ∃ a b, a < n ∧ b < n ∧ 0 < D a b ∧ RT (gD D) n b a
theorem ringed_iff : ringed D n ↔ ∃ l, Chain (gD D) n l ∧ closB D l = true :=
  ⟨fun ⟨_, _, _, _, h1, h2⟩ => rt_clos h1 h2, fun ⟨_, h1, h2⟩ => clos_rt h1.2.1 h2⟩

/-! Without a ring. -/
def BT (D : Nat → Nat → Int) (n a b : Nat) : Prop := ∃ l, Chain (gD D) n l ∧ l.getD 0 0 = a ∧ l.getD (l.length - 1) 0 = b ∧ betB D l = true
theorem BT.irr {a : Nat} : ¬ BT D n a a := by
  rintro ⟨l, h1, h2, h3, h4⟩
  have hl := h1.len
  have := Chain.inj h1.2.2.1 (i := 0) (j := l.length - 1) (by omega) (by omega) (h2.trans h3.symm)
  obtain ⟨j, hj, _⟩ := betB_iff.1 h4
  omega
theorem BT.lt {a b : Nat} (h : BT D n a b) : a < n ∧ b < n := by
  obtain ⟨l, h1, h2, h3, h4⟩ := h
  have hl := h1.len
  exact ⟨by rw [← h2]; exact h1.lt (by omega), by rw [← h3]; exact h1.lt (by omega)⟩
theorem BT.of (hD : ∀ a, D a a = 0) {a b : Nat} (ha : a < n) (hb : b < n) (h : 0 < D a b) : BT D n a b := by
  have hne : a ≠ b := fun e => by rw [e, hD] at h; omega
  refine ⟨[a, b], ⟨by simp, by simp; exact ⟨ha, hb⟩, by simp [hne], fun j hj => ?_⟩, rfl, rfl, betB_iff.2 ⟨0, by simp, h⟩⟩
  have : j = 0 := by simp at hj; omega
  subst this
  exact gD_iff.2 (by show 0 ≤ D a b; omega)
def BTb (D : Nat → Nat → Int) (n a b : Nat) : Bool := (allC (gD D) n).any fun l => decide (l.getD 0 0 = a) && decide (l.getD (l.length - 1) 0 = b) && betB D l
def rkN (D : Nat → Nat → Int) (n a : Nat) : Nat := ((List.range n).filter (BTb D n a)).length
theorem filter_sub {p q : Nat → Bool} : ∀ {l : List Nat}, (∀ x ∈ l, p x = true → q x = true) → (l.filter p).length ≤ (l.filter q).length
  | [], _ => Nat.le_refl _
  | x :: l, h => by
    have ih := filter_sub (l := l) fun y hy => h y (List.mem_cons_of_mem _ hy)
    have hx := h x (List.mem_cons_self ..)
    cases hp : p x with
    | true => rw [List.filter_cons_of_pos hp, List.filter_cons_of_pos (hx hp)]; simpa using ih
    | false =>
      rw [List.filter_cons_of_neg (by rw [hp]; simp)]
      cases hq : q x with
      | true => rw [List.filter_cons_of_pos hq]; simp; omega
      | false => rw [List.filter_cons_of_neg (by rw [hq]; simp)]; exact ih
theorem filter_lt {p q : Nat → Bool} {y : Nat} : ∀ {l : List Nat}, (∀ x ∈ l, p x = true → q x = true) → y ∈ l → p y = false → q y = true → (l.filter p).length < (l.filter q).length
  | [], _, hy, _, _ => by simp at hy
  | x :: l, h, hy, hp, hq => by
    have hs := filter_sub (l := l) fun z hz => h z (List.mem_cons_of_mem _ hz)
    rcases List.mem_cons.1 hy with rfl | hy
    · rw [List.filter_cons_of_neg (by rw [hp]; simp), List.filter_cons_of_pos hq]; simp; omega
    · have ih := filter_lt (l := l) (fun z hz => h z (List.mem_cons_of_mem _ hz)) hy hp hq
      cases hpx : p x with
      | true => rw [List.filter_cons_of_pos hpx, List.filter_cons_of_pos (h x (List.mem_cons_self ..) hpx)]; simpa using ih
      | false =>
        rw [List.filter_cons_of_neg (by rw [hpx]; simp)]
        cases hqx : q x with
        | true => rw [List.filter_cons_of_pos hqx]; simp; omega
        | false => rw [List.filter_cons_of_neg (by rw [hqx]; simp)]; exact ih
def numOK (D : Nat → Nat → Int) (n : Nat) (W V : Nat → Int) : Prop := ∀ a b, a < n → b < n → W b ≤ W a - V a * D a b
end
end Go.Proofs.Ytdlfikobjnjmaaa.Tt
