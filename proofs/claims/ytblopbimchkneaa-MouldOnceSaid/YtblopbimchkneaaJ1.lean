/- Texts of the law, joined. -/
import Derived.Test.YtblopbimchkneaaSymB
import Derived.Test.YtblopbimchkneaaMdP
/- Mathematics of lists and of what is found first: no word of the program. -/
namespace Go.Mth
set_option linter.unusedVariables false

/-! The first error of several tests. -/
def firstE (f : Nat → Int) : Nat → Int
  | 0 => 0
  | k + 1 => if firstE f k = 0 then f k else firstE f k
theorem firstE_zero {f : Nat → Int} : ∀ {m : Nat}, firstE f m = 0 ↔ ∀ i, i < m → f i = 0 := by
  intro m
  induction m with
  | zero => simp [firstE]
  | succ m ih =>
    simp only [firstE]
    constructor
    · intro h i hi
      by_cases h0 : firstE f m = 0
      · rw [if_pos h0] at h
        rcases Nat.lt_or_ge i m with h1 | h1
        · exact ih.1 h0 i h1
        · have : i = m := by omega
          subst this; exact h
      · rw [if_neg h0] at h; exact absurd h h0
    · intro h
      have h0 : firstE f m = 0 := ih.2 fun i hi => h i (by omega)
      rw [if_pos h0]; exact h m (by omega)
/-! Lists without repetition. -/
theorem nodup_le : ∀ (r : Nat) (l : List Nat), l.Nodup → (∀ y ∈ l, y < r) → l.length ≤ r
  | 0, l, _, h => by
    cases l with
    | nil => exact Nat.le_refl _
    | cons x l => have := h x (by simp); omega
  | r + 1, l, hn, h => by
    have h1 := nodup_le r (l.filter (fun y => decide (y ≠ r))) (hn.filter _) (fun y hy => by
      obtain ⟨h2, h3⟩ := List.mem_filter.1 hy
      have := h y h2
      have : y ≠ r := by simpa using h3
      omega)
    have h2 : (l.filter (fun y => decide (y = r))).length ≤ 1 := by
      have h3 : (l.filter (fun y => decide (y = r))).Nodup := hn.filter _
      match hf : l.filter (fun y => decide (y = r)) with
      | [] => simp
      | [a] => simp
      | a :: b :: m =>
        rw [hf] at h3
        have ha : a ∈ l.filter (fun y => decide (y = r)) := by rw [hf]; simp
        have hb : b ∈ l.filter (fun y => decide (y = r)) := by rw [hf]; simp
        have e1 := (List.mem_filter.1 ha).2
        have e2 := (List.mem_filter.1 hb).2
        simp only [decide_eq_true_eq] at e1 e2
        rw [e1, e2] at h3
        simp at h3
    have h4 : ∀ m : List Nat, m.length = (m.filter (fun y => decide (y = r))).length + (m.filter (fun y => decide (y ≠ r))).length := by
      intro m
      induction m with
      | nil => rfl
      | cons x m ih => by_cases h : x = r <;> simp [h] <;> simp at ih <;> omega
    have := h4 l
    omega
/-! Sums. -/
def sumN (f : Nat → Nat) : Nat → Nat
  | 0 => 0
  | k + 1 => sumN f k + f k
/-! Runs: a place at which a run begins. -/
section
variable (p : Nat → Bool)
def RN : Nat → Nat
  | 0 => 0
  | k + 1 => RN k + if p k = true ∧ (k = 0 ∨ p (k - 1) = false) then 1 else 0
def cntN (k : Nat) : Nat := sumN (fun i => if p i = true then 1 else 0) k
/-- The first and the last place. -/
structure Ends2 (k a b : Nat) : Prop where
  pa : p a = true
  ak : a < k
  lo : ∀ i, i < a → p i = false
  pb : p b = true
  bk : b < k
  hi : ∀ i, b < i → i < k → p i = false

variable {p}
theorem Ends2.unique {k a b a' b' : Nat} (h : Ends2 p k a b) (h' : Ends2 p k a' b') : a = a' ∧ b = b' := by
  constructor
  · rcases Nat.lt_trichotomy a a' with h1 | h1 | h1
    · have := h'.lo a h1; rw [h.pa] at this; cases this
    · exact h1
    · have := h.lo a' h1; rw [h'.pa] at this; cases this
  · rcases Nat.lt_trichotomy b b' with h1 | h1 | h1
    · have := h.hi b' h1 h'.bk; rw [h'.pb] at this; cases this
    · exact h1
    · have := h'.hi b h1 h.bk; rw [h.pb] at this; cases this
theorem Ends2.le {k a b : Nat} (h : Ends2 p k a b) : a ≤ b := by
  rcases Nat.lt_or_ge b a with h1 | h1
  · have := h.lo b h1; rw [h.pb] at this; cases this
  · exact h1
theorem Ends2.first {k : Nat} (hk : p k = true) (hn : ∀ i, i < k → p i = false) : Ends2 p (k + 1) k k := ⟨hk, by omega, hn, hk, by omega, fun i h1 h2 => by omega⟩
theorem Ends2.next {k a b : Nat} (h : Ends2 p k a b) (hk : p k = true) : Ends2 p (k + 1) a k := ⟨h.pa, by have := h.ak; omega, h.lo, hk, by omega, fun i h1 h2 => by omega⟩
theorem Ends2.skip {k a b : Nat} (h : Ends2 p k a b) (hk : p k = false) : Ends2 p (k + 1) a b := ⟨h.pa, by have := h.ak; omega, h.lo, h.pb, by have := h.bk; omega, fun i h1 h2 => by
  rcases Nat.lt_or_ge i k with h3 | h3
  · exact h.hi i h1 h3
  · have : i = k := by omega
    subst this; exact hk⟩
end
end Go.Mth

/- What all laws' texts share. -/
namespace Go.Abs
set_option linter.unusedSectionVars false
variable [Globs]
open Go Go.Mth
set_option linter.unusedVariables false
abbrev ints (xs : List Int) : List Value := xs.map (Value.int .i64)
abbrev bools (xs : List Bool) : List Value := xs.map Value.bool
abbrev nodes (l : List Nat) : List Value := l.map (fun (x : Nat) => Value.int .i64 (x : Int))
theorem nodesI (l : List Nat) : nodes l = ints (l.map fun (x : Nat) => (x : Int)) := by simp [nodes, ints]
theorem getD_eq {α : Type} {l : List α} {k : Nat} {a : α} (h : k < l.length) : l.getD k a = l[k] := by rw [List.getD_eq_getElem?_getD, List.getElem?_eq_getElem h]; rfl
theorem getD_mem {α : Type} {l : List α} {k : Nat} {a : α} (h : k < l.length) : l.getD k a ∈ l := by rw [getD_eq h]; exact List.getElem_mem h
theorem getD_set' {α : Type} {l : List α} {y z : Nat} {v a : α} (h : y < l.length) : (l.set y v).getD z a = if z = y then v else l.getD z a := by
  rw [List.getD_eq_getElem?_getD, List.getD_eq_getElem?_getD, List.getElem?_set]
  by_cases e : y = z
  · subst e; rw [if_pos rfl, if_pos h, if_pos rfl]; rfl
  · rw [if_neg e, if_neg (fun q => e q.symm)]
theorem getD_app_l {α : Type} {l m : List α} {k : Nat} {a : α} (h : k < l.length) : (l ++ m).getD k a = l.getD k a := by
  rw [List.getD_eq_getElem?_getD, List.getD_eq_getElem?_getD, List.getElem?_append_left h]
theorem getD_snoc {α : Type} {l : List α} {x a : α} : (l ++ [x]).getD l.length a = x := by
  rw [List.getD_eq_getElem?_getD, List.getElem?_append_right (Nat.le_refl _)]; simp
theorem ext_getD {α : Type} {l m : List α} {a : α} (h : l.length = m.length) (k : ∀ i, i < l.length → l.getD i a = m.getD i a) : l = m := by
  apply List.ext_getElem h
  intro i h1 h2
  have := k i h1
  rwa [getD_eq h1, getD_eq h2] at this

/-- A slice of slices of numbers. -/
def RowsI (M : HL) (v : Value) (fs : List (List Int)) : Prop := ∃ vs : List Value, Sl M 1 v vs ∧ vs.length = fs.length ∧ ∀ i, i < fs.length → Sl M 1 (vs.getD i undef) (ints (fs.getD i []))
theorem RowsI.mono {M M' : HL} {v : Value} {fs : List (List Int)} (h : RowsI M v fs) (k : ∀ p ∈ M, p ∈ M') : RowsI M' v fs := by
  obtain ⟨vs, h1, h2, h3⟩ := h
  exact ⟨vs, h1.mono k, h2, fun i hi => (h3 i hi).mono k⟩
theorem RowsI.cons {M : HL} {p : Nat × Ch} {v : Value} {fs : List (List Int)} (h : RowsI M v fs) : RowsI (p :: M) v fs := h.mono fun q hq => List.mem_cons_of_mem _ hq
theorem RowsI.one_ {M : HL} {v : Value} {fs : List (List Int)} (h : RowsI M v fs) : one v = true := by obtain ⟨vs, h1, _⟩ := h; exact h1.one_
section
variable {C : CW} {nt : Nat} {L : Env} {D : List Nat} {H : Heap} {K : St → Prop} {M M' : HL} {n i d : Nat} {gd : Option (Tmp × Bool)} {lo' : List Nat} {l : List POp}
end
section
variable {C : CW} {nt : Nat} {L : Env} {D : List Nat} {H : Heap} {K : St → Prop} {M M' : HL} {n i d : Nat} {gd : Option (Tmp × Bool)} {lo : List Nat} {l : List POp}
theorem WR.mkSL {e m : Nat} {z : List Value} {x y : Operand} {kd kd2 : IntKind} (hg : gOK L gd) (hd : Nat.blt d nt = true) (hH : hasH M n H) (hx : ev L x = some (.int kd (m : Int))) (hy : ev L y = some (.int kd2 (m : Int)))
    (hm : m ≤ 100000) (hz : z.all one = true)
    (kk : ∀ H', hasH ((n, .row e 0 0 (List.replicate m z).flatten) :: M) (n + 1) H' → WR C nt l ((d, .slice (some ⟨n, 0, some 0⟩) m (2 * m + 1)) :: L) D H' K) : WR C nt (⟨i, some d, .mkS e z x y, gd, lo⟩ :: l) L D H K := by
  have e1 : natOf (.int kd (m : Int)) = some m := rfl
  have e2 : natOf (.int kd2 (m : Int)) = some m := rfl
  refine WR.op hg hd (H' := H.row e (List.replicate m z).flatten) (v := .slice (some ⟨n, 0, some 0⟩) m (2 * m + 1)) (fun t ht => ?_) (kk _ (hH.row e ?_))
  · simp only [opA, ev_ok ht hx, ev_ok ht hy, oMkS, e1, e2, newAddr, hH.next]
    have b1 : Nat.ble m m = true := Nat.ble_eq_true_of_le (Nat.le_refl _)
    have b2 : Nat.ble m 100000 = true := Nat.ble_eq_true_of_le hm
    rw [b1, b2]; rfl
  · rw [List.all_eq_true]; intro q hq
    obtain ⟨l, hl, hq⟩ := List.mem_flatten.1 hq
    rw [(List.mem_replicate.1 hl).2] at hq
    exact List.all_eq_true.1 hz q hq
end
abbrev numsK (kk : IntKind) (l : List Nat) : List Value := l.map (fun (x : Nat) => Value.int kk (x : Int))

/-! Pairs of numbers, two cells each. -/
def pcells : List (Int × Int) → List Value
  | [] => []
  | p :: l => .int .i64 p.1 :: .int .i64 p.2 :: pcells l
/-- Two cells, one behind another. -/
def PCell (M : HL) (b o u : Nat) (p : Int × Int) : Prop := ∃ ch lo cs, (b, ch) ∈ M ∧ ch.cellsAre u lo cs ∧ lo ≤ o ∧ cs[o - lo]? = some (.int .i64 p.1) ∧ cs[o - lo + 1]? = some (.int .i64 p.2)
theorem PCell.readN {M : HL} {n : Nat} {H : Heap} {b o u : Nat} {p : Int × Int} (h : PCell M b o u p) (hH : hasH M n H) : H.readN ⟨b, o, some u⟩ 2 = some [.int .i64 p.1, .int .i64 p.2] := by
  obtain ⟨ch, lo, cs, h1, h2, h3, h4, h5⟩ := h
  have hlt : o - lo + 1 < cs.length := (List.getElem?_eq_some_iff.1 h5).1
  rw [hH.readN (k := 2) h1 h2 h3 (by omega)]
  congr 1
  refine List.ext_getElem? fun i => ?_
  rcases i with _ | _ | i
  · rw [List.getElem?_take_of_lt (by omega), List.getElem?_drop, Nat.add_zero, h4]; rfl
  · rw [List.getElem?_take_of_lt (by omega), List.getElem?_drop, h5]; rfl
  · rw [List.getElem?_eq_none (by simp; omega), List.getElem?_eq_none (by simp)]
section
variable {C : CW} {nt : Nat} {L : Env} {D : List Nat} {H : Heap} {K : St → Prop} {M M' : HL} {n i d : Nat} {gd : Option (Tmp × Bool)} {lo : List Nat} {l : List POp} {rs : List Rd}
end
end Go.Abs

/- Casts and their marks: the mathematics; no word of the program. -/
namespace Go.Proofs.Ytblopbimchkneaa.Md
open Go Go.Abs Go.Mth
set_option linter.unusedVariables false
set_option linter.unusedSimpArgs false

/-- Two marks clash. -/
def clashB (ns : List Nat) (a b : Nat) : Bool := ns.any (fun c => c.testBit a && c.testBit b) && ns.any (fun c => c.testBit a && !c.testBit b) && ns.any (fun c => !c.testBit a && c.testBit b)
theorem clash_iff {ns : List Nat} {a b : Nat} : clashB ns a b = true ↔ (∃ c ∈ ns, c.testBit a = true ∧ c.testBit b = true) ∧ (∃ c ∈ ns, c.testBit a = true ∧ c.testBit b = false) ∧ (∃ c ∈ ns, c.testBit a = false ∧ c.testBit b = true) := by
  simp only [clashB, Bool.and_eq_true, List.any_eq_true, Bool.not_eq_true']
  constructor
  · rintro ⟨⟨h1, h2⟩, h3⟩; exact ⟨h1, h2, h3⟩
  · rintro ⟨h1, h2, h3⟩; exact ⟨⟨h1, h2⟩, h3⟩
theorem clash_comm (ns : List Nat) (a b : Nat) : clashB ns a b = clashB ns b a := by
  rw [Bool.eq_iff_iff, clash_iff, clash_iff]
  constructor
  · rintro ⟨⟨c, h1, h2, h3⟩, ⟨d, h4, h5, h6⟩, ⟨e, h7, h8, h9⟩⟩; exact ⟨⟨c, h1, h3, h2⟩, ⟨e, h7, h9, h8⟩, ⟨d, h4, h6, h5⟩⟩
  · rintro ⟨⟨c, h1, h2, h3⟩, ⟨d, h4, h5, h6⟩, ⟨e, h7, h8, h9⟩⟩; exact ⟨⟨c, h1, h3, h2⟩, ⟨e, h7, h9, h8⟩, ⟨d, h4, h6, h5⟩⟩
theorem clash_self (ns : List Nat) (a : Nat) : clashB ns a a = false := by
  cases h : clashB ns a a with
  | false => rfl
  | true => obtain ⟨_, ⟨c, _, h1, h2⟩, _⟩ := clash_iff.1 h; rw [h1] at h2; cases h2

/-- The casts that have a mark, of the first ones, as bits. -/
def mskTo (ns : List Nat) (a k : Nat) : Nat := maskN ((List.range k).filter fun i => (ns.getD i 0).testBit a)
def msk (ns : List Nat) (a : Nat) : Nat := mskTo ns a ns.length
theorem mskTo_bit {ns : List Nat} {a k i : Nat} : (mskTo ns a k).testBit i = true ↔ i < k ∧ (ns.getD i 0).testBit a = true := by
  rw [mskTo, mask_bit, List.mem_filter, List.mem_range]
theorem mskTo_zero (ns : List Nat) (a : Nat) : mskTo ns a 0 = 0 := rfl
theorem mskTo_yes {ns : List Nat} {a k : Nat} (h : (ns.getD k 0).testBit a = true) : mskTo ns a (k + 1) = mskTo ns a k ||| 2 ^ k := by
  rw [mskTo, List.range_succ, List.filter_append, List.filter_cons_of_pos (by exact h)]
  exact mask_snoc _ _
theorem mskTo_no {ns : List Nat} {a k : Nat} (h : (ns.getD k 0).testBit a = false) : mskTo ns a (k + 1) = mskTo ns a k := by
  rw [mskTo, List.range_succ, List.filter_append, List.filter_cons_of_neg (by rw [h]; simp), List.filter_nil, List.append_nil]; rfl
theorem mskTo_lt (ns : List Nat) (a k : Nat) : mskTo ns a k < 2 ^ k := mask_lt fun x hx => List.mem_range.1 (List.mem_filter.1 hx).1
theorem msk_bit {ns : List Nat} {a i : Nat} : (msk ns a).testBit i = true ↔ ∃ h : i < ns.length, ns[i].testBit a = true := by
  rw [msk, mskTo_bit]
  constructor
  · rintro ⟨h, h1⟩; rw [getD_eq h] at h1; exact ⟨h, h1⟩
  · rintro ⟨h, h1⟩; rw [getD_eq h]; exact ⟨h, h1⟩
theorem ne_zero_bit {x : Nat} : x ≠ 0 ↔ ∃ i, x.testBit i = true :=
  ⟨fun h => Nat.exists_testBit_of_ne_zero h, fun ⟨i, hi⟩ h => by rw [h, Nat.zero_testBit] at hi; cases hi⟩
theorem any_get {ns : List Nat} {p : Nat → Bool} : ns.any p = true ↔ ∃ i, ∃ h : i < ns.length, p ns[i] = true := by
  rw [List.any_eq_true]
  constructor
  · rintro ⟨c, hc, h⟩
    obtain ⟨i, hi, rfl⟩ := List.mem_iff_getElem.1 hc
    exact ⟨i, hi, h⟩
  · rintro ⟨i, hi, h⟩; exact ⟨_, List.getElem_mem hi, h⟩
theorem msk_both {ns : List Nat} {a b : Nat} : msk ns a &&& msk ns b ≠ 0 ↔ ns.any (fun c => c.testBit a && c.testBit b) = true := by
  rw [ne_zero_bit, any_get]
  refine exists_congr fun i => ?_
  rw [Nat.testBit_and, Bool.and_eq_true, msk_bit, msk_bit]
  simp only [Bool.and_eq_true]
  exact ⟨fun ⟨⟨h, h1⟩, ⟨_, h2⟩⟩ => ⟨h, h1, h2⟩, fun ⟨h, h1, h2⟩ => ⟨⟨h, h1⟩, ⟨h, h2⟩⟩⟩
theorem msk_one {ns : List Nat} {a b : Nat} : msk ns a ^^^ (msk ns a &&& msk ns b) ≠ 0 ↔ ns.any (fun c => c.testBit a && !c.testBit b) = true := by
  rw [ne_zero_bit, any_get]
  refine exists_congr fun i => ?_
  rw [Nat.testBit_xor, Nat.testBit_and]
  have ha := @msk_bit ns a i
  have hb := @msk_bit ns b i
  simp only [Bool.and_eq_true, Bool.not_eq_true']
  cases h1 : (msk ns a).testBit i <;> cases h2 : (msk ns b).testBit i <;> rw [h1] at ha <;> rw [h2] at hb <;> simp at ha hb ⊢
  · exact fun h hh => by have := ha h; rw [this] at hh; cases hh
  · exact fun h hh => by have := ha h; rw [this] at hh; cases hh
  · obtain ⟨h, h3⟩ := ha; exact ⟨h, h3, hb h⟩
  · obtain ⟨h, h3⟩ := hb; exact fun _ _ => h3
/-- What the program asks of two marks. -/
theorem msk_clash (ns : List Nat) (a b : Nat) : clashB ns a b = (decide (msk ns a &&& msk ns b ≠ 0) && decide (msk ns a ^^^ (msk ns a &&& msk ns b) ≠ 0) && decide (msk ns b ^^^ (msk ns b &&& msk ns a) ≠ 0)) := by
  rw [Bool.eq_iff_iff]
  simp only [Bool.and_eq_true, decide_eq_true_eq, msk_both, msk_one, clashB]
  have : (fun c : Nat => !c.testBit a && c.testBit b) = fun c => c.testBit b && !c.testBit a := by funext c; rw [Bool.and_comm]
  rw [this]

/-- The first pair of which something holds: numbers, and whether there is one. -/
def FC (p : Nat → Nat → Bool) (N : Nat) (a b : Nat) (is : Bool) : Prop :=
  (is = true ∧ a < b ∧ b < N ∧ p a b = true ∧ ∀ x y, x < y → y < N → (x < a ∨ x = a ∧ y < b) → p x y = false) ∨ (is = false ∧ a = 0 ∧ b = 0 ∧ ∀ x y, x < y → y < N → p x y = false)
theorem FC.unique {p : Nat → Nat → Bool} {N a b a' b' : Nat} {is is' : Bool} (h : FC p N a b is) (h' : FC p N a' b' is') : a = a' ∧ b = b' ∧ is = is' := by
  rcases h with ⟨h1, h2, h3, h4, h5⟩ | ⟨h1, h2, h3, h4⟩ <;> rcases h' with ⟨g1, g2, g3, g4, g5⟩ | ⟨g1, g2, g3, g4⟩
  · rw [h1, g1]
    have e1 : ¬ (a' < a ∨ a' = a ∧ b' < b) := fun h => by rw [h5 a' b' g2 g3 h] at g4; cases g4
    have e2 : ¬ (a < a' ∨ a = a' ∧ b < b') := fun h => by rw [g5 a b h2 h3 h] at h4; cases h4
    refine ⟨?_, ?_, rfl⟩ <;> omega
  · rw [g4 a b h2 h3] at h4; cases h4
  · rw [h4 a' b' g2 g3] at g4; cases g4
  · exact ⟨by omega, by omega, by rw [h1, g1]⟩
def honB (N : Nat) (ns : List Nat) : Bool := (List.range N).all fun a => (List.range N).all fun b => !clashB ns a b
theorem hon_iff {N : Nat} {ns : List Nat} : honB N ns = true ↔ ∀ a b, a < b → b < N → clashB ns a b = false := by
  simp only [honB, List.all_eq_true, List.mem_range, Bool.not_eq_true']
  constructor
  · exact fun h a b h1 h2 => h a (by omega) b h2
  · intro h a ha b hb
    rcases Nat.lt_trichotomy a b with h1 | h1 | h1
    · exact h a b h1 hb
    · subst h1; exact clash_self ns a
    · rw [clash_comm]; exact h b a h1 ha
theorem FC.hon {N a b : Nat} {ns : List Nat} {is : Bool} (h : FC (clashB ns) N a b is) : is = !honB N ns := by
  rcases h with ⟨rfl, h2, h3, h4, h5⟩ | ⟨rfl, h2, h3, h4⟩
  · cases hh : honB N ns with
    | false => rfl
    | true => rw [hon_iff.1 hh a b h2 h3] at h4; cases h4
  · rw [hon_iff.2 h4]; rfl

/-- The error of casts. -/
def castAt (N : Nat) (xs : List Int) (i : Nat) : Int := if 0 ≤ xs.getD i 0 ∧ xs.getD i 0 < ((2 ^ N : Nat) : Int) then 0 else 2
def castsE (m : Int) (xs : List Int) : Int := if m < 1 ∨ 6 < m then 1 else if 8 < xs.length then 3 else firstE (castAt m.toNat xs) xs.length
theorem casts_ok {m : Int} {xs : List Int} (h : castsE m xs = 0) : ∃ (N : Nat) (ns : List Nat), m = (N : Int) ∧ 1 ≤ N ∧ N ≤ 6 ∧ xs = ns.map (fun (x : Nat) => (x : Int)) ∧ ns.length ≤ 8 ∧ ∀ x ∈ ns, x < 2 ^ N := by
  unfold castsE at h
  split at h
  · cases h
  · split at h
    · cases h
    · rename_i h1 h2
      have h3 := firstE_zero.1 h
      have h4 : ∀ x ∈ xs, 0 ≤ x ∧ x < ((2 ^ m.toNat : Nat) : Int) := fun x hx => by
        obtain ⟨i, hi, rfl⟩ := List.mem_iff_getElem.1 hx
        have := h3 i hi
        unfold castAt at this
        split at this
        · rename_i h5; rwa [getD_eq hi] at h5
        · cases this
      refine ⟨m.toNat, xs.map Int.toNat, by omega, by omega, by omega, ?_, by simpa using Nat.le_of_not_lt h2, fun x hx => ?_⟩
      · rw [List.map_map]
        have : xs.map ((fun (x : Nat) => (x : Int)) ∘ Int.toNat) = xs.map id := List.map_congr_left fun x hx => by have := (h4 x hx).1; simp; omega
        rw [this, List.map_id]
      · obtain ⟨y, hy, rfl⟩ := List.mem_map.1 hx
        have := h4 y hy
        omega
theorem casts_intro {N : Nat} {ns : List Nat} (h1 : 1 ≤ N) (h2 : N ≤ 6) (h3 : ns.length ≤ 8) (h4 : ∀ x ∈ ns, x < 2 ^ N) : castsE (N : Int) (ns.map fun (x : Nat) => (x : Int)) = 0 := by
  unfold castsE
  rw [if_neg (by omega), if_neg (by simp; omega), firstE_zero]
  intro i hi
  rw [List.length_map] at hi
  unfold castAt
  rw [getD_eq (by simpa using hi), List.getElem_map, Int.toNat_natCast, if_pos]
  have := h4 _ (List.getElem_mem hi)
  omega
theorem pow_64 {N : Nat} (h : N ≤ 6) : 2 ^ N ≤ 64 := Nat.pow_le_pow_right (by omega) h
end Go.Proofs.Ytblopbimchkneaa.Md

/- Pairs of numbers that are compared. -/
namespace Go.Abs
set_option linter.unusedSectionVars false
variable [Globs]
open Go
set_option linter.unusedSimpArgs false
theorem pureRun_pure {α : Type} (P : Program) (a : α) : pureRun P (pure a : Sem α) = some a := rfl
structure Arr2 (P : Program) (t e : TypeId) : Prop where
  u : P.underlying e = some (.int .i64)
  a : P.underlying t = some (.array 2 e)
  s : pureRun P (sizeOf e) = some 1
  p : ∀ (x y : Int), pureRun P (part e #[.int .i64 x, .int .i64 y] (0 * 1)) = some (.int .i64 x) ∧ pureRun P (part e #[.int .i64 x, .int .i64 y] (1 * 1)) = some (.int .i64 y)
  g : ∀ (x y : Operand) (a b : Array Value), pureRun P (eqGuard .neq t x y (.agg a) (.agg b)) = some ()
section
variable {C : CW} {L : Env} {H : Heap}
end

theorem holdsN' {H : Heap} {i : Nat} {a : Addr} {k : Nat} {l : List Value} (h : H.readN a k = some l) (hs : sameL l l = true) : holds H ⟨i, a, some k, .agg l.toArray⟩ = true := by
  simp only [holds, h]; exact hs
section
variable {C : CW} {L : Env} {H : Heap}
end
end Go.Abs

/- What the reference's functions come to. -/
namespace Go.Abs
variable [Globs]
theorem Ends.ret3 {L : Env} {H : Heap} {a b c : Nat} {v u w : Value} {R : Value → Heap → Prop} (hx : ev L (.tmp a) = some v) (hy : ev L (.tmp b) = some u) (hz : ev L (.tmp c) = some w) (h : R (.tuple #[v, u, w]) H) : Ends (retK [.tmp a, .tmp b, .tmp c] R) .ret L [] H := by
  refine Ends.ret_of trivial fun t ht => ⟨_, H, ?_, h⟩
  simp only [takeAll, leaveC, resultOf, ev_ok ht hx, ev_ok ht hy, ev_ok ht hz, retVal]
end Go.Abs
namespace Go.Proofs.Ytblopbimchkneaa.Md
open Go Go.Abs Go.Mth
set_option linter.unusedVariables false
set_option linter.unusedSimpArgs false
attribute [local irreducible] gOK WS WC WR WD Ends FS YS OpV seqK blockK loopK midK retK rdK asgK rangeEnd sat Cell
theorem has_fs {c a : Nat} (hc : c < 2 ^ 62) (ha : a ≤ 61) (H : Heap) : FS C 62 [.int .i64 (c : Int), .int .i64 (a : Int)] H (fun e H' => e = .bool (c.testBit a) ∧ H' = H) := by
  have hp : 2 ^ a < 2 ^ 63 := Nat.pow_lt_pow_right (by omega) (by omega)
  refine FS.intro (pf := pf62) rfl rfl rfl ?_
  repeat' (first | refine zP ?_ | refine zA ?_ | (refine zM ?_; intro _ _) | refine zX ?_ | (refine zC ?_; intro _ _ _ _) | (refine zS ?_; intro _ _) | (apply Ws <;> intro hg))
  refine WR.op (by first | exact gN | exact gS rfl) rfl (OpV.shl1 rfl rfl (by show a ≤ 64; omega) hp) ?_
  refine WR.op (by first | exact gN | exact gS rfl) rfl (OpV.andN rfl rfl (by show c < 2 ^ 63; omega) hp) ?_
  repeat' (first | refine zP ?_ | refine zA ?_ | (refine zM ?_; intro _ _) | refine zX ?_ | (refine zC ?_; intro _ _ _ _) | (refine zS ?_; intro _ _) | (apply Ws <;> intro hg))
  refine Ends.ret1 rfl ⟨?_, rfl⟩
  congr 1
  rw [Bool.eq_iff_iff, decide_eq_true_eq, and_pow_ne]

def someB (ns : List Nat) (a : Nat) (p : Bool) (b : Nat) (q : Bool) : Bool := ns.any fun c => (c.testBit a == p) && (c.testBit b == q)
end Go.Proofs.Ytblopbimchkneaa.Md

/- Rows of elements of several cells each. -/
namespace Go.Abs
set_option linter.unusedSectionVars false
variable [Globs]
open Go Go.Mth
set_option linter.unusedVariables false
def cellsF {α : Type} (F : α → List Value) (l : List α) : List Value := (l.map F).flatten
section
variable {α : Type} {F : α → List Value} {K : Nat}
theorem cellsF_len (hF : ∀ a, (F a).length = K) : ∀ l : List α, (cellsF F l).length = l.length * K
  | [] => by simp [cellsF]
  | a :: l => by
    have := cellsF_len hF l
    simp only [cellsF, List.map_cons, List.flatten_cons, List.length_append, List.length_cons, hF] at this ⊢
    rw [this, Nat.succ_mul]; omega
theorem cellsF_drop (hF : ∀ a, (F a).length = K) : ∀ (l : List α) (m : Nat), (cellsF F l).drop (m * K) = cellsF F (l.drop m)
  | l, 0 => by simp
  | [], m + 1 => by simp [cellsF]
  | a :: l, m + 1 => by
    have := cellsF_drop hF l m
    simp only [cellsF, List.map_cons, List.flatten_cons, List.drop_succ_cons] at this ⊢
    rw [← this, Nat.succ_mul, Nat.add_comm, ← List.drop_drop, List.drop_left' (hF a)]
theorem cellsF_take (hF : ∀ a, (F a).length = K) : ∀ (l : List α) (m : Nat), (cellsF F l).take (m * K) = cellsF F (l.take m)
  | l, 0 => by simp [cellsF]
  | [], m + 1 => by simp [cellsF]
  | a :: l, m + 1 => by
    have := cellsF_take hF l m
    simp only [cellsF, List.map_cons, List.flatten_cons, List.take_succ_cons] at this ⊢
    rw [← this, Nat.succ_mul, Nat.add_comm, List.take_append, hF, Nat.add_sub_cancel_left, List.take_of_length_le (by rw [hF]; omega)]
theorem cellsF_at (hF : ∀ a, (F a).length = K) {l : List α} {m : Nat} (h : m < l.length) : ((cellsF F l).drop (m * K)).take K = F l[m] := by
  rw [cellsF_drop hF, List.drop_eq_getElem_cons h]
  simp only [cellsF, List.map_cons, List.flatten_cons]
  exact List.take_left' (hF _)
theorem cellsF_get (hF : ∀ a, (F a).length = K) {l : List α} {m j : Nat} (h : m < l.length) (hj : j < K) : (cellsF F l)[m * K + j]? = (F l[m])[j]? := by
  rw [← cellsF_at hF h, List.getElem?_take_of_lt hj, List.getElem?_drop]
theorem cellsF_set (hF : ∀ a, (F a).length = K) {j : Nat} (hj : j < K) : ∀ {l : List α} {m : Nat} (h : m < l.length) {a : α} {v : Value}, F a = (F l[m]).set j v → (cellsF F l).set (m * K + j) v = cellsF F (l.set m a)
  | [], m, h, _, _, _ => absurd h (Nat.not_lt_zero _)
  | b :: l, 0, h, a, v, e => by
    simp only [cellsF, List.map_cons, List.flatten_cons, List.set_cons_zero, Nat.zero_mul, Nat.zero_add, List.getElem_cons_zero] at e ⊢
    rw [e, List.set_append_left _ _ (by rw [hF]; exact hj)]
  | b :: l, m + 1, h, a, v, e => by
    have := cellsF_set hF hj (l := l) (m := m) (by simpa using h) (a := a) (v := v) (by simpa using e)
    simp only [cellsF, List.map_cons, List.flatten_cons, List.set_cons_succ] at this ⊢
    rw [← this, List.set_append_right _ _ (by rw [hF, Nat.succ_mul]; omega), hF]
    congr 2
    rw [Nat.succ_mul]; omega
theorem cellsF_rep (m : Nat) (a : α) : (List.replicate m (F a)).flatten = cellsF F (List.replicate m a) := by simp [cellsF]

/-- Several cells, one behind another. -/
def KCell (M : HL) (b o u : Nat) (vs : List Value) : Prop := ∃ ch lo cs, (b, ch) ∈ M ∧ ch.cellsAre u lo cs ∧ lo ≤ o ∧ o - lo + vs.length ≤ cs.length ∧ (cs.drop (o - lo)).take vs.length = vs
theorem KCell.at {M : HL} {b o u j : Nat} {vs : List Value} {v : Value} (h : KCell M b o u vs) (hv : vs[j]? = some v) : Cell M b (o + j) u v := by
  obtain ⟨ch, lo, cs, h1, h2, h3, h4, h5⟩ := h
  have hj : j < vs.length := (List.getElem?_eq_some_iff.1 hv).1
  refine ⟨ch, lo, cs, h1, h2, by omega, ?_⟩
  rw [← h5, List.getElem?_take_of_lt hj, List.getElem?_drop] at hv
  rw [← hv]; congr 1; omega
theorem KCell.mono {M M' : HL} {b o u : Nat} {vs : List Value} (h : KCell M b o u vs) (k : ∀ p ∈ M, p ∈ M') : KCell M' b o u vs := by
  obtain ⟨ch, lo, cs, h1, h2⟩ := h
  exact ⟨ch, lo, cs, k _ h1, h2⟩
theorem Sl.lenK {M : HL} {v : Value} {l : List α} (hF : ∀ a, (F a).length = K) (hK : 1 ≤ K) (h : Sl M K v (cellsF F l)) : ∃ a c, v = .slice a l.length c := by
  have hl := cellsF_len hF l
  generalize cellsF F l = cs at h hl
  have h0 : ∀ {n : Nat}, n * K = 0 → n = 0 := fun {n} h => by rcases Nat.mul_eq_zero.1 h with h | h <;> omega
  cases h with
  | nil c => have := h0 (n := l.length) (by simp at hl; omega)
             exact ⟨none, c, by rw [this]⟩
  | emp a => have := h0 (n := l.length) (by simp at hl; omega)
             exact ⟨some a, _, by rw [this]⟩
  | row hm hcl hlo hln hv hin hcap =>
    rename_i b o u lo len cap ch cs'
    have : l.length = len := Nat.eq_of_mul_eq_mul_right hK (by omega)
    exact ⟨_, _, by rw [this]⟩
end
section
variable {C : CW} {nt : Nat} {L : Env} {D : List Nat} {H : Heap} {K : St → Prop} {M M' : HL} {n i d : Nat} {gd : Option (Tmp × Bool)} {lo : List Nat} {l : List POp} {rs : List Rd}
variable {α : Type} {F : α → List Value} {z : Nat}
theorem OpV.lenK {x : Operand} {v : Value} {ps : List α} (hF : ∀ a, (F a).length = z) (hz : 1 ≤ z) (hx : ev L x = some v) (hS : Sl M z v (cellsF F ps)) : OpV C (.len x) L H (.int .i64 (ps.length : Int)) H := by
  obtain ⟨a, c, rfl⟩ := hS.lenK hF hz
  exact OpV.len hx
theorem OpV.idxK {x ix : Operand} {kd : IntKind} {m : Nat} {v : Value} {ps : List α} (hF : ∀ a, (F a).length = z) (hz : 1 ≤ z) (hx : ev L x = some v) (hS : Sl M z v (cellsF F ps)) (hi : ev L ix = some (.int kd (m : Int))) (hm : m < ps.length) :
    ∃ b o u, OpV C (.idxS x ix z) L H (.pointer (some ⟨b, o, some u⟩)) H ∧ KCell M b o u (F ps[m]) := by
  have hg := cellsF_at hF hm
  have hl := cellsF_len hF ps
  generalize cellsF F ps = cs at hS hg hl
  have hm1 : m * z + z ≤ ps.length * z := by
    have := Nat.mul_le_mul_right z (show m + 1 ≤ ps.length by omega)
    rwa [Nat.succ_mul] at this
  cases hS with
  | nil c =>
    have h : ps.length * z = 0 := by simp only [List.length_nil] at hl; omega
    rcases Nat.mul_eq_zero.1 h with h | h <;> omega
  | emp a =>
    have h : ps.length * z = 0 := by simp only [List.length_nil] at hl; omega
    rcases Nat.mul_eq_zero.1 h with h | h <;> omega
  | row hm2 hc hlo hln hv hin hp =>
    rename_i b o u lo' len cap ch cs'
    have hlen : ps.length = len := Nat.eq_of_mul_eq_mul_right hz (by omega)
    refine ⟨b, o + m * z, u, OpV.idxS hx hi rfl (by omega) rfl, ch, lo', cs', hm2, hc, by omega, by rw [hF]; omega, ?_⟩
    rw [hF, ← hg, ← hv, List.drop_take, List.take_take, List.drop_drop, show o + m * z - lo' = o - lo' + m * z by omega, Nat.min_eq_left (by omega)]
theorem WR.idxK {x ix : Operand} {kd : IntKind} {m : Nat} {v : Value} {ps : List α} (hF : ∀ a, (F a).length = z) (hz : 1 ≤ z) (hg : gOK L gd) (hd : Nat.blt d nt = true) (hx : ev L x = some v) (hS : Sl M z v (cellsF F ps)) (hi : ev L ix = some (.int kd (m : Int))) (hm : m < ps.length)
    (k : ∀ b o u, KCell M b o u (F ps[m]) → WR C nt l ((d, .pointer (some ⟨b, o, some u⟩)) :: L) D H K) : WR C nt (⟨i, some d, .idxS x ix z, gd, lo⟩ :: l) L D H K := by
  obtain ⟨b, o, u, h1, h2⟩ := OpV.idxK (C := C) (H := H) hF hz hx hS hi hm
  exact WR.op hg hd h1 (k b o u h2)
theorem OpV.loadK {x : Operand} {b o u k : Nat} {vs : List Value} (hx : ev L x = some (.pointer (some ⟨b, o, some u⟩))) (hP : KCell M b o u vs) (hH : hasH M n H) (hk : vs.length = k) : OpV C (.loadN x k) L H (.agg vs.toArray) H := by
  obtain ⟨ch, lo', cs, h1, h2, h3, h4, h5⟩ := hP
  subst hk
  exact OpV.loadN hx hH h1 h2 h3 h4 h5
/-- The last elements of a slice. -/
theorem WR.cutLoK {x lo0 : Operand} {v : Value} {ps : List α} {m : Nat} {kd : IntKind} (hF : ∀ a, (F a).length = z) (hz : 1 ≤ z) (hz2 : z ≤ 1000) (hg : gOK L gd) (hd : Nat.blt d nt = true) (hx : ev L x = some v) (hS : Sl M z v (cellsF F ps)) (hh : ev L lo0 = some (.int kd (m : Int))) (hm : m ≤ ps.length)
    (k : ∀ v', Sl M z v' (cellsF F (ps.drop m)) → WR C nt l ((d, v') :: L) D H K) : WR C nt (⟨i, some d, .slS x z (some lo0) none none, gd, lo⟩ :: l) L D H K := by
  have hl := cellsF_len hF ps
  refine WR.slS (vl := some (.int kd (m : Int))) (vh := none) (a := m) (b := ps.length) hg hd hx hS (by simp [bnd, hh]) rfl rfl (fun len h => ?_) hm (by omega) hz (fun v' h => k v' ?_) hz2
  · have : len = ps.length := Nat.eq_of_mul_eq_mul_right hz (by omega)
    rw [this]; rfl
  · rw [cellsF_drop hF, cellsF_take hF, List.take_of_length_le (by simp)] at h
    exact h
end
end Go.Abs

/- What the program's functions come to. -/
namespace Go.Proofs.Ytblopbimchkneaa.Md
open Go Go.Abs Go.Mth
set_option linter.unusedVariables false
set_option linter.unusedSimpArgs false
/-- The cells of a mark. -/
def MC (p : Nat × Nat) : List Value := [.int .i64 (p.1 : Int), .int .u64 (p.2 : Int)]
theorem MC_len (p : Nat × Nat) : (MC p).length = 2 := rfl
def belowB (n : Int) (xs : List Int) : Bool := xs.all fun x => decide (0 ≤ x ∧ x < n)
/-- The marks of casts. -/
def marksL (N : Nat) (ns : List Nat) : List (Nat × Nat) := (List.range N).map fun i => (i, msk ns i)
theorem marksL_len (N : Nat) (ns : List Nat) : (marksL N ns).length = N := by simp [marksL]
theorem marksL_get {N : Nat} {ns : List Nat} {i : Nat} (h : i < (marksL N ns).length) : (marksL N ns)[i] = (i, msk ns i) := by simp [marksL]
theorem castsE_below {N : Nat} {xs : List Int} (h1 : 1 ≤ N) (h2 : N ≤ 6) (h3 : xs.length ≤ 8) : castsE (N : Int) xs = if belowB ((2 ^ N : Nat) : Int) xs = true then 0 else 2 := by
  have he : castsE (N : Int) xs = firstE (castAt N xs) xs.length := by
    rw [castsE, if_neg (by omega), if_neg (by omega), Int.toNat_natCast]
  rw [he]
  split
  · rename_i h
    refine firstE_zero.2 fun i hi => ?_
    have := List.all_eq_true.1 h _ (getD_mem (a := 0) hi)
    rw [castAt, if_pos (by simpa using this)]
  · rename_i h
    by_cases h0 : firstE (castAt N xs) xs.length = 0
    · refine absurd (List.all_eq_true.2 fun x hx => ?_) h
      obtain ⟨i, hi, rfl⟩ := List.mem_iff_getElem.1 hx
      have := firstE_zero.1 h0 i hi
      rw [castAt, getD_eq hi] at this
      split at this
      · rename_i h4; simpa using h4
      · cases this
    · have : ∀ k, firstE (castAt N xs) k = 0 ∨ firstE (castAt N xs) k = 2 := by
        intro k
        induction k with
        | zero => exact .inl rfl
        | succ k ih =>
          rw [firstE]
          split
          · rw [castAt]; split
            · exact .inl rfl
            · exact .inr rfl
          · exact ih
      rcases this xs.length with h | h
      · exact absurd h h0
      · exact h
attribute [local irreducible] gOK WS WC WR WD Ends FS YS OpV seqK blockK loopK midK retK rdK asgK rangeEnd sat Cell

theorem below_fs {M : HL} {n0 : Nat} {H : Heap} (hH : hasH M n0 H) {v : Value} {xs : List Int} (hS : Sl M 1 v (ints xs)) (hl : xs.length ≤ 1000) (n : Int) :
    FS C 60 [.int .i64 n, v] H (fun e H' => e = .bool (belowB n xs) ∧ H' = H) := by
  refine FS.intro (pf := pf60) rfl rfl rfl ?_
  repeat' (first | refine zP ?_ | refine zA ?_ | (refine zM ?_; intro _ _) | refine zX ?_ | (refine zC ?_; intro _ _ _ _) | (refine zS ?_; intro _ _) | (apply Ws <;> intro hg))
  refine WC.loopX [(0, _), (7, _), (8, _)] (fun k : Nat => [(9, .int .i64 (k : Int))]) [] (fun k H' => H' = H ∧ k ≤ xs.length ∧ ∀ j, j < k → 0 ≤ xs.getD j 0 ∧ xs.getD j 0 < n) (fun k => xs.length - k) 0 (by repeat' (first | exact .nil | refine .cons rfl ?_)) rfl ⟨rfl, Nat.zero_le _, fun j h => absurd h (Nat.not_lt_zero _)⟩ ?_
  rintro k H' ⟨rfl, hk, hno⟩
  dsimp only [List.cons_append, List.nil_append]
  repeat' (first | refine zP ?_ | refine zA ?_ | (refine zM ?_; intro _ _) | refine zX ?_ | (refine zC ?_; intro _ _ _ _) | (refine zS ?_; intro _ _) | (apply Ws <;> intro hg))
  refine WC.condP rfl (fun hlt => ?_) (fun hlt => ?_)
  · have hk' : k < xs.length := by omega
    by_cases h1 : 0 ≤ xs.getD k 0 ∧ xs.getD k 0 < n
    · repeat' (first | refine zP ?_ | refine zA ?_ | (refine zM ?_; intro _ _) | refine zX ?_ | (refine zC ?_; intro _ _ _ _) | (refine zS ?_; intro _ _) | refine zO ?_ | (apply Ws <;> intro hg))
      refine Ends.loop (k + 1) (by omega) (by repeat' (first | exact .nil | refine .cons rfl ?_)) rfl ⟨rfl, hk', fun j hj => ?_⟩
      rcases Nat.lt_or_ge j k with h3 | h3
      · exact hno j h3
      · have : j = k := by omega
        subst this; exact h1
    · have hf : belowB n xs = false := by
        cases h : belowB n xs with
        | false => rfl
        | true => have := List.all_eq_true.1 h _ (getD_mem (a := 0) hk'); exact absurd (by simpa using this) h1
      by_cases h2 : xs.getD k 0 < 0
      · repeat' (first | refine zP ?_ | refine zA ?_ | (refine zM ?_; intro _ _) | refine zX ?_ | (refine zC ?_; intro _ _ _ _) | (refine zS ?_; intro _ _) | refine zO ?_ | (apply Ws <;> intro hg))
        exact Ends.ret1 rfl ⟨by rw [hf], rfl⟩
      · repeat' (first | refine zP ?_ | refine zA ?_ | (refine zM ?_; intro _ _) | refine zX ?_ | (refine zC ?_; intro _ _ _ _) | (refine zS ?_; intro _ _) | refine zO ?_ | (apply Ws <;> intro hg))
        exact Ends.ret1 rfl ⟨by rw [hf], rfl⟩
  · repeat' (first | refine zP ?_ | refine zA ?_ | (refine zM ?_; intro _ _) | refine zX ?_ | (refine zC ?_; intro _ _ _ _) | (refine zS ?_; intro _ _) | (apply Ws <;> intro hg))
    refine Ends.ret1 rfl ⟨?_, rfl⟩
    have : belowB n xs = true := List.all_eq_true.2 fun x hx => by
      obtain ⟨i, hi, rfl⟩ := List.mem_iff_getElem.1 hx
      have := hno i (by omega)
      rw [getD_eq hi] at this
      simpa using this
    rw [this]

theorem Check_fs {M : HL} {n0 : Nat} {H : Heap} (hH : hasH M n0 H) {v : Value} {xs : List Int} (hS : Sl M 1 v (ints xs)) (hl : xs.length ≤ 1000) (m : Int) :
    FS C 19 [.int .i64 m, v] H (fun e H' => e = .int .i64 (castsE m xs) ∧ H' = H) := by
  refine FS.intro (pf := pf19) rfl rfl rfl ?_
  by_cases h1 : m < 1
  · repeat' (first | refine zP ?_ | refine zA ?_ | (refine zM ?_; intro _ _) | refine zX ?_ | (refine zC ?_; intro _ _ _ _) | (refine zS ?_; intro _ _) | refine zO ?_ | (apply Ws <;> intro hg))
    exact Ends.ret1 rfl ⟨by rw [castsE, if_pos (.inl h1)], rfl⟩
  by_cases h2 : 6 < m
  · repeat' (first | refine zP ?_ | refine zA ?_ | (refine zM ?_; intro _ _) | refine zX ?_ | (refine zC ?_; intro _ _ _ _) | (refine zS ?_; intro _ _) | refine zO ?_ | (apply Ws <;> intro hg))
    exact Ends.ret1 rfl ⟨by rw [castsE, if_pos (.inr h2)], rfl⟩
  by_cases h3 : 8 < xs.length
  · repeat' (first | refine zP ?_ | refine zA ?_ | (refine zM ?_; intro _ _) | refine zX ?_ | (refine zC ?_; intro _ _ _ _) | (refine zS ?_; intro _ _) | refine zO ?_ | (apply Ws <;> intro hg))
    exact Ends.ret1 rfl ⟨by rw [castsE, if_neg (by omega), if_pos h3], rfl⟩
  obtain ⟨N, rfl⟩ : ∃ N : Nat, m = (N : Int) := ⟨m.toNat, by omega⟩
  repeat' (first | refine zP ?_ | refine zA ?_ | (refine zM ?_; intro _ _) | refine zX ?_ | (refine zC ?_; intro _ _ _ _) | (refine zS ?_; intro _ _) | refine zO ?_ | (apply Ws <;> intro hg))
  refine WR.op (by first | exact gN | exact gS rfl) rfl (OpV.shl1 rfl rfl (by show N ≤ 64; omega) (by show 2 ^ N < 2 ^ 63; exact Nat.pow_lt_pow_right (by omega) (by omega))) ?_
  repeat' (first | refine zP ?_ | refine zA ?_ | (refine zM ?_; intro _ _) | refine zX ?_ | (refine zC ?_; intro _ _ _ _) | (refine zS ?_; intro _ _) | (apply Ws <;> intro hg))
  refine WR.call (by first | exact gN | exact gS rfl) rfl rfl (below_fs hH hS hl _) ?_
  rintro _ _ ⟨rfl, rfl⟩
  have hE := castsE_below (N := N) (xs := xs) (by omega) (by omega) (by omega)
  cases hb : belowB ((2 ^ N : Nat) : Int) xs with
  | true =>
    repeat' (first | refine zP ?_ | refine zA ?_ | (refine zM ?_; intro _ _) | refine zX ?_ | (refine zC ?_; intro _ _ _ _) | (refine zS ?_; intro _ _) | refine zO ?_ | (apply Ws <;> intro hg))
    exact Ends.ret1 rfl ⟨by rw [hE, if_pos hb], rfl⟩
  | false =>
    repeat' (first | refine zP ?_ | refine zA ?_ | (refine zM ?_; intro _ _) | refine zX ?_ | (refine zC ?_; intro _ _ _ _) | (refine zS ?_; intro _ _) | refine zO ?_ | (apply Ws <;> intro hg))
    exact Ends.ret1 rfl ⟨by rw [hE, if_neg (by rw [hb]; simp)], rfl⟩
theorem within_fs {M : HL} {n0 : Nat} {H : Heap} (hH : hasH M n0 H) {a b : Nat} (ha : a < 2 ^ 62) (hb : b < 2 ^ 62) :
    FS C 93 [.agg #[.int .u64 (a : Int)], .agg #[.int .u64 (b : Int)]] H (fun e H' => e = .bool (decide (a ^^^ (a &&& b) = 0)) ∧ ∃ n', n0 ≤ n' ∧ hasH M n' H') := by
  refine FS.intro (pf := pf93) rfl rfl rfl ?_
  repeat' (first | refine zP ?_ | refine zA ?_ | (refine zM ?_; intro _ _) | refine zX ?_ | (refine zC ?_; intro _ _ _ _) | (refine zS ?_; intro _ _) | (apply Ws <;> intro hg))
  rename_i H1 hH1 H2 hH2
  refine WR.op (by first | exact gN | exact gS rfl) rfl (OpV.andNotN rfl rfl (by show a < 2 ^ 64; omega) (by show b < 2 ^ 64; omega)) ?_
  repeat' (first | refine zP ?_ | refine zA ?_ | (refine zM ?_; intro _ _) | refine zX ?_ | (refine zC ?_; intro _ _ _ _) | (refine zS ?_; intro _ _) | (apply Ws <;> intro hg))
  refine Ends.ret1 rfl ⟨?_, n0 + 2, by omega, hH2.tail.tail⟩
  congr 1
  rw [decide_eq_decide]; omega

theorem clash_fs {M : HL} {n0 : Nat} {H : Heap} (hH : hasH M n0 H) {a b : Nat} (ha : a < 2 ^ 62) (hb : b < 2 ^ 62) :
    FS C 83 [.agg #[.int .u64 (a : Int)], .agg #[.int .u64 (b : Int)]] H (fun e H' => e = .bool (decide (a &&& b ≠ 0) && decide (a ^^^ (a &&& b) ≠ 0) && decide (b ^^^ (b &&& a) ≠ 0)) ∧ ∃ n', n0 ≤ n' ∧ hasH M n' H') := by
  refine FS.intro (pf := pf83) rfl rfl rfl ?_
  repeat' (first | refine zP ?_ | refine zA ?_ | (refine zM ?_; intro _ _) | refine zX ?_ | (refine zC ?_; intro _ _ _ _) | (refine zS ?_; intro _ _) | (apply Ws <;> intro hg))
  rename_i H1 hH1 H2 hH2
  refine WR.op (by first | exact gN | exact gS rfl) rfl (OpV.andN rfl rfl (by show a < 2 ^ 64; omega) (by show b < 2 ^ 64; omega)) ?_
  by_cases h1 : a &&& b = 0
  · rw [h1]
    repeat' (first | refine zP ?_ | refine zA ?_ | (refine zM ?_; intro _ _) | refine zX ?_ | (refine zC ?_; intro _ _ _ _) | (refine zS ?_; intro _ _) | refine zO ?_ | (apply Ws <;> intro hg))
    exact Ends.ret1 rfl ⟨by simp, n0 + 2, by omega, hH2.tail.tail⟩
  obtain ⟨z, hz⟩ : ∃ z, a &&& b = z := ⟨_, rfl⟩
  rw [hz] at h1
  have hab : decide (a &&& b ≠ 0) = true := decide_eq_true (by omega)
  rw [hab, hz]
  repeat' (first | refine zP ?_ | refine zA ?_ | (refine zM ?_; intro _ _) | refine zX ?_ | (refine zC ?_; intro _ _ _ _) | (refine zS ?_; intro _ _) | refine zO ?_ | (apply Ws <;> intro hg))
  refine WR.call (by first | exact gN | exact gS rfl) rfl rfl (within_fs hH2 ha hb) ?_
  rintro _ H3 ⟨rfl, n3, hn3, hH3⟩
  rw [hz]
  by_cases h2 : a ^^^ z = 0
  · rw [decide_eq_true h2]
    repeat' (first | refine zP ?_ | refine zA ?_ | (refine zM ?_; intro _ _) | refine zX ?_ | (refine zC ?_; intro _ _ _ _) | (refine zS ?_; intro _ _) | refine zO ?_ | (apply Ws <;> intro hg))
    exact Ends.ret1 rfl ⟨by simp [h2], n3, by omega, hH3.tail.tail⟩
  rw [decide_eq_false h2]
  repeat' (first | refine zP ?_ | refine zA ?_ | (refine zM ?_; intro _ _) | refine zX ?_ | (refine zC ?_; intro _ _ _ _) | (refine zS ?_; intro _ _) | refine zO ?_ | (apply Ws <;> intro hg))
  refine WR.call (by first | exact gN | exact gS rfl) rfl rfl (within_fs hH3 hb ha) ?_
  rintro _ H4 ⟨rfl, n4, hn4, hH4⟩
  by_cases h3 : b ^^^ (b &&& a) = 0
  · rw [decide_eq_true h3]
    repeat' (first | refine zP ?_ | refine zA ?_ | (refine zM ?_; intro _ _) | refine zX ?_ | (refine zC ?_; intro _ _ _ _) | (refine zS ?_; intro _ _) | refine zO ?_ | (apply Ws <;> intro hg))
    exact Ends.ret1 rfl ⟨by simp [h2, h3], n4, by omega, hH4.tail.tail⟩
  · rw [decide_eq_false h3]
    repeat' (first | refine zP ?_ | refine zA ?_ | (refine zM ?_; intro _ _) | refine zX ?_ | (refine zC ?_; intro _ _ _ _) | (refine zS ?_; intro _ _) | refine zO ?_ | (apply Ws <;> intro hg))
    exact Ends.ret1 rfl ⟨by simp [h2, h3], n4, by omega, hH4.tail.tail⟩
end Go.Proofs.Ytblopbimchkneaa.Md

namespace Go.Proofs.Ytblopbimchkneaa.Md
open Go Go.Abs Go.Mth
set_option linter.unusedVariables false
set_option linter.unusedSimpArgs false
theorem msk_lt {ns : List Nat} (h : ns.length ≤ 61) (a : Nat) : msk ns a < 2 ^ 62 := Nat.lt_of_lt_of_le (mskTo_lt ns a ns.length) (Nat.pow_le_pow_right (by omega) (by omega))
theorem set_getD {α : Type} {l : List α} {k i : Nat} {x a : α} (h : k < l.length) (hi : i ≠ k) : (l.set k x).getD i a = l.getD i a := by rw [getD_set' h, if_neg hi]
attribute [local irreducible] gOK WS WC WR WD Ends FS YS OpV seqK blockK loopK midK retK rdK asgK rangeEnd sat Cell

/-- A loop's state: a place, a row, the heap's next. -/
structure KL where
  k : Nat
  l : List (Nat × Nat)

set_option maxHeartbeats 1000000 in
theorem marksOf_fs {M : HL} {n0 : Nat} {H : Heap} (hH : hasH M n0 H) {v : Value} {ns : List Nat} (hS : Sl M 1 v (nodes ns)) (hl : ns.length ≤ 61) (hb : ∀ x ∈ ns, x < 2 ^ 62) {N : Nat} (hN : N ≤ 61) :
    FS C 58 [.int .i64 (N : Int), v] H (fun e H' => ∃ c, e = .slice (some ⟨n0, 0, some 0⟩) N c ∧ Sl ((n0, .row 87 0 0 (cellsF MC (marksL N ns))) :: M) 2 e (cellsF MC (marksL N ns)) ∧ hasH ((n0, .row 87 0 0 (cellsF MC (marksL N ns))) :: M) (n0 + 1) H') := by
  refine FS.intro (pf := pf58) rfl rfl rfl ?_
  repeat' (first | refine zP ?_ | refine zA ?_ | (refine zM ?_; intro _ _) | refine zX ?_ | (refine zC ?_; intro _ _ _ _) | (refine zS ?_; intro _ _) | (apply Ws <;> intro hg))
  refine WR.mkSL (by first | exact gN | exact gS rfl) rfl hH rfl rfl (by omega) rfl fun H1 hH1 => ?_
  rw [show (List.replicate N [Value.int .i64 0, .int .u64 0]).flatten = cellsF MC (List.replicate N (0, 0)) from cellsF_rep (F := MC) N (0, 0)] at hH1
  repeat' (first | refine zP ?_ | refine zA ?_ | (refine zM ?_; intro _ _) | refine zX ?_ | (refine zC ?_; intro _ _ _ _) | (refine zS ?_; intro _ _) | (apply Ws <;> intro hg))
  have hS1 : ∀ {l : List (Nat × Nat)}, Sl ((n0, .row 87 0 0 (cellsF MC l)) :: M) 1 v (nodes ns) := hS.cons
  refine WC.loopX [(1, _), (5, _), (11, _), (12, _)] (fun s : KL => [(13, .int .i64 (s.k : Int))]) []
    (fun s H' => s.k ≤ N ∧ s.l.length = N ∧ (∀ i, i < s.k → s.l.getD i (0, 0) = (i, msk ns i)) ∧ (∀ i, s.k ≤ i → s.l.getD i (0, 0) = (0, 0)) ∧ hasH ((n0, .row 87 0 0 (cellsF MC s.l)) :: M) (n0 + 1) H') (fun s => N - s.k) ⟨0, List.replicate N (0, 0)⟩ (by repeat' (first | exact .nil | refine .cons rfl ?_)) rfl
    ⟨Nat.zero_le _, by simp, fun i h => absurd h (Nat.not_lt_zero _), fun i _ => by
      rcases Nat.lt_or_ge i N with h | h
      · rw [getD_eq (by simpa using h)]; simp
      · rw [List.getD_eq_getElem?_getD, List.getElem?_eq_none (by simpa using h)]; rfl, hH1⟩ ?_
  rintro ⟨k, l⟩ H2 ⟨hk, hll, h1, h2, hH2⟩
  simp only at hk hll h1 h2 hH2
  clear hH1
  dsimp only [List.cons_append, List.nil_append]
  repeat' (first | refine zP ?_ | refine zA ?_ | (refine zM ?_; intro _ _) | refine zX ?_ | (refine zC ?_; intro _ _ _ _) | (refine zS ?_; intro _ _) | (apply Ws <;> intro hg))
  refine WC.condP rfl (fun hlt => ?_) (fun hlt => ?_)
  · have hk' : k < N := by omega
    repeat' (first | refine zP ?_ | refine zA ?_ | (refine zM ?_; intro _ _) | refine zX ?_ | (refine zC ?_; intro _ _ _ _) | (refine zS ?_; intro _ _) | (apply Ws <;> intro hg))
    refine WR.store1 (cs' := cellsF MC (l.set k (k, 0))) (by first | exact gN | exact gS rfl) hH2 rfl rfl rfl .here (Nat.zero_le _) (by rw [cellsF_len MC_len, hll]; omega)
      (by exact (cellsF_set MC_len (by decide) (by omega) (by have := h2 k (Nat.le_refl _); rw [getD_eq (by omega)] at this; rw [this]; rfl)).symm) fun H3 hH3 => ?_
    clear hH2
    have hS3 := hS1 (l := l.set k (k, 0))
    repeat' (first | refine zP ?_ | refine zA ?_ | (refine zM ?_; intro _ _) | refine zX ?_ | (refine zC ?_; intro _ _ _ _) | (refine zS ?_; intro _ _) | (apply Ws <;> intro hg))
    refine WC.loopX [(1, _), (5, _), (6, _), (11, _), (12, _), (13, _), (21, _), (22, _)] (fun s : KL => [(23, .int .i64 (s.k : Int))]) []
      (fun s H' => s.k ≤ ns.length ∧ s.l.length = N ∧ (∀ i, i < k → s.l.getD i (0, 0) = (i, msk ns i)) ∧ (∀ i, k + 1 ≤ i → s.l.getD i (0, 0) = (0, 0)) ∧ s.l.getD k (0, 0) = (k, mskTo ns k s.k) ∧ hasH ((n0, .row 87 0 0 (cellsF MC s.l)) :: M) (n0 + 1) H') (fun s => ns.length - s.k) ⟨0, l.set k (k, 0)⟩ (by repeat' (first | exact .nil | refine .cons rfl ?_)) rfl
      ⟨Nat.zero_le _, by simpa using hll, fun i hi => by rw [set_getD (by omega) (by omega)]; exact h1 i hi, fun i hi => by rw [set_getD (by omega) (by omega)]; exact h2 i (by omega), by rw [getD_set' (by omega), if_pos rfl, mskTo_zero], hH3⟩ ?_
    rintro ⟨j, l2⟩ H4 ⟨hj, hll2, g1, g2, g3, hH4⟩
    simp only at hj hll2 g1 g2 g3 hH4
    clear hH3 hS3
    have hS4 := hS1 (l := l2)
    dsimp only [List.cons_append, List.nil_append]
    repeat' (first | refine zP ?_ | refine zA ?_ | (refine zM ?_; intro _ _) | refine zX ?_ | (refine zC ?_; intro _ _ _ _) | (refine zS ?_; intro _ _) | (apply Ws <;> intro hg))
    refine WC.condP rfl (fun hlt2 => ?_) (fun hlt2 => ?_)
    · have hj' : j < ns.length := by omega
      repeat' (first | refine zP ?_ | refine zA ?_ | (refine zM ?_; intro _ _) | refine zX ?_ | (refine zC ?_; intro _ _ _ _) | (refine zS ?_; intro _ _) | (apply Ws <;> intro hg))
      refine WR.call (by first | exact gN | exact gS rfl) rfl rfl (has_fs (hb _ (getD_mem (a := 0) hj')) (by omega) _) ?_
      rintro _ H5 ⟨rfl, rfl⟩
      have hg2 : l2[k]'(by omega) = (k, mskTo ns k j) := by rw [← g3, getD_eq (by omega)]
      cases hbit : (ns.getD j 0).testBit k with
      | false =>
        repeat' (first | refine zP ?_ | refine zA ?_ | (refine zM ?_; intro _ _) | refine zX ?_ | (refine zC ?_; intro _ _ _ _) | (refine zS ?_; intro _ _) | (apply Ws <;> intro hg))
        exact Ends.loop ⟨j + 1, l2⟩ (by simp only; omega) (by repeat' (first | exact .nil | refine .cons rfl ?_)) rfl ⟨hj', hll2, g1, g2, by rw [mskTo_no hbit]; exact g3, hH4⟩
      | true =>
        repeat' (first | refine zP ?_ | refine zA ?_ | (refine zM ?_; intro _ _) | refine zX ?_ | (refine zC ?_; intro _ _ _ _) | (refine zS ?_; intro _ _) | (apply Ws <;> intro hg))
        refine WR.op (by first | exact gN | exact gS rfl) rfl (OpV.load1 rfl hH4 (.head _) (.row _ _ _ _) (Nat.zero_le _) (v := .int .u64 (mskTo ns k j : Nat)) (by
          rw [show k * 2 + 1 + 0 - 0 = k * 2 + 1 by omega, cellsF_get MC_len (by omega) (by decide), hg2]; rfl)) ?_
        repeat' (first | refine zP ?_ | refine zA ?_ | (refine zM ?_; intro _ _) | refine zX ?_ | (refine zC ?_; intro _ _ _ _) | (refine zS ?_; intro _ _) | (apply Ws <;> intro hg))
        refine WR.op (by first | exact gN | exact gS rfl) rfl (OpV.shl1 rfl rfl (by show j ≤ 64; omega) (by show 2 ^ j < 2 ^ 64; exact Nat.pow_lt_pow_right (by omega) (by omega))) ?_
        refine WR.op (by first | exact gN | exact gS rfl) rfl (OpV.orN rfl rfl (by show mskTo ns k j < 2 ^ 64; exact Nat.lt_of_lt_of_le (mskTo_lt ns k j) (Nat.pow_le_pow_right (by omega) (by omega))) (by show 2 ^ j < 2 ^ 64; exact Nat.pow_lt_pow_right (by omega) (by omega))) ?_
        repeat' (first | refine zP ?_ | refine zA ?_ | (refine zM ?_; intro _ _) | refine zX ?_ | (refine zC ?_; intro _ _ _ _) | (refine zS ?_; intro _ _) | (apply Ws <;> intro hg))
        refine WR.store1 (cs' := cellsF MC (l2.set k (k, mskTo ns k (j + 1)))) (by first | exact gN | exact gS rfl) hH4 rfl rfl rfl .here (Nat.zero_le _) (by rw [cellsF_len MC_len, hll2]; omega)
          (by rw [show k * 2 + 1 + 0 - 0 = k * 2 + 1 by omega]; exact (cellsF_set MC_len (by decide) (by omega) (by rw [hg2, mskTo_yes hbit]; rfl)).symm) fun H6 hH6 => ?_
        repeat' (first | refine zP ?_ | refine zA ?_ | (refine zM ?_; intro _ _) | refine zX ?_ | (refine zC ?_; intro _ _ _ _) | (refine zS ?_; intro _ _) | (apply Ws <;> intro hg))
        exact Ends.loop ⟨j + 1, l2.set k (k, mskTo ns k (j + 1))⟩ (by simp only; omega) (by repeat' (first | exact .nil | refine .cons rfl ?_)) rfl ⟨hj', by simpa using hll2, fun i hi => by rw [set_getD (by omega) (by omega)]; exact g1 i hi, fun i hi => by rw [set_getD (by omega) (by omega)]; exact g2 i hi,
          by rw [getD_set' (by omega), if_pos rfl], hH6⟩
    · have hjl : j = ns.length := by omega
      subst hjl
      repeat' (first | refine zP ?_ | refine zA ?_ | (refine zM ?_; intro _ _) | refine zX ?_ | (refine zC ?_; intro _ _ _ _) | (refine zS ?_; intro _ _) | (apply Ws <;> intro hg))
      refine Ends.loop ⟨k + 1, l2⟩ (by show N - (k + 1) < N - k; omega) (by repeat' (first | exact .nil | refine .cons rfl ?_)) rfl ⟨hk', hll2, fun i hi => ?_, g2, hH4⟩
      replace hi : i < k + 1 := hi
      rcases Nat.lt_or_ge i k with h3 | h3
      · exact g1 i h3
      · have : i = k := by omega
        subst this; exact g3
  · have hkN : N = k := by omega
    subst hkN
    repeat' (first | refine zP ?_ | refine zA ?_ | (refine zM ?_; intro _ _) | refine zX ?_ | (refine zC ?_; intro _ _ _ _) | (refine zS ?_; intro _ _) | (apply Ws <;> intro hg))
    have he : l = marksL N ns := ext_getD (a := (0, 0)) (by rw [marksL_len]; exact hll) fun i hi => by
      rw [h1 i (by omega), getD_eq (by rw [marksL_len]; omega), marksL_get]
    subst he
    refine Ends.ret1 rfl ⟨_, rfl, ?_, hH2⟩
    exact .row (lo := 0) (.head _) (.row _ _ _ _) (Nat.le_refl _) (by rw [cellsF_len MC_len, marksL_len]) (by simp) (by simp) (.inr ⟨N, rfl, Nat.le_refl _⟩)
end Go.Proofs.Ytblopbimchkneaa.Md

namespace Go.Proofs.Ytblopbimchkneaa.Md
open Go Go.Abs Go.Mth
set_option linter.unusedVariables false
set_option linter.unusedSimpArgs false
theorem marksL_drop (N : Nat) (ns : List Nat) (k j : Nat) (h : j < ((marksL N ns).drop k).length) : ((marksL N ns).drop k)[j] = (k + j, msk ns (k + j)) := by
  rw [List.getElem_drop, marksL_get]
attribute [local irreducible] gOK WS WC WR WD Ends FS YS OpV seqK blockK loopK midK retK rdK asgK rangeEnd sat Cell

set_option maxHeartbeats 1000000 in
theorem firstClash_fs {M : HL} {n0 : Nat} {H : Heap} (hH : hasH M n0 H) {v : Value} {ns : List Nat} (hl : ns.length ≤ 61) {N : Nat} (hN : N ≤ 61) (hS : Sl M 2 v (cellsF MC (marksL N ns))) :
    FS C 57 [v] H (fun e H' => (∃ (a b : Nat) (is : Bool), e = .tuple #[.int .i64 (a : Int), .int .i64 (b : Int), .bool is] ∧ FC (clashB ns) N a b is) ∧ ∃ n', n0 ≤ n' ∧ hasH M n' H') := by
  refine FS.intro (pf := pf57) rfl rfl rfl ?_
  have hml := marksL_len N ns
  repeat' (first | refine zP ?_ | refine zA ?_ | (refine zM ?_; intro _ _) | refine zX ?_ | (refine zC ?_; intro _ _ _ _) | (refine zS ?_; intro _ _) | (apply Ws <;> intro hg))
  refine WR.op (by first | exact gN | exact gS rfl) rfl (OpV.lenK MC_len (by decide) rfl hS) ?_
  rw [hml]
  repeat' (first | refine zP ?_ | refine zA ?_ | (refine zM ?_; intro _ _) | refine zX ?_ | (refine zC ?_; intro _ _ _ _) | (refine zS ?_; intro _ _) | (apply Ws <;> intro hg))
  refine WC.loopX [(0, _), (9, _), (10, _)] (fun s : Nat × Nat => [(11, .int .i64 (s.1 : Int))]) [] (fun s H' => s.1 ≤ N ∧ n0 ≤ s.2 ∧ hasH M s.2 H' ∧ ∀ x y, x < s.1 → x < y → y < N → clashB ns x y = false) (fun s => N - s.1) (0, n0) (by repeat' (first | exact .nil | refine .cons rfl ?_)) rfl ⟨Nat.zero_le _, Nat.le_refl _, hH, fun x y h => absurd h (Nat.not_lt_zero _)⟩ ?_
  rintro ⟨k, n1⟩ H1 ⟨hk, hn1, hH1, hno⟩
  simp only at hk hn1 hH1 hno
  dsimp only [List.cons_append, List.nil_append]
  repeat' (first | refine zP ?_ | refine zA ?_ | (refine zM ?_; intro _ _) | refine zX ?_ | (refine zC ?_; intro _ _ _ _) | (refine zS ?_; intro _ _) | (apply Ws <;> intro hg))
  refine WC.condP rfl (fun hlt => ?_) (fun hlt => ?_)
  · have hk' : k < N := by omega
    repeat' (first | refine zP ?_ | refine zA ?_ | (refine zM ?_; intro _ _) | refine zX ?_ | (refine zC ?_; intro _ _ _ _) | (refine zS ?_; intro _ _) | (apply Ws <;> intro hg))
    refine WR.idxK MC_len (by decide) (by first | exact gN | exact gS rfl) rfl rfl hS rfl (by omega) fun b o u hP => ?_
    rw [marksL_get] at hP
    refine WR.op (by first | exact gN | exact gS rfl) rfl (OpV.loadK rfl hP hH1 rfl) ?_
    repeat' (first | refine zP ?_ | refine zA ?_ | (refine zM ?_; intro _ _) | refine zX ?_ | (refine zC ?_; intro _ _ _ _) | (refine zS ?_; intro _ _) | (apply Ws <;> intro hg))
    rename_i H2 hH2
    repeat' (first | refine zP ?_ | refine zA ?_ | (refine zM ?_; intro _ _) | refine zX ?_ | (refine zC ?_; intro _ _ _ _) | (refine zS ?_; intro _ _) | (apply Ws <;> intro hg))
    refine WR.storeAll (by first | exact gN | exact gS rfl) hH2 rfl rfl (ls := MC (k, msk ns k)) rfl rfl .here rfl rfl fun H3 hH3 => ?_
    clear hH2 hH1
    have hS3 := hS.cons (p := (n1, Ch.row 87 0 0 (MC (k, msk ns k))))
    have hm3 : (n1, Ch.row 87 0 0 (MC (k, msk ns k))) ∈ (n1, Ch.row 87 0 0 (MC (k, msk ns k))) :: M := .head _
    have hback : ∀ {n' : Nat} {H' : Heap}, hasH ((n1, Ch.row 87 0 0 (MC (k, msk ns k))) :: M) n' H' → hasH M n' H' := fun h => h.tail
    generalize (n1, Ch.row 87 0 0 (MC (k, msk ns k))) :: M = T at hH3 hS3 hm3 hback
    repeat' (first | refine zP ?_ | refine zA ?_ | (refine zM ?_; intro _ _) | refine zX ?_ | (refine zC ?_; intro _ _ _ _) | (refine zS ?_; intro _ _) | (apply Ws <;> intro hg))
    rw [show (k : Int) + 1 = ((k + 1 : Nat) : Int) by omega]
    refine WR.cutLoK MC_len (by decide) (by decide) (by first | exact gN | exact gS rfl) rfl rfl hS3 rfl (by omega) fun w hW => ?_
    refine WR.op (by first | exact gN | exact gS rfl) rfl (OpV.lenK MC_len (by decide) rfl hW) ?_
    have hdl : ((marksL N ns).drop (k + 1)).length = N - (k + 1) := by rw [List.length_drop, hml]
    rw [hdl]
    repeat' (first | refine zP ?_ | refine zA ?_ | (refine zM ?_; intro _ _) | refine zX ?_ | (refine zC ?_; intro _ _ _ _) | (refine zS ?_; intro _ _) | (apply Ws <;> intro hg))
    refine WC.loopX [(0, _), (6, _), (9, _), (10, _), (11, _), (19, _), (20, _)] (fun s : Nat × Nat => [(21, .int .i64 (s.1 : Int))]) [] (fun s H' => s.1 ≤ N - (k + 1) ∧ n0 ≤ s.2 ∧ hasH T s.2 H' ∧ ∀ j, j < s.1 → clashB ns k (k + 1 + j) = false) (fun s => N - (k + 1) - s.1) (0, n1 + 1) (by repeat' (first | exact .nil | refine .cons rfl ?_)) rfl ⟨Nat.zero_le _, by show n0 ≤ n1 + 1; omega, hH3, fun x h => absurd h (Nat.not_lt_zero _)⟩ ?_
    rintro ⟨j, n2⟩ H4 ⟨hj, hn2, hH4, hno2⟩
    simp only at hj hn2 hH4 hno2
    clear hH3
    dsimp only [List.cons_append, List.nil_append]
    repeat' (first | refine zP ?_ | refine zA ?_ | (refine zM ?_; intro _ _) | refine zX ?_ | (refine zC ?_; intro _ _ _ _) | (refine zS ?_; intro _ _) | (apply Ws <;> intro hg))
    refine WC.condP rfl (fun hlt2 => ?_) (fun hlt2 => ?_)
    · have hj' : j < N - (k + 1) := by omega
      repeat' (first | refine zP ?_ | refine zA ?_ | (refine zM ?_; intro _ _) | refine zX ?_ | (refine zC ?_; intro _ _ _ _) | (refine zS ?_; intro _ _) | (apply Ws <;> intro hg))
      refine WR.idxK MC_len (by decide) (by first | exact gN | exact gS rfl) rfl rfl hW rfl (by omega) fun b o u hP => ?_
      rw [marksL_drop] at hP
      refine WR.op (by first | exact gN | exact gS rfl) rfl (OpV.loadK rfl hP hH4 rfl) ?_
      repeat' (first | refine zP ?_ | refine zA ?_ | (refine zM ?_; intro _ _) | refine zX ?_ | (refine zC ?_; intro _ _ _ _) | (refine zS ?_; intro _ _) | (apply Ws <;> intro hg))
      rename_i H5 hH5
      refine WR.storeAll (by first | exact gN | exact gS rfl) hH5 rfl rfl (ls := MC (k + 1 + j, msk ns (k + 1 + j))) rfl rfl .here rfl rfl fun H6 hH6 => ?_
      clear hH5 hH4
      have hm6 := List.mem_cons_of_mem (n2, Ch.row 87 0 0 (MC (k + 1 + j, msk ns (k + 1 + j)))) hm3
      have hm6' : (n2, Ch.row 87 0 0 (MC (k + 1 + j, msk ns (k + 1 + j)))) ∈ (n2, Ch.row 87 0 0 (MC (k + 1 + j, msk ns (k + 1 + j)))) :: T := .head _
      have hback2 : ∀ {n' : Nat} {H' : Heap}, hasH ((n2, Ch.row 87 0 0 (MC (k + 1 + j, msk ns (k + 1 + j)))) :: T) n' H' → hasH T n' H' := fun h => h.tail
      generalize (n2, Ch.row 87 0 0 (MC (k + 1 + j, msk ns (k + 1 + j)))) :: T = T2 at hH6 hm6 hm6' hback2
      repeat' (first | refine zP ?_ | refine zA ?_ | (refine zM ?_; intro _ _) | refine zX ?_ | (refine zC ?_; intro _ _ _ _) | (refine zS ?_; intro _ _) | (apply Ws <;> intro hg))
      refine WR.op (by first | exact gN | exact gS rfl) rfl (OpV.loadN (l := [.int .u64 (msk ns k : Nat)]) rfl hH6 hm6 (.row _ _ _ _) (Nat.zero_le _) (by show 0 + 1 - 0 + 1 ≤ 2; omega) rfl) ?_
      repeat' (first | refine zP ?_ | refine zA ?_ | (refine zM ?_; intro _ _) | refine zX ?_ | (refine zC ?_; intro _ _ _ _) | (refine zS ?_; intro _ _) | (apply Ws <;> intro hg))
      refine WR.op (by first | exact gN | exact gS rfl) rfl (OpV.loadN (l := [.int .u64 (msk ns (k + 1 + j) : Nat)]) rfl hH6 hm6' (.row _ _ _ _) (Nat.zero_le _) (by show 0 + 1 - 0 + 1 ≤ 2; omega) rfl) ?_
      refine WR.call (by first | exact gN | exact gS rfl) rfl rfl (clash_fs hH6 (msk_lt hl _) (msk_lt hl _)) ?_
      rintro _ H7 ⟨rfl, n7, hn7, hH7⟩
      clear hH6
      rw [← msk_clash]
      cases h1 : clashB ns k (k + 1 + j) with
      | true =>
        repeat' (first | refine zP ?_ | refine zA ?_ | (refine zM ?_; intro _ _) | refine zX ?_ | (refine zC ?_; intro _ _ _ _) | (refine zS ?_; intro _ _) | (apply Ws <;> intro hg))
        refine Ends.ret3 rfl rfl rfl ⟨⟨k, k + 1 + j, true, rfl, .inl ⟨rfl, by omega, by omega, h1, fun x y hxy hy h => ?_⟩⟩, n7, by omega, hback (hback2 hH7)⟩
        rcases h with h | ⟨rfl, h⟩
        · exact hno x y h hxy hy
        · have := hno2 (y - (x + 1)) (by omega)
          rwa [show x + 1 + (y - (x + 1)) = y by omega] at this
      | false =>
        repeat' (first | refine zP ?_ | refine zA ?_ | (refine zM ?_; intro _ _) | refine zX ?_ | (refine zC ?_; intro _ _ _ _) | (refine zS ?_; intro _ _) | (apply Ws <;> intro hg))
        refine Ends.loop (j + 1, n7) (by show N - (k + 1) - (j + 1) < N - (k + 1) - j; omega) (by repeat' (first | exact .nil | refine .cons rfl ?_)) rfl ⟨hj', by simp only; omega, hback2 hH7, fun x h2 => ?_⟩
        replace h2 : x < j + 1 := h2
        rcases Nat.lt_or_ge x j with h4 | h4
        · exact hno2 x h4
        · have : x = j := by omega
          subst this; exact h1
    · repeat' (first | refine zP ?_ | refine zA ?_ | (refine zM ?_; intro _ _) | refine zX ?_ | (refine zC ?_; intro _ _ _ _) | (refine zS ?_; intro _ _) | (apply Ws <;> intro hg))
      refine Ends.loop (k + 1, n2) (by show N - (k + 1) < N - k; omega) (by repeat' (first | exact .nil | refine .cons rfl ?_)) rfl ⟨hk', by simp only; omega, hback hH4, fun x y h1 h2 h3 => ?_⟩
      replace h1 : x < k + 1 := h1
      rcases Nat.lt_or_ge x k with h4 | h4
      · exact hno x y h4 h2 h3
      · have : x = k := by omega
        subst this
        have := hno2 (y - (x + 1)) (by omega)
        rwa [show x + 1 + (y - (x + 1)) = y by omega] at this
  · repeat' (first | refine zP ?_ | refine zA ?_ | (refine zM ?_; intro _ _) | refine zX ?_ | (refine zC ?_; intro _ _ _ _) | (refine zS ?_; intro _ _) | (apply Ws <;> intro hg))
    exact Ends.ret3 rfl rfl rfl ⟨⟨0, 0, false, rfl, .inr ⟨rfl, rfl, rfl, fun x y h1 h2 => hno x y (by omega) h1 h2⟩⟩, n1, hn1, hH1⟩
end Go.Proofs.Ytblopbimchkneaa.Md

namespace Go.Proofs.Ytblopbimchkneaa.Md
open Go Go.Abs Go.Mth
set_option linter.unusedVariables false
set_option linter.unusedSimpArgs false
/-- What Proves asks. -/
def provB (ns : List Nat) (one two both first second : Nat) : Bool :=
  (ns.getD both 0).testBit one && (ns.getD both 0).testBit two && (ns.getD first 0).testBit one && !(ns.getD first 0).testBit two && (ns.getD second 0).testBit two && !(ns.getD second 0).testBit one
def provE (m : Int) (xs : List Int) (one two both first second : Int) : Int :=
  if castsE m xs ≠ 0 then castsE m xs
  else if ¬ ((0 ≤ one ∧ one < m) ∧ (0 ≤ two ∧ two < m) ∧ (0 ≤ both ∧ both < xs.length) ∧ (0 ≤ first ∧ first < xs.length) ∧ (0 ≤ second ∧ second < xs.length)) then 2
  else if provB (xs.map Int.toNat) one.toNat two.toNat both.toNat first.toNat second.toNat = true then 0 else 14
theorem cast_toNat (ns : List Nat) : (ns.map (fun (x : Nat) => (x : Int))).map Int.toNat = ns := by
  rw [List.map_map]
  have : ns.map (Int.toNat ∘ fun (x : Nat) => (x : Int)) = ns.map id := List.map_congr_left fun x _ => by simp
  rw [this, List.map_id]
theorem lt_62 {N : Nat} {ns : List Nat} (hN : N ≤ 6) (h : ∀ x ∈ ns, x < 2 ^ N) : ∀ x ∈ ns, x < 2 ^ 62 := fun x hx => Nat.lt_of_lt_of_le (h x hx) (Nat.pow_le_pow_right (by omega) (by omega))
attribute [local irreducible] gOK WS WC WR WD Ends FS YS OpV seqK blockK loopK midK retK rdK asgK rangeEnd sat Cell
section
variable {M : HL} {n0 : Nat} {H : Heap} {v : Value}

theorem honest_fs (hH : hasH M n0 H) {ns : List Nat} (hS : Sl M 1 v (nodes ns)) (hl : ns.length ≤ 61) (hb : ∀ x ∈ ns, x < 2 ^ 62) {N : Nat} (hN : N ≤ 61) :
    FS C 55 [.int .i64 (N : Int), v] H (fun e H' => e = .bool (honB N ns) ∧ ∃ n', n0 ≤ n' ∧ hasH M n' H') := by
  refine FS.intro (pf := pf55) rfl rfl rfl ?_
  repeat' (first | refine zP ?_ | refine zA ?_ | (refine zM ?_; intro _ _) | refine zX ?_ | (refine zC ?_; intro _ _ _ _) | (refine zS ?_; intro _ _) | (apply Ws <;> intro hg))
  refine WR.call (by first | exact gN | exact gS rfl) rfl rfl (marksOf_fs hH hS hl hb hN) ?_
  rintro _ H1 ⟨c, rfl, hS1, hH1⟩
  refine WR.call (by first | exact gN | exact gS rfl) rfl rfl (firstClash_fs hH1 hl hN hS1) ?_
  rintro _ H2 ⟨⟨a, b, is, rfl, hF⟩, n2, hn2, hH2⟩
  have := hF.hon
  subst this
  repeat' (first | refine zP ?_ | refine zA ?_ | (refine zM ?_; intro _ _) | refine zX ?_ | (refine zC ?_; intro _ _ _ _) | (refine zS ?_; intro _ _) | (apply Ws <;> intro hg))
  cases hb : honB N ns with
  | true =>
    repeat' (first | refine zP ?_ | refine zA ?_ | (refine zM ?_; intro _ _) | refine zX ?_ | (refine zC ?_; intro _ _ _ _) | (refine zS ?_; intro _ _) | (apply Ws <;> intro hg))
    exact Ends.ret1 rfl ⟨rfl, n2, by omega, hH2.tail⟩
  | false =>
    repeat' (first | refine zP ?_ | refine zA ?_ | (refine zM ?_; intro _ _) | refine zX ?_ | (refine zC ?_; intro _ _ _ _) | (refine zS ?_; intro _ _) | (apply Ws <;> intro hg))
    exact Ends.ret1 rfl ⟨rfl, n2, by omega, hH2.tail⟩
variable {xs : List Int} {m : Int}
theorem Honest_fs (hH : hasH M n0 H) (hS : Sl M 1 v (ints xs)) (hl : xs.length ≤ 1000) :
    FS C 15 [.int .i64 m, v] H (fun e H' => e = .tuple #[.bool (if castsE m xs = 0 then honB m.toNat (xs.map Int.toNat) else false), .int .i64 (castsE m xs)] ∧ ∃ n', n0 ≤ n' ∧ hasH M n' H') := by
  refine FS.intro (pf := pf15) rfl rfl rfl ?_
  repeat' (first | refine zP ?_ | refine zA ?_ | (refine zM ?_; intro _ _) | refine zX ?_ | (refine zC ?_; intro _ _ _ _) | (refine zS ?_; intro _ _) | (apply Ws <;> intro hg))
  refine WR.call (by first | exact gN | exact gS rfl) rfl rfl (Check_fs hH hS hl m) ?_
  rintro _ H1 ⟨rfl, rfl⟩
  by_cases h0 : castsE m xs = 0
  · rw [h0]
    obtain ⟨N, ns, rfl, h1, h2, rfl, h3, h4⟩ := casts_ok h0
    rw [cast_toNat, if_pos rfl, Int.toNat_natCast]
    rw [← nodesI] at hS
    repeat' (first | refine zP ?_ | refine zA ?_ | (refine zM ?_; intro _ _) | refine zX ?_ | (refine zC ?_; intro _ _ _ _) | (refine zS ?_; intro _ _) | refine zO ?_ | (apply Ws <;> intro hg))
    refine WR.call (by first | exact gN | exact gS rfl) rfl rfl (honest_fs hH hS (by omega) (lt_62 h2 h4) (by omega)) ?_
    rintro _ H2 ⟨rfl, n2, hn2, hH2⟩
    repeat' (first | refine zP ?_ | refine zA ?_ | (refine zM ?_; intro _ _) | refine zX ?_ | (refine zC ?_; intro _ _ _ _) | (refine zS ?_; intro _ _) | (apply Ws <;> intro hg))
    exact Ends.ret2 rfl rfl ⟨rfl, n2, hn2, hH2⟩
  · repeat' (first | refine zP ?_ | refine zA ?_ | (refine zM ?_; intro _ _) | refine zX ?_ | (refine zC ?_; intro _ _ _ _) | (refine zS ?_; intro _ _) | refine zO ?_ | (apply Ws <;> intro hg))
    exact Ends.ret2 rfl rfl ⟨by rw [if_neg h0], n0, Nat.le_refl _, hH⟩
/-- What Why returns. -/
def WhyR (m : Int) (xs : List Int) (a b e : Int) : Prop :=
  if castsE m xs ≠ 0 then a = 0 ∧ b = 0 ∧ e = castsE m xs else ∃ (x y : Nat) (is : Bool), FC (clashB (xs.map Int.toNat)) m.toNat x y is ∧ a = x ∧ b = y ∧ e = if is = true then 0 else 13
theorem WhyR.unique {a b e a' b' e' : Int} (h : WhyR m xs a b e) (h' : WhyR m xs a' b' e') : a = a' ∧ b = b' ∧ e = e' := by
  unfold WhyR at h h'
  split at h
  · rename_i h0
    rw [if_pos h0] at h'
    exact ⟨by omega, by omega, by omega⟩
  · rename_i h0
    rw [if_neg h0] at h'
    obtain ⟨x, y, is, h1, h2, h3, h4⟩ := h
    obtain ⟨x', y', is', g1, g2, g3, g4⟩ := h'
    obtain ⟨rfl, rfl, rfl⟩ := h1.unique g1
    exact ⟨by omega, by omega, by rw [h4, g4]⟩
theorem Why_fs (hH : hasH M n0 H) (hS : Sl M 1 v (ints xs)) (hl : xs.length ≤ 1000) :
    FS C 17 [.int .i64 m, v] H (fun e H' => (∃ a b f, e = .tuple #[.int .i64 a, .int .i64 b, .int .i64 f] ∧ WhyR m xs a b f) ∧ ∃ n', n0 ≤ n' ∧ hasH M n' H') := by
  refine FS.intro (pf := pf17) rfl rfl rfl ?_
  repeat' (first | refine zP ?_ | refine zA ?_ | (refine zM ?_; intro _ _) | refine zX ?_ | (refine zC ?_; intro _ _ _ _) | (refine zS ?_; intro _ _) | (apply Ws <;> intro hg))
  refine WR.call (by first | exact gN | exact gS rfl) rfl rfl (Check_fs hH hS hl m) ?_
  rintro _ H1 ⟨rfl, rfl⟩
  by_cases h0 : castsE m xs = 0
  · rw [h0]
    obtain ⟨N, ns, rfl, h1, h2, rfl, h3, h4⟩ := casts_ok h0
    rw [← nodesI] at hS
    repeat' (first | refine zP ?_ | refine zA ?_ | (refine zM ?_; intro _ _) | refine zX ?_ | (refine zC ?_; intro _ _ _ _) | (refine zS ?_; intro _ _) | refine zO ?_ | (apply Ws <;> intro hg))
    refine WR.call (by first | exact gN | exact gS rfl) rfl rfl (marksOf_fs hH hS (by omega) (lt_62 h2 h4) (N := N) (by omega)) ?_
    rintro _ H1 ⟨c, rfl, hS1, hH1⟩
    refine WR.call (by first | exact gN | exact gS rfl) rfl rfl (firstClash_fs hH1 (by omega) (by omega) hS1) ?_
    rintro _ H2 ⟨⟨a, b, is, rfl, hF⟩, n2, hn2, hH2⟩
    have hW : ∀ {a b e : Int}, (∃ (x y : Nat) (is : Bool), FC (clashB ns) N x y is ∧ a = x ∧ b = y ∧ e = if is = true then 0 else 13) → WhyR (N : Int) (ns.map fun (x : Nat) => (x : Int)) a b e := fun h => by
      rw [WhyR, if_neg (by omega), cast_toNat, Int.toNat_natCast]; exact h
    cases is with
    | true =>
      repeat' (first | refine zP ?_ | refine zA ?_ | (refine zM ?_; intro _ _) | refine zX ?_ | (refine zC ?_; intro _ _ _ _) | (refine zS ?_; intro _ _) | (apply Ws <;> intro hg))
      exact Ends.ret3 rfl rfl rfl ⟨⟨_, _, _, rfl, hW ⟨a, b, true, hF, rfl, rfl, rfl⟩⟩, n2, by omega, hH2.tail⟩
    | false =>
      repeat' (first | refine zP ?_ | refine zA ?_ | (refine zM ?_; intro _ _) | refine zX ?_ | (refine zC ?_; intro _ _ _ _) | (refine zS ?_; intro _ _) | (apply Ws <;> intro hg))
      refine Ends.ret3 rfl rfl rfl ⟨⟨_, _, _, rfl, hW ⟨a, b, false, hF, ?_, ?_, rfl⟩⟩, n2, by omega, hH2.tail⟩
      · rcases hF with ⟨h, _⟩ | ⟨_, rfl, _⟩
        · cases h
        · rfl
      · rcases hF with ⟨h, _⟩ | ⟨_, _, rfl, _⟩
        · cases h
        · rfl
  · repeat' (first | refine zP ?_ | refine zA ?_ | (refine zM ?_; intro _ _) | refine zX ?_ | (refine zC ?_; intro _ _ _ _) | (refine zS ?_; intro _ _) | refine zO ?_ | (apply Ws <;> intro hg))
    exact Ends.ret3 rfl rfl rfl ⟨⟨_, _, _, rfl, by rw [WhyR, if_pos h0]; exact ⟨rfl, rfl, rfl⟩⟩, n0, Nat.le_refl _, hH⟩
end
end Go.Proofs.Ytblopbimchkneaa.Md

namespace Go.Proofs.Ytblopbimchkneaa.Md
open Go Go.Abs Go.Mth
set_option linter.unusedVariables false
set_option linter.unusedSimpArgs false
attribute [local irreducible] gOK WS WC WR WD Ends FS YS OpV seqK blockK loopK midK retK rdK asgK rangeEnd sat Cell
section
variable {M : HL} {n0 : Nat} {H : Heap} {v : Value} {xs : List Int} {m : Int}
end
end Go.Proofs.Ytblopbimchkneaa.Md

namespace Go.Proofs.Ytblopbimchkneaa.Md
open Go Go.Abs Go.Mth
set_option linter.unusedVariables false
set_option linter.unusedSimpArgs false
attribute [local irreducible] gOK WS WC WR WD Ends FS YS OpV seqK blockK loopK midK retK rdK asgK rangeEnd sat Cell
section
variable {M : HL} {n0 : Nat} {H : Heap} {v : Value} {xs : List Int} {m : Int}
end
end Go.Proofs.Ytblopbimchkneaa.Md
