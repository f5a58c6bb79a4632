/- Texts of the law, joined. -/
import Derived.Test.YtaipmdhnhffckaaSymB
import Derived.Test.YtaipmdhnhffckaaShP
/- Mathematics of lists and of what is found first: no word of the program. -/
namespace Go.Mth
set_option linter.unusedVariables false

/-! The first error of several tests. -/
def firstE (f : Nat → Int) : Nat → Int
  | 0 => 0
  | k + 1 => if firstE f k = 0 then f k else firstE f k

theorem firstE_at {f : Nat → Int} {i : Nat} (h0 : firstE f i = 0) (hi : f i ≠ 0) : ∀ {m : Nat}, i < m → firstE f m = f i := by
  intro m
  induction m with
  | zero => intro h; omega
  | succ m ih =>
    intro h
    rcases Nat.lt_or_ge i m with h1 | h1
    · have := ih h1
      simp only [firstE]; rw [if_neg (by rw [this]; exact hi)]; exact this
    · have : i = m := by omega
      subst this
      simp only [firstE]; rw [if_pos h0]

theorem firstE_succ {f : Nat → Int} {i : Nat} (h0 : firstE f i = 0) (hi : f i = 0) : firstE f (i + 1) = 0 := by simp only [firstE]; rw [if_pos h0]; exact hi
theorem firstE_zero {f : Nat → Int} : ∀ {m : Nat}, firstE f m = 0 ↔ ∀ i, i < m → f i = 0 := by
  intro m
  induction m with
  | zero => simp [firstE]
  | succ m ih =>
    simp only [firstE]
    constructor
    · intro h i hi
      by_cases h0 : firstE f m = 0
      · rw [if_pos h0] at h
        rcases Nat.lt_or_ge i m with h1 | h1
        · exact ih.1 h0 i h1
        · have : i = m := by omega
          subst this; exact h
      · rw [if_neg h0] at h; exact absurd h h0
    · intro h
      have h0 : firstE f m = 0 := ih.2 fun i hi => h i (by omega)
      rw [if_pos h0]; exact h m (by omega)
/-! Sums. -/
def sumN (f : Nat → Nat) : Nat → Nat
  | 0 => 0
  | k + 1 => sumN f k + f k
/-! Runs: a place at which a run begins. -/
section
variable (p : Nat → Bool)
def RN : Nat → Nat
  | 0 => 0
  | k + 1 => RN k + if p k = true ∧ (k = 0 ∨ p (k - 1) = false) then 1 else 0
def cntN (k : Nat) : Nat := sumN (fun i => if p i = true then 1 else 0) k
/-- The first and the last place. -/
structure Ends2 (k a b : Nat) : Prop where
  pa : p a = true
  ak : a < k
  lo : ∀ i, i < a → p i = false
  pb : p b = true
  bk : b < k
  hi : ∀ i, b < i → i < k → p i = false

variable {p}
theorem Ends2.le {k a b : Nat} (h : Ends2 p k a b) : a ≤ b := by
  rcases Nat.lt_or_ge b a with h1 | h1
  · have := h.lo b h1; rw [h.pb] at this; cases this
  · exact h1
theorem Ends2.first {k : Nat} (hk : p k = true) (hn : ∀ i, i < k → p i = false) : Ends2 p (k + 1) k k := ⟨hk, by omega, hn, hk, by omega, fun i h1 h2 => by omega⟩
theorem Ends2.next {k a b : Nat} (h : Ends2 p k a b) (hk : p k = true) : Ends2 p (k + 1) a k := ⟨h.pa, by have := h.ak; omega, h.lo, hk, by omega, fun i h1 h2 => by omega⟩
theorem Ends2.skip {k a b : Nat} (h : Ends2 p k a b) (hk : p k = false) : Ends2 p (k + 1) a b := ⟨h.pa, by have := h.ak; omega, h.lo, h.pb, by have := h.bk; omega, fun i h1 h2 => by
  rcases Nat.lt_or_ge i k with h3 | h3
  · exact h.hi i h1 h3
  · have : i = k := by omega
    subst this; exact hk⟩
end
end Go.Mth

/- What all laws' texts share. -/
namespace Go.Abs
set_option linter.unusedSectionVars false
variable [Globs]
open Go Go.Mth
set_option linter.unusedVariables false
abbrev ints (xs : List Int) : List Value := xs.map (Value.int .i64)
abbrev bools (xs : List Bool) : List Value := xs.map Value.bool
abbrev nodes (l : List Nat) : List Value := l.map (fun (x : Nat) => Value.int .i64 (x : Int))
theorem nodesI (l : List Nat) : nodes l = ints (l.map fun (x : Nat) => (x : Int)) := by simp [nodes, ints]
theorem getD_eq {α : Type} {l : List α} {k : Nat} {a : α} (h : k < l.length) : l.getD k a = l[k] := by rw [List.getD_eq_getElem?_getD, List.getElem?_eq_getElem h]; rfl
theorem getD_mem {α : Type} {l : List α} {k : Nat} {a : α} (h : k < l.length) : l.getD k a ∈ l := by rw [getD_eq h]; exact List.getElem_mem h
theorem getD_set' {α : Type} {l : List α} {y z : Nat} {v a : α} (h : y < l.length) : (l.set y v).getD z a = if z = y then v else l.getD z a := by
  rw [List.getD_eq_getElem?_getD, List.getD_eq_getElem?_getD, List.getElem?_set]
  by_cases e : y = z
  · subst e; rw [if_pos rfl, if_pos h, if_pos rfl]; rfl
  · rw [if_neg e, if_neg (fun q => e q.symm)]
theorem getD_app_l {α : Type} {l m : List α} {k : Nat} {a : α} (h : k < l.length) : (l ++ m).getD k a = l.getD k a := by
  rw [List.getD_eq_getElem?_getD, List.getD_eq_getElem?_getD, List.getElem?_append_left h]
theorem getD_snoc {α : Type} {l : List α} {x a : α} : (l ++ [x]).getD l.length a = x := by
  rw [List.getD_eq_getElem?_getD, List.getElem?_append_right (Nat.le_refl _)]; simp
theorem getD_take {α : Type} {l : List α} {k m : Nat} {a : α} (h : m < k) : (l.take k).getD m a = l.getD m a := by
  rw [List.getD_eq_getElem?_getD, List.getD_eq_getElem?_getD, List.getElem?_take_of_lt h]
theorem ext_getD {α : Type} {l m : List α} {a : α} (h : l.length = m.length) (k : ∀ i, i < l.length → l.getD i a = m.getD i a) : l = m := by
  apply List.ext_getElem h
  intro i h1 h2
  have := k i h1
  rwa [getD_eq h1, getD_eq h2] at this

/-- A slice of slices of numbers. -/
def RowsI (M : HL) (v : Value) (fs : List (List Int)) : Prop := ∃ vs : List Value, Sl M 1 v vs ∧ vs.length = fs.length ∧ ∀ i, i < fs.length → Sl M 1 (vs.getD i undef) (ints (fs.getD i []))
theorem RowsI.mono {M M' : HL} {v : Value} {fs : List (List Int)} (h : RowsI M v fs) (k : ∀ p ∈ M, p ∈ M') : RowsI M' v fs := by
  obtain ⟨vs, h1, h2, h3⟩ := h
  exact ⟨vs, h1.mono k, h2, fun i hi => (h3 i hi).mono k⟩
theorem RowsI.cons {M : HL} {p : Nat × Ch} {v : Value} {fs : List (List Int)} (h : RowsI M v fs) : RowsI (p :: M) v fs := h.mono fun q hq => List.mem_cons_of_mem _ hq
theorem RowsI.one_ {M : HL} {v : Value} {fs : List (List Int)} (h : RowsI M v fs) : one v = true := by obtain ⟨vs, h1, _⟩ := h; exact h1.one_
section
variable {C : CW} {nt : Nat} {L : Env} {D : List Nat} {H : Heap} {K : St → Prop} {M M' : HL} {n i d : Nat} {gd : Option (Tmp × Bool)} {lo' : List Nat} {l : List POp}
end
section
variable {C : CW} {nt : Nat} {L : Env} {D : List Nat} {H : Heap} {K : St → Prop} {M M' : HL} {n i d : Nat} {gd : Option (Tmp × Bool)} {lo : List Nat} {l : List POp}
theorem WR.mkSL {e m : Nat} {z : List Value} {x y : Operand} {kd kd2 : IntKind} (hg : gOK L gd) (hd : Nat.blt d nt = true) (hH : hasH M n H) (hx : ev L x = some (.int kd (m : Int))) (hy : ev L y = some (.int kd2 (m : Int)))
    (hm : m ≤ 100000) (hz : z.all one = true)
    (kk : ∀ H', hasH ((n, .row e 0 0 (List.replicate m z).flatten) :: M) (n + 1) H' → WR C nt l ((d, .slice (some ⟨n, 0, some 0⟩) m (2 * m + 1)) :: L) D H' K) : WR C nt (⟨i, some d, .mkS e z x y, gd, lo⟩ :: l) L D H K := by
  have e1 : natOf (.int kd (m : Int)) = some m := rfl
  have e2 : natOf (.int kd2 (m : Int)) = some m := rfl
  refine WR.op hg hd (H' := H.row e (List.replicate m z).flatten) (v := .slice (some ⟨n, 0, some 0⟩) m (2 * m + 1)) (fun t ht => ?_) (kk _ (hH.row e ?_))
  · simp only [opA, ev_ok ht hx, ev_ok ht hy, oMkS, e1, e2, newAddr, hH.next]
    have b1 : Nat.ble m m = true := Nat.ble_eq_true_of_le (Nat.le_refl _)
    have b2 : Nat.ble m 100000 = true := Nat.ble_eq_true_of_le hm
    rw [b1, b2]; rfl
  · rw [List.all_eq_true]; intro q hq
    obtain ⟨l, hl, hq⟩ := List.mem_flatten.1 hq
    rw [(List.mem_replicate.1 hl).2] at hq
    exact List.all_eq_true.1 hz q hq
end
abbrev numsK (kk : IntKind) (l : List Nat) : List Value := l.map (fun (x : Nat) => Value.int kk (x : Int))

/-! Pairs of numbers, two cells each. -/
def pcells : List (Int × Int) → List Value
  | [] => []
  | p :: l => .int .i64 p.1 :: .int .i64 p.2 :: pcells l
/-- Two cells, one behind another. -/
def PCell (M : HL) (b o u : Nat) (p : Int × Int) : Prop := ∃ ch lo cs, (b, ch) ∈ M ∧ ch.cellsAre u lo cs ∧ lo ≤ o ∧ cs[o - lo]? = some (.int .i64 p.1) ∧ cs[o - lo + 1]? = some (.int .i64 p.2)
theorem PCell.readN {M : HL} {n : Nat} {H : Heap} {b o u : Nat} {p : Int × Int} (h : PCell M b o u p) (hH : hasH M n H) : H.readN ⟨b, o, some u⟩ 2 = some [.int .i64 p.1, .int .i64 p.2] := by
  obtain ⟨ch, lo, cs, h1, h2, h3, h4, h5⟩ := h
  have hlt : o - lo + 1 < cs.length := (List.getElem?_eq_some_iff.1 h5).1
  rw [hH.readN (k := 2) h1 h2 h3 (by omega)]
  congr 1
  refine List.ext_getElem? fun i => ?_
  rcases i with _ | _ | i
  · rw [List.getElem?_take_of_lt (by omega), List.getElem?_drop, Nat.add_zero, h4]; rfl
  · rw [List.getElem?_take_of_lt (by omega), List.getElem?_drop, h5]; rfl
  · rw [List.getElem?_eq_none (by simp; omega), List.getElem?_eq_none (by simp)]
section
variable {C : CW} {nt : Nat} {L : Env} {D : List Nat} {H : Heap} {K : St → Prop} {M M' : HL} {n i d : Nat} {gd : Option (Tmp × Bool)} {lo : List Nat} {l : List POp} {rs : List Rd}
end
end Go.Abs

/- Shares and what they are worth: the mathematics; no word of the program. -/
namespace Go.Proofs.Ytaipmdhnhffckaa.Sh
open Go Go.Abs Go.Mth
set_option linter.unusedVariables false
set_option linter.unusedSimpArgs false

/-- What the things of a share (bits) below k are worth. -/
def worTo (f : List Nat) (s : Nat) : Nat → Nat
  | 0 => 0
  | k + 1 => worTo f s k + if s.testBit k then f.getD k 0 else 0
def wor (f : List Nat) (s : Nat) : Nat := worTo f s f.length
theorem getD_le {f : List Nat} {b : Nat} (h : ∀ x ∈ f, x ≤ b) (k : Nat) : f.getD k 0 ≤ b := by
  rcases Nat.lt_or_ge k f.length with h1 | h1
  · exact h _ (getD_mem h1)
  · rw [List.getD_eq_getElem?_getD, List.getElem?_eq_none h1]; exact Nat.zero_le _
theorem worTo_le {f : List Nat} {s b : Nat} (h : ∀ x ∈ f, x ≤ b) : ∀ k, worTo f s k ≤ b * k
  | 0 => Nat.le_refl _
  | k + 1 => by
    have := worTo_le h (s := s) k
    have := getD_le h k
    show worTo f s k + (if _ then _ else _) ≤ _
    rw [Nat.mul_succ]
    split <;> omega
theorem wor_le {f : List Nat} {s : Nat} (h : ∀ x ∈ f, x ≤ 20) (hl : f.length ≤ 6) : wor f s ≤ 120 := by
  have := worTo_le h (s := s) f.length
  show worTo f s f.length ≤ 120
  omega
theorem worTo_or {f : List Nat} {s j : Nat} (hs : s.testBit j = false) : ∀ k, worTo f (s ||| 2 ^ j) k = worTo f s k + if j < k then f.getD j 0 else 0
  | 0 => by simp [worTo]
  | k + 1 => by
    show worTo f (s ||| 2 ^ j) k + (if (s ||| 2 ^ j).testBit k = true then _ else _) = worTo f s k + (if s.testBit k = true then _ else _) + _
    rw [worTo_or hs k, Nat.testBit_or, Nat.testBit_two_pow]
    by_cases h : j = k
    · subst h
      simp [hs]
    · rw [decide_eq_false h, Bool.or_false]
      by_cases h2 : j < k
      · rw [if_pos h2, if_pos (show j < k + 1 by omega)]; omega
      · rw [if_neg h2, if_neg (show ¬ j < k + 1 by omega)]; omega
theorem wor_or {f : List Nat} {s j : Nat} (hs : s.testBit j = false) (hj : j < f.length) : wor f (s ||| 2 ^ j) = wor f s + f.getD j 0 := by
  unfold wor
  rw [worTo_or hs, if_pos hj]
theorem less_bit {s j i : Nat} : (s ^^^ (s &&& 2 ^ j)).testBit i = (s.testBit i && !decide (j = i)) := by
  rw [Nat.testBit_xor, Nat.testBit_and, Nat.testBit_two_pow]
  cases s.testBit i <;> cases decide (j = i) <;> rfl
theorem less_or {s j : Nat} (hs : s.testBit j = true) : (s ^^^ (s &&& 2 ^ j)) ||| 2 ^ j = s := by
  refine Nat.eq_of_testBit_eq fun i => ?_
  rw [Nat.testBit_or, less_bit, Nat.testBit_two_pow]
  by_cases h : j = i
  · subst h; simp [hs]
  · simp [h]
theorem wor_less {f : List Nat} {s j : Nat} (hs : s.testBit j = true) (hj : j < f.length) : wor f (s ^^^ (s &&& 2 ^ j)) + f.getD j 0 = wor f s := by
  have := wor_or (f := f) (s := s ^^^ (s &&& 2 ^ j)) (j := j) (by rw [less_bit]; simp) hj
  rw [less_or hs] at this
  exact this.symm
theorem less_lt {s j b : Nat} (h : s < 2 ^ b) : s ^^^ (s &&& 2 ^ j) < 2 ^ b := Nat.lt_pow_two_of_testBit _ fun i hi => by
  rw [less_bit, Nat.testBit_lt_two_pow (Nat.lt_of_lt_of_le h (Nat.pow_le_pow_right (by omega) hi))]; rfl
theorem wor_zero (f : List Nat) : wor f 0 = 0 := by
  unfold wor
  generalize f.length = k
  induction k with
  | zero => rfl
  | succ k ih => simp [worTo, ih]

/-- Envy of a share, and envy by more than one thing. -/
def envB (f : List Nat) (own other : Nat) : Bool := decide (wor f own < wor f other)
def muchB (f : List Nat) (own other : Nat) : Bool := envB f own other && (List.range 6).all fun k => !other.testBit k || decide (wor f own + f.getD k 0 < wor f other)
theorem env_self (f : List Nat) (s : Nat) : envB f s s = false := decide_eq_false (Nat.lt_irrefl _)
theorem much_self (f : List Nat) (s : Nat) : muchB f s s = false := by unfold muchB; rw [env_self]; rfl
theorem much_env {f : List Nat} {a b : Nat} (h : muchB f a b = true) : envB f a b = true := by unfold muchB at h; rw [Bool.and_eq_true] at h; exact h.1
theorem much_iff {f : List Nat} {a b : Nat} : muchB f a b = true ↔ wor f a < wor f b ∧ ∀ k, k < 6 → b.testBit k = true → wor f a + f.getD k 0 < wor f b := by
  simp only [muchB, envB, Bool.and_eq_true, decide_eq_true_eq, List.all_eq_true, List.mem_range, Bool.or_eq_true, Bool.not_eq_true']
  refine and_congr_right fun _ => forall_congr' fun k => forall_congr' fun _ => ?_
  cases b.testBit k <;> simp
theorem not_much {f : List Nat} {a b : Nat} : muchB f a b = false ↔ wor f b ≤ wor f a ∨ ∃ k, k < 6 ∧ b.testBit k = true ∧ wor f b ≤ wor f a + f.getD k 0 := by
  rw [← Bool.not_eq_true, much_iff]
  constructor
  · intro h
    rcases Nat.lt_or_ge (wor f a) (wor f b) with h1 | h1
    · refine .inr (Classical.byContradiction fun h2 => h ⟨h1, fun k hk hb => ?_⟩)
      exact Nat.lt_of_not_le fun h3 => h2 ⟨k, hk, hb, h3⟩
    · exact .inl h1
  · rintro (h | ⟨k, hk, hb, h⟩) ⟨g1, g2⟩
    · omega
    · have := g2 k hk hb; omega

/-- Pairs of which something holds, in ascending order. -/
def rowL (p : Nat → Nat → Bool) (n a : Nat) : List (Nat × Nat) := ((List.range n).filter (p a)).map fun b => (a, b)
def pairsL (p : Nat → Nat → Bool) (n : Nat) : List (Nat × Nat) := (List.range n).flatMap (rowL p n)
theorem pairs_mem {p : Nat → Nat → Bool} {n a b : Nat} : (a, b) ∈ pairsL p n ↔ a < n ∧ b < n ∧ p a b = true := by
  simp only [pairsL, rowL, List.mem_flatMap, List.mem_range, List.mem_map, List.mem_filter]
  constructor
  · rintro ⟨x, hx, y, ⟨hy, hp⟩, h⟩
    obtain ⟨rfl, rfl⟩ := Prod.mk.inj h
    exact ⟨hx, hy, hp⟩
  · rintro ⟨h1, h2, h3⟩; exact ⟨a, h1, b, ⟨h2, h3⟩, rfl⟩
theorem pairs_nil {p : Nat → Nat → Bool} {n : Nat} : pairsL p n = [] ↔ ∀ a b, a < n → b < n → p a b = false := by
  rw [List.eq_nil_iff_forall_not_mem]
  constructor
  · intro h a b ha hb
    cases hp : p a b with
    | false => rfl
    | true => exact absurd (pairs_mem.2 ⟨ha, hb, hp⟩) (h _)
  · rintro h ⟨a, b⟩ hm
    obtain ⟨h1, h2, h3⟩ := pairs_mem.1 hm
    rw [h a b h1 h2] at h3; cases h3

/-- Values of n finders for m things. -/
structure OKV (vs : List (List Nat)) (n m : Nat) : Prop where
  len : vs.length = n
  pos : 1 ≤ n
  n4 : n ≤ 4
  m6 : m ≤ 6
  row : ∀ l ∈ vs, l.length = m
  bd : ∀ l ∈ vs, ∀ x ∈ l, x ≤ 20
theorem OKV.rowLen {vs : List (List Nat)} {n m i : Nat} (h : OKV vs n m) (hi : i < n) : (vs.getD i []).length = m := h.row _ (getD_mem (by rw [h.len]; exact hi))
theorem OKV.rowBd {vs : List (List Nat)} {n m i : Nat} (h : OKV vs n m) (hi : i < n) : ∀ x ∈ vs.getD i [], x ≤ 20 := h.bd _ (getD_mem (by rw [h.len]; exact hi))
theorem OKV.wor {vs : List (List Nat)} {n m i s : Nat} (h : OKV vs n m) (hi : i < n) : wor (vs.getD i []) s ≤ 120 := wor_le (h.rowBd hi) (by rw [h.rowLen hi]; exact h.m6)

/-- Who envies whom among shares. -/
def envP (vs : List (List Nat)) (ss : List Nat) (a b : Nat) : Bool := envB (vs.getD a []) (ss.getD a 0) (ss.getD b 0)
def muchP (vs : List (List Nat)) (ss : List Nat) (a b : Nat) : Bool := muchB (vs.getD a []) (ss.getD a 0) (ss.getD b 0)
def fairN (vs : List (List Nat)) (ss : List Nat) : Nat := if pairsL (envP vs ss) vs.length = [] then 2 else if pairsL (muchP vs ss) vs.length = [] then 1 else 0
theorem much_envP {vs : List (List Nat)} {ss : List Nat} {a b : Nat} (h : muchP vs ss a b = true) : envP vs ss a b = true := much_env h
theorem fair_pos {vs : List (List Nat)} {ss : List Nat} : 0 < fairN vs ss ↔ ∀ a b, a < vs.length → b < vs.length → muchP vs ss a b = false := by
  unfold fairN
  split
  · rename_i h
    simp only [Nat.zero_lt_succ, true_iff]
    intro a b ha hb
    cases hm : muchP vs ss a b with
    | false => rfl
    | true => rw [pairs_nil.1 h a b ha hb |>.symm.trans (much_envP hm)]
  · split
    · rename_i h; simp only [Nat.zero_lt_succ, true_iff]; exact pairs_nil.1 h
    · rename_i h; simp only [Nat.lt_irrefl, false_iff]; exact fun h2 => h (pairs_nil.2 h2)

/-- The share of a finder in a division: things as bits. -/
def shr (o : List Int) (j : Nat) : Nat := maskN ((List.range o.length).filter fun k => decide (o.getD k (-1) = (j : Int)))
def shs (n : Nat) (o : List Int) : List Nat := (List.range n).map (shr o)
theorem shr_bit {o : List Int} {j k : Nat} : (shr o j).testBit k = true ↔ k < o.length ∧ o.getD k (-1) = (j : Int) := by
  rw [shr, mask_bit, List.mem_filter, List.mem_range, decide_eq_true_eq]
theorem shr_lt (o : List Int) (j : Nat) : shr o j < 2 ^ o.length := mask_lt fun x hx => List.mem_range.1 (List.mem_filter.1 hx).1
theorem shs_len (n : Nat) (o : List Int) : (shs n o).length = n := by simp [shs]
theorem shs_get {n j : Nat} (o : List Int) (h : j < n) : (shs n o).getD j 0 = shr o j := by rw [getD_eq (by simpa [shs] using h)]; simp [shs]
end Go.Proofs.Ytaipmdhnhffckaa.Sh

/- Pairs of numbers that are compared. -/
namespace Go.Abs
set_option linter.unusedSectionVars false
variable [Globs]
open Go
set_option linter.unusedSimpArgs false
theorem pureRun_pure {α : Type} (P : Program) (a : α) : pureRun P (pure a : Sem α) = some a := rfl
structure Arr2 (P : Program) (t e : TypeId) : Prop where
  u : P.underlying e = some (.int .i64)
  a : P.underlying t = some (.array 2 e)
  s : pureRun P (sizeOf e) = some 1
  p : ∀ (x y : Int), pureRun P (part e #[.int .i64 x, .int .i64 y] (0 * 1)) = some (.int .i64 x) ∧ pureRun P (part e #[.int .i64 x, .int .i64 y] (1 * 1)) = some (.int .i64 y)
  g : ∀ (x y : Operand) (a b : Array Value), pureRun P (eqGuard .neq t x y (.agg a) (.agg b)) = some ()
section
variable {C : CW} {L : Env} {H : Heap}
end
section
variable {C : CW} {L : Env} {H : Heap}
theorem OpV.eqB {dst : Option Tmp} {x y : Operand} {ty ty2 ty3 : TypeId} {pos : String} {af : Array Edge} {g : Option (Nat × Bool)} {a b : Bool} (e2 : pureRun C.c.P (binOp .eql ty (.bool a) (.bool b)) = some (.bool (a == b))) (hx : ev L x = some (.bool a)) (hy : ev L y = some (.bool b)) :
    OpV C (.plain ⟨dst, .binOp .eql ty x y ty2, ty3, pos, af, g⟩) L H (.bool (a == b)) H := by
  refine OpV.plain (fun t ht => ?_) (fun t ht => by simp [Op.operands, ev_ok ht hx, ev_ok ht hy, plainV, plain1]) rfl
  have e1 : pureRun C.c.P (eqGuard .eql ty x y (.bool a) (.bool b)) = some () := rfl
  simp only [pureNext, execOp, ev_ok ht hx, ev_ok ht hy, pureRun_bind, e1, e2, Option.bind_some]
  rfl
end
end Go.Abs
