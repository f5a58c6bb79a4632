/- Texts of the law, joined. -/
import Derived.Test.YtmgmkglmjmaipaaDoorSymB
/- Mathematics of lists and of what is found first: no word of the program. -/
namespace Go.Mth
set_option linter.unusedVariables false

/-! The first error of several tests. -/
def firstE (f : Nat → Int) : Nat → Int
  | 0 => 0
  | k + 1 => if firstE f k = 0 then f k else firstE f k

theorem firstE_at {f : Nat → Int} {i : Nat} (h0 : firstE f i = 0) (hi : f i ≠ 0) : ∀ {m : Nat}, i < m → firstE f m = f i := by
  intro m
  induction m with
  | zero => intro h; omega
  | succ m ih =>
    intro h
    rcases Nat.lt_or_ge i m with h1 | h1
    · have := ih h1
      simp only [firstE]; rw [if_neg (by rw [this]; exact hi)]; exact this
    · have : i = m := by omega
      subst this
      simp only [firstE]; rw [if_pos h0]

theorem firstE_succ {f : Nat → Int} {i : Nat} (h0 : firstE f i = 0) (hi : f i = 0) : firstE f (i + 1) = 0 := by simp only [firstE]; rw [if_pos h0]; exact hi
theorem firstE_zero {f : Nat → Int} : ∀ {m : Nat}, firstE f m = 0 ↔ ∀ i, i < m → f i = 0 := by
  intro m
  induction m with
  | zero => simp [firstE]
  | succ m ih =>
    simp only [firstE]
    constructor
    · intro h i hi
      by_cases h0 : firstE f m = 0
      · rw [if_pos h0] at h
        rcases Nat.lt_or_ge i m with h1 | h1
        · exact ih.1 h0 i h1
        · have : i = m := by omega
          subst this; exact h
      · rw [if_neg h0] at h; exact absurd h h0
    · intro h
      have h0 : firstE f m = 0 := ih.2 fun i hi => h i (by omega)
      rw [if_pos h0]; exact h m (by omega)
/-! Lists without repetition. -/
theorem nodup_le : ∀ (r : Nat) (l : List Nat), l.Nodup → (∀ y ∈ l, y < r) → l.length ≤ r
  | 0, l, _, h => by
    cases l with
    | nil => exact Nat.le_refl _
    | cons x l => have := h x (by simp); omega
  | r + 1, l, hn, h => by
    have h1 := nodup_le r (l.filter (fun y => decide (y ≠ r))) (hn.filter _) (fun y hy => by
      obtain ⟨h2, h3⟩ := List.mem_filter.1 hy
      have := h y h2
      have : y ≠ r := by simpa using h3
      omega)
    have h2 : (l.filter (fun y => decide (y = r))).length ≤ 1 := by
      have h3 : (l.filter (fun y => decide (y = r))).Nodup := hn.filter _
      match hf : l.filter (fun y => decide (y = r)) with
      | [] => simp
      | [a] => simp
      | a :: b :: m =>
        rw [hf] at h3
        have ha : a ∈ l.filter (fun y => decide (y = r)) := by rw [hf]; simp
        have hb : b ∈ l.filter (fun y => decide (y = r)) := by rw [hf]; simp
        have e1 := (List.mem_filter.1 ha).2
        have e2 := (List.mem_filter.1 hb).2
        simp only [decide_eq_true_eq] at e1 e2
        rw [e1, e2] at h3
        simp at h3
    have h4 : ∀ m : List Nat, m.length = (m.filter (fun y => decide (y = r))).length + (m.filter (fun y => decide (y ≠ r))).length := by
      intro m
      induction m with
      | nil => rfl
      | cons x m ih => by_cases h : x = r <;> simp [h] <;> simp at ih <;> omega
    have := h4 l
    omega
/-- As many different numbers as there are: each one is among them. -/
theorem nodup_all {n : Nat} {l : List Nat} (hn : l.Nodup) (hb : ∀ y ∈ l, y < n) (hl : l.length = n) {x : Nat} (hx : x < n) : x ∈ l := by
  refine Classical.byContradiction fun hnot => ?_
  have h1 : ((l.map fun y => if y < x then y else y - 1)).Nodup := by
    refine List.pairwise_map.2 (hn.imp_of_mem ?_)
    intro a b ha hb' hab he
    have h2 : a ≠ x := fun e => hnot (e ▸ ha)
    have h3 : b ≠ x := fun e => hnot (e ▸ hb')
    split at he <;> split at he <;> omega
  have h2 := nodup_le (n - 1) _ h1 (fun y hy => by
    obtain ⟨z, hz, rfl⟩ := List.mem_map.1 hy
    have := hb z hz
    have h3 : z ≠ x := fun e => hnot (e ▸ hz)
    split <;> omega)
  rw [List.length_map] at h2
  omega
/-! Sums. -/
def sumN (f : Nat → Nat) : Nat → Nat
  | 0 => 0
  | k + 1 => sumN f k + f k
/-! Runs: a place at which a run begins. -/
section
variable (p : Nat → Bool)
def RN : Nat → Nat
  | 0 => 0
  | k + 1 => RN k + if p k = true ∧ (k = 0 ∨ p (k - 1) = false) then 1 else 0
def cntN (k : Nat) : Nat := sumN (fun i => if p i = true then 1 else 0) k
/-- The first and the last place. -/
structure Ends2 (k a b : Nat) : Prop where
  pa : p a = true
  ak : a < k
  lo : ∀ i, i < a → p i = false
  pb : p b = true
  bk : b < k
  hi : ∀ i, b < i → i < k → p i = false

variable {p}
theorem Ends2.unique {k a b a' b' : Nat} (h : Ends2 p k a b) (h' : Ends2 p k a' b') : a = a' ∧ b = b' := by
  constructor
  · rcases Nat.lt_trichotomy a a' with h1 | h1 | h1
    · have := h'.lo a h1; rw [h.pa] at this; cases this
    · exact h1
    · have := h.lo a' h1; rw [h'.pa] at this; cases this
  · rcases Nat.lt_trichotomy b b' with h1 | h1 | h1
    · have := h.hi b' h1 h'.bk; rw [h'.pb] at this; cases this
    · exact h1
    · have := h'.hi b h1 h.bk; rw [h.pb] at this; cases this
theorem Ends2.le {k a b : Nat} (h : Ends2 p k a b) : a ≤ b := by
  rcases Nat.lt_or_ge b a with h1 | h1
  · have := h.lo b h1; rw [h.pb] at this; cases this
  · exact h1
theorem Ends2.first {k : Nat} (hk : p k = true) (hn : ∀ i, i < k → p i = false) : Ends2 p (k + 1) k k := ⟨hk, by omega, hn, hk, by omega, fun i h1 h2 => by omega⟩
theorem Ends2.next {k a b : Nat} (h : Ends2 p k a b) (hk : p k = true) : Ends2 p (k + 1) a k := ⟨h.pa, by have := h.ak; omega, h.lo, hk, by omega, fun i h1 h2 => by omega⟩
theorem Ends2.skip {k a b : Nat} (h : Ends2 p k a b) (hk : p k = false) : Ends2 p (k + 1) a b := ⟨h.pa, by have := h.ak; omega, h.lo, h.pb, by have := h.bk; omega, fun i h1 h2 => by
  rcases Nat.lt_or_ge i k with h3 | h3
  · exact h.hi i h1 h3
  · have : i = k := by omega
    subst this; exact hk⟩
end
end Go.Mth

/- What all laws' texts share. -/
namespace Go.Abs
set_option linter.unusedSectionVars false
variable [Globs]
open Go Go.Mth
set_option linter.unusedVariables false
abbrev ints (xs : List Int) : List Value := xs.map (Value.int .i64)
abbrev bools (xs : List Bool) : List Value := xs.map Value.bool
abbrev nodes (l : List Nat) : List Value := l.map (fun (x : Nat) => Value.int .i64 (x : Int))
theorem nodesI (l : List Nat) : nodes l = ints (l.map fun (x : Nat) => (x : Int)) := by simp [nodes, ints]
theorem getD_eq {α : Type} {l : List α} {k : Nat} {a : α} (h : k < l.length) : l.getD k a = l[k] := by rw [List.getD_eq_getElem?_getD, List.getElem?_eq_getElem h]; rfl
theorem getD_mem {α : Type} {l : List α} {k : Nat} {a : α} (h : k < l.length) : l.getD k a ∈ l := by rw [getD_eq h]; exact List.getElem_mem h
theorem getD_set' {α : Type} {l : List α} {y z : Nat} {v a : α} (h : y < l.length) : (l.set y v).getD z a = if z = y then v else l.getD z a := by
  rw [List.getD_eq_getElem?_getD, List.getD_eq_getElem?_getD, List.getElem?_set]
  by_cases e : y = z
  · subst e; rw [if_pos rfl, if_pos h, if_pos rfl]; rfl
  · rw [if_neg e, if_neg (fun q => e q.symm)]
theorem getD_app_l {α : Type} {l m : List α} {k : Nat} {a : α} (h : k < l.length) : (l ++ m).getD k a = l.getD k a := by
  rw [List.getD_eq_getElem?_getD, List.getD_eq_getElem?_getD, List.getElem?_append_left h]
theorem getD_snoc {α : Type} {l : List α} {x a : α} : (l ++ [x]).getD l.length a = x := by
  rw [List.getD_eq_getElem?_getD, List.getElem?_append_right (Nat.le_refl _)]; simp
theorem getD_take {α : Type} {l : List α} {k m : Nat} {a : α} (h : m < k) : (l.take k).getD m a = l.getD m a := by
  rw [List.getD_eq_getElem?_getD, List.getD_eq_getElem?_getD, List.getElem?_take_of_lt h]
theorem ext_getD {α : Type} {l m : List α} {a : α} (h : l.length = m.length) (k : ∀ i, i < l.length → l.getD i a = m.getD i a) : l = m := by
  apply List.ext_getElem h
  intro i h1 h2
  have := k i h1
  rwa [getD_eq h1, getD_eq h2] at this

/-- A slice of slices of numbers. -/
def RowsI (M : HL) (v : Value) (fs : List (List Int)) : Prop := ∃ vs : List Value, Sl M 1 v vs ∧ vs.length = fs.length ∧ ∀ i, i < fs.length → Sl M 1 (vs.getD i undef) (ints (fs.getD i []))
theorem RowsI.mono {M M' : HL} {v : Value} {fs : List (List Int)} (h : RowsI M v fs) (k : ∀ p ∈ M, p ∈ M') : RowsI M' v fs := by
  obtain ⟨vs, h1, h2, h3⟩ := h
  exact ⟨vs, h1.mono k, h2, fun i hi => (h3 i hi).mono k⟩
theorem RowsI.cons {M : HL} {p : Nat × Ch} {v : Value} {fs : List (List Int)} (h : RowsI M v fs) : RowsI (p :: M) v fs := h.mono fun q hq => List.mem_cons_of_mem _ hq
theorem RowsI.one_ {M : HL} {v : Value} {fs : List (List Int)} (h : RowsI M v fs) : one v = true := by obtain ⟨vs, h1, _⟩ := h; exact h1.one_
section
variable {C : CW} {nt : Nat} {L : Env} {D : List Nat} {H : Heap} {K : St → Prop} {M M' : HL} {n i d : Nat} {gd : Option (Tmp × Bool)} {lo' : List Nat} {l : List POp}
end
section
variable {C : CW} {nt : Nat} {L : Env} {D : List Nat} {H : Heap} {K : St → Prop} {M M' : HL} {n i d : Nat} {gd : Option (Tmp × Bool)} {lo : List Nat} {l : List POp}
end
abbrev numsK (kk : IntKind) (l : List Nat) : List Value := l.map (fun (x : Nat) => Value.int kk (x : Int))

/-! Pairs of numbers, two cells each. -/
def pcells : List (Int × Int) → List Value
  | [] => []
  | p :: l => .int .i64 p.1 :: .int .i64 p.2 :: pcells l
/-- Two cells, one behind another. -/
def PCell (M : HL) (b o u : Nat) (p : Int × Int) : Prop := ∃ ch lo cs, (b, ch) ∈ M ∧ ch.cellsAre u lo cs ∧ lo ≤ o ∧ cs[o - lo]? = some (.int .i64 p.1) ∧ cs[o - lo + 1]? = some (.int .i64 p.2)
theorem PCell.readN {M : HL} {n : Nat} {H : Heap} {b o u : Nat} {p : Int × Int} (h : PCell M b o u p) (hH : hasH M n H) : H.readN ⟨b, o, some u⟩ 2 = some [.int .i64 p.1, .int .i64 p.2] := by
  obtain ⟨ch, lo, cs, h1, h2, h3, h4, h5⟩ := h
  have hlt : o - lo + 1 < cs.length := (List.getElem?_eq_some_iff.1 h5).1
  rw [hH.readN (k := 2) h1 h2 h3 (by omega)]
  congr 1
  refine List.ext_getElem? fun i => ?_
  rcases i with _ | _ | i
  · rw [List.getElem?_take_of_lt (by omega), List.getElem?_drop, Nat.add_zero, h4]; rfl
  · rw [List.getElem?_take_of_lt (by omega), List.getElem?_drop, h5]; rfl
  · rw [List.getElem?_eq_none (by simp; omega), List.getElem?_eq_none (by simp)]
section
variable {C : CW} {nt : Nat} {L : Env} {D : List Nat} {H : Heap} {K : St → Prop} {M M' : HL} {n i d : Nat} {gd : Option (Tmp × Bool)} {lo : List Nat} {l : List POp} {rs : List Rd}
end
end Go.Abs

/- Cycles of a function on the numbers below another one. -/
namespace Go.Proofs.YtmgmkglmjmaipaaDoor.Ct
open Go Go.Abs Go.Mth
set_option linter.unusedVariables false
set_option linter.unusedSimpArgs false
/-- From x by the elements of a list to z, each the next one of the one before. -/
def Run (f : Nat → Nat) : Nat → List Nat → Nat → Prop
  | x, [], z => f x = z
  | x, y :: l, z => f x = y ∧ Run f y l z
theorem Run.split {f : Nat → Nat} : ∀ {A : List Nat} {x y z : Nat} {B : List Nat}, Run f x (A ++ y :: B) z ↔ Run f x A y ∧ Run f y B z
  | [], x, y, z, B => Iff.rfl
  | a :: A, x, y, z, B => by
    show f x = a ∧ Run f a (A ++ y :: B) z ↔ (f x = a ∧ Run f a A y) ∧ Run f y B z
    rw [Run.split, and_assoc]
theorem Run.snoc {f : Nat → Nat} {x y : Nat} {A : List Nat} (h : Run f x A y) : Run f x (A ++ [y]) (f y) := Run.split.2 ⟨h, rfl⟩
theorem Run.congr {f g : Nat → Nat} {z : Nat} : ∀ {A : List Nat} {x y : Nat}, g y = f x → (∀ a ∈ A, g a = f a) → Run f x A z → Run g y A z
  | [], x, y, hx, _, h => hx.trans h
  | a :: A, x, y, hx, ha, h => ⟨hx.trans h.1, Run.congr (ha a (List.mem_cons_self ..)) (fun b hb => ha b (List.mem_cons_of_mem _ hb)) h.2⟩
theorem Run.last {f : Nat → Nat} {z : Nat} : ∀ {A : List Nat} {x : Nat}, Run f x A z → ∃ A' w, x :: A = A' ++ [w] ∧ f w = z
  | [], x, h => ⟨[], x, rfl, h⟩
  | a :: A, x, h => by
    obtain ⟨A', w, h1, h2⟩ := Run.last h.2
    exact ⟨x :: A', w, by rw [h1]; rfl, h2⟩
theorem Run.unique {f : Nat → Nat} {z : Nat} : ∀ {A B : List Nat} {x : Nat}, Run f x A z → Run f x B z → z ∉ A → z ∉ B → A = B
  | [], [], x, _, _, _, _ => rfl
  | [], b :: B, x, h, k, _, hB => absurd (by rw [← h.symm.trans k.1]; exact List.mem_cons_self ..) hB
  | a :: A, [], x, h, k, hA, _ => absurd (by rw [← k.symm.trans h.1]; exact List.mem_cons_self ..) hA
  | a :: A, b :: B, x, h, k, hA, hB => by
    have e : a = b := h.1.symm.trans k.1
    subst e
    rw [Run.unique h.2 k.2 (fun q => hA (List.mem_cons_of_mem _ q)) (fun q => hB (List.mem_cons_of_mem _ q))]
def it (f : Nat → Nat) : Nat → Nat → Nat
  | 0, x => x
  | k + 1, x => f (it f k x)
theorem it_front (f : Nat → Nat) : ∀ k x, it f (k + 1) x = it f k (f x)
  | 0, x => rfl
  | k + 1, x => by
    show f (it f (k + 1) x) = f (it f k (f x))
    rw [it_front f k x]
theorem Run.it {f : Nat → Nat} {z : Nat} : ∀ {A : List Nat} {x y : Nat}, Run f x A z → y ∈ A ∨ y = z → ∃ k, it f (k + 1) x = y
  | [], x, y, h, hy => by
    rcases hy with hy | rfl
    · cases hy
    · exact ⟨0, h⟩
  | a :: A, x, y, h, hy => by
    by_cases e : y = a
    · exact ⟨0, h.1.trans e.symm⟩
    · have hy' : y ∈ A ∨ y = z := by
        rcases hy with hy | hy
        · rcases List.mem_cons.1 hy with hy | hy
          · exact absurd hy e
          · exact .inl hy
        · exact .inr hy
      obtain ⟨k, hk⟩ := Run.it h.2 hy'
      refine ⟨k + 1, ?_⟩
      rw [it_front, h.1]; exact hk
/-- A cycle, from one of its elements on. -/
def Cyc (f : Nat → Nat) : List Nat → Prop
  | [] => False
  | x :: l => Run f x l x ∧ (x :: l).Nodup
theorem Cyc.nodup {f : Nat → Nat} {l : List Nat} (h : Cyc f l) : l.Nodup := by
  cases l with
  | nil => exact h.elim
  | cons x l => exact h.2
theorem Cyc.ne {f : Nat → Nat} {l : List Nat} (h : Cyc f l) : l ≠ [] := by
  cases l with
  | nil => exact h.elim
  | cons x l => simp
theorem Cyc.rot {f : Nat → Nat} {x y : Nat} {A B : List Nat} (h : Cyc f (x :: (A ++ y :: B))) : Cyc f (y :: (B ++ x :: A)) := by
  obtain ⟨h1, h2⟩ := h
  obtain ⟨h3, h4⟩ := Run.split.1 h1
  refine ⟨Run.split.2 ⟨h4, h3⟩, ?_⟩
  have : (y :: (B ++ x :: A)).Perm (x :: (A ++ y :: B)) := by
    have : ((y :: B) ++ (x :: A)).Perm ((x :: A) ++ (y :: B)) := List.perm_append_comm
    exact this
  exact this.nodup_iff.2 h2
theorem Cyc.rotTo {f : Nat → Nat} {l : List Nat} {x : Nat} (h : Cyc f l) (hx : x ∈ l) : ∃ m, Cyc f (x :: m) ∧ (x :: m).Perm l := by
  obtain ⟨A, B, rfl⟩ := List.append_of_mem hx
  cases A with
  | nil => exact ⟨B, h, List.Perm.refl _⟩
  | cons a A =>
    refine ⟨B ++ a :: A, Cyc.rot h, ?_⟩
    show ((x :: B) ++ (a :: A)).Perm ((a :: A) ++ (x :: B))
    exact List.perm_append_comm
theorem Cyc.next {f : Nat → Nat} {l : List Nat} {x : Nat} (h : Cyc f l) (hx : x ∈ l) : f x ∈ l := by
  obtain ⟨m, h1, h2⟩ := h.rotTo hx
  refine h2.mem_iff.1 ?_
  cases m with
  | nil => rw [h1.1]; exact List.mem_cons_self ..
  | cons y m => rw [h1.1.1]; simp
theorem Cyc.pred {f : Nat → Nat} {l : List Nat} {x : Nat} (h : Cyc f l) (hx : x ∈ l) : ∃ y ∈ l, f y = x := by
  obtain ⟨m, h1, h2⟩ := h.rotTo hx
  obtain ⟨A', w, h3, h4⟩ := h1.1.last
  exact ⟨w, h2.mem_iff.1 (by rw [h3]; simp), h4⟩
theorem Cyc.it {f : Nat → Nat} {l : List Nat} {x : Nat} (h : Cyc f l) (hx : x ∈ l) : ∀ k, it f k x ∈ l
  | 0 => hx
  | k + 1 => h.next (Cyc.it h hx k)
theorem Cyc.reach {f : Nat → Nat} {l : List Nat} {x y : Nat} (h : Cyc f l) (hx : x ∈ l) : y ∈ l ↔ ∃ k, Ct.it f k x = y := by
  constructor
  · intro hy
    obtain ⟨m, h1, h2⟩ := h.rotTo hx
    have hy' := h2.mem_iff.2 hy
    rcases List.mem_cons.1 hy' with e | hy'
    · exact ⟨0, e.symm⟩
    · obtain ⟨k, hk⟩ := h1.1.it (.inl hy')
      exact ⟨k + 1, hk⟩
  · rintro ⟨k, rfl⟩
    exact h.it hx k
theorem Cyc.same {f : Nat → Nat} {l m : List Nat} {x y : Nat} (h : Cyc f l) (k : Cyc f m) (hl : x ∈ l) (hm : x ∈ m) : y ∈ l ↔ y ∈ m := by rw [h.reach hl, k.reach hm]
theorem Cyc.unique {f : Nat → Nat} {x : Nat} {A B : List Nat} (h : Cyc f (x :: A)) (k : Cyc f (x :: B)) : A = B :=
  Run.unique h.1 k.1 (List.nodup_cons.1 h.2).1 (List.nodup_cons.1 k.2).1
theorem Cyc.congr {f g : Nat → Nat} {l : List Nat} (h : Cyc f l) (k : ∀ x ∈ l, g x = f x) : Cyc g l := by
  cases l with
  | nil => exact h.elim
  | cons x l => exact ⟨h.1.congr (k x (by simp)) (fun a ha => k a (by simp [ha])), h.2⟩
/-- All cycles, each once, in whatever order and from whatever element on. -/
structure CycS (f : Nat → Nat) (N : Nat) (ls : List (List Nat)) : Prop where
  cyc : ∀ l ∈ ls, Cyc f l
  lt : ∀ l ∈ ls, ∀ x ∈ l, x < N
  nd : ls.flatten.Nodup
  all : ∀ x, x < N → ∃ l ∈ ls, x ∈ l
/-- Each from its smallest element on, in the order of these. -/
structure CycL (f : Nat → Nat) (N : Nat) (ls : List (List Nat)) : Prop where
  cyc : ∀ l ∈ ls, Cyc f l
  low : ∀ l ∈ ls, ∀ x ∈ l, l.headD 0 ≤ x ∧ x < N
  asc : ls.Pairwise (fun a b => a.headD 0 < b.headD 0)
  all : ∀ x, x < N → ∃ l ∈ ls, x ∈ l
structure PermN (f : Nat → Nat) (N : Nat) : Prop where
  lt : ∀ x, x < N → f x < N
  inj : ∀ x y, x < N → y < N → f x = f y → x = y
theorem Cyc.head {f : Nat → Nat} {l : List Nat} (h : Cyc f l) : l.headD 0 ∈ l := by
  cases l with
  | nil => exact h.elim
  | cons x l => simp
theorem CycL.disj {f : Nat → Nat} {N : Nat} {ls : List (List Nat)} (h : CycL f N ls) : ls.Pairwise (fun a b => ∀ x ∈ a, x ∉ b) := by
  refine h.asc.imp_of_mem ?_
  intro a b ha hb hab x hxa hxb
  have h1 := ((h.cyc a ha).same (h.cyc b hb) hxa hxb).2 (h.cyc b hb).head
  have h2 := ((h.cyc a ha).same (h.cyc b hb) hxa hxb).1 (h.cyc a ha).head
  have := (h.low a ha _ h1).1
  have := (h.low b hb _ h2).1
  omega
theorem nodup_flat {ls : List (List Nat)} (h1 : ∀ l ∈ ls, l.Nodup) (h2 : ls.Pairwise (fun a b => ∀ x ∈ a, x ∉ b)) : ls.flatten.Nodup := by
  induction ls with
  | nil => simp
  | cons l ls ih =>
    rw [List.pairwise_cons] at h2
    rw [List.flatten_cons, List.nodup_append]
    refine ⟨h1 l (by simp), ih (fun m hm => h1 m (by simp [hm])) h2.2, ?_⟩
    intro a ha b hb e
    subst e
    obtain ⟨m, hm, hb⟩ := List.mem_flatten.1 hb
    exact h2.1 m hm a ha hb
theorem flat_nodup {ls : List (List Nat)} (h : ls.flatten.Nodup) : (∀ l ∈ ls, l.Nodup) ∧ ls.Pairwise (fun a b => ∀ x ∈ a, x ∉ b) := by
  induction ls with
  | nil => exact ⟨fun l hl => (by cases hl), .nil⟩
  | cons l ls ih =>
    rw [List.flatten_cons, List.nodup_append] at h
    obtain ⟨h1, h2, h3⟩ := h
    obtain ⟨h4, h5⟩ := ih h2
    refine ⟨fun m hm => ?_, List.pairwise_cons.2 ⟨fun m hm x hx hy => h3 x hx x (List.mem_flatten.2 ⟨m, hm, hy⟩) rfl, h5⟩⟩
    rcases List.mem_cons.1 hm with rfl | hm
    · exact h1
    · exact h4 m hm
theorem CycL.toS {f : Nat → Nat} {N : Nat} {ls : List (List Nat)} (h : CycL f N ls) : CycS f N ls :=
  ⟨h.cyc, fun l hl x hx => (h.low l hl x hx).2, nodup_flat (fun l hl => (h.cyc l hl).nodup) h.disj, h.all⟩
theorem CycS.len {f : Nat → Nat} {N : Nat} {ls : List (List Nat)} (h : CycS f N ls) : ls.flatten.length = N := by
  have h1 : ls.flatten.Perm (List.range N) := (List.perm_ext_iff_of_nodup h.nd List.nodup_range).2 fun x => by
    rw [List.mem_flatten, List.mem_range]
    exact ⟨fun ⟨l, hl, hx⟩ => h.lt l hl x hx, fun hx => h.all x hx⟩
  rw [h1.length_eq, List.length_range]
theorem asc_ext : ∀ {ls ms : List (List Nat)}, ls.Pairwise (fun a b => a.headD 0 < b.headD 0) → ms.Pairwise (fun a b => a.headD 0 < b.headD 0) → (∀ l, l ∈ ls ↔ l ∈ ms) → ls = ms
  | [], [], _, _, _ => rfl
  | [], b :: ms, _, _, h => absurd ((h b).2 (by simp)) (by simp)
  | a :: ls, [], _, _, h => absurd ((h a).1 (by simp)) (by simp)
  | a :: ls, b :: ms, h1, h2, h => by
    rw [List.pairwise_cons] at h1 h2
    have hab : a = b := by
      rcases List.mem_cons.1 ((h a).1 (by simp)) with e | h3
      · exact e
      · rcases List.mem_cons.1 ((h b).2 (by simp)) with e | h4
        · exact e.symm
        · have := h2.1 a h3; have := h1.1 b h4; omega
    subst hab
    congr 1
    refine asc_ext h1.2 h2.2 fun l => ⟨fun hl => ?_, fun hl => ?_⟩
    · rcases List.mem_cons.1 ((h l).1 (List.mem_cons_of_mem _ hl)) with e | h3
      · subst e; have := h1.1 l hl; omega
      · exact h3
    · rcases List.mem_cons.1 ((h l).2 (List.mem_cons_of_mem _ hl)) with e | h3
      · subst e; have := h2.1 l hl; omega
      · exact h3
theorem CycL.sub {f : Nat → Nat} {N : Nat} {ls ms : List (List Nat)} (h : CycL f N ls) (k : CycL f N ms) {l : List Nat} (hl : l ∈ ls) : l ∈ ms := by
  have hc := h.cyc l hl
  obtain ⟨m, hm, hx⟩ := k.all (l.headD 0) (h.low l hl _ hc.head).2
  have hcm := k.cyc m hm
  have h1 := (hc.same hcm hc.head hx).2 hcm.head
  have h2 := (h.low l hl _ h1).1
  have h3 := (k.low m hm _ hx).1
  have he : l.headD 0 = m.headD 0 := by omega
  cases l with
  | nil => exact hc.elim
  | cons x A =>
    cases m with
    | nil => exact hcm.elim
    | cons y B =>
      have : x = y := he
      subst this
      rw [hc.unique hcm]; exact hm
theorem CycL.unique {f : Nat → Nat} {N : Nat} {ls ms : List (List Nat)} (h : CycL f N ls) (k : CycL f N ms) : ls = ms :=
  asc_ext h.asc k.asc fun l => ⟨h.sub k, k.sub h⟩
theorem CycL.congr {f g : Nat → Nat} {N : Nat} {ls : List (List Nat)} (h : CycL f N ls) (k : ∀ x, x < N → g x = f x) : CycL g N ls :=
  ⟨fun l hl => (h.cyc l hl).congr fun x hx => k x (h.low l hl x hx).2, h.low, h.asc, h.all⟩
theorem CycS.congr {f g : Nat → Nat} {N : Nat} {ls : List (List Nat)} (h : CycS f N ls) (k : ∀ x, x < N → g x = f x) : CycS g N ls :=
  ⟨fun l hl => (h.cyc l hl).congr fun x hx => k x (h.lt l hl x hx), h.lt, h.nd, h.all⟩
/-- The lists tell what comes next. -/
theorem CycS.next {f g : Nat → Nat} {N : Nat} {ls : List (List Nat)} (h : CycS f N ls) (k : CycS g N ls) {x : Nat} (hx : x < N) : f x = g x := by
  obtain ⟨l, hl, hm⟩ := h.all x hx
  obtain ⟨A, B, rfl⟩ := List.append_of_mem hm
  have h1 := h.cyc _ hl
  have h2 := k.cyc _ hl
  have key : ∀ {f : Nat → Nat}, Cyc f (A ++ x :: B) → f x = (B ++ A ++ [x]).headD 0 := by
    intro f hf
    cases A with
    | nil =>
      cases B with
      | nil => exact hf.1
      | cons b B => exact hf.1.1
    | cons a A =>
      have := Cyc.rot hf
      cases B with
      | nil => exact this.1.1
      | cons b B => exact this.1.1
  rw [key h1, key h2]
theorem CycS.perm {f : Nat → Nat} {N : Nat} {ls : List (List Nat)} (h : CycS f N ls) : PermN f N := by
  refine ⟨fun x hx => ?_, fun x y hx hy e => ?_⟩
  · obtain ⟨l, hl, hm⟩ := h.all x hx
    exact h.lt l hl _ ((h.cyc l hl).next hm)
  · obtain ⟨l, hl, hm⟩ := h.all x hx
    obtain ⟨l', hl', hm'⟩ := h.all y hy
    have h1 := (h.cyc l hl).next hm
    have h2 := (h.cyc l' hl').next hm'
    rw [← e] at h2
    have hyl : y ∈ l := ((h.cyc l hl).same (h.cyc l' hl') h1 h2).2 hm'
    obtain ⟨m, h3, h4⟩ := (h.cyc l hl).rotTo hm
    have hym := h4.mem_iff.2 hyl
    rcases List.mem_cons.1 hym with e2 | hym
    · exact e2.symm
    · exfalso
      obtain ⟨A, B, rfl⟩ := List.append_of_mem hym
      have hrun := h3.1
      have hnd := h3.2
      obtain ⟨k1, k2⟩ := Run.split.1 hrun
      -- what comes after x is the head of A, or y; what comes after y is the head of B, or x
      have e1 : f x = (A ++ [y]).headD 0 := by
        cases A with
        | nil => exact k1
        | cons a A => exact k1.1
      have e2 : f y = (B ++ [x]).headD 0 := by
        cases B with
        | nil => exact k2
        | cons b B => exact k2.1
      rw [e1, e2] at e
      have hnd' : ((A ++ [y]) ++ (B ++ [x])).Nodup := by
        refine (List.Perm.nodup_iff ?_).2 hnd
        rw [List.append_assoc, List.singleton_append]
        show (A ++ (y :: (B ++ [x]))).Perm ([x] ++ (A ++ y :: B))
        rw [show A ++ (y :: (B ++ [x])) = (A ++ y :: B) ++ [x] by simp]
        exact List.perm_append_comm
      rw [List.nodup_append] at hnd'
      refine hnd'.2.2 ((A ++ [y]).headD 0) ?_ ((B ++ [x]).headD 0) ?_ e
      · cases A <;> simp
      · cases B <;> simp
end Go.Proofs.YtmgmkglmjmaipaaDoor.Ct

/- Two elements exchanged make one cycle more, or one less; parts of a map; Euler. -/
namespace Go.Proofs.YtmgmkglmjmaipaaDoor.Ct
open Go Go.Abs Go.Mth
set_option linter.unusedVariables false
set_option linter.unusedSimpArgs false
theorem trans_le {R : Nat → Nat → Prop} (hs : ∀ {a b}, R a b → R b a) (ht : ∀ {a b c}, R a b → R b c → R a c) : ∀ {t t' : List Nat}, t.Pairwise (fun a b => ¬ R a b) → (∀ a ∈ t, ∃ b ∈ t', R a b) → t.length ≤ t'.length
  | [], t', _, _ => Nat.zero_le _
  | a :: t, t', h, cov => by
    replace h := List.pairwise_cons.1 h
    obtain ⟨b, hb, hab⟩ := cov a (List.mem_cons_self ..)
    have := trans_le (R := R) hs ht (t := t) (t' := t'.erase b) h.2 fun c hc => by
      obtain ⟨b', hb', hcb⟩ := cov c (List.mem_cons_of_mem _ hc)
      refine ⟨b', ?_, hcb⟩
      have hne : b' ≠ b := by
        intro e
        rw [e] at hcb
        exact h.1 c hc (ht hab (hs hcb))
      exact (List.mem_erase_of_ne hne).2 hb'
    rw [List.length_erase_of_mem hb] at this
    have hp := List.length_pos_of_mem hb
    simp only [List.length_cons]; omega
theorem CycS.le {f : Nat → Nat} {N : Nat} {ls ms : List (List Nat)} (h : CycS f N ls) (k : CycS f N ms) : ls.length ≤ ms.length := by
  obtain ⟨_, hd⟩ := flat_nodup h.nd
  have uni : ∀ {l l' x}, l ∈ ls → l' ∈ ls → x ∈ l → x ∈ l' → l = l' := by
    intro l l' x hl hl' hx hx'
    have key : ∀ {ls : List (List Nat)}, ls.Pairwise (fun a b => ∀ x ∈ a, x ∉ b) → l ∈ ls → l' ∈ ls → l = l' := by
      intro ls
      induction ls with
      | nil => intro _ h; cases h
      | cons m ls ih =>
        intro hp h1 h2
        rw [List.pairwise_cons] at hp
        rcases List.mem_cons.1 h1 with e1 | h1
        · rcases List.mem_cons.1 h2 with e2 | h2
          · rw [e1, e2]
          · exact absurd hx' (hp.1 _ h2 x (e1 ▸ hx))
        · rcases List.mem_cons.1 h2 with e2 | h2
          · exact absurd hx (hp.1 _ h1 x (e2 ▸ hx'))
          · exact ih hp.2 h1 h2
    exact key hd hl hl'
  have := trans_le (R := fun x y => ∃ l ∈ ls, x ∈ l ∧ y ∈ l) (fun ⟨l, h1, h2, h3⟩ => ⟨l, h1, h3, h2⟩) (fun ⟨l, h1, h2, h3⟩ ⟨l', k1, k2, k3⟩ => ⟨l, h1, h2, by rw [uni h1 k1 h3 k2]; exact k3⟩)
    (t := ls.map fun l => l.headD 0) (t' := ms.map fun l => l.headD 0) ?_ ?_
  · simpa using this
  · refine List.pairwise_map.2 (hd.imp_of_mem ?_)
    rintro a b ha hb hab ⟨l, h1, h2, h3⟩
    have e1 := uni ha h1 (h.cyc a ha).head h2
    have e2 := uni hb h1 (h.cyc b hb).head h3
    have e3 : a = b := e1.trans e2.symm
    subst e3
    exact hab _ (h.cyc a ha).head (h.cyc a ha).head
  · intro a ha
    obtain ⟨l, hl, rfl⟩ := List.mem_map.1 ha
    obtain ⟨m, hm, hx⟩ := k.all _ (h.lt l hl _ (h.cyc l hl).head)
    refine ⟨m.headD 0, List.mem_map.2 ⟨m, hm, rfl⟩, l, hl, (h.cyc l hl).head, ?_⟩
    exact ((h.cyc l hl).same (k.cyc m hm) (h.cyc l hl).head hx).2 (k.cyc m hm).head
/-- Two elements change places before. -/
def swp (x y e : Nat) : Nat := if e = x then y else if e = y then x else e
end Go.Proofs.YtmgmkglmjmaipaaDoor.Ct

/- Parts of a map, and Euler. -/
namespace Go.Proofs.YtmgmkglmjmaipaaDoor.Ct
open Go Go.Abs Go.Mth
set_option linter.unusedVariables false
set_option linter.unusedSimpArgs false
/-- The other end. -/
def oth (e : Nat) : Nat := if e % 2 = 0 then e + 1 else e - 1
theorem oth_oth (e : Nat) : oth (oth e) = e := by unfold oth; split <;> split <;> omega
theorem oth_lt {e L : Nat} (h : e < 2 * L) : oth e < 2 * L := by unfold oth; split <;> omega
theorem oth_even (k : Nat) : oth (2 * k) = 2 * k + 1 := by unfold oth; rw [if_pos (by omega)]
/-- Which points the first lines join. -/
def conn (pt : Nat → Nat) : Nat → Nat → Nat → Prop
  | 0, p, q => p = q
  | k + 1, p, q => conn pt k p q ∨ (conn pt k p (pt (2 * k)) ∧ conn pt k (pt (2 * k + 1)) q) ∨ (conn pt k p (pt (2 * k + 1)) ∧ conn pt k (pt (2 * k)) q)
open Classical in
/-- How many parts the first lines leave. -/
noncomputable def partsN (pt : Nat → Nat) (V : Nat) : Nat → Int
  | 0 => V
  | k + 1 => if conn pt k (pt (2 * k)) (pt (2 * k + 1)) then partsN pt V k else partsN pt V k - 1
/-- The other ends of the first lines alone. -/
def othK (k e : Nat) : Nat := if e < 2 * k then oth e else e
/-- At which point each end lies. -/
def PtOf (P : List (List Nat)) (pt : Nat → Nat) : Prop := ∀ q, q < P.length → ∀ e ∈ P.getD q [], pt e = q
theorem mem_getD {P : List (List Nat)} {l : List Nat} (h : l ∈ P) : ∃ q, q < P.length ∧ P.getD q [] = l := by
  obtain ⟨q, hq, he⟩ := List.mem_iff_getElem.1 h
  exact ⟨q, hq, by rw [List.getD_eq_getElem?_getD, List.getElem?_eq_getElem hq]; exact he⟩
theorem getD_memL {P : List (List Nat)} {q : Nat} (h : q < P.length) : P.getD q [] ∈ P := by
  rw [List.getD_eq_getElem?_getD, List.getElem?_eq_getElem h]; exact List.getElem_mem h
theorem PtOf.same {P : List (List Nat)} {pt : Nat → Nat} (h : PtOf P pt) {l : List Nat} {x y : Nat} (hl : l ∈ P) (hx : x ∈ l) (hy : y ∈ l) : pt x = pt y := by
  obtain ⟨q, hq, rfl⟩ := mem_getD hl
  rw [h q hq x hx, h q hq y hy]
theorem PtOf.next {P : List (List Nat)} {pt f : Nat → Nat} {N e : Nat} (h : PtOf P pt) (k : CycS f N P) (he : e < N) : pt (f e) = pt e := by
  obtain ⟨l, hl, hm⟩ := k.all e he
  exact h.same hl ((k.cyc l hl).next hm) hm
end Go.Proofs.YtmgmkglmjmaipaaDoor.Ct

/- Pairs of numbers that are compared. -/
namespace Go.Abs
set_option linter.unusedSectionVars false
variable [Globs]
open Go
set_option linter.unusedSimpArgs false
structure Arr2 (P : Program) (t e : TypeId) : Prop where
  u : P.underlying e = some (.int .i64)
  a : P.underlying t = some (.array 2 e)
  s : pureRun P (sizeOf e) = some 1
  p : ∀ (x y : Int), pureRun P (part e #[.int .i64 x, .int .i64 y] (0 * 1)) = some (.int .i64 x) ∧ pureRun P (part e #[.int .i64 x, .int .i64 y] (1 * 1)) = some (.int .i64 y)
  g : ∀ (x y : Operand) (a b : Array Value), pureRun P (eqGuard .neq t x y (.agg a) (.agg b)) = some ()
section
variable {C : CW} {L : Env} {H : Heap}
end

theorem holdsN' {H : Heap} {i : Nat} {a : Addr} {k : Nat} {l : List Value} (h : H.readN a k = some l) (hs : sameL l l = true) : holds H ⟨i, a, some k, .agg l.toArray⟩ = true := by
  simp only [holds, h]; exact hs
section
variable {C : CW} {L : Env} {H : Heap}
theorem OpV.eqB {dst : Option Tmp} {x y : Operand} {ty ty2 ty3 : TypeId} {pos : String} {af : Array Edge} {g : Option (Nat × Bool)} {a b : Bool} (e2 : pureRun C.c.P (binOp .eql ty (.bool a) (.bool b)) = some (.bool (a == b))) (hx : ev L x = some (.bool a)) (hy : ev L y = some (.bool b)) :
    OpV C (.plain ⟨dst, .binOp .eql ty x y ty2, ty3, pos, af, g⟩) L H (.bool (a == b)) H := by
  refine OpV.plain (fun t ht => ?_) (fun t ht => by simp [Op.operands, ev_ok ht hx, ev_ok ht hy, plainV, plain1]) rfl
  have e1 : pureRun C.c.P (eqGuard .eql ty x y (.bool a) (.bool b)) = some () := rfl
  simp only [pureNext, execOp, ev_ok ht hx, ev_ok ht hy, pureRun_bind, e1, e2, Option.bind_some]
  rfl
end
end Go.Abs
