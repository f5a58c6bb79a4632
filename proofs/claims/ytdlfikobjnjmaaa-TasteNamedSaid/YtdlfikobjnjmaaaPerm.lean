/- All orders of a list, the first one first, and which one follows which. -/
namespace Go.Mth
set_option linter.unusedVariables false

/-- Each element of a list, with what is before it, and behind it. -/
def splits : List Nat → List (List Nat × Nat × List Nat)
  | [] => []
  | x :: l => ([], x, l) :: (splits l).map fun s => (x :: s.1, s.2.1, s.2.2)

/-- All orders of a list of so many elements. -/
def permsL : Nat → List Nat → List (List Nat)
  | 0, _ => [[]]
  | k + 1, r => (splits r).flatMap fun s => (permsL k (s.1 ++ s.2.2)).map (s.2.1 :: ·)

/-- What follows: behind a place that can be greater all descend; the smallest of them that is greater comes there, and the others ascend. -/
def Next (l m : List Nat) : Prop := ∃ p a d1 y d2, l = p ++ a :: (d1 ++ y :: d2) ∧ m = p ++ y :: (d1 ++ a :: d2).reverse ∧ (d1 ++ y :: d2).Pairwise (· > ·) ∧ a < y ∧ ∀ z ∈ d2, z < a

theorem Next.cons {l m : List Nat} (x : Nat) (h : Next l m) : Next (x :: l) (x :: m) := by
  obtain ⟨p, a, d1, y, d2, h1, h2, h3⟩ := h
  exact ⟨x :: p, a, d1, y, d2, by rw [h1]; rfl, by rw [h2]; rfl, h3⟩

/-- A list in which each one follows the one before; its first, and its last one. -/
inductive Path {α : Type} (R : α → α → Prop) : α → List α → α → Prop where
  | one (a : α) : Path R a [a] a
  | cons {a b c : α} {l : List α} (h : R a b) (k : Path R b l c) : Path R a (a :: l) c

theorem Path.append {α : Type} {R : α → α → Prop} {a b c d : α} {l m : List α} (h : Path R a l b) (r : R b c) (k : Path R c m d) : Path R a (l ++ m) d := by
  induction h with
  | one a => exact .cons r k
  | cons h1 _ ih => exact .cons h1 (ih r)
theorem Path.map {α β : Type} {R : α → α → Prop} {S : β → β → Prop} {f : α → β} (hf : ∀ a b, R a b → S (f a) (f b)) {a b : α} {l : List α} (h : Path R a l b) : Path S (f a) (l.map f) (f b) := by
  induction h with
  | one a => exact .one _
  | cons h1 _ ih => exact .cons (hf _ _ h1) ih
theorem Path.ne {α : Type} {R : α → α → Prop} {a b : α} {l : List α} (h : Path R a l b) : l ≠ [] := by cases h <;> simp
theorem Path.head {α : Type} {R : α → α → Prop} {a b : α} {l : List α} (h : Path R a l b) : l.head? = some a := by cases h <;> rfl
theorem Path.last {α : Type} {R : α → α → Prop} {a b : α} {l : List α} (h : Path R a l b) : l.getLast? = some b := by
  induction h with
  | one a => rfl
  | cons _ k ih => rw [List.getLast?_cons_of_ne_nil k.ne]; exact ih
end Go.Mth
