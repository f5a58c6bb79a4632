import Derived.Test.YtbnppcgmbiajnaaE7
namespace Go.Proofs.Ytbnppcgmbiajnaa.Eb
open Go Go.Abs Go.Low
set_option linter.unusedVariables false
set_option linter.unusedSimpArgs false
attribute [local irreducible] gOK WS WC WR WD Ends FS YS OpV seqK blockK loopK midK retK rdK asgK rangeEnd sat Cell

theorem list_ext37 {a b : List Int} (ha : a.length = 37) (hb : b.length = 37) (h : ∀ y, y < 37 → a.getD y 0 = b.getD y 0) : a = b := by
  apply List.ext_getElem (by omega)
  intro i h1 h2
  have := h i (by omega)
  rwa [List.getD_eq_getElem?_getD, List.getElem?_eq_getElem h1, List.getD_eq_getElem?_getD, List.getElem?_eq_getElem h2] at this

theorem Lowest.far {c r src : Nat} {hs b : List Int} (hh : HS c r hs) (hsrc : src ≤ r) (h : Lowest c r hs src b) {y : Nat} (hy : r < y) (hy2 : y < 37) : b.getD y 0 = 31 := by
  rcases h.out.ach y hy2 with h1 | h1
  · exact h1
  · have := h1.le hh hsrc; omega

theorem Lowest.unique {c r src : Nat} {hs b b' : List Int} (hh : HS c r hs) (hsrc : src ≤ r) (h : Lowest c r hs src b) (h' : Lowest c r hs src b') : b = b' := by
  refine list_ext37 h.len h'.len fun y hy => ?_
  by_cases hyr : y ≤ r
  · have e1 := h.bd y hy
    have e2 := h'.bd y hy
    have k1 : ∀ t : Int, t ≤ 30 → (b.getD y 0 ≤ t ↔ b'.getD y 0 ≤ t) := fun t ht => (h.out.done hh hsrc ht hyr).trans (h'.out.done hh hsrc ht hyr).symm
    rcases Int.lt_or_le 30 (b.getD y 0) with h1 | h1
    · rcases Int.lt_or_le 30 (b'.getD y 0) with h2 | h2
      · omega
      · have := (k1 _ h2).2 (Int.le_refl _); omega
    · have q1 := (k1 _ h1).1 (Int.le_refl _)
      have q2 := (k1 _ (show b'.getD y 0 ≤ 30 by omega)).2 (Int.le_refl _)
      omega
  · rw [h.far hh hsrc (by omega) hy, h'.far hh hsrc (by omega) hy]

def hourE (r c : Int) (xs ws : List Int) (p : Int) : Int :=
  if checkE r c xs ≠ 0 then checkE r c xs else if 24 < (ws.length : Int) then 3 else if ¬ (∀ x ∈ ws, 0 ≤ x ∧ x ≤ 30) then 1 else if ¬ (0 ≤ p ∧ p ≤ (xs.length : Int) - 1) then 2 else 0

def deep (best hs : List Int) (w : Int) (p : Nat) : Int := max (best.getD p 0) w - hs.getD p 0

structure HourR (r c : Int) (xs ws : List Int) (p : Nat) (v : Value) : Prop where
  ex : ∃ best, Lowest c.toNat xs.length (padded xs) xs.length best ∧ ((∃ k, k < ws.length ∧ deep best (padded xs) (ws.getD k 0) p = 0 ∧ (∀ j, j < k → deep best (padded xs) (ws.getD j 0) p ≠ 0) ∧ v = .tuple #[.int .i64 (k : Int), .int .i64 0]) ∨
    ((∀ j, j < ws.length → deep best (padded xs) (ws.getD j 0) p ≠ 0) ∧ v = .tuple #[.int .i64 0, .int .i64 12]))

theorem toArray_get {l : List Value} {m : Nat} {v : Value} (h : l[m]? = some v) : l.toArray[m]? = some v := by simpa using h
end Go.Proofs.Ytbnppcgmbiajnaa.Eb
