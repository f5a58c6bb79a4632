import Derived.Test.YtbnppcgmbiajnaaLow
namespace Go.Low

/-- Heights that are no lower: no more is reached. -/
theorem Reach.lower {c r : Nat} {hs hs' : List Int} (hle : ∀ y, hs.getD y 0 ≤ hs'.getD y 0) {src : Nat} {t : Int} {y : Nat} (h : Reach c r hs' src t y) : Reach c r hs src t y := by
  induction h with
  | start h => exact .start (Int.le_trans (hle _) h)
  | step _ hy ht ih => exact .step ih hy (Int.le_trans (hle _) ht)

theorem Reach.higher {c r : Nat} {hs hs' : List Int} {up : Int} (hle : ∀ y, hs'.getD y 0 ≤ hs.getD y 0 + up) {src : Nat} {t : Int} {y : Nat} (h : Reach c r hs src t y) : Reach c r hs' src (t + up) y := by
  induction h with
  | start h => exact .start (by have := hle src; omega)
  | step _ hy ht ih => rename_i x y _; exact .step ih hy (by have := hle y; omega)

/-- The lowest heights over heights that rise by at most so much. -/
theorem lowest_up {c r : Nat} {hs hs' b b' : List Int} {src : Nat} {up : Int} (hh : HS c r hs) (hh' : HS c r hs') (hsrc : src ≤ r) (h : Out c r hs src (b, [])) (h' : Out c r hs' src (b', []))
    (hb : ∀ y, y < 37 → 0 ≤ b.getD y 0 ∧ b.getD y 0 ≤ 31) (hb' : ∀ y, y < 37 → 0 ≤ b'.getD y 0 ∧ b'.getD y 0 ≤ 31) (hup : 0 ≤ up) (h1 : ∀ y, hs.getD y 0 ≤ hs'.getD y 0) (h2 : ∀ y, hs'.getD y 0 ≤ hs.getD y 0 + up) {y : Nat} (hy : y ≤ r) :
    b.getD y 0 ≤ b'.getD y 0 ∧ b'.getD y 0 ≤ b.getD y 0 + up := by
  have h36 := hh.r36
  have q := hb y (by omega)
  have q' := hb' y (by omega)
  constructor
  · by_cases ht : b'.getD y 0 ≤ 30
    · have k := (h'.done hh' hsrc ht hy).1 (Int.le_refl _)
      exact (h.done hh hsrc ht hy).2 (k.lower h1)
    · omega
  · by_cases ht : b.getD y 0 + up ≤ 30
    · have k := (h.done hh hsrc (show b.getD y 0 ≤ 30 by omega) hy).1 (Int.le_refl _)
      exact (h'.done hh' hsrc ht hy).2 (k.higher h2)
    · omega
end Go.Low
