/- Arguments that are slices of slices of numbers. -/
import Derived.Test.YtcfffhkabhmkmaaLiftS
import Derived.Test.YtcfffhkabhmkmaaJ1
import Derived.Deep.Matrix
namespace Go.Abs
set_option linter.unusedSectionVars false
variable [Globs]
open Go Go.ChangeShapes Go.WideShapes Go.ChangeAt Go.RowKit
set_option linter.unusedVariables false
set_option linter.unusedSimpArgs false

section
variable {P : Program} {w : World}

/-- Several slices, one after another. -/
theorem Inp.many {k : IntKind} {e : TypeId} (A : Nat → Option Addr) (L C : Nat → Nat) (Z : Nat → List Int) {cap : Nat}
    (hr : ∀ r, r < cap → L r ≤ C r ∧ (Z r).length = C r ∧ (A r = none → C r = 0) ∧ ∀ a', A r = some a' → ∀ c, c < C r → w.cell? (a'.add c) = some (.int k ((Z r).getD c 0)))
    {σ : Ren} {H : Heap} {M : HL} {n : Nat} (h : Inp P σ w H M n) : ∀ m, m ≤ cap →
    ∃ (τ : Ren) (H' : Heap) (M' : HL) (n' : Nat) (vs : List Value), σ.le τ ∧ Inp P τ w H' M' n' ∧ (∀ p ∈ M, p ∈ M') ∧ vs.length = m ∧ ∀ r, r < m → VR τ (vs.getD r undef) (.slice (A r) (L r) (C r)) ∧ Sl M' 1 (vs.getD r undef) (((Z r).take (L r)).map (Value.int k))
  | 0, _ => ⟨σ, H, M, n, [], σ.le_refl, h, fun p hp => hp, rfl, fun r hr => absurd hr (Nat.not_lt_zero _)⟩
  | m + 1, hm => by
    obtain ⟨τ, H', M', n', vs, q1, q2, q3, q4, q5⟩ := Inp.many (e := e) A L C Z hr h m (by omega)
    obtain ⟨r1, r2, r3, r4⟩ := hr m (by omega)
    have key : ∃ (τ2 : Ren) (H2 : Heap) (M2 : HL) (n2 : Nat) (v : Value), τ.le τ2 ∧ Inp P τ2 w H2 M2 n2 ∧ (∀ p ∈ M', p ∈ M2) ∧ VR τ2 v (.slice (A m) (L m) (C m)) ∧ Sl M2 1 v (((Z m).take (L m)).map (Value.int k)) := by
      cases hA : A m with
      | none =>
        have hc := r3 hA
        have hl : L m = 0 := by omega
        rw [hc, hl]
        exact ⟨τ, H', M', n', .slice none 0 0, τ.le_refl, q2, fun p hp => hp, .sl0 _ _, by simpa using Sl.nil 0⟩
      | some a =>
        obtain ⟨τ2, H2, M2, n2, v, p1, p2, p3, p4, p5⟩ := q2.slice (ls := (Z m).map (Value.int k)) r1 (by simpa using r2) (fun i x hx => by
          rw [List.getElem?_map] at hx
          cases hz : (Z m)[i]? with
          | none => rw [hz] at hx; cases hx
          | some z =>
            rw [hz] at hx; cases hx
            have hi : i < (Z m).length := (List.getElem?_eq_some_iff.1 hz).1
            refine ⟨_, r4 a hA i (by omega), ?_⟩
            rw [show (Z m).getD i 0 = z by rw [List.getD_eq_getElem?_getD, hz]; rfl]
            exact .int k z) e
        exact ⟨τ2, H2, M2, n2, v, p1, p2, p3, p4, by rw [List.map_take]; exact p5⟩
    obtain ⟨τ2, H2, M2, n2, v, p1, p2, p3, p4, p5⟩ := key
    refine ⟨τ2, H2, M2, n2, vs ++ [v], Ren.le_trans q1 p1, p2, fun p hp => p3 p (q3 p hp), by simp [q4], fun r hr => ?_⟩
    rcases Nat.lt_or_ge r m with h1 | h1
    · rw [getD_app_l (by omega)]
      obtain ⟨g1, g2⟩ := q5 r h1
      exact ⟨g1.le p1, g2.mono p3⟩
    · have : r = m := by omega
      subst this
      rw [← q4, getD_snoc, q4]
      exact ⟨p4, p5⟩

variable {Hh : Type} {enc : TypeId × Value → Hh}

/-- A list of lists of ints. -/
theorem Inp.rows {σ : Ren} {H : Heap} {M : HL} {n : Nat} (h : Inp P σ w H M n) {t e q : TypeId} {fuel : Nat} {v' : Value} {x : DataW Hh × List MemPlace} (ht : P.underlying t = some (.slice e)) (he : P.underlying e = some (.slice q)) (hq : P.underlying q = some (.int .i64)) (ce : P.cellsOf e = 1) (cq : P.cellsOf q = 1)
    (hd : DataW.trod enc P w 0 (fun _ => true) true fuel t [v'] = some x) :
    ∃ (τ : Ren) (H' : Heap) (M' : HL) (n' : Nat) (v : Value) (fs : List (List Int)), σ.le τ ∧ Inp P τ w H' M' n' ∧ (∀ p ∈ M, p ∈ M') ∧ VR τ v v' ∧ RowsI M' v fs := by
  rcases Go.Deep.open_int_rows ht he hq ce cq hd with ⟨h1, rfl⟩ | ⟨a, len, cap, A, L, C, Z, h1, _, hlc, hcm, rfl, hr⟩
  · cases h1
    exact ⟨σ, H, M, n, .slice none 0 0, [], σ.le_refl, h, fun p hp => hp, .sl0 _ _, [], .nil 0, rfl, fun i hi => absurd hi (Nat.not_lt_zero _)⟩
  · cases h1
    obtain ⟨τ, H1, M1, n1, vs, q1, q2, q3, q4, q5⟩ := Inp.many (e := q) A L C Z (fun r hr' => by
      obtain ⟨_, p1, p2, p3, p4, p5, p6⟩ := hr r hr'
      exact ⟨p1, p3, p5, fun a' ha => (p6 a' ha).2⟩) h cap (Nat.le_refl _)
    obtain ⟨τ2, H2, M2, n2, v, p1, p2, p3, p4, p5⟩ := q2.slice (ls := vs) hlc q4 (fun i x hx => by
      have hi : i < vs.length := (List.getElem?_eq_some_iff.1 hx).1
      refine ⟨_, (hr i (by omega)).1, ?_⟩
      have := (q5 i (by omega)).1
      rwa [List.getD_eq_getElem?_getD, hx] at this) e
    refine ⟨τ2, H2, M2, n2, v, (List.range len).map fun r => (Z r).take (L r), Ren.le_trans q1 p1, p2, fun p hp => p3 p (q3 p hp), p4, vs.take len, p5, by simp; omega, fun i hi => ?_⟩
    have hi' : i < len := by simpa using hi
    rw [getD_take hi', getD_eq hi]
    have := (q5 i (by omega)).2.mono p3
    simpa using this
end
end Go.Abs
