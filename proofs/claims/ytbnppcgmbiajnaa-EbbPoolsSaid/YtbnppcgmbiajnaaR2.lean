import Derived.Test.YtbnppcgmbiajnaaR1
namespace Go.Proofs.Ytbnppcgmbiajnaa.Eb
open Go Go.Abs Go.Low
set_option linter.unusedVariables false
set_option linter.unusedSimpArgs false
attribute [local irreducible] gOK WS WC WR WD Ends FS YS OpV seqK blockK loopK midK retK rdK asgK rangeEnd sat Cell

theorem nodup_len : ∀ (r : Nat) (l : List Nat), l.Nodup → (∀ y ∈ l, y < r) → l.length ≤ r
  | 0, l, _, h => by
    cases l with
    | nil => simp
    | cons a l => exact absurd (h a (by simp)) (Nat.not_lt_zero _)
  | r + 1, l, hn, h => by
    by_cases hm : r ∈ l
    · have ih := nodup_len r (l.erase r) (hn.erase r) (fun y hy => by
        rw [hn.mem_erase_iff] at hy
        have := h y hy.2; omega)
      rw [List.length_erase_of_mem hm] at ih
      omega
    · have ih := nodup_len r l hn (fun y hy => by
        have := h y hy
        have : y ≠ r := fun e => hm (e ▸ hy)
        omega)
      omega

inductive RP (c r : Nat) (hs : List Int) (t : Int) (p : Nat) : Nat → Prop where
  | start (h : hs.getD p 0 ≤ t) : RP c r hs t p p
  | step {x y : Nat} (h : RP c r hs t p x) (hy : y ∈ nbrs c r x) (hr : y < r) (ht : hs.getD y 0 ≤ t) : RP c r hs t p y

theorem RP.top {c r : Nat} {hs : List Int} {t : Int} {p y : Nat} (h : RP c r hs t p y) : hs.getD y 0 ≤ t := by cases h <;> assumption
theorem RP.bot {c r : Nat} {hs : List Int} {t : Int} {p y : Nat} (h : RP c r hs t p y) : hs.getD p 0 ≤ t := by
  induction h with
  | start h => exact h
  | step _ _ _ _ ih => exact ih
theorem RP.lt {c r : Nat} {hs : List Int} {t : Int} {p y : Nat} (hp : p < r) (h : RP c r hs t p y) : y < r := by cases h <;> assumption
theorem RP.trans {c r : Nat} {hs : List Int} {t : Int} {p q y : Nat} (h : RP c r hs t p q) (k : RP c r hs t q y) : RP c r hs t p y := by
  induction k with
  | start _ => exact h
  | step _ hy hr ht ih => exact .step ih hy hr ht

section
variable {c r : Nat} {hs : List Int} (hc : 1 ≤ c ∧ c ≤ 6) (hcr : c ≤ r) (h0 : hs.getD r 0 = 0)
include hc hcr h0
omit h0 in
theorem all_reach (hb : ∀ y, hs.getD y 0 ≤ 30) : ∀ (k y : Nat), y ≤ r → r - y ≤ k → Go.Low.Reach c r hs r 30 y := by
  intro k
  induction k with
  | zero =>
    intro y hy hk
    have : y = r := by omega
    subst this
    exact .start (hb _)
  | succ k ih =>
    intro y hy hk
    by_cases hyr : y = r
    · subst hyr; exact .start (hb _)
    · have hlt : y < r := by omega
      have hm : min (y + c) r ∈ nbrs c r y := by
        unfold nbrs
        rw [if_neg hyr]
        simp
      exact .step (ih (min (y + c) r) (by omega) (by omega)) (nbrs_symm hc hcr hy hm) (hb _)
end

theorem best_le {c r : Nat} {hs b : List Int} (hh : HS c r hs) (hc6 : c ≤ 6) (hl : Lowest c r hs r b) {p : Nat} (hp : p ≤ r) : b.getD p 0 ≤ 30 :=
  (hl.out.done hh (Nat.le_refl _) (Int.le_refl 30) hp).2 (all_reach ⟨hh.c1, hc6⟩ hh.cr (fun y => (hh.bd y).2) (r - p) p hp (Nat.le_refl _))
structure Met (c r : Nat) (hs : List Int) (t : Int) (p : Nat) (met : List Nat) (i : Nat) : Prop where
  nd : met.Nodup
  rp : ∀ y ∈ met, RP c r hs t p y
  st : hs.getD p 0 ≤ t → p ∈ met
  cl : ∀ j, j < i → ∀ x, met[j]? = some x → ∀ y, y ∈ nbrs c r x → y < r → hs.getD y 0 ≤ t → y ∈ met

theorem Met.len {c r : Nat} {hs : List Int} {t : Int} {p : Nat} {met : List Nat} {i : Nat} (hp : p < r) (h : Met c r hs t p met i) : met.length ≤ r := nodup_len r met h.nd (fun y hy => (h.rp y hy).lt hp)

theorem Met.all {c r : Nat} {hs : List Int} {t : Int} {p : Nat} {met : List Nat} {i : Nat} (h : Met c r hs t p met i) (hi : met.length ≤ i) {y : Nat} : y ∈ met ↔ RP c r hs t p y := by
  refine ⟨h.rp y, fun hr => ?_⟩
  induction hr with
  | start h1 => exact h.st h1
  | step _ hy hr ht ih =>
    obtain ⟨j, hj, he⟩ := List.mem_iff_getElem.1 ih
    exact h.cl j (by omega) _ (by rw [List.getElem?_eq_getElem hj, he]) _ hy hr ht

theorem Met.push {c r : Nat} {hs : List Int} {t : Int} {p : Nat} {met : List Nat} {i x y : Nat} (h : Met c r hs t p met i) (hi : i < met.length) (hx : x ∈ met) (hy : y ∈ nbrs c r x) (hyr : y < r) (ht : hs.getD y 0 ≤ t) (hn : y ∉ met) : Met c r hs t p (met ++ [y]) i where
  nd := by
    rw [List.nodup_append]
    exact ⟨h.nd, by simp, fun a ha b hb => by rw [List.mem_singleton.1 hb]; exact fun e => hn (e ▸ ha)⟩
  rp z hz := by
    rcases List.mem_append.1 hz with h1 | h1
    · exact h.rp z h1
    · rw [List.mem_singleton.1 h1]; exact .step (h.rp x hx) hy hyr ht
  st hs := List.mem_append_left _ (h.st hs)
  cl j hj z hz w hw hwr hwt := by
    rw [List.getElem?_append_left (by omega)] at hz
    exact List.mem_append_left _ (h.cl j hj z hz w hw hwr hwt)

end Go.Proofs.Ytbnppcgmbiajnaa.Eb
