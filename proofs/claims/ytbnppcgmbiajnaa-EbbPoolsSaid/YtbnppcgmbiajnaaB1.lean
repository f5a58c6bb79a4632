import Derived.Test.YtbnppcgmbiajnaaE12
import Derived.Test.YtbnppcgmbiajnaaSymD
namespace Go.Proofs.Ytbnppcgmbiajnaa.Eb
open Go Go.Abs Go.Low
set_option linter.unusedVariables false
set_option linter.unusedSimpArgs false
attribute [local irreducible] gOK WS WC WR WD Ends FS YS OpV seqK blockK loopK midK retK rdK asgK rangeEnd sat Cell

theorem cases6 {c : Nat} (h : 1 ≤ c ∧ c ≤ 6) : c = 1 ∨ c = 2 ∨ c = 3 ∨ c = 4 ∨ c = 5 ∨ c = 6 := by omega

theorem mem_ite {p : Prop} [Decidable p] {x a : Nat} : (x ∈ if p then [a] else []) ↔ (p ∧ x = a) := by
  split <;> rename_i h <;> simp [h]

theorem nbrs_iff {c r a b : Nat} (hc : 1 ≤ c ∧ c ≤ 6) (ha : a < r) (hb : b < r) : b ∈ nbrs c r a ↔ (a / c = b / c ∧ (a + 1 = b ∨ b + 1 = a)) ∨ (a / c ≠ b / c ∧ (a + c = b ∨ b + c = a)) := by
  unfold nbrs
  rw [if_neg (by omega)]
  simp only [List.mem_append, List.mem_singleton]
  rw [mem_ite, mem_ite, mem_ite]
  rcases cases6 hc with rfl | rfl | rfl | rfl | rfl | rfl <;> omega

theorem nbrs_out {c r a : Nat} (ha : a < r) : r ∈ nbrs c r a ↔ r ≤ a + c := by
  unfold nbrs
  rw [if_neg (by omega)]
  simp only [List.mem_append, List.mem_singleton]
  rw [mem_ite, mem_ite, mem_ite]
  by_cases h : c = 0
  · subst h; simp; omega
  have := Nat.mod_lt a (show 0 < c by omega)
  omega

theorem nbrs_in {c r a : Nat} (hcr : c ≤ r) (ha : a < r) : a ∈ nbrs c r r ↔ r ≤ a + c := by
  unfold nbrs
  rw [if_pos rfl, List.mem_range'_1]
  omega

theorem nbrs_symm {c r a b : Nat} (hc : 1 ≤ c ∧ c ≤ 6) (hcr : c ≤ r) (ha : a ≤ r) (h : b ∈ nbrs c r a) : a ∈ nbrs c r b := by
  have hb := nbrs_le hc.1 hcr ha h
  have hne : b ≠ a := fun e => nbrs_ne hc.1 hcr (e ▸ h)
  rcases Nat.lt_or_ge a r with ha' | ha'
  · rcases Nat.lt_or_ge b r with hb' | hb'
    · rw [nbrs_iff hc ha' hb'] at h
      rw [nbrs_iff hc hb' ha']
      omega
    · have : b = r := by omega
      subst this
      rw [nbrs_out ha'] at h
      exact (nbrs_in hcr ha').2 h
  · have : a = r := by omega
    subst this
    have hb' : b < a := by omega
    rw [nbrs_in hcr hb'] at h
    exact (nbrs_out hb').2 h

def Bars (c r : Nat) (hs : List Int) (ps : List Nat) (h : Int) : Prop := ∀ p ∈ ps, ∀ y ∈ nbrs c r p, y ≠ r ∧ (hs.getD y 0 < h → y ∈ ps)

instance (c r : Nat) (hs : List Int) (ps : List Nat) (h : Int) : Decidable (Bars c r hs ps h) := by unfold Bars; infer_instance

theorem reach_top {c r src : Nat} {hs : List Int} {t : Int} {y : Nat} (h : Go.Low.Reach c r hs src t y) : hs.getD y 0 ≤ t := by
  cases h <;> assumption
end Go.Proofs.Ytbnppcgmbiajnaa.Eb
