import Derived.Test.YtbnppcgmbiajnaaP5
namespace Go.Proofs.Ytbnppcgmbiajnaa.Eb
open Go Go.Abs Go.Low
set_option linter.unusedVariables false
set_option linter.unusedSimpArgs false
attribute [local irreducible] gOK WS WC WR WD Ends FS YS OpV seqK blockK loopK midK retK rdK asgK rangeEnd sat Cell

theorem filter_range_lt (f : Nat → Bool) (k : Nat) : ((List.range k).filter f).Pairwise (· < ·) := List.Pairwise.filter f List.pairwise_lt_range

theorem pairwise_get {l : List Nat} (h : l.Pairwise (· < ·)) {i j a b : Nat} (hij : i < j) (hi : l[i]? = some a) (hj : l[j]? = some b) : a < b := by
  obtain ⟨h1, rfl⟩ := List.getElem?_eq_some_iff.1 hi
  obtain ⟨h2, rfl⟩ := List.getElem?_eq_some_iff.1 hj
  exact List.pairwise_iff_getElem.1 h i j h1 h2 hij

theorem comp_sorted (c r : Nat) (ms : List Bool) (x : Nat) : (comp c r ms x).Pairwise (· < ·) := filter_range_lt _ _
theorem firsts_sorted (c r : Nat) (ms : List Bool) (k : Nat) : (firsts c r ms k).Pairwise (· < ·) := filter_range_lt _ _

open Classical in
theorem mem_firsts {c r : Nat} {ms : List Bool} {k x : Nat} : x ∈ firsts c r ms k ↔ x < k ∧ First c r ms x := by
  rw [firsts, List.mem_filter, List.mem_range, decide_eq_true_iff]

theorem pools_get {c r : Nat} {ms : List Bool} {k i : Nat} {pl : List Nat} (h : (poolsM c r ms k)[i]? = some pl) : ∃ f, (firsts c r ms k)[i]? = some f ∧ pl = comp c r ms f ∧ f < k ∧ First c r ms f := by
  rw [poolsM, List.getElem?_map] at h
  cases hf : (firsts c r ms k)[i]? with
  | none => rw [hf] at h; cases h
  | some f =>
    rw [hf] at h; cases h
    have := mem_firsts.1 (List.mem_of_getElem? hf)
    exact ⟨f, rfl, rfl, this.1, this.2⟩

section
variable {c r : Nat} {ms : List Bool} (hc : 1 ≤ c ∧ c ≤ 6) (hcr : c ≤ r) (hK : ∀ y, ms.getD y false = true → y < r)
include hc hcr hK

omit hc hcr in
theorem pool_head {f : Nat} (hf : First c r ms f) : (comp c r ms f)[0]? = some f := by
  have hm : f ∈ comp c r ms f := (mem_comp hK).2 (.start hf.1)
  cases hl : comp c r ms f with
  | nil => rw [hl] at hm; cases hm
  | cons a l =>
    have ha : a ∈ comp c r ms f := by rw [hl]; simp
    have h1 := hf.2 a ((mem_comp hK).1 ha)
    have hs := comp_sorted c r ms f
    rw [hl] at hm hs
    rcases List.mem_cons.1 hm with h2 | h2
    · rw [h2]; rfl
    · have := (List.pairwise_cons.1 hs).1 f h2; omega

theorem first_eq {f g x : Nat} (hf : First c r ms f) (hg : First c r ms g) (h1 : RM c r ms f x) (h2 : RM c r ms g x) : f = g := by
  have a := hf.2 g (h1.trans (RM.symm hc hcr hK h2))
  have b := hg.2 f (h2.trans (RM.symm hc hcr hK h1))
  omega

theorem has_first {x : Nat} (hx : ms.getD x false = true) : ∃ f, First c r ms f ∧ RM c r ms f x := by
  have key : ∀ k z, z ≤ k → RM c r ms x z → ∃ f, First c r ms f ∧ RM c r ms f x := by
    intro k
    induction k with
    | zero =>
      intro z hz h
      have : z = 0 := by omega
      subst this
      exact ⟨0, ⟨h.on, fun _ _ => Nat.zero_le _⟩, RM.symm hc hcr hK h⟩
    | succ k ih =>
      intro z hz h
      by_cases hlow : ∃ y, y < z ∧ RM c r ms z y
      · obtain ⟨y, hy, hzy⟩ := hlow
        exact ih y (by omega) (h.trans hzy)
      · refine ⟨z, ⟨h.on, fun y hy => ?_⟩, RM.symm hc hcr hK h⟩
        rcases Nat.lt_or_ge y z with h3 | h3
        · exact absurd ⟨y, h3, hy⟩ hlow
        · exact h3
  exact key x x (Nat.le_refl _) (.start hx)

theorem has_pool {x : Nat} (hx : ms.getD x false = true) : ∃ (i : Nat) (pl : List Nat), (poolsM c r ms r)[i]? = some pl ∧ x ∈ pl := by
  obtain ⟨f, hf, hfx⟩ := has_first hc hcr hK hx
  have hm : f ∈ firsts c r ms r := mem_firsts.2 ⟨hK f hf.1, hf⟩
  obtain ⟨i, hi, he⟩ := List.mem_iff_getElem.1 hm
  refine ⟨i, comp c r ms f, ?_, (mem_comp hK).2 hfx⟩
  rw [poolsM, List.getElem?_map, List.getElem?_eq_getElem hi, he]; rfl

theorem pools_apart {i j x y : Nat} {p q : List Nat} (hi : (poolsM c r ms r)[i]? = some p) (hj : (poolsM c r ms r)[j]? = some q) (hx : x ∈ p) (hy : y ∈ q) (hxy : x = y ∨ y ∈ nbrs c r x) : i = j := by
  obtain ⟨f, hf, rfl, _, hf1⟩ := pools_get hi
  obtain ⟨g, hg, rfl, _, hg1⟩ := pools_get hj
  have h1 := (mem_comp hK).1 hx
  have h2 := (mem_comp hK).1 hy
  have h3 : RM c r ms f y := by
    rcases hxy with rfl | h
    · exact h1
    · exact .step h1 h h2.on
  have := first_eq hc hcr hK hf1 hg1 h3 h2
  subst this
  rcases Nat.lt_trichotomy i j with h | h | h
  · have := pairwise_get (firsts_sorted c r ms r) h hf hg; omega
  · exact h
  · have := pairwise_get (firsts_sorted c r ms r) h hg hf; omega

theorem has_beside {p x : Nat} (h : RM c r ms p x) (hne : p ≠ x) : ∃ z, RM c r ms p z ∧ z ∈ nbrs c r x := by
  cases h with
  | start _ => exact absurd rfl hne
  | step h hy _ => exact ⟨_, h, nbrs_symm hc hcr (Nat.le_of_lt (hK _ h.on)) hy⟩

theorem pool_beside {i x : Nat} {p : List Nat} (hi : (poolsM c r ms r)[i]? = some p) (hx : x ∈ p) (hl : 1 < p.length) : ∃ z ∈ p, z ∈ nbrs c r x := by
  obtain ⟨f, hf, rfl, _, hf1⟩ := pools_get hi
  have h1 := (mem_comp hK).1 hx
  obtain ⟨y, hy, hyx⟩ : ∃ y ∈ comp c r ms f, y ≠ x := by
    have hs := comp_sorted c r ms f
    have e0 := List.getElem?_eq_getElem (show 0 < (comp c r ms f).length by omega)
    have e1 := List.getElem?_eq_getElem hl
    have := pairwise_get hs (show 0 < 1 by omega) e0 e1
    by_cases h0 : (comp c r ms f)[0] = x
    · exact ⟨_, List.getElem_mem hl, by omega⟩
    · exact ⟨_, List.getElem_mem (show 0 < (comp c r ms f).length by omega), h0⟩
  have h2 := (mem_comp hK).1 hy
  have h3 : RM c r ms y x := (RM.symm hc hcr hK h2).trans h1
  obtain ⟨z, hz, hzn⟩ := has_beside hc hcr hK h3 hyx
  exact ⟨z, (mem_comp hK).2 (h2.trans hz), hzn⟩
end

theorem best_low {c r : Nat} {hs b : List Int} (hh : HS c r hs) (hc6 : c ≤ 6) (hl : Lowest c r hs r b) {x y : Nat} (hx : x ≤ r) (hy : y ≤ r) (hn : x ∈ nbrs c r y) : b.getD x 0 ≤ max (b.getD y 0) (hs.getD x 0) := by
  have h30 := best_le hh hc6 hl hy
  have hhd := hh.bd x
  have ht : max (b.getD y 0) (hs.getD x 0) ≤ 30 := by omega
  have h1 : Go.Low.Reach c r hs r (max (b.getD y 0) (hs.getD x 0)) y := (Out.done hh (Nat.le_refl _) hl.out ht hy).1 (by omega)
  exact (Out.done hh (Nat.le_refl _) hl.out ht hx).2 (.step h1 hn (by omega))

theorem high_best {c r : Nat} {hs b : List Int} (hh : HS c r hs) (hc6 : c ≤ 6) (hl : Lowest c r hs r b) {x : Nat} (hx : x ≤ r) : hs.getD x 0 ≤ b.getD x 0 :=
  reach_top ((Out.done hh (Nat.le_refl _) hl.out (best_le hh hc6 hl hx) hx).1 (Int.le_refl _))

theorem pool_level {c r : Nat} {hs b ds : List Int} {w : Int} {K : List Bool} (hh : HS c r hs) (hc6 : c ≤ 6) (hl : Lowest c r hs r b) (hd : Depths r hs b w ds) (hk : KeptR r b ds w K) {p x : Nat} (h : RM c r K p x) : b.getD x 0 = b.getD p 0 := by
  have h36 := hh.r36
  have hhigh : ∀ y, K.getD y false = true → y < r ∧ hs.getD y 0 < b.getD y 0 := fun y hy => by
    obtain ⟨h1, h2, h3⟩ := (hk.2 y).1 hy
    have := hd.at_ y (by omega)
    rw [if_pos h1] at this
    exact ⟨h1, by omega⟩
  induction h with
  | start _ => rfl
  | step hx hy ht ih =>
    rename_i x y
    obtain ⟨a1, a2⟩ := hhigh x hx.on
    obtain ⟨b1, b2⟩ := hhigh y ht
    have l1 := best_low hh hc6 hl (Nat.le_of_lt b1) (Nat.le_of_lt a1) hy
    have l2 := best_low hh hc6 hl (Nat.le_of_lt a1) (Nat.le_of_lt b1) (nbrs_symm ⟨hh.c1, hc6⟩ hh.cr (Nat.le_of_lt a1) hy)
    omega
end Go.Proofs.Ytbnppcgmbiajnaa.Eb
