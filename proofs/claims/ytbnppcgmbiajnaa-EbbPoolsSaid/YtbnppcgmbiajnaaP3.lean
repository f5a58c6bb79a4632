import Derived.Test.YtbnppcgmbiajnaaP2
namespace Go.Proofs.Ytbnppcgmbiajnaa.Eb
open Go Go.Abs Go.Low
set_option linter.unusedVariables false
set_option linter.unusedSimpArgs false
attribute [local irreducible] gOK WS WC WR WD Ends FS YS OpV seqK blockK loopK midK retK rdK asgK rangeEnd sat Cell

open Classical in
noncomputable def comp (c r : Nat) (ms : List Bool) (x : Nat) : List Nat := (List.range r).filter fun y => decide (RM c r ms x y)

def First (c r : Nat) (ms : List Bool) (x : Nat) : Prop := ms.getD x false = true ∧ ∀ y, RM c r ms x y → x ≤ y

open Classical in
noncomputable def firsts (c r : Nat) (ms : List Bool) (k : Nat) : List Nat := (List.range k).filter fun x => decide (First c r ms x)

noncomputable def poolsM (c r : Nat) (ms : List Bool) (k : Nat) : List (List Nat) := (firsts c r ms k).map (comp c r ms)

theorem firsts_succ (c r : Nat) (ms : List Bool) (k : Nat) [Decidable (First c r ms k)] : firsts c r ms (k + 1) = firsts c r ms k ++ if First c r ms k then [k] else [] := by
  rw [firsts, List.range_succ, List.filter_append]
  congr 1
  by_cases h : First c r ms k <;> simp [h]

theorem pools_take {c r : Nat} {ms : List Bool} {k : Nat} (h : First c r ms k) : poolsM c r ms (k + 1) = poolsM c r ms k ++ [comp c r ms k] := by
  rw [poolsM, @firsts_succ c r ms k (isTrue h), if_pos h, List.map_append]; rfl
theorem pools_skip {c r : Nat} {ms : List Bool} {k : Nat} (h : ¬ First c r ms k) : poolsM c r ms (k + 1) = poolsM c r ms k := by
  rw [poolsM, @firsts_succ c r ms k (isFalse h), if_neg h, List.append_nil]; rfl

theorem RM.bot {c r : Nat} {ms : List Bool} {p y : Nat} (h : RM c r ms p y) : ms.getD p false = true := by
  induction h with
  | start h => exact h
  | step _ _ _ ih => exact ih
theorem RM.trans {c r : Nat} {ms : List Bool} {p q y : Nat} (h : RM c r ms p q) (k : RM c r ms q y) : RM c r ms p y := by
  induction k with
  | start _ => exact h
  | step _ hy ht ih => exact .step ih hy ht

open Classical in
theorem mem_comp {c r : Nat} {ms : List Bool} (hK : ∀ y, ms.getD y false = true → y < r) {x y : Nat} : y ∈ comp c r ms x ↔ RM c r ms x y := by
  rw [comp, List.mem_filter, List.mem_range, decide_eq_true_iff]
  exact ⟨fun h => h.2, fun h => ⟨hK _ h.on, h⟩⟩

def Cur (c r : Nat) (ms : List Bool) (k : Nat) (cur : List Bool) : Prop := ∀ y, cur.getD y false = true ↔ ms.getD y false = true ∧ ∀ x, x < k → ¬ RM c r ms x y

section
variable {c r : Nat} {ms : List Bool} (hc : 1 ≤ c ∧ c ≤ 6) (hcr : c ≤ r) (hK : ∀ y, ms.getD y false = true → y < r)
include hc hcr hK

theorem RM.symm {p y : Nat} (h : RM c r ms p y) : RM c r ms y p := by
  induction h with
  | start h => exact .start h
  | step h hy ht ih => exact RM.trans (.step (.start ht) (nbrs_symm hc hcr (Nat.le_of_lt (hK _ h.on)) hy) h.on) ih

theorem Cur.first {k : Nat} {cur : List Bool} (h : Cur c r ms k cur) : cur.getD k false = true ↔ First c r ms k := by
  rw [h k]
  constructor
  · rintro ⟨h1, h2⟩
    refine ⟨h1, fun y hy => ?_⟩
    rcases Nat.lt_or_ge y k with h3 | h3
    · exact absurd (RM.symm hc hcr hK hy) (h2 y h3)
    · exact h3
  · rintro ⟨h1, h2⟩
    refine ⟨h1, fun x hx hr => ?_⟩
    have := h2 x (RM.symm hc hcr hK hr)
    omega

theorem Cur.reach {k : Nat} {cur : List Bool} (h : Cur c r ms k cur) (hk : cur.getD k false = true) {y : Nat} : RM c r cur k y ↔ RM c r ms k y := by
  constructor
  · intro k
    induction k with
    | start h1 => exact .start ((h _).1 h1).1
    | step _ hy ht ih => exact .step ih hy ((h _).1 ht).1
  · intro j
    induction j with
    | start h1 => exact .start hk
    | step j hy ht ih =>
      refine .step ih hy ((h _).2 ⟨ht, fun x hx hr => ?_⟩)
      exact ((h k).1 hk).2 x hx (hr.trans (RM.symm hc hcr hK (.step j hy ht)))

end

theorem Cur.skip {c r : Nat} {ms : List Bool} {k : Nat} {cur : List Bool} (h : Cur c r ms k cur) (hk : ¬ cur.getD k false = true) : Cur c r ms (k + 1) cur := by
  intro y
  rw [h y]
  refine ⟨fun ⟨h1, h2⟩ => ⟨h1, fun x hx hr => ?_⟩, fun ⟨h1, h2⟩ => ⟨h1, fun x hx => h2 x (by omega)⟩⟩
  rcases Nat.lt_or_ge x k with h3 | h3
  · exact h2 x h3 hr
  · have : x = k := by omega
    subst this
    exact hk ((h x).2 ⟨hr.bot, fun z hz hzr => h2 z hz (hzr.trans hr)⟩)

theorem Cur.take {c r : Nat} {ms : List Bool} (hK : ∀ y, ms.getD y false = true → y < r) {k : Nat} {cur cur' : List Bool} (h : Cur c r ms k cur) (h' : ∀ y, cur'.getD y false = true ↔ cur.getD y false = true ∧ y ∉ comp c r ms k) : Cur c r ms (k + 1) cur' := by
  intro y
  rw [h' y, h y, mem_comp hK]
  refine ⟨fun ⟨⟨h1, h2⟩, h3⟩ => ⟨h1, fun x hx hr => ?_⟩, fun ⟨h1, h2⟩ => ⟨⟨h1, fun x hx => h2 x (by omega)⟩, h2 k (by omega)⟩⟩
  rcases Nat.lt_or_ge x k with h4 | h4
  · exact h2 x h4 hr
  · have : x = k := by omega
    subst this
    exact h3 hr

theorem Cur.init (c r : Nat) (ms : List Bool) : Cur c r ms 0 ms := fun y => ⟨fun h => ⟨h, fun x hx => absurd hx (Nat.not_lt_zero _)⟩, fun h => h.1⟩

theorem marked_filter {ms : List Bool} {f : Nat → Bool} {r : Nat} (hr : r ≤ 37) (h : ∀ p, p < 37 → ms.getD p false = if p < r then f p else false) : marked ms 37 = (List.range r).filter f := by
  have e : List.range 37 = List.range r ++ List.range' r (37 - r) := by
    rw [List.range_eq_range', List.range_eq_range', show (37 : Nat) = r + (37 - r) by omega, ← List.range'_append_1]
    simp
  unfold marked
  rw [e, List.filter_append]
  have h1 : (List.range' r (37 - r)).filter (fun p => ms.getD p false) = [] := by
    rw [List.filter_eq_nil_iff]
    intro p hp
    rw [List.mem_range'_1] at hp
    rw [h p (by omega), if_neg (by omega)]
    simp
  rw [h1, List.append_nil]
  exact List.filter_congr fun p hp => by rw [List.mem_range] at hp; rw [h p (by omega), if_pos hp]

open Classical in
theorem marked_comp {c r : Nat} {ms ts : List Bool} (hr : r ≤ 37) (hK : ∀ y, ms.getD y false = true → y < r) {k : Nat} (h : ∀ y, ts.getD y false = true ↔ RM c r ms k y) : marked ts 37 = comp c r ms k := by
  refine marked_filter hr fun p hp => ?_
  by_cases hpr : p < r
  · rw [if_pos hpr]
    by_cases hm : RM c r ms k p
    · rw [(h p).2 hm, decide_eq_true hm]
    · rw [decide_eq_false hm]
      exact Bool.eq_false_iff.2 fun e => hm ((h p).1 e)
  · rw [if_neg hpr]
    exact Bool.eq_false_iff.2 fun e => hpr (hK p ((h p).1 e).on)

def Rows2 (M : HL) (vs : List Value) (ls : List (List Nat)) : Prop := vs.length = ls.length ∧ ∀ (i : Nat) (u : Value) (l : List Nat), vs[i]? = some u → ls[i]? = some l → Sl M 1 u (nodes l)

theorem Rows2.mono {M M' : HL} {vs : List Value} {ls : List (List Nat)} (h : Rows2 M vs ls) (k : ∀ p ∈ M, p ∈ M') : Rows2 M' vs ls := ⟨h.1, fun i u l hu hl => (h.2 i u l hu hl).mono k⟩

theorem Rows2.push {M : HL} {vs : List Value} {ls : List (List Nat)} (h : Rows2 M vs ls) {u : Value} {l : List Nat} (k : Sl M 1 u (nodes l)) : Rows2 M (vs ++ [u]) (ls ++ [l]) := by
  refine ⟨by simp [h.1], fun i u' l' hu hl => ?_⟩
  rcases Nat.lt_or_ge i vs.length with h1 | h1
  · rw [List.getElem?_append_left h1] at hu
    rw [List.getElem?_append_left (by rw [← h.1]; exact h1)] at hl
    exact h.2 i u' l' hu hl
  · rw [List.getElem?_append_right h1] at hu
    rw [List.getElem?_append_right (by rw [← h.1]; exact h1), ← h.1] at hl
    have : i - vs.length = 0 := by
      rcases Nat.eq_zero_or_pos (i - vs.length) with h2 | h2
      · exact h2
      · rw [List.getElem?_eq_none (by simp; omega)] at hu; cases hu
    rw [this] at hu hl
    cases hu; cases hl
    exact k
end Go.Proofs.Ytbnppcgmbiajnaa.Eb
