/- Texts of the law, joined. -/
import Derived.Test.YtfnflkcjhefddaaJ1
import Derived.Test.YtfnflkcjhefddaaLkP
import Derived.Test.YtfnflkcjhefddaaSymS
import Derived.Test.YtfnflkcjhefddaaSymG
/- Functions of the library; an order's check. -/
namespace Go.Proofs.Ytfnflkcjhefddaa.Lk
open Go Go.Abs Go.Mth
set_option linter.unusedVariables false
set_option linter.unusedSimpArgs false
abbrev IL (l : List Nat) : List Int := l.map fun (x : Nat) => (x : Int)
theorem IL_len (l : List Nat) : (IL l).length = l.length := by simp [IL]
theorem IL_get {l : List Nat} {i : Nat} (h : i < l.length) : (IL l).getD i 0 = ((l.getD i 0 : Nat) : Int) := by
  rw [getD_eq (by rw [IL_len]; exact h), getD_eq h]; simp [IL]
theorem nodes_IL (l : List Nat) : nodes l = ints (IL l) := by simp [nodes, ints, IL]
/-- The error of a number of an order. -/
def errA (o : List Int) (k : Nat) : Int := if o.getD k 0 < 0 ∨ (o.length : Int) ≤ o.getD k 0 then 2 else if o.getD k 0 ∈ o.take k then 6 else 0
def errO (o : List Int) : Int := if o.length < 1 ∨ 7 < o.length then 1 else firstE (errA o) o.length
theorem errO_ok {l : List Nat} (h : OrdN l) : errO (IL l) = 0 := by
  unfold errO
  have h1 := h.one
  have h2 := h.most
  rw [IL_len, if_neg (by omega), firstE_zero]
  intro i hi
  have hlt := h.lt _ (getD_mem (a := 0) hi)
  unfold errA
  rw [IL_get hi, IL_len, if_neg (by omega), if_neg]
  intro hm
  obtain ⟨j, hj, he⟩ := List.mem_iff_getElem.1 hm
  simp only [List.length_take, IL_len] at hj
  rw [List.getElem_take] at he
  have hj2 : j < l.length := by omega
  have : l.getD j 0 = l.getD i 0 := by
    rw [getD_eq hj2]
    have : (IL l)[j]'(by rw [IL_len]; exact hj2) = ((l[j] : Nat) : Int) := by simp [IL]
    rw [this] at he
    omega
  have := nodup_get h.nodup hj2 hi this
  omega
theorem errO_zero {o : List Int} (h : errO o = 0) : ∃ l : List Nat, o = IL l ∧ OrdN l := by
  unfold errO at h
  by_cases h1 : o.length < 1 ∨ 7 < o.length
  · rw [if_pos h1] at h; exact absurd h (by decide)
  · rw [if_neg h1, firstE_zero] at h
    have key : ∀ i, i < o.length → (0 ≤ o.getD i 0 ∧ o.getD i 0 < o.length) ∧ o.getD i 0 ∉ o.take i := by
      intro i hi
      have := h i hi
      unfold errA at this
      split at this
      · exact absurd this (by decide)
      · split at this
        · exact absurd this (by decide)
        · rename_i a b; exact ⟨by omega, b⟩
    refine ⟨o.map Int.toNat, ?_, ?_⟩
    · refine List.ext_getElem (by simp [IL]) fun i hi h2 => ?_
      have := (key i hi).1
      rw [getD_eq hi] at this
      simp [IL]; omega
    · refine ⟨by simp; omega, by simp; omega, fun x hx => ?_, ?_⟩
      · obtain ⟨y, hy, rfl⟩ := List.mem_map.1 hx
        obtain ⟨i, hi, rfl⟩ := List.mem_iff_getElem.1 hy
        have := (key i hi).1
        rw [getD_eq hi] at this
        rw [List.length_map]; omega
      · rw [List.nodup_iff_pairwise_ne, List.pairwise_iff_getElem]
        intro i j hi hj hij he
        simp only [List.length_map] at hi hj
        simp only [List.getElem_map] at he
        have q1 := (key i hi).1
        have q2 := (key j hj)
        rw [getD_eq hi] at q1
        rw [getD_eq hj] at q2
        refine q2.2 ?_
        have : o[j] = o[i] := by omega
        rw [this]
        exact List.mem_iff_getElem.2 ⟨i, by simp; omega, by rw [List.getElem_take]⟩
attribute [local irreducible] gOK WS WC WR WD Ends FS YS OpV seqK blockK loopK midK retK rdK asgK rangeEnd sat Cell
section
variable {M : HL} {n0 : Nat} {H : Heap} {v w : Value}
theorem Index_fs (hH : hasH M n0 H) {xs : List Int} (hS : Sl M 1 v (ints xs)) (hx : xs.length ≤ 100000) (a : Int) :
    FS C 52 [v, .int .i64 a] H (fun e H' => H' = H ∧ ((∃ k, k < xs.length ∧ xs.getD k 0 = a ∧ (∀ j, j < k → xs.getD j 0 ≠ a) ∧ e = .int .i64 (k : Int)) ∨ (a ∉ xs ∧ e = .int .i64 (-1)))) := by
  refine FS.intro (pf := pf52) rfl rfl rfl ?_
  repeat' (first | refine zP ?_ | refine zA ?_ | (refine zM ?_; intro _ _) | refine zX ?_ | (refine zC ?_; intro _ _ _ _) | (refine zS ?_; intro _ _) | (apply Ws <;> intro hg))
  refine WC.loopX [(0, _), (1, _), (6, _), (7, _)] (fun k : Nat => [(8, .int .i64 (k : Int))]) [] (fun k H' => H' = H ∧ k ≤ xs.length ∧ ∀ j, j < k → xs.getD j 0 ≠ a) (fun k => xs.length - k) 0 (by repeat' (first | exact .nil | refine .cons rfl ?_)) rfl ⟨rfl, Nat.zero_le _, fun j h => absurd h (Nat.not_lt_zero _)⟩ ?_
  rintro k H' ⟨rfl, hk, hno⟩
  dsimp only [List.cons_append, List.nil_append]
  repeat' (first | refine zP ?_ | refine zA ?_ | (refine zM ?_; intro _ _) | refine zX ?_ | (refine zC ?_; intro _ _ _ _) | (refine zS ?_; intro _ _) | (apply Ws <;> intro hg))
  refine WC.condP rfl (fun hlt => ?_) (fun hlt => ?_)
  · have hk' : k < xs.length := by omega
    repeat' (first | refine zP ?_ | refine zA ?_ | (refine zM ?_; intro _ _) | refine zX ?_ | (refine zC ?_; intro _ _ _ _) | (refine zS ?_; intro _ _) | (apply Ws <;> intro hg))
    refine WC.condP rfl (fun h => ?_) (fun h => ?_)
    · repeat' (first | refine zP ?_ | refine zA ?_ | (refine zM ?_; intro _ _) | refine zX ?_ | (refine zC ?_; intro _ _ _ _) | (refine zS ?_; intro _ _) | (apply Ws <;> intro hg))
      exact Ends.ret1 rfl ⟨rfl, .inl ⟨k, hk', h.symm, hno, rfl⟩⟩
    · repeat' (first | refine zP ?_ | refine zA ?_ | (refine zM ?_; intro _ _) | refine zX ?_ | (refine zC ?_; intro _ _ _ _) | (refine zS ?_; intro _ _) | (apply Ws <;> intro hg))
      refine Ends.loop (k + 1) (by omega) (by repeat' (first | exact .nil | refine .cons rfl ?_)) rfl ⟨rfl, hk', fun j hj => ?_⟩
      rcases Nat.lt_or_ge j k with h2 | h2
      · exact hno j h2
      · have : j = k := by omega
        subst this
        exact fun e => h e.symm
  · repeat' (first | refine zP ?_ | refine zA ?_ | (refine zM ?_; intro _ _) | refine zX ?_ | (refine zC ?_; intro _ _ _ _) | (refine zS ?_; intro _ _) | (apply Ws <;> intro hg))
    refine Ends.ret1 rfl ⟨rfl, .inr ⟨fun hm => ?_, rfl⟩⟩
    obtain ⟨j, hj, he⟩ := List.mem_iff_getElem.1 hm
    exact hno j (by omega) (by rw [getD_eq hj]; exact he)
theorem Contains_fs (hH : hasH M n0 H) {xs : List Int} (hS : Sl M 1 v (ints xs)) (hx : xs.length ≤ 100000) (a : Int) :
    FS C 68 [v, .int .i64 a] H (fun e H' => H' = H ∧ e = .bool (decide (a ∈ xs))) := by
  refine FS.intro (pf := pf68) rfl rfl rfl ?_
  repeat' (first | refine zP ?_ | refine zA ?_ | (refine zM ?_; intro _ _) | refine zX ?_ | (refine zC ?_; intro _ _ _ _) | (refine zS ?_; intro _ _) | (apply Ws <;> intro hg))
  refine WR.call (by first | exact gN | exact gS rfl) rfl rfl (Index_fs hH hS hx a) ?_
  rintro _ _ ⟨rfl, ⟨k, hk, he, _, rfl⟩ | ⟨hn, rfl⟩⟩
  · repeat' (first | refine zP ?_ | refine zA ?_ | (refine zM ?_; intro _ _) | refine zX ?_ | (refine zC ?_; intro _ _ _ _) | (refine zS ?_; intro _ _) | (apply Ws <;> intro hg))
    refine Ends.ret1 rfl ⟨rfl, ?_⟩
    have hm : a ∈ xs := by rw [← he]; exact getD_mem hk
    rw [decide_eq_true hm, decide_eq_true (by omega)]
  · repeat' (first | refine zP ?_ | refine zA ?_ | (refine zM ?_; intro _ _) | refine zX ?_ | (refine zC ?_; intro _ _ _ _) | (refine zS ?_; intro _ _) | (apply Ws <;> intro hg))
    refine Ends.ret1 rfl ⟨rfl, ?_⟩
    rw [decide_eq_false hn, decide_eq_false (by omega)]
theorem isPlace_fs (hH : hasH M n0 H) {xs : List Int} (hS : Sl M 1 v (ints xs)) (a : Int) :
    FS C 67 [v, .int .i64 a] H (fun e H' => H' = H ∧ e = .bool (decide (0 ≤ a ∧ a < xs.length))) := by
  refine FS.intro (pf := pf67) rfl rfl rfl ?_
  repeat' (first | refine zP ?_ | refine zA ?_ | (refine zM ?_; intro _ _) | refine zX ?_ | (refine zC ?_; intro _ _ _ _) | (refine zS ?_; intro _ _) | (apply Ws <;> intro hg))
  · exact Ends.ret1 rfl ⟨rfl, by congr 1; rw [decide_eq_decide]; omega⟩
  · exact Ends.ret1 rfl ⟨rfl, by rw [decide_eq_false (by omega)]⟩
theorem Check_fs (hH : hasH M n0 H) {xs : List Int} (hS : Sl M 1 v (ints xs)) (hx : xs.length ≤ 100000) :
    FS C 23 [v] H (fun e H' => H' = H ∧ e = .int .i64 (errO xs)) := by
  have hv := hS.one_
  refine FS.intro (pf := pf23) rfl rfl rfl ?_
  repeat' (first | refine zP ?_ | refine zA ?_ | (refine zM ?_; intro _ _) | refine zX ?_ | (refine zC ?_; intro _ _ _ _) | (refine zS ?_; intro _ _) | (apply Ws <;> intro hg))
  · refine Ends.ret1 rfl ⟨rfl, ?_⟩
    unfold errO; rw [if_pos (by omega)]
  · refine WC.condP rfl (fun h7 => ?_) (fun h7 => ?_)
    · repeat' (first | refine zP ?_ | refine zA ?_ | (refine zM ?_; intro _ _) | refine zX ?_ | (refine zC ?_; intro _ _ _ _) | (refine zS ?_; intro _ _) | (apply Ws <;> intro hg))
      refine Ends.ret1 rfl ⟨rfl, ?_⟩
      unfold errO; rw [if_pos (by omega)]
    · have hr : ¬ (xs.length < 1 ∨ 7 < xs.length) := by omega
      repeat' (first | refine zP ?_ | refine zA ?_ | (refine zM ?_; intro _ _) | refine zX ?_ | (refine zC ?_; intro _ _ _ _) | (refine zS ?_; intro _ _) | (apply Ws <;> intro hg))
      refine WC.loopX [(0, v), (13, v), (14, .int .i64 (xs.length : Int))] (fun k : Nat => [(15, .int .i64 (k : Int))]) [] (fun k H' => H' = H ∧ k ≤ xs.length ∧ firstE (errA xs) k = 0) (fun k => xs.length - k) 0 (by repeat' (first | exact .nil | refine .cons rfl ?_)) rfl ⟨rfl, Nat.zero_le _, rfl⟩ ?_
      rintro k H' ⟨rfl, hk, hz⟩
      dsimp only [List.cons_append, List.nil_append]
      repeat' (first | refine zP ?_ | refine zA ?_ | (refine zM ?_; intro _ _) | refine zX ?_ | (refine zC ?_; intro _ _ _ _) | (refine zS ?_; intro _ _) | (apply Ws <;> intro hg))
      refine WC.condP rfl (fun hlt => ?_) (fun hlt => ?_)
      · have hk' : k < xs.length := by omega
        repeat' (first | refine zP ?_ | refine zA ?_ | (refine zM ?_; intro _ _) | refine zX ?_ | (refine zC ?_; intro _ _ _ _) | (refine zS ?_; intro _ _) | (apply Ws <;> intro hg))
        refine WR.call (by first | exact gN | exact gS rfl) rfl rfl (isPlace_fs hH hS _) ?_
        rintro _ _ ⟨rfl, rfl⟩
        repeat' (first | refine zP ?_ | refine zA ?_ | (refine zM ?_; intro _ _) | refine zX ?_ | (refine zC ?_; intro _ _ _ _) | (refine zS ?_; intro _ _) | (apply Ws <;> intro hg))
        refine WC.condP rfl (fun hp => ?_) (fun hp => ?_)
        · repeat' (first | refine zP ?_ | refine zA ?_ | (refine zM ?_; intro _ _) | refine zX ?_ | (refine zC ?_; intro _ _ _ _) | (refine zS ?_; intro _ _) | (apply Ws <;> intro hg))
          refine Ends.ret1 rfl ⟨rfl, ?_⟩
          have h1 : errA xs k = 2 := by unfold errA; rw [if_pos (by omega)]
          unfold errO; rw [if_neg hr, firstE_at hz (by rw [h1]; decide) hk', h1]
        · have hpl : ¬ (xs.getD k 0 < 0 ∨ (xs.length : Int) ≤ xs.getD k 0) := by omega
          repeat' (first | refine zP ?_ | refine zA ?_ | (refine zM ?_; intro _ _) | refine zX ?_ | (refine zC ?_; intro _ _ _ _) | (refine zS ?_; intro _ _) | (apply Ws <;> intro hg))
          refine WR.cutHi (by first | exact gN | exact gS rfl) rfl rfl hS rfl (Nat.le_of_lt hk') fun v' hS' => ?_
          repeat' (first | refine zP ?_ | refine zA ?_ | (refine zM ?_; intro _ _) | refine zX ?_ | (refine zC ?_; intro _ _ _ _) | (refine zS ?_; intro _ _) | (apply Ws <;> intro hg))
          refine WR.call (by first | exact gN | exact gS rfl) rfl rfl (Contains_fs hH hS' (by simp; omega) _) ?_
          rintro _ _ ⟨rfl, rfl⟩
          repeat' (first | refine zP ?_ | refine zA ?_ | (refine zM ?_; intro _ _) | refine zX ?_ | (refine zC ?_; intro _ _ _ _) | (refine zS ?_; intro _ _) | (apply Ws <;> intro hg))
          refine WC.condP rfl (fun hm => ?_) (fun hm => ?_)
          · repeat' (first | refine zP ?_ | refine zA ?_ | (refine zM ?_; intro _ _) | refine zX ?_ | (refine zC ?_; intro _ _ _ _) | (refine zS ?_; intro _ _) | (apply Ws <;> intro hg))
            refine Ends.ret1 rfl ⟨rfl, ?_⟩
            have h1 : errA xs k = 6 := by unfold errA; rw [if_neg hpl, if_pos hm]
            unfold errO; rw [if_neg hr, firstE_at hz (by rw [h1]; decide) hk', h1]
          · repeat' (first | refine zP ?_ | refine zA ?_ | (refine zM ?_; intro _ _) | refine zX ?_ | (refine zC ?_; intro _ _ _ _) | (refine zS ?_; intro _ _) | (apply Ws <;> intro hg))
            refine Ends.loop (k + 1) (by omega) (by repeat' (first | exact .nil | refine .cons rfl ?_)) rfl ⟨rfl, hk', firstE_succ hz ?_⟩
            unfold errA; rw [if_neg hpl, if_neg hm]
      · have hkn : k = xs.length := by omega
        subst hkn
        repeat' (first | refine zP ?_ | refine zA ?_ | (refine zM ?_; intro _ _) | refine zX ?_ | (refine zC ?_; intro _ _ _ _) | (refine zS ?_; intro _ _) | (apply Ws <;> intro hg))
        refine Ends.ret1 rfl ⟨rfl, ?_⟩
        unfold errO; rw [if_neg hr, hz]
theorem CheckN_fs (hH : hasH M n0 H) {l : List Nat} (hS : Sl M 1 v (nodes l)) (ho : OrdN l) :
    FS C 23 [v] H (fun e H' => H' = H ∧ e = .int .i64 0) := by
  have := ho.most
  refine (Check_fs hH (xs := IL l) (by rw [← nodes_IL]; exact hS) (by rw [IL_len]; omega)).mono ?_
  rintro e H' ⟨h1, h2⟩
  rw [errO_ok ho] at h2
  exact ⟨h1, h2⟩
theorem isNaN_fs (a : Int) (H : Heap) : FS C 109 [.int .i64 a] H (fun e H' => e = .bool false ∧ H' = H) := by
  refine FS.intro (pf := pf109) rfl rfl rfl ?_
  repeat' (first | refine zP ?_ | refine zA ?_ | (refine zM ?_; intro _ _) | refine zX ?_ | (refine zC ?_; intro _ _ _ _) | (refine zS ?_; intro _ _) | (apply Ws <;> intro hg))
  exact Ends.ret1 rfl ⟨by rw [decide_eq_false (by simp)], rfl⟩
theorem Less_fs (a b : Int) (H : Heap) : FS C 89 [.int .i64 a, .int .i64 b] H (fun e H' => e = .bool (decide (a < b)) ∧ H' = H) := by
  refine FS.intro (pf := pf89) rfl rfl rfl ?_
  repeat' (first | refine zP ?_ | refine zA ?_ | (refine zM ?_; intro _ _) | refine zX ?_ | (refine zC ?_; intro _ _ _ _) | (refine zS ?_; intro _ _) | (apply Ws <;> intro hg))
  refine WR.call (by first | exact gN | exact gS rfl) rfl rfl (isNaN_fs _ _) ?_
  rintro _ _ ⟨rfl, rfl⟩
  repeat' (first | refine zP ?_ | refine zA ?_ | (refine zM ?_; intro _ _) | refine zX ?_ | (refine zC ?_; intro _ _ _ _) | (refine zS ?_; intro _ _) | (apply Ws <;> intro hg))
  exact Ends.ret1 rfl ⟨rfl, rfl⟩
/-- No number is smaller than the one before it. -/
def ascB (l : List Nat) : Bool := (List.range (l.length - 1)).all fun i => decide (l.getD i 0 ≤ l.getD (i + 1) 0)
theorem ascB_iff {l : List Nat} : ascB l = true ↔ ∀ i, i + 1 < l.length → l.getD i 0 ≤ l.getD (i + 1) 0 := by
  simp only [ascB, List.all_eq_true, List.mem_range, decide_eq_true_eq]
  exact ⟨fun h i hi => h i (by omega), fun h i hi => h i (by omega)⟩
theorem IsSorted_fs (hH : hasH M n0 H) {l : List Nat} (hS : Sl M 1 v (nodes l)) (hl : l.length ≤ 100000) :
    FS C 45 [v] H (fun e H' => e = .bool (ascB l) ∧ H' = H) := by
  refine FS.intro (pf := pf45) rfl rfl rfl ?_
  repeat' (first | refine zP ?_ | refine zA ?_ | (refine zM ?_; intro _ _) | refine zX ?_ | (refine zC ?_; intro _ _ _ _) | (refine zS ?_; intro _ _) | (apply Ws <;> intro hg))
  refine WC.loopX [(0, v)] (fun k : Nat => [(3, .int .i64 ((k : Int) - 1))]) [] (fun k H' => H' = H ∧ k ≤ l.length ∧ ∀ i, k ≤ i + 1 → i + 1 < l.length → l.getD i 0 ≤ l.getD (i + 1) 0) (fun k => k) l.length (by repeat' (first | exact .nil | refine .cons rfl ?_)) rfl ⟨rfl, Nat.le_refl _, fun i h1 h2 => by omega⟩ ?_
  rintro k H' ⟨rfl, hk, ha⟩
  dsimp only [List.cons_append, List.nil_append]
  repeat' (first | refine zP ?_ | refine zA ?_ | (refine zM ?_; intro _ _) | refine zX ?_ | (refine zC ?_; intro _ _ _ _) | (refine zS ?_; intro _ _) | (apply Ws <;> intro hg))
  refine WC.condP rfl (fun hg0 => ?_) (fun hg0 => ?_)
  · obtain ⟨j, rfl⟩ : ∃ j, k = j + 2 := ⟨k - 2, by omega⟩
    rw [show ((j + 2 : Nat) : Int) - 1 = ((j + 1 : Nat) : Int) by omega]
    repeat' (first | refine zP ?_ | refine zA ?_ | (refine zM ?_; intro _ _) | refine zX ?_ | (refine zC ?_; intro _ _ _ _) | (refine zS ?_; intro _ _) | (apply Ws <;> intro hg))
    refine WR.call (by first | exact gN | exact gS rfl) rfl rfl (Less_fs _ _ _) ?_
    rintro _ _ ⟨rfl, rfl⟩
    have e1 : j + 1 - 1 = j := by omega
    repeat' (first | refine zP ?_ | refine zA ?_ | (refine zM ?_; intro _ _) | refine zX ?_ | (refine zC ?_; intro _ _ _ _) | (refine zS ?_; intro _ _) | (apply Ws <;> intro hg))
    refine WC.condP rfl (fun hlt => ?_) (fun hlt => ?_)
    · repeat' (first | refine zP ?_ | refine zA ?_ | (refine zM ?_; intro _ _) | refine zX ?_ | (refine zC ?_; intro _ _ _ _) | (refine zS ?_; intro _ _) | (apply Ws <;> intro hg))
      refine Ends.ret1 rfl ⟨?_, rfl⟩
      rw [e1] at hlt
      cases hb : ascB l with
      | false => rfl
      | true => have := ascB_iff.1 hb j (by omega); omega
    · repeat' (first | refine zP ?_ | refine zA ?_ | (refine zM ?_; intro _ _) | refine zX ?_ | (refine zC ?_; intro _ _ _ _) | (refine zS ?_; intro _ _) | (apply Ws <;> intro hg))
      rw [e1] at hlt
      refine Ends.loop (j + 1) (by omega) (by repeat' (first | exact .nil | refine .cons rfl ?_)) rfl ⟨rfl, by omega, fun i h1 h2 => ?_⟩
      by_cases h3 : i = j
      · subst h3; omega
      · exact ha i (by omega) h2
  · repeat' (first | refine zP ?_ | refine zA ?_ | (refine zM ?_; intro _ _) | refine zX ?_ | (refine zC ?_; intro _ _ _ _) | (refine zS ?_; intro _ _) | (apply Ws <;> intro hg))
    refine Ends.ret1 rfl ⟨?_, rfl⟩
    rw [ascB_iff.2 fun i hi => ha i (by omega) hi]
end
end Go.Proofs.Ytfnflkcjhefddaa.Lk

/- Pass after pass. -/
namespace Go.Proofs.Ytfnflkcjhefddaa.Lk
open Go Go.Abs Go.Mth
set_option linter.unusedVariables false
set_option linter.unusedSimpArgs false
def pit (o : List Nat) : Nat → List Nat
  | 0 => o
  | k + 1 => passF (pit o k)
theorem pit_ord {o : List Nat} (ho : OrdN o) : ∀ k, OrdN (pit o k) ∧ (pit o k).length = o.length
  | 0 => ⟨ho, rfl⟩
  | k + 1 => by
    obtain ⟨h1, h2⟩ := pit_ord ho k
    exact ⟨passF_ord h1, by show (passF (pit o k)).length = _; rw [passF_len, h2]⟩
theorem upN_snoc {w n : Nat} (h : w ≤ n) : upN w (n + 1) = upN w n ++ [n] := by
  unfold upN
  rw [show n + 1 - w = (n - w) + 1 by omega, List.range'_concat]
  congr 2; omega
theorem mem_upN {w n x : Nat} : x ∈ upN w n ↔ w ≤ x ∧ x < n := by
  unfold upN; rw [List.mem_range'_1]; omega
theorem passF_tail {w : Nat} {A : List Nat} (hA : ∀ x ∈ A, x < w) : ∀ d, passF (A ++ upN w (w + d)) = passF A ++ upN w (w + d)
  | 0 => by rw [upN_nil (by omega), List.append_nil, List.append_nil]
  | d + 1 => by
    have ih := passF_tail hA d
    rw [← Nat.add_assoc, upN_snoc (by omega), ← List.append_assoc]
    have := passF_split (m := w + d) (L := A ++ upN w (w + d)) (R := []) (fun x hx => by
      rcases List.mem_append.1 hx with h | h
      · have := hA x h; omega
      · exact (mem_upN.1 h).2) (fun x h => by simp at h)
    rw [this, ih, ← List.append_assoc]
    show passF A ++ upN w (w + d) ++ [] ++ [w + d] = _
    rw [List.append_nil]
def Tops (k : Nat) (l : List Nat) : Prop := ∃ A, l = A ++ upN (l.length - k) l.length ∧ ∀ x ∈ A, x < l.length - k
theorem tops_zero (l : List Nat) (h : OrdN l) : Tops 0 l := ⟨l, by rw [upN_nil (by omega), List.append_nil], fun x hx => h.lt x hx⟩
theorem tops_step {l : List Nat} {k : Nat} (h : OrdN l) (hk : k < l.length) (ht : Tops k l) : Tops (k + 1) (passF l) := by
  obtain ⟨A, h1, h2⟩ := ht
  have hpl := passF_len l
  obtain ⟨m, hm⟩ : ∃ m, l.length - k = m + 1 := ⟨l.length - k - 1, by omega⟩
  rw [hm] at h1 h2
  have hmA : m ∈ A := by
    have := h.mem (show m < l.length by omega)
    rw [h1] at this
    rcases List.mem_append.1 this with h3 | h3
    · exact h3
    · have := (mem_upN.1 h3).1; omega
  obtain ⟨L, R, rfl⟩ := List.append_of_mem hmA
  have hn : (L ++ m :: R).Nodup := by
    have := h.nodup
    rw [h1] at this
    exact (List.nodup_append.1 this).1
  have hne : ∀ x, (x ∈ L ∨ x ∈ R) → x < m := by
    intro x hx
    have h3 := h2 x (by rcases hx with hx | hx <;> simp [hx])
    have : x ≠ m := by
      rintro rfl
      rw [List.nodup_append] at hn
      rcases hx with hx | hx
      · exact hn.2.2 _ hx _ (by simp) rfl
      · exact (List.nodup_cons.1 hn.2.1).1 hx
    omega
  have hp := passF_split (fun x hx => hne x (.inl hx)) (fun x hx => hne x (.inr hx)) (m := m) (L := L) (R := R)
  have hlen : l.length = (m + 1) + (l.length - (m + 1)) := by omega
  have ht := passF_tail h2 (l.length - (m + 1))
  rw [← hlen, ← h1, hp] at ht
  refine ⟨passF L ++ passF R, ?_, fun x hx => ?_⟩
  · rw [hpl, show l.length - (k + 1) = m by omega, ht, upN_cons (show m < l.length by omega)]
    simp
  · rw [hpl, show l.length - (k + 1) = m by omega]
    rcases List.mem_append.1 hx with h3 | h3
    · exact hne x (.inl ((passF_perm L).mem_iff.1 h3))
    · exact hne x (.inr ((passF_perm R).mem_iff.1 h3))
theorem tops_all {o : List Nat} (ho : OrdN o) : ∀ k, k ≤ o.length → Tops k (pit o k)
  | 0, _ => tops_zero o ho
  | k + 1, hk => by
    obtain ⟨h1, h2⟩ := pit_ord ho k
    exact tops_step h1 (by omega) (tops_all ho k (by omega))
theorem asc_range {l : List Nat} (h : OrdN l) : ascB l = true ↔ l = List.range l.length := by
  constructor
  · intro ha
    rw [ascB_iff] at ha
    have hlt : ∀ i, i + 1 < l.length → l.getD i 0 < l.getD (i + 1) 0 := fun i hi => by
      have h1 := ha i hi
      have h2 : l.getD i 0 ≠ l.getD (i + 1) 0 := fun e => by have := nodup_get h.nodup (show i < l.length by omega) hi e; omega
      omega
    have hlo : ∀ i, i < l.length → i ≤ l.getD i 0 := by
      intro i
      induction i with
      | zero => intro _; exact Nat.zero_le _
      | succ i ih => intro hi; have := ih (by omega); have := hlt i hi; omega
    have hhi : ∀ d i, i + d + 1 = l.length → l.getD i 0 ≤ i := by
      intro d
      induction d with
      | zero => intro i hi; have := h.lt _ (getD_mem (a := 0) (show i < l.length by omega)); omega
      | succ d ih => intro i hi; have := ih (i + 1) (by omega); have := hlt i (by omega); omega
    refine ext_getD (a := 0) (by simp) fun i hi => ?_
    have h1 := hlo i hi
    have h2 := hhi (l.length - 1 - i) i (by omega)
    rw [getD_eq (l := List.range l.length) (by simpa using hi), List.getElem_range]; omega
  · intro e
    rw [ascB_iff]
    intro i hi
    rw [e, getD_eq (by simp; omega), getD_eq (by simp; omega), List.getElem_range, List.getElem_range]; omega
theorem asc_last {o : List Nat} (ho : OrdN o) : ascB (pit o (o.length - 1)) = true := by
  have h1 := ho.one
  obtain ⟨h2, h3⟩ := pit_ord ho (o.length - 1)
  obtain ⟨A, h4, h5⟩ := tops_all ho (o.length - 1) (by omega)
  rw [asc_range h2, h3]
  rw [h3, show o.length - (o.length - 1) = 1 by omega] at h4 h5
  have hl := congrArg List.length h4
  rw [List.length_append, upN, List.length_range', h3] at hl
  have hA : A = [0] := by
    cases A with
    | nil => simp at hl; omega
    | cons a A =>
      have h6 := h5 a (by simp)
      have h7 : A = [] := List.length_eq_zero_iff.1 (by simp at hl; omega)
      rw [h7, show a = 0 by omega]
  rw [h4, hA, ← upN_range, upN_cons (show 0 < o.length by omega)]; rfl
/-- So many passes, and no fewer. -/
def PassN (o : List Nat) (k : Nat) : Prop := k ≤ o.length - 1 ∧ ascB (pit o k) = true ∧ ∀ j, j < k → ascB (pit o j) = false
theorem PassN.unique {o : List Nat} {k j : Nat} (h : PassN o k) (h2 : PassN o j) : k = j := by
  rcases Nat.lt_trichotomy k j with h3 | h3 | h3
  · have := h2.2.2 k h3; rw [h.2.1] at this; cases this
  · exact h3
  · have := h.2.2 j h3; rw [h2.2.1] at this; cases this
end Go.Proofs.Ytfnflkcjhefddaa.Lk
