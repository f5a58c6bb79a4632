/- Texts of the law, joined. -/
import Derived.Test.YtfnflkcjhefddaaJ1
import Derived.Test.YtfnflkcjhefddaaLkP
import Derived.Test.YtfnflkcjhefddaaSymS
import Derived.Test.YtfnflkcjhefddaaSymG
import Derived.Test.YtfnflkcjhefddaaSymD
import Derived.Test.YtfnflkcjhefddaaSymR
/- Functions of the library; an order's check. -/
namespace Go.Proofs.Ytfnflkcjhefddaa.Lk
open Go Go.Abs Go.Mth
set_option linter.unusedVariables false
set_option linter.unusedSimpArgs false
abbrev IL (l : List Nat) : List Int := l.map fun (x : Nat) => (x : Int)
theorem IL_len (l : List Nat) : (IL l).length = l.length := by simp [IL]
theorem IL_get {l : List Nat} {i : Nat} (h : i < l.length) : (IL l).getD i 0 = ((l.getD i 0 : Nat) : Int) := by
  rw [getD_eq (by rw [IL_len]; exact h), getD_eq h]; simp [IL]
theorem nodes_IL (l : List Nat) : nodes l = ints (IL l) := by simp [nodes, ints, IL]
/-- The error of a number of an order. -/
def errA (o : List Int) (k : Nat) : Int := if o.getD k 0 < 0 ∨ (o.length : Int) ≤ o.getD k 0 then 2 else if o.getD k 0 ∈ o.take k then 6 else 0
def errO (o : List Int) : Int := if o.length < 1 ∨ 7 < o.length then 1 else firstE (errA o) o.length
theorem errO_ok {l : List Nat} (h : OrdN l) : errO (IL l) = 0 := by
  unfold errO
  have h1 := h.one
  have h2 := h.most
  rw [IL_len, if_neg (by omega), firstE_zero]
  intro i hi
  have hlt := h.lt _ (getD_mem (a := 0) hi)
  unfold errA
  rw [IL_get hi, IL_len, if_neg (by omega), if_neg]
  intro hm
  obtain ⟨j, hj, he⟩ := List.mem_iff_getElem.1 hm
  simp only [List.length_take, IL_len] at hj
  rw [List.getElem_take] at he
  have hj2 : j < l.length := by omega
  have : l.getD j 0 = l.getD i 0 := by
    rw [getD_eq hj2]
    have : (IL l)[j]'(by rw [IL_len]; exact hj2) = ((l[j] : Nat) : Int) := by simp [IL]
    rw [this] at he
    omega
  have := nodup_get h.nodup hj2 hi this
  omega
attribute [local irreducible] gOK WS WC WR WD Ends FS YS OpV seqK blockK loopK midK retK rdK asgK rangeEnd sat Cell
section
variable {M : HL} {n0 : Nat} {H : Heap} {v w : Value}
theorem Index_fs (hH : hasH M n0 H) {xs : List Int} (hS : Sl M 1 v (ints xs)) (hx : xs.length ≤ 100000) (a : Int) :
    FS C 52 [v, .int .i64 a] H (fun e H' => H' = H ∧ ((∃ k, k < xs.length ∧ xs.getD k 0 = a ∧ (∀ j, j < k → xs.getD j 0 ≠ a) ∧ e = .int .i64 (k : Int)) ∨ (a ∉ xs ∧ e = .int .i64 (-1)))) := by
  refine FS.intro (pf := pf52) rfl rfl rfl ?_
  repeat' (first | refine zP ?_ | refine zA ?_ | (refine zM ?_; intro _ _) | refine zX ?_ | (refine zC ?_; intro _ _ _ _) | (refine zS ?_; intro _ _) | (apply Ws <;> intro hg))
  refine WC.loopX [(0, _), (1, _), (6, _), (7, _)] (fun k : Nat => [(8, .int .i64 (k : Int))]) [] (fun k H' => H' = H ∧ k ≤ xs.length ∧ ∀ j, j < k → xs.getD j 0 ≠ a) (fun k => xs.length - k) 0 (by repeat' (first | exact .nil | refine .cons rfl ?_)) rfl ⟨rfl, Nat.zero_le _, fun j h => absurd h (Nat.not_lt_zero _)⟩ ?_
  rintro k H' ⟨rfl, hk, hno⟩
  dsimp only [List.cons_append, List.nil_append]
  repeat' (first | refine zP ?_ | refine zA ?_ | (refine zM ?_; intro _ _) | refine zX ?_ | (refine zC ?_; intro _ _ _ _) | (refine zS ?_; intro _ _) | (apply Ws <;> intro hg))
  refine WC.condP rfl (fun hlt => ?_) (fun hlt => ?_)
  · have hk' : k < xs.length := by omega
    repeat' (first | refine zP ?_ | refine zA ?_ | (refine zM ?_; intro _ _) | refine zX ?_ | (refine zC ?_; intro _ _ _ _) | (refine zS ?_; intro _ _) | (apply Ws <;> intro hg))
    refine WC.condP rfl (fun h => ?_) (fun h => ?_)
    · repeat' (first | refine zP ?_ | refine zA ?_ | (refine zM ?_; intro _ _) | refine zX ?_ | (refine zC ?_; intro _ _ _ _) | (refine zS ?_; intro _ _) | (apply Ws <;> intro hg))
      exact Ends.ret1 rfl ⟨rfl, .inl ⟨k, hk', h.symm, hno, rfl⟩⟩
    · repeat' (first | refine zP ?_ | refine zA ?_ | (refine zM ?_; intro _ _) | refine zX ?_ | (refine zC ?_; intro _ _ _ _) | (refine zS ?_; intro _ _) | (apply Ws <;> intro hg))
      refine Ends.loop (k + 1) (by omega) (by repeat' (first | exact .nil | refine .cons rfl ?_)) rfl ⟨rfl, hk', fun j hj => ?_⟩
      rcases Nat.lt_or_ge j k with h2 | h2
      · exact hno j h2
      · have : j = k := by omega
        subst this
        exact fun e => h e.symm
  · repeat' (first | refine zP ?_ | refine zA ?_ | (refine zM ?_; intro _ _) | refine zX ?_ | (refine zC ?_; intro _ _ _ _) | (refine zS ?_; intro _ _) | (apply Ws <;> intro hg))
    refine Ends.ret1 rfl ⟨rfl, .inr ⟨fun hm => ?_, rfl⟩⟩
    obtain ⟨j, hj, he⟩ := List.mem_iff_getElem.1 hm
    exact hno j (by omega) (by rw [getD_eq hj]; exact he)
theorem Contains_fs (hH : hasH M n0 H) {xs : List Int} (hS : Sl M 1 v (ints xs)) (hx : xs.length ≤ 100000) (a : Int) :
    FS C 68 [v, .int .i64 a] H (fun e H' => H' = H ∧ e = .bool (decide (a ∈ xs))) := by
  refine FS.intro (pf := pf68) rfl rfl rfl ?_
  repeat' (first | refine zP ?_ | refine zA ?_ | (refine zM ?_; intro _ _) | refine zX ?_ | (refine zC ?_; intro _ _ _ _) | (refine zS ?_; intro _ _) | (apply Ws <;> intro hg))
  refine WR.call (by first | exact gN | exact gS rfl) rfl rfl (Index_fs hH hS hx a) ?_
  rintro _ _ ⟨rfl, ⟨k, hk, he, _, rfl⟩ | ⟨hn, rfl⟩⟩
  · repeat' (first | refine zP ?_ | refine zA ?_ | (refine zM ?_; intro _ _) | refine zX ?_ | (refine zC ?_; intro _ _ _ _) | (refine zS ?_; intro _ _) | (apply Ws <;> intro hg))
    refine Ends.ret1 rfl ⟨rfl, ?_⟩
    have hm : a ∈ xs := by rw [← he]; exact getD_mem hk
    rw [decide_eq_true hm, decide_eq_true (by omega)]
  · repeat' (first | refine zP ?_ | refine zA ?_ | (refine zM ?_; intro _ _) | refine zX ?_ | (refine zC ?_; intro _ _ _ _) | (refine zS ?_; intro _ _) | (apply Ws <;> intro hg))
    refine Ends.ret1 rfl ⟨rfl, ?_⟩
    rw [decide_eq_false hn, decide_eq_false (by omega)]
theorem isPlace_fs (hH : hasH M n0 H) {xs : List Int} (hS : Sl M 1 v (ints xs)) (a : Int) :
    FS C 67 [v, .int .i64 a] H (fun e H' => H' = H ∧ e = .bool (decide (0 ≤ a ∧ a < xs.length))) := by
  refine FS.intro (pf := pf67) rfl rfl rfl ?_
  repeat' (first | refine zP ?_ | refine zA ?_ | (refine zM ?_; intro _ _) | refine zX ?_ | (refine zC ?_; intro _ _ _ _) | (refine zS ?_; intro _ _) | (apply Ws <;> intro hg))
  · exact Ends.ret1 rfl ⟨rfl, by congr 1; rw [decide_eq_decide]; omega⟩
  · exact Ends.ret1 rfl ⟨rfl, by rw [decide_eq_false (by omega)]⟩
theorem Check_fs (hH : hasH M n0 H) {xs : List Int} (hS : Sl M 1 v (ints xs)) (hx : xs.length ≤ 100000) :
    FS C 23 [v] H (fun e H' => H' = H ∧ e = .int .i64 (errO xs)) := by
  have hv := hS.one_
  refine FS.intro (pf := pf23) rfl rfl rfl ?_
  repeat' (first | refine zP ?_ | refine zA ?_ | (refine zM ?_; intro _ _) | refine zX ?_ | (refine zC ?_; intro _ _ _ _) | (refine zS ?_; intro _ _) | (apply Ws <;> intro hg))
  · refine Ends.ret1 rfl ⟨rfl, ?_⟩
    unfold errO; rw [if_pos (by omega)]
  · refine WC.condP rfl (fun h7 => ?_) (fun h7 => ?_)
    · repeat' (first | refine zP ?_ | refine zA ?_ | (refine zM ?_; intro _ _) | refine zX ?_ | (refine zC ?_; intro _ _ _ _) | (refine zS ?_; intro _ _) | (apply Ws <;> intro hg))
      refine Ends.ret1 rfl ⟨rfl, ?_⟩
      unfold errO; rw [if_pos (by omega)]
    · have hr : ¬ (xs.length < 1 ∨ 7 < xs.length) := by omega
      repeat' (first | refine zP ?_ | refine zA ?_ | (refine zM ?_; intro _ _) | refine zX ?_ | (refine zC ?_; intro _ _ _ _) | (refine zS ?_; intro _ _) | (apply Ws <;> intro hg))
      refine WC.loopX [(0, v), (13, v), (14, .int .i64 (xs.length : Int))] (fun k : Nat => [(15, .int .i64 (k : Int))]) [] (fun k H' => H' = H ∧ k ≤ xs.length ∧ firstE (errA xs) k = 0) (fun k => xs.length - k) 0 (by repeat' (first | exact .nil | refine .cons rfl ?_)) rfl ⟨rfl, Nat.zero_le _, rfl⟩ ?_
      rintro k H' ⟨rfl, hk, hz⟩
      dsimp only [List.cons_append, List.nil_append]
      repeat' (first | refine zP ?_ | refine zA ?_ | (refine zM ?_; intro _ _) | refine zX ?_ | (refine zC ?_; intro _ _ _ _) | (refine zS ?_; intro _ _) | (apply Ws <;> intro hg))
      refine WC.condP rfl (fun hlt => ?_) (fun hlt => ?_)
      · have hk' : k < xs.length := by omega
        repeat' (first | refine zP ?_ | refine zA ?_ | (refine zM ?_; intro _ _) | refine zX ?_ | (refine zC ?_; intro _ _ _ _) | (refine zS ?_; intro _ _) | (apply Ws <;> intro hg))
        refine WR.call (by first | exact gN | exact gS rfl) rfl rfl (isPlace_fs hH hS _) ?_
        rintro _ _ ⟨rfl, rfl⟩
        repeat' (first | refine zP ?_ | refine zA ?_ | (refine zM ?_; intro _ _) | refine zX ?_ | (refine zC ?_; intro _ _ _ _) | (refine zS ?_; intro _ _) | (apply Ws <;> intro hg))
        refine WC.condP rfl (fun hp => ?_) (fun hp => ?_)
        · repeat' (first | refine zP ?_ | refine zA ?_ | (refine zM ?_; intro _ _) | refine zX ?_ | (refine zC ?_; intro _ _ _ _) | (refine zS ?_; intro _ _) | (apply Ws <;> intro hg))
          refine Ends.ret1 rfl ⟨rfl, ?_⟩
          have h1 : errA xs k = 2 := by unfold errA; rw [if_pos (by omega)]
          unfold errO; rw [if_neg hr, firstE_at hz (by rw [h1]; decide) hk', h1]
        · have hpl : ¬ (xs.getD k 0 < 0 ∨ (xs.length : Int) ≤ xs.getD k 0) := by omega
          repeat' (first | refine zP ?_ | refine zA ?_ | (refine zM ?_; intro _ _) | refine zX ?_ | (refine zC ?_; intro _ _ _ _) | (refine zS ?_; intro _ _) | (apply Ws <;> intro hg))
          refine WR.cutHi (by first | exact gN | exact gS rfl) rfl rfl hS rfl (Nat.le_of_lt hk') fun v' hS' => ?_
          repeat' (first | refine zP ?_ | refine zA ?_ | (refine zM ?_; intro _ _) | refine zX ?_ | (refine zC ?_; intro _ _ _ _) | (refine zS ?_; intro _ _) | (apply Ws <;> intro hg))
          refine WR.call (by first | exact gN | exact gS rfl) rfl rfl (Contains_fs hH hS' (by simp; omega) _) ?_
          rintro _ _ ⟨rfl, rfl⟩
          repeat' (first | refine zP ?_ | refine zA ?_ | (refine zM ?_; intro _ _) | refine zX ?_ | (refine zC ?_; intro _ _ _ _) | (refine zS ?_; intro _ _) | (apply Ws <;> intro hg))
          refine WC.condP rfl (fun hm => ?_) (fun hm => ?_)
          · repeat' (first | refine zP ?_ | refine zA ?_ | (refine zM ?_; intro _ _) | refine zX ?_ | (refine zC ?_; intro _ _ _ _) | (refine zS ?_; intro _ _) | (apply Ws <;> intro hg))
            refine Ends.ret1 rfl ⟨rfl, ?_⟩
            have h1 : errA xs k = 6 := by unfold errA; rw [if_neg hpl, if_pos hm]
            unfold errO; rw [if_neg hr, firstE_at hz (by rw [h1]; decide) hk', h1]
          · repeat' (first | refine zP ?_ | refine zA ?_ | (refine zM ?_; intro _ _) | refine zX ?_ | (refine zC ?_; intro _ _ _ _) | (refine zS ?_; intro _ _) | (apply Ws <;> intro hg))
            refine Ends.loop (k + 1) (by omega) (by repeat' (first | exact .nil | refine .cons rfl ?_)) rfl ⟨rfl, hk', firstE_succ hz ?_⟩
            unfold errA; rw [if_neg hpl, if_neg hm]
      · have hkn : k = xs.length := by omega
        subst hkn
        repeat' (first | refine zP ?_ | refine zA ?_ | (refine zM ?_; intro _ _) | refine zX ?_ | (refine zC ?_; intro _ _ _ _) | (refine zS ?_; intro _ _) | (apply Ws <;> intro hg))
        refine Ends.ret1 rfl ⟨rfl, ?_⟩
        unfold errO; rw [if_neg hr, hz]
theorem CheckN_fs (hH : hasH M n0 H) {l : List Nat} (hS : Sl M 1 v (nodes l)) (ho : OrdN l) :
    FS C 23 [v] H (fun e H' => H' = H ∧ e = .int .i64 0) := by
  have := ho.most
  refine (Check_fs hH (xs := IL l) (by rw [← nodes_IL]; exact hS) (by rw [IL_len]; omega)).mono ?_
  rintro e H' ⟨h1, h2⟩
  rw [errO_ok ho] at h2
  exact ⟨h1, h2⟩
theorem isNaN_fs (a : Int) (H : Heap) : FS C 109 [.int .i64 a] H (fun e H' => e = .bool false ∧ H' = H) := by
  refine FS.intro (pf := pf109) rfl rfl rfl ?_
  repeat' (first | refine zP ?_ | refine zA ?_ | (refine zM ?_; intro _ _) | refine zX ?_ | (refine zC ?_; intro _ _ _ _) | (refine zS ?_; intro _ _) | (apply Ws <;> intro hg))
  exact Ends.ret1 rfl ⟨by rw [decide_eq_false (by simp)], rfl⟩
theorem Less_fs (a b : Int) (H : Heap) : FS C 89 [.int .i64 a, .int .i64 b] H (fun e H' => e = .bool (decide (a < b)) ∧ H' = H) := by
  refine FS.intro (pf := pf89) rfl rfl rfl ?_
  repeat' (first | refine zP ?_ | refine zA ?_ | (refine zM ?_; intro _ _) | refine zX ?_ | (refine zC ?_; intro _ _ _ _) | (refine zS ?_; intro _ _) | (apply Ws <;> intro hg))
  refine WR.call (by first | exact gN | exact gS rfl) rfl rfl (isNaN_fs _ _) ?_
  rintro _ _ ⟨rfl, rfl⟩
  repeat' (first | refine zP ?_ | refine zA ?_ | (refine zM ?_; intro _ _) | refine zX ?_ | (refine zC ?_; intro _ _ _ _) | (refine zS ?_; intro _ _) | (apply Ws <;> intro hg))
  exact Ends.ret1 rfl ⟨rfl, rfl⟩
/-- No number is smaller than the one before it. -/
def ascB (l : List Nat) : Bool := (List.range (l.length - 1)).all fun i => decide (l.getD i 0 ≤ l.getD (i + 1) 0)
theorem ascB_iff {l : List Nat} : ascB l = true ↔ ∀ i, i + 1 < l.length → l.getD i 0 ≤ l.getD (i + 1) 0 := by
  simp only [ascB, List.all_eq_true, List.mem_range, decide_eq_true_eq]
  exact ⟨fun h i hi => h i (by omega), fun h i hi => h i (by omega)⟩
theorem IsSorted_fs (hH : hasH M n0 H) {l : List Nat} (hS : Sl M 1 v (nodes l)) (hl : l.length ≤ 100000) :
    FS C 45 [v] H (fun e H' => e = .bool (ascB l) ∧ H' = H) := by
  refine FS.intro (pf := pf45) rfl rfl rfl ?_
  repeat' (first | refine zP ?_ | refine zA ?_ | (refine zM ?_; intro _ _) | refine zX ?_ | (refine zC ?_; intro _ _ _ _) | (refine zS ?_; intro _ _) | (apply Ws <;> intro hg))
  refine WC.loopX [(0, v)] (fun k : Nat => [(3, .int .i64 ((k : Int) - 1))]) [] (fun k H' => H' = H ∧ k ≤ l.length ∧ ∀ i, k ≤ i + 1 → i + 1 < l.length → l.getD i 0 ≤ l.getD (i + 1) 0) (fun k => k) l.length (by repeat' (first | exact .nil | refine .cons rfl ?_)) rfl ⟨rfl, Nat.le_refl _, fun i h1 h2 => by omega⟩ ?_
  rintro k H' ⟨rfl, hk, ha⟩
  dsimp only [List.cons_append, List.nil_append]
  repeat' (first | refine zP ?_ | refine zA ?_ | (refine zM ?_; intro _ _) | refine zX ?_ | (refine zC ?_; intro _ _ _ _) | (refine zS ?_; intro _ _) | (apply Ws <;> intro hg))
  refine WC.condP rfl (fun hg0 => ?_) (fun hg0 => ?_)
  · obtain ⟨j, rfl⟩ : ∃ j, k = j + 2 := ⟨k - 2, by omega⟩
    rw [show ((j + 2 : Nat) : Int) - 1 = ((j + 1 : Nat) : Int) by omega]
    repeat' (first | refine zP ?_ | refine zA ?_ | (refine zM ?_; intro _ _) | refine zX ?_ | (refine zC ?_; intro _ _ _ _) | (refine zS ?_; intro _ _) | (apply Ws <;> intro hg))
    refine WR.call (by first | exact gN | exact gS rfl) rfl rfl (Less_fs _ _ _) ?_
    rintro _ _ ⟨rfl, rfl⟩
    have e1 : j + 1 - 1 = j := by omega
    repeat' (first | refine zP ?_ | refine zA ?_ | (refine zM ?_; intro _ _) | refine zX ?_ | (refine zC ?_; intro _ _ _ _) | (refine zS ?_; intro _ _) | (apply Ws <;> intro hg))
    refine WC.condP rfl (fun hlt => ?_) (fun hlt => ?_)
    · repeat' (first | refine zP ?_ | refine zA ?_ | (refine zM ?_; intro _ _) | refine zX ?_ | (refine zC ?_; intro _ _ _ _) | (refine zS ?_; intro _ _) | (apply Ws <;> intro hg))
      refine Ends.ret1 rfl ⟨?_, rfl⟩
      rw [e1] at hlt
      cases hb : ascB l with
      | false => rfl
      | true => have := ascB_iff.1 hb j (by omega); omega
    · repeat' (first | refine zP ?_ | refine zA ?_ | (refine zM ?_; intro _ _) | refine zX ?_ | (refine zC ?_; intro _ _ _ _) | (refine zS ?_; intro _ _) | (apply Ws <;> intro hg))
      rw [e1] at hlt
      refine Ends.loop (j + 1) (by omega) (by repeat' (first | exact .nil | refine .cons rfl ?_)) rfl ⟨rfl, by omega, fun i h1 h2 => ?_⟩
      by_cases h3 : i = j
      · subst h3; omega
      · exact ha i (by omega) h2
  · repeat' (first | refine zP ?_ | refine zA ?_ | (refine zM ?_; intro _ _) | refine zX ?_ | (refine zC ?_; intro _ _ _ _) | (refine zS ?_; intro _ _) | (apply Ws <;> intro hg))
    refine Ends.ret1 rfl ⟨?_, rfl⟩
    rw [ascB_iff.2 fun i hi => ha i (by omega) hi]
end
end Go.Proofs.Ytfnflkcjhefddaa.Lk

/- A basin's methods. -/
namespace Go.Proofs.Ytfnflkcjhefddaa.Lk
open Go Go.Abs Go.Mth
set_option linter.unusedVariables false
set_option linter.unusedSimpArgs false
abbrev ptrO (b o : Nat) : Value := .pointer (some ⟨b, o, some 0⟩)
theorem cell_row {M : HL} {b o e : Nat} {cs : List Value} {v : Value} (hm : (b, Ch.row e 0 0 cs) ∈ M) (hc : cs[o]? = some v) : Cell M b o 0 v := ⟨_, 0, cs, hm, .row _ _ _ _, Nat.zero_le _, hc⟩
attribute [local irreducible] gOK WS WC WR WD Ends FS YS OpV seqK blockK loopK midK retK rdK asgK rangeEnd sat Cell
section
variable {M : HL} {n0 : Nat} {H : Heap} {v w : Value}
theorem isEmpty_fs (hH : hasH M n0 H) {b o : Nat} {S : List Value} (hc : Cell M b o 0 v) (hS : Sl M 1 v S) :
    FS C 95 [ptrO b o] H (fun e H' => H' = H ∧ e = .bool (decide (S.length = 0))) := by
  refine FS.intro (pf := pf95) rfl rfl rfl ?_
  repeat' (first | refine zP ?_ | refine zA ?_ | (refine zM ?_; intro _ _) | refine zX ?_ | (refine zC ?_; intro _ _ _ _) | (refine zS ?_; intro _ _) | (apply Ws <;> intro hg))
  exact Ends.ret1 rfl ⟨rfl, by congr 1; rw [decide_eq_decide]; omega⟩
theorem last_fs (hH : hasH M n0 H) {b o : Nat} {S : List Value} {y : Value} (hc : Cell M b o 0 v) (hS : Sl M 1 v (S ++ [y])) (hb : S.length ≤ 10000) :
    FS C 96 [ptrO b o] H (fun e H' => H' = H ∧ e = y) := by
  refine FS.intro (pf := pf96) rfl rfl rfl ?_
  have hl : ((S ++ [y]).length : Int) = (S.length : Int) + 1 := by simp
  have h1 : S.length < (S ++ [y]).length := by simp
  have hg : (S ++ [y]).getD S.length undef = y := getD_snoc
  generalize S ++ [y] = Q at hS hl h1 hg
  repeat' (first | refine zP ?_ | refine zA ?_ | (refine zM ?_; intro _ _) | refine zX ?_ | (refine zC ?_; intro _ _ _ _) | (refine zS ?_; intro _ _) | (apply Ws <;> intro hg))
  rw [hl]
  repeat' (first | refine zP ?_ | refine zA ?_ | (refine zM ?_; intro _ _) | refine zX ?_ | (refine zC ?_; intro _ _ _ _) | (refine zS ?_; intro _ _) | (apply Ws <;> intro hg))
  rw [show (S.length : Int) + 1 - 1 = (S.length : Int) by omega]
  repeat' (first | refine zP ?_ | refine zA ?_ | (refine zM ?_; intro _ _) | refine zX ?_ | (refine zC ?_; intro _ _ _ _) | (refine zS ?_; intro _ _) | (apply Ws <;> intro hg))
  exact Ends.ret1 rfl ⟨rfl, hg⟩
theorem StkO.len {e : Nat} {v : Value} {S : List Value} {Mx : HL} (h : StkO e v S Mx) : S.length ≤ 10000 := by
  cases h with
  | nil => simp
  | mk hl hS hc hb => have := hc.le; omega
theorem take_fs {e b o : Nat} {cs : List Value} {Mx : HL} {S : List Value} {y : Value} (hO : StkO 3 v (S ++ [y]) Mx) (hH : hasH ((b, .row e 0 0 cs) :: (Mx ++ M)) n0 H) (hc : cs[o]? = some v) :
    FS C 97 [ptrO b o] H (fun r H' => r = y ∧ ∃ v', StkO 3 v' S Mx ∧ hasH ((b, .row e 0 0 (cs.set o v')) :: (Mx ++ M)) n0 H') := by
  have hS := (hO.sl M).cons (p := (b, Ch.row e 0 0 cs))
  have hC := cell_row (M := (b, Ch.row e 0 0 cs) :: (Mx ++ M)) (.head _) hc
  have ho : o < cs.length := (List.getElem?_eq_some_iff.1 hc).1
  refine FS.intro (pf := pf97) rfl rfl rfl ?_
  repeat' (first | refine zP ?_ | refine zA ?_ | (refine zM ?_; intro _ _) | refine zX ?_ | (refine zC ?_; intro _ _ _ _) | (refine zS ?_; intro _ _) | (apply Ws <;> intro hg))
  have hb := StkO.len hO
  rw [List.length_append, List.length_singleton] at hb
  refine WR.call (by first | exact gN | exact gS rfl) rfl rfl (last_fs hH hC hS (by omega)) ?_
  rintro r _ ⟨rfl, hr⟩
  rw [hr]
  have hl : ((S ++ [y]).length : Int) = (S.length : Int) + 1 := by simp
  repeat' (first | refine zP ?_ | refine zA ?_ | (refine zM ?_; intro _ _) | refine zX ?_ | (refine zC ?_; intro _ _ _ _) | (refine zS ?_; intro _ _) | (apply Ws <;> intro hg))
  rw [hl]
  repeat' (first | refine zP ?_ | refine zA ?_ | (refine zM ?_; intro _ _) | refine zX ?_ | (refine zC ?_; intro _ _ _ _) | (refine zS ?_; intro _ _) | (apply Ws <;> intro hg))
  rw [show (S.length : Int) + 1 - 1 = (S.length : Int) by omega]
  refine WR.popO (by first | exact gN | exact gS rfl) rfl rfl hO rfl fun v' h2 => ?_
  repeat' (first | refine zP ?_ | refine zA ?_ | (refine zM ?_; intro _ _) | refine zX ?_ | (refine zC ?_; intro _ _ _ _) | (refine zS ?_; intro _ _) | (apply Ws <;> intro hg))
  refine WR.store1 (M' := (b, .row e 0 0 (cs.set o v')) :: (Mx ++ M)) (by first | exact gN | exact gS rfl) hH rfl rfl h2.one_ .here (Nat.zero_le _) (by simpa using ho) (by simp) fun H2 hH2 => ?_
  repeat' (first | refine zP ?_ | refine zA ?_ | (refine zM ?_; intro _ _) | refine zX ?_ | (refine zC ?_; intro _ _ _ _) | (refine zS ?_; intro _ _) | (apply Ws <;> intro hg))
  exact Ends.ret1 rfl ⟨rfl, v', h2, hH2⟩
theorem bring_fs {e b o : Nat} {cs : List Value} {Mx : HL} {S : List Value} {a : Nat} (hO : StkO 3 v S Mx) (hH : hasH ((b, .row e 0 0 cs) :: (Mx ++ M)) n0 H) (hc : cs[o]? = some v) (hl : S.length ≤ 9000) :
    FS C 98 [ptrO b o, .int .i64 (a : Int)] H (fun r H' => ∃ v' Mx' n', StkO 3 v' (S ++ [.int .i64 (a : Int)]) Mx' ∧ n0 ≤ n' ∧ hasH ((b, .row e 0 0 (cs.set o v')) :: (Mx' ++ M)) n' H') := by
  have hC := cell_row (M := (b, Ch.row e 0 0 cs) :: (Mx ++ M)) (.head _) hc
  have ho : o < cs.length := (List.getElem?_eq_some_iff.1 hc).1
  refine FS.intro (pf := pf98) rfl rfl rfl ?_
  repeat' (first | refine zP ?_ | refine zA ?_ | (refine zM ?_; intro _ _) | refine zX ?_ | (refine zC ?_; intro _ _ _ _) | (refine zS ?_; intro _ _) | (apply Ws <;> intro hg))
  refine WR.push [(b, Ch.row e 0 0 cs)] Mx M rfl rfl rfl rfl hO hH rfl rfl hl fun v' Mx' n' H1 h1 hH1 hn => ?_
  repeat' (first | refine zP ?_ | refine zA ?_ | (refine zM ?_; intro _ _) | refine zX ?_ | (refine zC ?_; intro _ _ _ _) | (refine zS ?_; intro _ _) | (apply Ws <;> intro hg))
  refine WR.store1 (M' := (b, .row e 0 0 (cs.set o v')) :: (Mx' ++ M)) (by first | exact gN | exact gS rfl) hH1 rfl rfl h1.one_ .here (Nat.zero_le _) (by simpa using ho) (by simp) fun H2 hH2 => ?_
  repeat' (first | refine zP ?_ | refine zA ?_ | (refine zM ?_; intro _ _) | refine zX ?_ | (refine zC ?_; intro _ _ _ _) | (refine zS ?_; intro _ _) | (apply Ws <;> intro hg))
  exact Ends.end0 ⟨v', Mx', n', h1, hn, hH2⟩
end
end Go.Proofs.Ytfnflkcjhefddaa.Lk

/- Barges are brought in and taken out. -/
namespace Go.Proofs.Ytfnflkcjhefddaa.Lk
open Go Go.Abs Go.Mth
set_option linter.unusedVariables false
set_option linter.unusedSimpArgs false
/-- Two basins in memory. -/
def BB (b : Nat) (p q : List Nat) (M : HL) (n : Nat) (H : Heap) : Prop := ∃ v0 v1 M0 M1, StkO 3 v0 (nodes p.reverse) M0 ∧ StkO 3 v1 (nodes q.reverse) M1 ∧ hasH ((b, .row 109 0 0 [v0, v1]) :: (M0 ++ (M1 ++ M))) n H
def tkB (p q : List Nat) (a : Nat) : Bool := decide (p.head? = some a) || decide (q.head? = some a)
def tkP (p : List Nat) (a : Nat) : List Nat := if p.head? = some a then p.tail else p
def tkQ (p q : List Nat) (a : Nat) : List Nat := if p.head? = some a then q else if q.head? = some a then q.tail else q
theorem nodes_snoc (l : List Nat) (x : Nat) : nodes (l ++ [x]) = nodes l ++ [.int .i64 (x : Int)] := by simp [nodes]
theorem nodes_cons_rev (l : List Nat) (x : Nat) : nodes (x :: l).reverse = nodes l.reverse ++ [.int .i64 (x : Int)] := by rw [List.reverse_cons, nodes_snoc]
theorem nodes_len' (l : List Nat) : (nodes l).length = l.length := by simp [nodes]
/-- The first two parts change places. -/
theorem swap2 {p : Nat × Ch} {A B M : HL} {n : Nat} {H : Heap} (h : hasH (p :: (A ++ (B ++ M))) n H) : hasH (p :: (B ++ (A ++ M))) n H :=
  h.perm (.cons _ (List.perm_append_comm_assoc A B M))
attribute [local irreducible] gOK WS WC WR WD Ends FS YS OpV seqK blockK loopK midK retK rdK asgK rangeEnd sat Cell
section
variable {M : HL} {n0 : Nat} {H : Heap} {v w : Value}
end
end Go.Proofs.Ytfnflkcjhefddaa.Lk

/- Barges are brought in, and taken out as soon as they can be. -/
namespace Go.Proofs.Ytfnflkcjhefddaa.Lk
open Go Go.Abs Go.Mth
set_option linter.unusedVariables false
set_option linter.unusedSimpArgs false
/-- What is told of each move. -/
def TellK (fn : Nat) (caps : List Value) (J : List (Nat × Nat) → HL → Prop) (M : HL) : Prop := ∀ (tr : List (Nat × Nat)) (Mj F : HL) (n : Nat) (H : Heap) (a x : Nat), J tr Mj → tr.length ≤ 100 → (a = 105 ∨ a = 111) → hasH (F ++ (Mj ++ M)) n H →
  FS C fn ([] ++ [.int .u8 (a : Int), .int .i64 (x : Int)] ++ caps) H (fun e H' => ∃ Mj' n', J (tr ++ [(a, x)]) Mj' ∧ n ≤ n' ∧ hasH (F ++ (Mj' ++ M)) n' H')
theorem BB.tell {fn : Nat} {caps : List Value} {J : List (Nat × Nat) → HL → Prop} {M Mj : HL} {b n : Nat} {H : Heap} {p q : List Nat} {tr : List (Nat × Nat)} (hT : TellK fn caps J M) (h : BB b p q (Mj ++ M) n H) (hJ : J tr Mj) (hl : tr.length ≤ 100) (a x : Nat) (ha : a = 105 ∨ a = 111) :
    FS C fn ([] ++ [.int .u8 (a : Int), .int .i64 (x : Int)] ++ caps) H (fun e H' => ∃ Mj' n', J (tr ++ [(a, x)]) Mj' ∧ n ≤ n' ∧ BB b p q (Mj' ++ M) n' H') := by
  obtain ⟨v0, v1, M0, M1, hp, hq, hH⟩ := h
  refine (hT tr Mj ((b, .row 109 0 0 [v0, v1]) :: (M0 ++ M1)) n H a x hJ hl ha (by rw [List.cons_append, List.append_assoc]; exact hH)).mono ?_
  rintro e H' ⟨Mj', n', h1, h2, h3⟩
  refine ⟨Mj', n', h1, h2, v0, v1, M0, M1, hp, hq, ?_⟩
  rw [List.cons_append, List.append_assoc] at h3
  exact h3
theorem BB.bring {M : HL} {b n o : Nat} {H : Heap} {p q : List Nat} (h : BB b p q M n H) (x : Nat) (ho : o < 2) (hl : p.length ≤ 1000 ∧ q.length ≤ 1000) :
    FS C 98 [ptrO b o, .int .i64 (x : Int)] H (fun e H' => ∃ n', n ≤ n' ∧ BB b (if o = 0 then x :: p else p) (if o = 0 then q else x :: q) M n' H') := by
  obtain ⟨v0, v1, M0, M1, hp, hq, hH⟩ := h
  rcases (show o = 0 ∨ o = 1 by omega) with rfl | rfl
  · refine (bring_fs hp hH rfl (by simp; omega)).mono ?_
    rintro e H' ⟨v', Mx', n', h1, h2, h3⟩
    refine ⟨n', h2, v', v1, Mx', M1, ?_, hq, h3⟩
    rw [if_pos rfl, nodes_cons_rev]; exact h1
  · refine (bring_fs hq (swap2 hH) rfl (by simp; omega)).mono ?_
    rintro e H' ⟨v', Mx', n', h1, h2, h3⟩
    refine ⟨n', h2, v0, v', M0, Mx', hp, ?_, swap2 h3⟩
    rw [if_neg (by decide), nodes_cons_rev]; exact h1
theorem BB.sl {M : HL} {b n : Nat} {H : Heap} {p q : List Nat} (h : BB b p q M n H) : ∃ U, hasH U n H ∧ ∀ z ∈ M, z ∈ U := by
  obtain ⟨v0, v1, M0, M1, hp, hq, hH⟩ := h
  exact ⟨_, hH, fun z hz => List.mem_cons_of_mem _ (List.mem_append_right _ (List.mem_append_right _ hz))⟩
structure FX where
  k : Nat
  vw : Value
  Mj : HL
  n : Nat
structure FY where
  p : List Nat
  q : List Nat
  ws : List Nat
  tr : List (Nat × Nat)
  vw : Value
  Mj : HL
  n : Nat
attribute [local irreducible] gOK WS WC WR WD Ends FS YS OpV seqK blockK loopK midK retK rdK asgK rangeEnd sat Cell
section
variable {M : HL} {n0 : Nat} {H : Heap} {v w : Value}
end
end Go.Proofs.Ytfnflkcjhefddaa.Lk

/- A pass: what leaves, and in which order. -/
namespace Go.Proofs.Ytfnflkcjhefddaa.Lk
open Go Go.Abs Go.Mth
set_option linter.unusedVariables false
set_option linter.unusedSimpArgs false
/-- The moves of a pass, with what lies in the basin (what is on top first) and what still comes. -/
def runTr : List Nat → List Nat → List (Nat × Nat)
  | st, [] => st.map fun y => (111, y)
  | st, x :: xs => (st.takeWhile fun y => decide (y < x)).map (fun y => (111, y)) ++ (105, x) :: runTr (x :: st.dropWhile fun y => decide (y < x)) xs
/-- What leaves. -/
def runS : List Nat → List Nat → List Nat
  | st, [] => st
  | st, x :: xs => (st.takeWhile fun y => decide (y < x)) ++ runS (x :: st.dropWhile fun y => decide (y < x)) xs
def outsT (tr : List (Nat × Nat)) : List Nat := (tr.filter fun e => decide (e.1 = 111)).map (·.2)
theorem outsT_app (a b : List (Nat × Nat)) : outsT (a ++ b) = outsT a ++ outsT b := by simp [outsT]
theorem outsT_map (l : List Nat) : outsT (l.map fun y => (111, y)) = l := by
  induction l with
  | nil => rfl
  | cons a l ih => simp only [outsT, List.map_cons, List.filter_cons] at ih ⊢; simp [ih]
theorem outs_run : ∀ (xs st : List Nat), outsT (runTr st xs) = runS st xs
  | [], st => outsT_map st
  | x :: xs, st => by
    simp only [runTr, runS]
    rw [outsT_app, outsT_map]
    congr 1
    have : outsT ((105, x) :: runTr (x :: st.dropWhile fun y => decide (y < x)) xs) = outsT (runTr (x :: st.dropWhile fun y => decide (y < x)) xs) := by simp [outsT]
    rw [this, outs_run]
theorem runTr_len : ∀ (xs st : List Nat), (runTr st xs).length = st.length + 2 * xs.length
  | [], st => by simp [runTr]
  | x :: xs, st => by
    have := congrArg List.length (List.takeWhile_append_dropWhile (p := fun y => decide (y < x)) (l := st))
    simp only [List.length_append] at this
    simp only [runTr, List.length_append, List.length_map, List.length_cons, runTr_len]
    omega
theorem run_no {st : List Nat} {x : Nat} (h : ∀ y, st.head? = some y → ¬ y < x) (xs : List Nat) : runTr st (x :: xs) = (105, x) :: runTr (x :: st) xs := by
  cases st with
  | nil => rfl
  | cons y st =>
    have : decide (y < x) = false := decide_eq_false (h y rfl)
    simp only [runTr, List.takeWhile_cons, List.dropWhile_cons, this]
    rfl
theorem run_yes {st : List Nat} {x y : Nat} (h : y < x) (xs : List Nat) : runTr (y :: st) (x :: xs) = (111, y) :: runTr st (x :: xs) := by
  have : decide (y < x) = true := decide_eq_true h
  simp only [runTr, List.takeWhile_cons, List.dropWhile_cons, this]
  rfl
def passF (l : List Nat) : List Nat := runS [] l
theorem runS_perm : ∀ (xs st : List Nat), (runS st xs).Perm (st ++ xs)
  | [], st => by simp [runS]
  | x :: xs, st => by
    simp only [runS]
    refine (List.Perm.append_left _ (runS_perm xs _)).trans ?_
    have e : st = (st.takeWhile fun y => decide (y < x)) ++ (st.dropWhile fun y => decide (y < x)) := List.takeWhile_append_dropWhile.symm
    generalize (st.takeWhile fun y => decide (y < x)) = a at e ⊢
    generalize (st.dropWhile fun y => decide (y < x)) = b at e ⊢
    subst e
    rw [List.append_assoc]
    refine List.Perm.append_left _ ?_
    exact List.perm_middle.symm
theorem passF_perm (l : List Nat) : (passF l).Perm l := by have := runS_perm l []; simpa [passF] using this
theorem passF_len (l : List Nat) : (passF l).length = l.length := (passF_perm l).length_eq
theorem passF_ord {l : List Nat} (h : OrdN l) : OrdN (passF l) := by
  have hp := passF_perm l
  have hl := passF_len l
  exact ⟨by rw [hl]; exact h.one, by rw [hl]; exact h.most, fun x hx => by rw [hl]; exact h.lt x (hp.mem_iff.1 hx), hp.nodup_iff.2 h.nodup⟩
/-- A barge at the bottom that is greater than all that come stays there. -/
theorem runS_bot {m : Nat} {bot : List Nat} : ∀ (xs st : List Nat), (∀ x ∈ xs, x < m) → runS (st ++ m :: bot) xs = runS st xs ++ m :: bot
  | [], st, _ => rfl
  | x :: xs, st, h => by
    have hx := h x (by simp)
    have hm : decide (m < x) = false := decide_eq_false (by omega)
    have h1 : (st ++ m :: bot).takeWhile (fun y => decide (y < x)) = st.takeWhile fun y => decide (y < x) := by
      rw [List.takeWhile_append]
      split
      · rw [List.takeWhile_cons, hm]
        rename_i e
        simp
        exact (List.takeWhile_prefix _).eq_of_length e |>.symm
      · rfl
    have h2 : (st ++ m :: bot).dropWhile (fun y => decide (y < x)) = (st.dropWhile fun y => decide (y < x)) ++ m :: bot := by
      rw [List.dropWhile_append]
      split
      · rename_i e
        rw [List.isEmpty_iff] at e
        rw [e, List.dropWhile_cons, hm]; simp
      · rfl
    simp only [runS, h1, h2]
    rw [← List.cons_append, runS_bot xs _ (fun y hy => h y (by simp [hy])), List.append_assoc]
theorem takeWhile_all {p : Nat → Bool} : ∀ {l : List Nat}, (∀ y ∈ l, p y = true) → l.takeWhile p = l
  | [], _ => rfl
  | a :: l, h => by rw [List.takeWhile_cons, if_pos (h a (by simp)), takeWhile_all fun y hy => h y (by simp [hy])]
theorem runS_split {m : Nat} {R : List Nat} (hR : ∀ x ∈ R, x < m) : ∀ (L st : List Nat), (∀ x ∈ L, x < m) → (∀ x ∈ st, x < m) → runS st (L ++ m :: R) = runS st L ++ (runS [] R ++ [m])
  | [], st, _, hs => by
    have h1 : st.takeWhile (fun y => decide (y < m)) = st := takeWhile_all fun y hy => decide_eq_true (hs y hy)
    have h2 : st.dropWhile (fun y => decide (y < m)) = [] := by
      have := congrArg List.length (List.takeWhile_append_dropWhile (p := fun y => decide (y < m)) (l := st))
      rw [h1, List.length_append] at this
      exact List.length_eq_zero_iff.1 (by omega)
    have h3 := runS_bot (m := m) (bot := []) R [] hR
    simp only [List.nil_append, runS, h1, h2] at h3 ⊢
    rw [h3]
  | x :: L, st, hL, hs => by
    simp only [List.cons_append, runS]
    rw [runS_split hR L _ (fun y hy => hL y (by simp [hy])) (fun y hy => ?_), List.append_assoc]
    rcases List.mem_cons.1 hy with rfl | hy
    · exact hL _ (by simp)
    · exact hs y ((List.dropWhile_sublist _).subset hy)
/-- P11.8. -/
theorem passF_split {m : Nat} {L R : List Nat} (hL : ∀ x ∈ L, x < m) (hR : ∀ x ∈ R, x < m) : passF (L ++ m :: R) = passF L ++ passF R ++ [m] := by
  unfold passF
  rw [runS_split hR L [] hL (fun x h => by simp at h), List.append_assoc]
end Go.Proofs.Ytfnflkcjhefddaa.Lk

/- A pass is made. -/
namespace Go.Proofs.Ytfnflkcjhefddaa.Lk
open Go Go.Abs Go.Mth
set_option linter.unusedVariables false
set_option linter.unusedSimpArgs false
/-- One basin in memory. -/
def BP (b : Nat) (p : List Nat) (M : HL) (n : Nat) (H : Heap) : Prop := ∃ v M0, StkO 3 v (nodes p.reverse) M0 ∧ hasH ((b, .row 103 0 0 [v]) :: (M0 ++ M)) n H
theorem BP.tell {fn : Nat} {caps : List Value} {J : List (Nat × Nat) → HL → Prop} {M Mj : HL} {b n : Nat} {H : Heap} {p : List Nat} {tr : List (Nat × Nat)} (hT : TellK fn caps J M) (h : BP b p (Mj ++ M) n H) (hJ : J tr Mj) (hl : tr.length ≤ 100) (a x : Nat) (ha : a = 105 ∨ a = 111) :
    FS C fn ([] ++ [.int .u8 (a : Int), .int .i64 (x : Int)] ++ caps) H (fun e H' => ∃ Mj' n', J (tr ++ [(a, x)]) Mj' ∧ n ≤ n' ∧ BP b p (Mj' ++ M) n' H') := by
  obtain ⟨v, M0, hp, hH⟩ := h
  refine (hT tr Mj ((b, .row 103 0 0 [v]) :: M0) n H a x hJ hl ha hH).mono ?_
  rintro e H' ⟨Mj', n', h1, h2, h3⟩
  exact ⟨Mj', n', h1, h2, v, M0, hp, h3⟩
theorem BP.bring {M : HL} {b n : Nat} {H : Heap} {p : List Nat} (h : BP b p M n H) (x : Nat) (hl : p.length ≤ 1000) :
    FS C 98 [ptrO b 0, .int .i64 (x : Int)] H (fun e H' => ∃ n', n ≤ n' ∧ BP b (x :: p) M n' H') := by
  obtain ⟨v, M0, hp, hH⟩ := h
  refine (bring_fs hp hH rfl (by simp; omega)).mono ?_
  rintro e H' ⟨v', Mx', n', h1, h2, h3⟩
  refine ⟨n', h2, v', Mx', ?_, h3⟩
  rw [nodes_cons_rev]; exact h1
theorem BP.isEmpty {M : HL} {b n : Nat} {H : Heap} {p : List Nat} (h : BP b p M n H) :
    FS C 95 [ptrO b 0] H (fun e H' => H' = H ∧ e = .bool (decide (p = []))) := by
  obtain ⟨v, M0, hp, hH⟩ := h
  refine (isEmpty_fs hH (cell_row (.head _) rfl) (hp.sl _).cons).mono ?_
  rintro e H' ⟨h1, rfl⟩
  refine ⟨h1, ?_⟩
  congr 1
  rw [decide_eq_decide, nodes_len', List.length_reverse, List.length_eq_zero_iff]
theorem BP.last {M : HL} {b n x : Nat} {H : Heap} {p : List Nat} (h : BP b (x :: p) M n H) :
    FS C 96 [ptrO b 0] H (fun e H' => H' = H ∧ e = .int .i64 (x : Int)) := by
  obtain ⟨v, M0, hp, hH⟩ := h
  rw [nodes_cons_rev] at hp
  have hb := StkO.len hp
  rw [List.length_append, List.length_singleton] at hb
  exact last_fs hH (cell_row (.head _) rfl) (hp.sl _).cons (by omega)
theorem BP.take {M : HL} {b n x : Nat} {H : Heap} {p : List Nat} (h : BP b (x :: p) M n H) :
    FS C 97 [ptrO b 0] H (fun e H' => e = .int .i64 (x : Int) ∧ BP b p M n H') := by
  obtain ⟨v, M0, hp, hH⟩ := h
  rw [nodes_cons_rev] at hp
  refine (take_fs hp hH rfl).mono ?_
  rintro e H' ⟨h1, v', h2, h3⟩
  exact ⟨h1, v', M0, h2, h3⟩
theorem BP.sl {M : HL} {b n : Nat} {H : Heap} {p : List Nat} (h : BP b p M n H) : ∃ U, hasH U n H ∧ ∀ z ∈ M, z ∈ U := by
  obtain ⟨v, M0, hp, hH⟩ := h
  exact ⟨_, hH, fun z hz => List.mem_cons_of_mem _ (List.mem_append_right _ hz)⟩
structure PX where
  k : Nat
  st : List Nat
  tr : List (Nat × Nat)
  Mj : HL
  n : Nat
attribute [local irreducible] gOK WS WC WR WD Ends FS YS OpV seqK blockK loopK midK retK rdK asgK rangeEnd sat Cell
section
variable {M : HL} {n0 : Nat} {H : Heap} {v w : Value}
set_option maxHeartbeats 2000000 in
theorem pass_fs {fn : Nat} {caps : List Value} {J : List (Nat × Nat) → HL → Prop} (hT : TellK fn caps J M) {Mj : HL} (hJ : J [] Mj) {o : List Nat} {vo : Value} (ho : Sl M 1 vo (nodes o)) (hol : o.length ≤ 10) (hH : hasH (Mj ++ M) n0 H) :
    FS C 63 [vo, .func (.func fn) [].toArray caps.toArray] H (fun e H' => ∃ Mj' n', J (runTr [] o) Mj' ∧ n0 ≤ n' ∧ hasH (Mj' ++ M) n' H') := by
  have ho0 := ho.mono fun q hq => List.mem_append_right Mj hq
  refine FS.intro (pf := pf63) rfl rfl rfl ?_
  repeat' (first | refine zP ?_ | refine zA ?_ | (refine zM ?_; intro _ _) | refine zX ?_ | (refine zC ?_; intro _ _ _ _) | (refine zS ?_; intro _ _) | (apply Ws <;> intro hg))
  rename_i H1 hH1
  have ho1 := ho0.cons (p := (n0, Ch.row 103 0 0 [.slice none 0 0]))
  repeat' (first | refine zP ?_ | refine zA ?_ | (refine zM ?_; intro _ _) | refine zX ?_ | (refine zC ?_; intro _ _ _ _) | (refine zS ?_; intro _ _) | (apply Ws <;> intro hg))
  have hB1 : BP n0 [] (Mj ++ M) (n0 + 1) H1 := ⟨_, [], .nil, hH1⟩
  clear ho0 ho1 hH hH1
  refine WC.loopX [(1, .func (.func fn) [].toArray caps.toArray), (4, ptrO n0 0), (7, vo), (8, .int .i64 (o.length : Int))] (fun z : PX => [(9, .int .i64 (z.k : Int))]) []
    (fun z H' => z.k ≤ o.length ∧ z.st.length ≤ z.k ∧ z.tr ++ runTr z.st (o.drop z.k) = runTr [] o ∧ J z.tr z.Mj ∧ n0 ≤ z.n ∧ BP n0 z.st (z.Mj ++ M) z.n H') (fun z => o.length - z.k) ⟨0, [], [], Mj, n0 + 1⟩ (by repeat' (first | exact .nil | refine .cons rfl ?_)) rfl
    ⟨Nat.zero_le _, Nat.zero_le _, rfl, hJ, Nat.le_succ _, hB1⟩ ?_
  clear hB1 hJ
  rintro ⟨k, st, tr, Mj, n1⟩ H2 ⟨hk, hstl, htr, hJ, hn1, hB⟩
  simp only at hk hstl htr hJ hn1 hB
  have hlen := congrArg List.length htr
  rw [List.length_append, runTr_len, runTr_len, List.length_drop, List.length_nil] at hlen
  dsimp only [List.cons_append, List.nil_append]
  obtain ⟨U, hU, hMU⟩ := hB.sl
  have hoU := ho.mono fun q hq => hMU q (List.mem_append_right _ hq)
  repeat' (first | refine zP ?_ | refine zA ?_ | (refine zM ?_; intro _ _) | refine zX ?_ | (refine zC ?_; intro _ _ _ _) | (refine zS ?_; intro _ _) | (apply Ws <;> intro hg))
  refine WC.condP rfl (fun hlt => ?_) (fun hlt => ?_)
  · have hk' : k < o.length := by omega
    repeat' (first | refine zP ?_ | refine zA ?_ | (refine zM ?_; intro _ _) | refine zX ?_ | (refine zC ?_; intro _ _ _ _) | (refine zS ?_; intro _ _) | (apply Ws <;> intro hg))
    clear hU hoU hMU
    rw [List.drop_eq_getElem_cons hk', ← getD_eq (a := 0)] at htr
    have hx : o.getD k 0 = o.getD k 0 := rfl
    generalize o.getD k 0 = x at htr ⊢
    refine WC.loopX [(1, .func (.func fn) [].toArray caps.toArray), (4, ptrO n0 0), (7, vo), (8, .int .i64 (o.length : Int)), (9, .int .i64 (k : Int)), (6, .int .i64 (x : Int))] (fun z : PX => []) []
      (fun z H' => z.st.length ≤ k ∧ z.tr ++ runTr z.st (x :: o.drop (k + 1)) = runTr [] o ∧ J z.tr z.Mj ∧ n0 ≤ z.n ∧ BP n0 z.st (z.Mj ++ M) z.n H') (fun z => z.st.length) ⟨0, st, tr, Mj, n1⟩ (by repeat' (first | exact .nil | refine .cons rfl ?_)) rfl
      ⟨hstl, htr, hJ, hn1, hB⟩ ?_
    clear hB hJ htr hlen
    rintro ⟨_, st, tr, Mj, n1⟩ H3 ⟨hstl, htr, hJ, hn1, hB⟩
    simp only at hstl htr hJ hn1 hB
    have hlen := congrArg List.length htr
    rw [List.length_append, runTr_len, runTr_len, List.length_cons, List.length_drop, List.length_nil] at hlen
    dsimp only [List.cons_append, List.nil_append]
    repeat' (first | refine zP ?_ | refine zA ?_ | (refine zM ?_; intro _ _) | refine zX ?_ | (refine zC ?_; intro _ _ _ _) | (refine zS ?_; intro _ _) | (apply Ws <;> intro hg))
    refine WR.call (by first | exact gN | exact gS rfl) rfl rfl hB.isEmpty ?_
    rintro _ H4 ⟨rfl, rfl⟩
    cases st with
    | nil =>
      have hl0 : ([] : List Nat).length = 0 := rfl
      repeat' (first | refine zP ?_ | refine zA ?_ | (refine zM ?_; intro _ _) | refine zX ?_ | (refine zC ?_; intro _ _ _ _) | (refine zS ?_; intro _ _) | refine zO ?_ | (apply Ws <;> intro hg))
      refine WR.call (by first | exact gN | exact gS rfl) rfl rfl (hB.bring x (by omega)) ?_
      rintro _ H5 ⟨n5, hn5, hB5⟩
      repeat' (first | refine zP ?_ | refine zA ?_ | (refine zM ?_; intro _ _) | refine zX ?_ | (refine zC ?_; intro _ _ _ _) | (refine zS ?_; intro _ _) | (apply Ws <;> intro hg))
      refine WR.callV (by first | exact gN | exact gS rfl) rfl rfl rfl (hB5.tell hT hJ (by omega) 105 x (.inl rfl)) ?_
      rintro _ H6 ⟨Mj6, n6, hJ6, hn6, hB6⟩
      repeat' (first | refine zP ?_ | refine zA ?_ | (refine zM ?_; intro _ _) | refine zX ?_ | (refine zC ?_; intro _ _ _ _) | (refine zS ?_; intro _ _) | (apply Ws <;> intro hg))
      refine Ends.loop ⟨k + 1, x :: [], tr ++ [(105, x)], Mj6, n6⟩ (by simp only; omega) (by repeat' (first | exact .nil | refine .cons rfl ?_)) rfl ⟨hk', by simp only [List.length_cons] at hstl ⊢; omega, ?_, hJ6, by simp only; omega, hB6⟩
      simp only
      rw [← htr, run_no (fun y h => by simp at h)]; simp
    | cons y st =>
      have hl0 : (y :: st).length = st.length + 1 := rfl
      repeat' (first | refine zP ?_ | refine zA ?_ | (refine zM ?_; intro _ _) | refine zX ?_ | (refine zC ?_; intro _ _ _ _) | (refine zS ?_; intro _ _) | refine zO ?_ | (apply Ws <;> intro hg))
      refine WR.call (by first | exact gN | exact gS rfl) rfl rfl hB.last ?_
      rintro _ H7 ⟨rfl, rfl⟩
      by_cases hyx : y < x
      · repeat' (first | refine zP ?_ | refine zA ?_ | (refine zM ?_; intro _ _) | refine zX ?_ | (refine zC ?_; intro _ _ _ _) | (refine zS ?_; intro _ _) | refine zO ?_ | (apply Ws <;> intro hg))
        refine WR.call (by first | exact gN | exact gS rfl) rfl rfl hB.take ?_
        rintro _ H8 ⟨rfl, hB8⟩
        refine WR.callV (by first | exact gN | exact gS rfl) rfl rfl rfl (hB8.tell hT hJ (by omega) 111 y (.inr rfl)) ?_
        rintro _ H9 ⟨Mj9, n9, hJ9, hn9, hB9⟩
        repeat' (first | refine zP ?_ | refine zA ?_ | (refine zM ?_; intro _ _) | refine zX ?_ | (refine zC ?_; intro _ _ _ _) | (refine zS ?_; intro _ _) | (apply Ws <;> intro hg))
        refine Ends.loop ⟨0, st, tr ++ [(111, y)], Mj9, n9⟩ (by simp only [hl0]; omega) (by repeat' (first | exact .nil | refine .cons rfl ?_)) rfl ⟨by simp only; omega, ?_, hJ9, by simp only; omega, hB9⟩
        simp only
        rw [← htr, run_yes hyx]; simp
      · repeat' (first | refine zP ?_ | refine zA ?_ | (refine zM ?_; intro _ _) | refine zX ?_ | (refine zC ?_; intro _ _ _ _) | (refine zS ?_; intro _ _) | refine zO ?_ | (apply Ws <;> intro hg))
        refine WR.call (by first | exact gN | exact gS rfl) rfl rfl (hB.bring x (by omega)) ?_
        rintro _ H5 ⟨n5, hn5, hB5⟩
        repeat' (first | refine zP ?_ | refine zA ?_ | (refine zM ?_; intro _ _) | refine zX ?_ | (refine zC ?_; intro _ _ _ _) | (refine zS ?_; intro _ _) | (apply Ws <;> intro hg))
        refine WR.callV (by first | exact gN | exact gS rfl) rfl rfl rfl (hB5.tell hT hJ (by omega) 105 x (.inl rfl)) ?_
        rintro _ H6 ⟨Mj6, n6, hJ6, hn6, hB6⟩
        repeat' (first | refine zP ?_ | refine zA ?_ | (refine zM ?_; intro _ _) | refine zX ?_ | (refine zC ?_; intro _ _ _ _) | (refine zS ?_; intro _ _) | (apply Ws <;> intro hg))
        refine Ends.loop ⟨k + 1, x :: (y :: st), tr ++ [(105, x)], Mj6, n6⟩ (by simp only; omega) (by repeat' (first | exact .nil | refine .cons rfl ?_)) rfl ⟨hk', by simp only [List.length_cons] at hstl ⊢; omega, ?_, hJ6, by simp only; omega, hB6⟩
        simp only
        rw [← htr, run_no (fun z h => by simp at h; omega)]; simp
  · have hkn : k = o.length := by omega
    subst hkn
    rw [List.drop_length] at htr
    repeat' (first | refine zP ?_ | refine zA ?_ | (refine zM ?_; intro _ _) | refine zX ?_ | (refine zC ?_; intro _ _ _ _) | (refine zS ?_; intro _ _) | (apply Ws <;> intro hg))
    clear hU hoU hMU
    refine WC.loopX [(1, .func (.func fn) [].toArray caps.toArray), (4, ptrO n0 0)] (fun z : PX => []) []
      (fun z H' => z.tr ++ z.st.map (fun y => (111, y)) = runTr [] o ∧ J z.tr z.Mj ∧ n0 ≤ z.n ∧ BP n0 z.st (z.Mj ++ M) z.n H') (fun z => z.st.length) ⟨0, st, tr, Mj, n1⟩ (by repeat' (first | exact .nil | refine .cons rfl ?_)) rfl
      ⟨htr, hJ, hn1, hB⟩ ?_
    clear hB hJ htr hlen hstl hn1
    rintro ⟨_, st, tr, Mj, n1⟩ H3 ⟨htr, hJ, hn1, hB⟩
    simp only at htr hJ hn1 hB
    have hlen := congrArg List.length htr
    rw [List.length_append, runTr_len, List.length_map, List.length_nil] at hlen
    dsimp only [List.cons_append, List.nil_append]
    repeat' (first | refine zP ?_ | refine zA ?_ | (refine zM ?_; intro _ _) | refine zX ?_ | (refine zC ?_; intro _ _ _ _) | (refine zS ?_; intro _ _) | (apply Ws <;> intro hg))
    refine WR.call (by first | exact gN | exact gS rfl) rfl rfl hB.isEmpty ?_
    rintro _ H4 ⟨rfl, rfl⟩
    cases st with
    | nil =>
      repeat' (first | refine zP ?_ | refine zA ?_ | (refine zM ?_; intro _ _) | refine zX ?_ | (refine zC ?_; intro _ _ _ _) | (refine zS ?_; intro _ _) | refine zO ?_ | (apply Ws <;> intro hg))
      obtain ⟨v, M0, hp, hH⟩ := hB
      rw [List.map_nil, List.append_nil] at htr
      exact Ends.end0 ⟨Mj, n1, htr ▸ hJ, hn1, hH.sub ((List.sublist_append_right M0 _).cons _)⟩
    | cons y st =>
      have hl0 : (y :: st).length = st.length + 1 := rfl
      repeat' (first | refine zP ?_ | refine zA ?_ | (refine zM ?_; intro _ _) | refine zX ?_ | (refine zC ?_; intro _ _ _ _) | (refine zS ?_; intro _ _) | refine zO ?_ | (apply Ws <;> intro hg))
      refine WR.call (by first | exact gN | exact gS rfl) rfl rfl hB.take ?_
      rintro _ H8 ⟨rfl, hB8⟩
      refine WR.callV (by first | exact gN | exact gS rfl) rfl rfl rfl (hB8.tell hT hJ (by omega) 111 y (.inr rfl)) ?_
      rintro _ H9 ⟨Mj9, n9, hJ9, hn9, hB9⟩
      repeat' (first | refine zP ?_ | refine zA ?_ | (refine zM ?_; intro _ _) | refine zX ?_ | (refine zC ?_; intro _ _ _ _) | (refine zS ?_; intro _ _) | (apply Ws <;> intro hg))
      refine Ends.loop ⟨0, st, tr ++ [(111, y)], Mj9, n9⟩ (by simp only [hl0]; omega) (by repeat' (first | exact .nil | refine .cons rfl ?_)) rfl ⟨?_, hJ9, by simp only; omega, hB9⟩
      simp only
      rw [← htr]; simp
end
end Go.Proofs.Ytfnflkcjhefddaa.Lk

/- Whether barges can leave in the ascending order. -/
namespace Go.Proofs.Ytfnflkcjhefddaa.Lk
open Go Go.Abs Go.Mth
set_option linter.unusedVariables false
set_option linter.unusedSimpArgs false
def ascT (o t : List Nat) : Bool := decide ((basK o t (List.range o.length) o.length).2.2 = [])
structure UX where
  k : Nat
  v : Value
  Mx : HL
  n : Nat
attribute [local irreducible] gOK WS WC WR WD Ends FS YS OpV seqK blockK loopK midK retK rdK asgK rangeEnd sat Cell
section
variable {M : HL} {n0 : Nat} {H : Heap} {v w : Value}
end
end Go.Proofs.Ytfnflkcjhefddaa.Lk

/- The order in which barges leave; how many passes. -/
namespace Go.Abs
set_option linter.unusedSectionVars false
open Go
section
variable [Globs] {C : CW} {nt : Nat} {L : Env} {D : List Nat} {H H' : Heap} {K : St → Prop} {M M' : HL} {n i d : Nat} {gd : Option (Tmp × Bool)} {lo : List Nat} {l : List POp} {rs : List Rd}
theorem WD.append {e sz : Nat} {s x : Operand} {v y : Value} {cs : List Value} {Mx M0 : HL} {k : Nat} {new : List Value} (hg : gOK L gd) (hd : Nat.blt d nt = true) (hs : ev L s = some v) (hy : ev L x = some y)
    (hO : Own e sz v cs Mx) (hH : hasH M n H) (hM : M'.Sublist M) (hp : M'.Perm (Mx ++ M0)) (hk : srcLen y = some k) (hx : srcCells H sz k y = some new) (hl : new.length = k * sz) (h1 : 1 ≤ k) (hone : new.all one = true) (hs1 : 1 ≤ sz) (hs2 : sz ≤ 1000)
    (hsm : cs.length + new.length ≤ 100000) (kk : ∀ v' Mx' n' H', OwnR e sz v' (cs ++ new) Mx' → hasH (Mx' ++ M0) n' H' → n ≤ n' → stands H' lo rs = true ∧ WD C nt l rs ((d, v') :: L) D H' K) :
    WD C nt (⟨i, some d, .append e sz s x, gd, lo⟩ :: l) rs L D H K := by
  obtain ⟨v', Mx', n', H', q1, q2, q3, q4⟩ := append_ownR (P := C.c.P) hO ((hH.sub hM).perm hp) hk hx hl h1 hone hs1 hs2 hsm
  obtain ⟨k1, k2⟩ := kk v' Mx' n' H' q2 q3 q4
  refine WD.op hg hd (H' := H') (v := v') (fun t ht => ?_) rfl k1 k2
  simp only [opA, ev_ok ht hs, ev_ok ht hy, q1]
/-- One element more, what was read before may be read after. -/
theorem WD.append1F {j d2 : Nat} {e : Nat} {z : List Value} {s x : Operand} {lo2 : List Nat} {v y : Value} {cs : List Value} {new : Value} (F Mx T : HL) (hd : Nat.blt d nt = true) (hd2 : Nat.blt d2 nt = true)
    (hx : ev L x = some y) (hs : ev ((d, .slice (some ⟨n, 0, some 0⟩) 1 (2 * 1 + 1)) :: L) s = some v) (hO : Own e 1 v cs Mx) (hH : hasH (F ++ (Mx ++ T)) n H)
    (hc : Instr.fill (fun j => some (j * 1, 1)) z.toArray [(0, y)] = some [new].toArray) (hone : one new = true) (hsm : cs.length + 1 ≤ 100000)
    (hst : ∀ H', hasH ((n, .row e 0 0 [new]) :: (F ++ (Mx ++ T))) (n + 1) H' → stands H' lo rs = true)
    (kk : ∀ v' Mx' n' H', OwnR e 1 v' (cs ++ [new]) Mx' → hasH (F ++ (Mx' ++ T)) n' H' → n ≤ n' → stands H' lo2 rs = true ∧ WD C nt l rs ((d2, v') :: (d, .slice (some ⟨n, 0, some 0⟩) 1 (2 * 1 + 1)) :: L) D H' K) :
    WD C nt (⟨i, some d, .bldS e 1 z 1 [(0, x)], none, lo⟩ :: ⟨j, some d2, .append e 1 s (.tmp d), none, lo2⟩ :: l) rs L D H K := by
  refine WD.bldS True.intro hd hH (vs := [(0, y)]) (by simp only [evp, hx]) hc (by simp [hone]) hst fun H1 hH1 => ?_
  have hx2 : srcCells H1 1 1 (.slice (some ⟨n, 0, some 0⟩) 1 (2 * 1 + 1)) = some [new] := by
    have := hH1.readN (b := n) (u := 0) (lo := 0) (o := 0) (k := 1 * 1) (ch := .row e 0 0 [new]) (cs := [new]) (by simp) (.row _ _ _ _) (Nat.le_refl _) (by simp)
    simpa [srcCells] using this
  have hy : ev ((d, .slice (some ⟨n, 0, some 0⟩) 1 (2 * 1 + 1)) :: L) (.tmp d) = some (.slice (some ⟨n, 0, some 0⟩) 1 (2 * 1 + 1)) := by simp [ev, Env.get]
  refine WD.append True.intro hd2 hs hy hO hH1 (M' := F ++ (Mx ++ T)) (List.sublist_cons_self _ _) (M0 := F ++ T) (List.perm_append_comm_assoc F Mx T) rfl hx2 (by simp) (Nat.le_refl _) (by simp [hone]) (Nat.le_refl _) (by omega) (by simpa using hsm) fun v' Mx' n' H' q1 q2 q3 => ?_
  exact kk v' Mx' n' H' q1 (q2.perm (List.perm_append_comm_assoc Mx' F T)) (by omega)

end
end Go.Abs
namespace Go.Proofs.Ytfnflkcjhefddaa.Lk
open Go Go.Abs Go.Mth
set_option linter.unusedVariables false
set_option linter.unusedSimpArgs false
def LeftJ (bl : Nat) (tr : List (Nat × Nat)) (Mj : HL) : Prop := ∃ lv Mo, Own 3 1 lv (nodes (outsT tr)) Mo ∧ Mj = (bl, Ch.row 22 0 0 [lv]) :: Mo
theorem outsT_in (tr : List (Nat × Nat)) (x : Nat) : outsT (tr ++ [(105, x)]) = outsT tr := by rw [outsT_app]; simp [outsT]
theorem outsT_out (tr : List (Nat × Nat)) (x : Nat) : outsT (tr ++ [(111, x)]) = outsT tr ++ [x] := by rw [outsT_app]; rfl
theorem outsT_le (tr : List (Nat × Nat)) : (outsT tr).length ≤ tr.length := by
  unfold outsT; rw [List.length_map]; exact List.length_filter_le _ _
attribute [local irreducible] gOK WS WC WR WD Ends FS YS OpV seqK blockK loopK midK retK rdK asgK rangeEnd sat Cell
section
variable {M : HL} {n0 : Nat} {H : Heap} {v w : Value}
set_option maxHeartbeats 1000000 in
theorem tell_left {bl bx : Nat} (hm : (bx, Ch.row 82 0 0 [ptrO bl 0]) ∈ M) : TellK 100 [ptrO bx 0] (LeftJ bl) M := by
  rintro tr Mj F n H a x ⟨lv, Mo, hO, rfl⟩ hl ha hH
  have hol := outsT_le tr
  refine FS.intro (pf := pf100) rfl rfl rfl ?_
  rcases ha with rfl | rfl
  · repeat' (first | refine zP ?_ | refine zA ?_ | (refine zM ?_; intro _ _) | refine zX ?_ | (refine zC ?_; intro _ _ _ _) | (refine zS ?_; intro _ _) | refine zO ?_ | (apply Ws <;> intro hg))
    exact Ends.end0 ⟨_, n, ⟨lv, Mo, by rw [outsT_in]; exact hO, rfl⟩, Nat.le_refl _, hH⟩
  · repeat' (first | refine zP ?_ | refine zA ?_ | (refine zM ?_; intro _ _) | refine zX ?_ | (refine zC ?_; intro _ _ _ _) | (refine zS ?_; intro _ _) | refine zO ?_ | (apply Ws <;> intro hg))
    have hlv := (hO.sl []).one_
    have hls := (hO.sl []).same
    have mX : (bx, Ch.row 82 0 0 [ptrO bl 0]) ∈ F ++ (((bl, Ch.row 22 0 0 [lv]) :: Mo) ++ M) := List.mem_append_right _ (List.mem_append_right _ hm)
    have mL : (bl, Ch.row 22 0 0 [lv]) ∈ F ++ (((bl, Ch.row 22 0 0 [lv]) :: Mo) ++ M) := List.mem_append_right _ (List.mem_append_left _ (.head _))
    have hsp : same1 (ptrO bl 0) (ptrO bl 0) = true := same_ptr _
    refine WC.regionD ?_
    refine WD.load1 (by first | exact gN | exact gS rfl) rfl rfl (hH.read mX (.row _ _ _ _) (Nat.zero_le _) rfl) ?_
    refine WD.load1 (by first | exact gN | exact gS rfl) rfl rfl (hH.read mX (.row _ _ _ _) (Nat.zero_le _) rfl) ?_
    repeat' (first | refine zD ?_ | (refine zE ?_; intro _ _ _ _))
    have hst : ∀ {Y : HL} {n' : Nat} {H' : Heap}, hasH Y n' H' → (bx, Ch.row 82 0 0 [ptrO bl 0]) ∈ Y → (bl, Ch.row 22 0 0 [lv]) ∈ Y → stands H' [0, 1, 3] [⟨3, ⟨bl, 0, some 0⟩, none, lv⟩, ⟨1, ⟨bx, 0, some 0⟩, none, ptrO bl 0⟩, ⟨0, ⟨bx, 0, some 0⟩, none, ptrO bl 0⟩] = true := fun h h1 h2 =>
      stands_cons (.inr (holds_at (h.read h2 (.row _ _ _ _) (Nat.zero_le _) rfl) hls)) (stands_cons (.inr (holds_at (h.read h1 (.row _ _ _ _) (Nat.zero_le _) rfl) hsp)) (stands_cons (.inr (holds_at (h.read h1 (.row _ _ _ _) (Nat.zero_le _) rfl) hsp)) stands_nil'))
    refine WD.append1F (new := .int .i64 (x : Int)) (F ++ [(bl, Ch.row 22 0 0 [lv])]) Mo M rfl rfl rfl rfl hO (by simpa using hH) rfl rfl (by simp; omega) (fun H' h' => hst h' (by simp [hm]) (by simp)) fun v' Mx' n' H2 hO2 hH2 hn2 => ⟨?_, ?_⟩
    · exact stands_cons (.inl rfl) (stands_cons (.inl rfl) (stands_cons (.inr (holds_at (hH2.read (b := bx) (ch := .row 82 0 0 [ptrO bl 0]) (by simp [hm]) (.row _ _ _ _) (Nat.zero_le _) rfl) hsp)) stands_nil'))
    refine WD.toWR rfl ?_
    repeat' (first | refine zP ?_ | refine zA ?_ | (refine zM ?_; intro _ _) | refine zX ?_ | (refine zC ?_; intro _ _ _ _) | (refine zS ?_; intro _ _) | (apply Ws <;> intro hg))
    have hH3 : hasH ((bl, .row 22 0 0 [lv]) :: (F ++ (Mx' ++ M))) n' H2 := hH2.perm (by classical exact List.perm_iff_count.2 (fun a => by simp only [defds, List.map_cons, List.map_nil, List.count_append, List.count_cons, List.count_nil, List.cons_append, List.nil_append, List.append_nil]; omega))
    refine WR.storeBox (by first | exact gN | exact gS rfl) hH3 rfl rfl (hO2.own.sl []).one_ .here fun H4 hH4 => ?_
    repeat' (first | refine zP ?_ | refine zA ?_ | (refine zM ?_; intro _ _) | refine zX ?_ | (refine zC ?_; intro _ _ _ _) | (refine zS ?_; intro _ _) | (apply Ws <;> intro hg))
    refine Ends.end0 ⟨(bl, Ch.row 22 0 0 [v']) :: Mx', n', ⟨v', Mx', ?_, rfl⟩, hn2, hH4.perm (by classical exact List.perm_iff_count.2 (fun a => by simp only [defds, List.map_cons, List.map_nil, List.count_append, List.count_cons, List.count_nil, List.cons_append, List.nil_append, List.append_nil]; omega))⟩
    rw [outsT_out, nodes_snoc]; exact hO2.own
theorem leavers_fs (hH : hasH M n0 H) (b : Nat) :
    FS C 66 [ptrO b 0] H (fun e H' => e = .func (.func 100) [].toArray [ptrO n0 0].toArray ∧ hasH ((n0, .row 82 0 0 [ptrO b 0]) :: M) (n0 + 1) H') := by
  refine FS.intro (pf := pf66) rfl rfl rfl ?_
  repeat' (first | refine zP ?_ | refine zA ?_ | (refine zM ?_; intro _ _) | refine zX ?_ | (refine zC ?_; intro _ _ _ _) | (refine zS ?_; intro _ _) | (apply Ws <;> intro hg))
  rename_i H1 hH1
  exact Ends.ret1 rfl ⟨rfl, hH1⟩
theorem passed_fs (hH : hasH M n0 H) {o : List Nat} (ho : Sl M 1 v (nodes o)) (hol : o.length ≤ 10) :
    FS C 61 [v] H (fun e H' => ∃ Mx n', Own 3 1 e (nodes (passF o)) Mx ∧ n0 ≤ n' ∧ hasH (Mx ++ M) n' H') := by
  have hv := ho.one_
  refine FS.intro (pf := pf61) rfl rfl rfl ?_
  repeat' (first | refine zP ?_ | refine zA ?_ | (refine zM ?_; intro _ _) | refine zX ?_ | (refine zC ?_; intro _ _ _ _) | (refine zS ?_; intro _ _) | (apply Ws <;> intro hg))
  rename_i H1 hH1
  refine WR.call (by first | exact gN | exact gS rfl) rfl rfl (leavers_fs hH1 n0) ?_
  rintro _ H2 ⟨rfl, hH2⟩
  clear hH1
  have hH3 : hasH ([(n0, Ch.row 22 0 0 [.slice none 0 0])] ++ ((n0 + 1, Ch.row 82 0 0 [ptrO n0 0]) :: M)) (n0 + 1 + 1) H2 := hH2.perm (.swap _ _ _)
  clear hH2
  refine WR.call (by first | exact gN | exact gS rfl) rfl rfl (pass_fs (tell_left (bl := n0) (bx := n0 + 1) (.head _)) ⟨.slice none 0 0, [], .nil, rfl⟩ ho.cons hol hH3) ?_
  rintro _ H4 ⟨_, n4, ⟨lv, Mo, hO, rfl⟩, hn4, hH4⟩
  rw [outs_run] at hO
  replace hH4 : hasH ((n0, Ch.row 22 0 0 [lv]) :: (Mo ++ ((n0 + 1, Ch.row 82 0 0 [ptrO n0 0]) :: M))) n4 H4 := hH4
  repeat' (first | refine zP ?_ | refine zA ?_ | (refine zM ?_; intro _ _) | refine zX ?_ | (refine zC ?_; intro _ _ _ _) | (refine zS ?_; intro _ _) | (apply Ws <;> intro hg))
  exact Ends.ret1 rfl ⟨Mo, n4, hO, by omega, (hH4.tail).sub (List.Sublist.append_left (List.sublist_cons_self _ _) _)⟩
theorem Pass_fs (hH : hasH M n0 H) {o : List Nat} (ho : Sl M 1 v (nodes o)) (hO : OrdN o) :
    FS C 16 [v] H (fun e H' => ∃ u Mx n', e = .tuple #[u, .int .i64 0] ∧ Own 3 1 u (nodes (passF o)) Mx ∧ n0 ≤ n' ∧ hasH (Mx ++ M) n' H') := by
  have hv := ho.one_
  have h7 := hO.most
  refine FS.intro (pf := pf16) rfl rfl rfl ?_
  repeat' (first | refine zP ?_ | refine zA ?_ | (refine zM ?_; intro _ _) | refine zX ?_ | (refine zC ?_; intro _ _ _ _) | (refine zS ?_; intro _ _) | (apply Ws <;> intro hg))
  refine WR.call (by first | exact gN | exact gS rfl) rfl rfl (CheckN_fs hH ho hO) ?_
  rintro _ H1 ⟨rfl, rfl⟩
  repeat' (first | refine zP ?_ | refine zA ?_ | (refine zM ?_; intro _ _) | refine zX ?_ | (refine zC ?_; intro _ _ _ _) | (refine zS ?_; intro _ _) | refine zO ?_ | (apply Ws <;> intro hg))
  refine WR.call (by first | exact gN | exact gS rfl) rfl rfl (passed_fs hH ho (by omega)) ?_
  rintro u H2 ⟨Mx, n2, hOw, hn2, hH2⟩
  repeat' (first | refine zP ?_ | refine zA ?_ | (refine zM ?_; intro _ _) | refine zX ?_ | (refine zC ?_; intro _ _ _ _) | (refine zS ?_; intro _ _) | refine zO ?_ | (apply Ws <;> intro hg))
  exact Ends.ret2 rfl rfl ⟨u, Mx, n2, rfl, hOw, hn2, hH2⟩
end
end Go.Proofs.Ytfnflkcjhefddaa.Lk

/- The law's own pass; lists compared. -/
namespace Go.Abs
set_option linter.unusedSectionVars false
open Go
section
variable [Globs] {C : CW} {nt : Nat} {L : Env} {D : List Nat} {H H' : Heap} {K : St → Prop} {M M' : HL} {n i d : Nat} {gd : Option (Tmp × Bool)} {lo : List Nat} {l : List POp} {rs : List Rd}
/-- Numbers in a row of one's own, or none. -/
def OwnN (e : Nat) (v : Value) (xs : List Nat) (Mx : HL) : Prop := (xs = [] ∧ v = .slice none 0 0 ∧ Mx = []) ∨ (xs ≠ [] ∧ OwnR e 1 v (nodes xs) Mx)
theorem OwnN.own {e : Nat} {v : Value} {xs : List Nat} {Mx : HL} (h : OwnN e v xs Mx) : Own e 1 v (nodes xs) Mx := by
  rcases h with ⟨rfl, rfl, rfl⟩ | ⟨_, h⟩
  · exact .nil
  · exact h.own
theorem OwnN.sl {e : Nat} {v : Value} {xs : List Nat} {Mx T : HL} (h : OwnN e v xs Mx) (k : ∀ q ∈ Mx, q ∈ T) : Sl T 1 v (nodes xs) := (h.own.sl []).mono fun q hq => k q (by simpa using hq)
/-- One list behind another. -/
theorem WD.appN {e : Nat} {s x : Operand} {v y : Value} {xs ys : List Nat} {Mx My T : HL} (hg : gOK L gd) (hd : Nat.blt d nt = true) (hs : ev L s = some v) (hy : ev L x = some y) (hO : OwnN e v xs Mx) (hO2 : OwnN e y ys My) (hH : hasH (Mx ++ (My ++ T)) n H)
    (hx : xs.length ≤ 1000) (hyl : ys.length ≤ 1000)
    (kk : ∀ v' Mx' n' H', OwnN e v' (xs ++ ys) Mx' → hasH (Mx' ++ (My ++ T)) n' H' → n ≤ n' → stands H' lo rs = true ∧ WD C nt l rs ((d, v') :: L) D H' K) :
    WD C nt (⟨i, some d, .append e 1 s x, gd, lo⟩ :: l) rs L D H K := by
  rcases hO2 with ⟨rfl, rfl, rfl⟩ | ⟨hne, hO2⟩
  · obtain ⟨k1, k2⟩ := kk v Mx n H (by rw [List.append_nil]; exact hO) hH (Nat.le_refl _)
    refine WD.op hg hd (H' := H) (v := v) (fun t ht => ?_) rfl k1 k2
    simp only [opA, ev_ok ht hs, ev_ok ht hy]
    have hk : srcLen (.slice none 0 0) = some 0 := rfl
    have hx0 : srcCells H 1 0 (.slice none 0 0) = some [] := rfl
    rcases hO with ⟨rfl, rfl, rfl⟩ | ⟨_, h⟩
    · have hb : Nat.ble (0 + 0) 0 = true := rfl
      have hq : Nat.beq 0 0 = true := rfl
      simp only [appendA, hk, hx0, appWith, capOf, hb, cond_true, appIn, hq, Nat.add_zero]
    · cases h with
      | mk hl =>
        have hq : Nat.beq 0 0 = true := rfl
        simp only [appendA, hk, hx0, appWith, capOf_open _ (show 1 ≤ 1000 by decide), Nat.beq_refl, cond_true]
  · have hnn : nodes ys ≠ [] := fun h => hne (List.map_eq_nil_iff.1 h)
    have hl0 := List.length_pos_iff.2 hne
    have hS : Sl (Mx ++ (My ++ T)) 1 y (nodes ys) := (hO2.own.sl []).mono fun q hq => List.mem_append_right _ (List.mem_append_left _ (by simpa using hq))
    obtain ⟨hk, hsr⟩ := hS.src hH hnn
    refine WD.append hg hd hs hy hO.own hH (List.Sublist.refl _) (M0 := My ++ T) (List.Perm.refl _) hk (new := nodes ys) (by have := hsr _ (Nat.le_refl _); rw [List.take_length] at this; exact this) (by simp) (by simp; omega) (by rw [List.all_eq_true]; intro q hq; obtain ⟨z, _, rfl⟩ := List.mem_map.1 hq; rfl) (Nat.le_refl _) (by decide) (by simp; omega) fun v' Mx' n' H' q1 q2 q3 => ?_
    exact kk v' Mx' n' H' (.inr ⟨fun h => hne (List.append_eq_nil_iff.1 h).2, by rw [nodes, List.map_append]; exact q1⟩) q2 q3
end
end Go.Abs
namespace Go.Proofs.Ytfnflkcjhefddaa.Lk
open Go Go.Abs Go.Mth
set_option linter.unusedVariables false
set_option linter.unusedSimpArgs false
attribute [local irreducible] gOK WS WC WR WD Ends FS YS OpV seqK blockK loopK midK retK rdK asgK rangeEnd sat Cell
section
variable {M : HL} {n0 : Nat} {H : Heap} {v w : Value}
theorem same_fs (hH : hasH M n0 H) {xs ys : List Nat} (hS : Sl M 1 v (nodes xs)) (hU : Sl M 1 w (nodes ys)) (hx : xs.length ≤ 1000) (hy : ys.length ≤ 1000) :
    FS C 22 [v, w] H (fun e H' => e = .bool (decide (xs = ys)) ∧ H' = H) := by
  refine FS.intro (pf := pf22) rfl rfl rfl ?_
  repeat' (first | refine zP ?_ | refine zA ?_ | (refine zM ?_; intro _ _) | refine zX ?_ | (refine zC ?_; intro _ _ _ _) | (refine zS ?_; intro _ _) | (apply Ws <;> intro hg))
  refine WC.condP rfl (fun hne => ?_) (fun hne => ?_)
  · repeat' (first | refine zP ?_ | refine zA ?_ | (refine zM ?_; intro _ _) | refine zX ?_ | (refine zC ?_; intro _ _ _ _) | (refine zS ?_; intro _ _) | (apply Ws <;> intro hg))
    refine Ends.ret1 rfl ⟨?_, rfl⟩
    rw [decide_eq_false fun e => hne (by rw [e])]
  · have hll : xs.length = ys.length := by omega
    repeat' (first | refine zP ?_ | refine zA ?_ | (refine zM ?_; intro _ _) | refine zX ?_ | (refine zC ?_; intro _ _ _ _) | (refine zS ?_; intro _ _) | (apply Ws <;> intro hg))
    refine WC.loopX [(0, _), (1, _)] (fun k : Nat => [(5, .int .i64 (k : Int))]) [] (fun k H' => H' = H ∧ k ≤ xs.length ∧ ∀ i, i < k → xs.getD i 0 = ys.getD i 0) (fun k => xs.length - k) 0 (by repeat' (first | exact .nil | refine .cons rfl ?_)) rfl ⟨rfl, Nat.zero_le _, fun i h => absurd h (Nat.not_lt_zero _)⟩ ?_
    rintro k _ ⟨rfl, hk, hall⟩
    dsimp only [List.cons_append, List.nil_append]
    repeat' (first | refine zP ?_ | refine zA ?_ | (refine zM ?_; intro _ _) | refine zX ?_ | (refine zC ?_; intro _ _ _ _) | (refine zS ?_; intro _ _) | (apply Ws <;> intro hg))
    refine WC.condP rfl (fun hlt => ?_) (fun hlt => ?_)
    · have hk' : k < xs.length := by omega
      repeat' (first | refine zP ?_ | refine zA ?_ | (refine zM ?_; intro _ _) | refine zX ?_ | (refine zC ?_; intro _ _ _ _) | (refine zS ?_; intro _ _) | (apply Ws <;> intro hg))
      refine WC.condP rfl (fun hd => ?_) (fun hd => ?_)
      · repeat' (first | refine zP ?_ | refine zA ?_ | (refine zM ?_; intro _ _) | refine zX ?_ | (refine zC ?_; intro _ _ _ _) | (refine zS ?_; intro _ _) | (apply Ws <;> intro hg))
        refine Ends.ret1 rfl ⟨?_, rfl⟩
        rw [decide_eq_false fun e => hd (by rw [e])]
      · repeat' (first | refine zP ?_ | refine zA ?_ | (refine zM ?_; intro _ _) | refine zX ?_ | (refine zC ?_; intro _ _ _ _) | (refine zS ?_; intro _ _) | (apply Ws <;> intro hg))
        refine Ends.loop (k + 1) (by omega) (by repeat' (first | exact .nil | refine .cons rfl ?_)) rfl ⟨rfl, hk', fun i hi => ?_⟩
        rcases Nat.lt_or_ge i k with h | h
        · exact hall i h
        · rw [show i = k by omega]; omega
    · repeat' (first | refine zP ?_ | refine zA ?_ | (refine zM ?_; intro _ _) | refine zX ?_ | (refine zC ?_; intro _ _ _ _) | (refine zS ?_; intro _ _) | (apply Ws <;> intro hg))
      refine Ends.ret1 rfl ⟨?_, rfl⟩
      rw [decide_eq_true (ext_getD (a := 0) hll fun i hi => hall i (by omega))]
theorem Max_fs (hH : hasH M n0 H) {xs : List Nat} (hS : Sl M 1 v (nodes xs)) (hx : xs.length ≤ 1000) (h0 : 1 ≤ xs.length) :
    FS C 90 [v] H (fun e H' => H' = H ∧ ∃ m : Nat, e = .int .i64 (m : Int) ∧ m ∈ xs ∧ ∀ x ∈ xs, x ≤ m) := by
  refine FS.intro (pf := pf90) rfl rfl rfl ?_
  repeat' (first | refine zP ?_ | refine zA ?_ | (refine zM ?_; intro _ _) | refine zX ?_ | (refine zC ?_; intro _ _ _ _) | (refine zS ?_; intro _ _) | refine zO ?_ | (apply Ws <;> intro hg))
  refine WC.loopX [(0, v)] (fun s : Nat × Nat => [(3, .int .i64 (s.2 : Int)), (4, .int .i64 (s.1 : Int))]) [] (fun s H' => H' = H ∧ 1 ≤ s.1 ∧ s.1 ≤ xs.length ∧ (∃ i, i < s.1 ∧ s.2 = xs.getD i 0) ∧ ∀ j, j < s.1 → xs.getD j 0 ≤ s.2) (fun s => xs.length - s.1) (1, xs.getD 0 0) (by repeat' (first | exact .nil | refine .cons rfl ?_)) rfl
    ⟨rfl, Nat.le_refl _, h0, ⟨0, by simp, rfl⟩, fun j hj => by rw [show j = 0 by simp only at hj; omega]; exact Nat.le_refl _⟩ ?_
  rintro ⟨k, m⟩ H' ⟨rfl, hk1, hk, ⟨i, hi, hm⟩, hall⟩
  simp only at hk1 hk hi hm hall
  dsimp only [List.cons_append, List.nil_append]
  repeat' (first | refine zP ?_ | refine zA ?_ | (refine zM ?_; intro _ _) | refine zX ?_ | (refine zC ?_; intro _ _ _ _) | (refine zS ?_; intro _ _) | (apply Ws <;> intro hg))
  refine WC.condP rfl (fun hlt => ?_) (fun hlt => ?_)
  · have hk' : k < xs.length := by omega
    repeat' (first | refine zP ?_ | refine zA ?_ | (refine zM ?_; intro _ _) | refine zX ?_ | (refine zC ?_; intro _ _ _ _) | (refine zS ?_; intro _ _) | (apply Ws <;> intro hg))
    rw [show Max.max (m : Int) ((xs.getD k 0 : Nat) : Int) = ((Max.max m (xs.getD k 0) : Nat) : Int) by omega]
    refine Ends.loop (k + 1, Max.max m (xs.getD k 0)) (by simp only; omega) (by repeat' (first | exact .nil | refine .cons rfl ?_)) rfl ⟨rfl, by simp only; omega, hk', ?_, fun j hj => ?_⟩
    · rcases Nat.le_total m (xs.getD k 0) with h | h
      · exact ⟨k, by simp only; omega, by simp only; omega⟩
      · exact ⟨i, by simp only; omega, by simp only; omega⟩
    · simp only at hj ⊢
      rcases Nat.lt_or_ge j k with h | h
      · have := hall j h; omega
      · rw [show j = k by omega]; omega
  · have hkn : k = xs.length := by omega
    subst hkn
    repeat' (first | refine zP ?_ | refine zA ?_ | (refine zM ?_; intro _ _) | refine zX ?_ | (refine zC ?_; intro _ _ _ _) | (refine zS ?_; intro _ _) | (apply Ws <;> intro hg))
    refine Ends.ret1 rfl ⟨rfl, m, rfl, by rw [hm]; exact getD_mem hi, fun x hx => ?_⟩
    obtain ⟨j, hj, rfl⟩ := mem_get hx
    exact hall j hj
set_option maxHeartbeats 4000000 in
theorem lpass_fs : ∀ (N : Nat) {M : HL} {n0 : Nat} {H : Heap} {v : Value} {l : List Nat}, l.length ≤ N → hasH M n0 H → Sl M 1 v (nodes l) → l.Nodup → l.length ≤ 10 →
    FS C 47 [v] H (fun e H' => ∃ Mx n', OwnN 3 e (passF l) Mx ∧ n0 ≤ n' ∧ hasH (Mx ++ M) n' H') := by
  intro N
  induction N with
  | zero =>
    intro M n0 H v l hN hH hS hn h10
    have hl : l = [] := List.length_eq_zero_iff.1 (by omega)
    subst hl
    have hl0 : ([] : List Nat).length = 0 := rfl
    refine FS.intro (pf := pf47) rfl rfl rfl ?_
    repeat' (first | refine zP ?_ | refine zA ?_ | (refine zM ?_; intro _ _) | refine zX ?_ | (refine zC ?_; intro _ _ _ _) | (refine zS ?_; intro _ _) | refine zO ?_ | (apply Ws <;> intro hg))
    exact Ends.ret1 rfl ⟨[], n0, .inl ⟨rfl, rfl, rfl⟩, Nat.le_refl _, hH⟩
  | succ N ih =>
    intro M n0 H v l hN hH hS hn h10
    by_cases h0 : l.length = 0
    · have hl : l = [] := List.length_eq_zero_iff.1 h0
      subst hl
      have hl0 : ([] : List Nat).length = 0 := rfl
      refine FS.intro (pf := pf47) rfl rfl rfl ?_
      repeat' (first | refine zP ?_ | refine zA ?_ | (refine zM ?_; intro _ _) | refine zX ?_ | (refine zC ?_; intro _ _ _ _) | (refine zS ?_; intro _ _) | refine zO ?_ | (apply Ws <;> intro hg))
      exact Ends.ret1 rfl ⟨[], n0, .inl ⟨rfl, rfl, rfl⟩, Nat.le_refl _, hH⟩
    · refine FS.intro (pf := pf47) rfl rfl rfl ?_
      repeat' (first | refine zP ?_ | refine zA ?_ | (refine zM ?_; intro _ _) | refine zX ?_ | (refine zC ?_; intro _ _ _ _) | (refine zS ?_; intro _ _) | refine zO ?_ | (apply Ws <;> intro hg))
      refine WR.call (by first | exact gN | exact gS rfl) rfl rfl (Max_fs hH hS (by omega) (by omega)) ?_
      rintro _ H1 ⟨rfl, m, rfl, hmm, hmax⟩
      repeat' (first | refine zP ?_ | refine zA ?_ | (refine zM ?_; intro _ _) | refine zX ?_ | (refine zC ?_; intro _ _ _ _) | (refine zS ?_; intro _ _) | (apply Ws <;> intro hg))
      refine WR.call (by first | exact gN | exact gS rfl) rfl rfl (Index_fs hH (xs := IL l) (by rw [← nodes_IL]; exact hS) (by rw [IL_len]; omega) _) ?_
      rintro _ H2 ⟨rfl, ⟨p, hp, he, _, rfl⟩ | ⟨hno, _⟩⟩
      · rw [IL_len] at hp
        rw [IL_get hp] at he
        have he2 : l.getD p 0 = m := by omega
        subst he2
        clear he hmm
        have hsplit : l = l.take p ++ l.getD p 0 :: l.drop (p + 1) := by rw [getD_eq hp, ← List.drop_eq_getElem_cons hp, List.take_append_drop]
        have hL : ∀ x ∈ l.take p, x < l.getD p 0 := fun x hx => by
          have h1 := hmax x ((List.take_sublist _ _).subset hx)
          obtain ⟨i, q1, q2, q3⟩ : ∃ i, i < p ∧ i < l.length ∧ l.getD i 0 = x := by
            obtain ⟨i, hi, he⟩ := mem_get hx
            simp only [List.length_take] at hi
            rw [getD_take (by omega)] at he
            exact ⟨i, by omega, by omega, he⟩
          have : x ≠ l.getD p 0 := fun e => by have := nodup_get hn q2 hp (q3.trans e); omega
          omega
        have hR : ∀ x ∈ l.drop (p + 1), x < l.getD p 0 := fun x hx => by
          have h1 := hmax x ((List.drop_sublist _ _).subset hx)
          obtain ⟨i, q1, q2⟩ := mem_get hx
          simp only [List.length_drop] at q1
          rw [List.getD_eq_getElem?_getD, List.getElem?_drop, ← List.getD_eq_getElem?_getD] at q2
          have : x ≠ l.getD p 0 := fun e => by have := nodup_get hn (show p + 1 + i < l.length by omega) hp (q2.trans e); omega
          omega
        have hpass := passF_split hL hR
        rw [← hsplit] at hpass
        repeat' (first | refine zA ?_ | (refine zM ?_; intro _ _) | (apply Ws <;> intro hg))
        refine WC.regionD ?_
        repeat' (first | refine zD ?_ | (refine zE ?_; intro _ _ _ _))
        refine WD.cutHiN (by first | exact gN | exact gS rfl) rfl rfl hS rfl (by omega) fun v1 hs1 => ?_
        repeat' (first | refine zD ?_ | (refine zE ?_; intro _ _ _ _))
        rw [show (p : Int) + 1 = ((p + 1 : Nat) : Int) by omega]
        refine WD.cutLoN (by first | exact gN | exact gS rfl) rfl rfl hS rfl (by omega) fun v2 hs2 => ?_
        repeat' (first | refine zD ?_ | (refine zE ?_; intro _ _ _ _))
        rename_i bb oo uu hC
        have hst : ∀ {Y : HL} {n' : Nat} {H' : Heap}, hasH Y n' H' → (∀ q ∈ M, q ∈ Y) → stands H' [13] [⟨13, ⟨bb, oo, some uu⟩, none, .int .i64 ((l.getD p 0 : Nat) : Int)⟩] = true := fun h h1 =>
          stands_cons (.inr (holds_at ((hC.mono h1).read h) (same_int _ _))) stands_nil'
        have hlt : (l.take p).length ≤ N := by simp; omega
        have hld : (l.drop (p + 1)).length ≤ N := by simp; omega
        have hlt2 : (l.take p).length ≤ 10 := by rw [List.length_take]; omega
        have hld2 : (l.drop (p + 1)).length ≤ 10 := by rw [List.length_drop]; omega
        refine WD.call (by first | exact gN | exact gS rfl) rfl rfl (ih hlt hH hs1 ((List.take_sublist _ _).nodup hn) (by omega)) ?_
        rintro w1 H3 ⟨Mx, n3, hO3, hn3, hH3⟩
        refine ⟨hst hH3 fun q hq => List.mem_append_right _ hq, ?_⟩
        refine WD.call (by first | exact gN | exact gS rfl) rfl rfl (ih hld hH3 (hs2.mono fun q hq => List.mem_append_right _ hq) ((List.drop_sublist _ _).nodup hn) (by omega)) ?_
        rintro w2 H4 ⟨My, n4, hO4, hn4, hH4⟩
        refine ⟨hst hH4 fun q hq => List.mem_append_right _ (List.mem_append_right _ hq), ?_⟩
        have hH5 : hasH (Mx ++ (My ++ M)) n4 H4 := hH4.perm (List.perm_append_comm_assoc My Mx M)
        have hl1 := passF_len (l.take p)
        have hl2 := passF_len (l.drop (p + 1))
        refine WD.appN (by first | exact gN | exact gS rfl) rfl rfl rfl hO3 hO4 hH5 (by omega) (by omega) fun v' Mz n6 H6 hO6 hH6 hn6 => ⟨hst hH6 fun q hq => List.mem_append_right _ (List.mem_append_right _ hq), ?_⟩
        refine WD.toWR rfl ?_
        refine WR.append1RF [] Mz (My ++ M) rfl rfl rfl rfl hO6.own hH6 (new := [.int .i64 ((l.getD p 0 : Nat) : Int)]) rfl rfl rfl (Nat.le_refl _) (by decide) (by simp; omega) fun v7 M7 n7 H7 hO7 hH7 hn7 => ?_
        have hv7 := (hO7.own.sl []).one_
        repeat' (first | refine zP ?_ | refine zA ?_ | (refine zM ?_; intro _ _) | refine zX ?_ | (refine zC ?_; intro _ _ _ _) | (refine zS ?_; intro _ _) | (apply Ws <;> intro hg))
        refine Ends.ret1 rfl ⟨M7, n7, .inr ⟨by rw [hpass]; simp, ?_⟩, by omega, hH7.sub (List.Sublist.append_left (List.sublist_append_right _ _) _)⟩
        rw [hpass, nodes_snoc]; exact hO7
      · refine absurd ?_ hno
        exact List.mem_map.2 ⟨m, hmm, rfl⟩
end
end Go.Proofs.Ytfnflkcjhefddaa.Lk

/- Pass after pass. -/
namespace Go.Proofs.Ytfnflkcjhefddaa.Lk
open Go Go.Abs Go.Mth
set_option linter.unusedVariables false
set_option linter.unusedSimpArgs false
def pit (o : List Nat) : Nat → List Nat
  | 0 => o
  | k + 1 => passF (pit o k)
theorem pit_ord {o : List Nat} (ho : OrdN o) : ∀ k, OrdN (pit o k) ∧ (pit o k).length = o.length
  | 0 => ⟨ho, rfl⟩
  | k + 1 => by
    obtain ⟨h1, h2⟩ := pit_ord ho k
    exact ⟨passF_ord h1, by show (passF (pit o k)).length = _; rw [passF_len, h2]⟩
theorem upN_snoc {w n : Nat} (h : w ≤ n) : upN w (n + 1) = upN w n ++ [n] := by
  unfold upN
  rw [show n + 1 - w = (n - w) + 1 by omega, List.range'_concat]
  congr 2; omega
theorem mem_upN {w n x : Nat} : x ∈ upN w n ↔ w ≤ x ∧ x < n := by
  unfold upN; rw [List.mem_range'_1]; omega
theorem passF_tail {w : Nat} {A : List Nat} (hA : ∀ x ∈ A, x < w) : ∀ d, passF (A ++ upN w (w + d)) = passF A ++ upN w (w + d)
  | 0 => by rw [upN_nil (by omega), List.append_nil, List.append_nil]
  | d + 1 => by
    have ih := passF_tail hA d
    rw [← Nat.add_assoc, upN_snoc (by omega), ← List.append_assoc]
    have := passF_split (m := w + d) (L := A ++ upN w (w + d)) (R := []) (fun x hx => by
      rcases List.mem_append.1 hx with h | h
      · have := hA x h; omega
      · exact (mem_upN.1 h).2) (fun x h => by simp at h)
    rw [this, ih, ← List.append_assoc]
    show passF A ++ upN w (w + d) ++ [] ++ [w + d] = _
    rw [List.append_nil]
theorem passF_range (n : Nat) : passF (List.range n) = List.range n := by
  have := passF_tail (w := 0) (A := []) (fun x h => by simp at h) n
  rw [Nat.zero_add, upN_range] at this
  exact this
def Tops (k : Nat) (l : List Nat) : Prop := ∃ A, l = A ++ upN (l.length - k) l.length ∧ ∀ x ∈ A, x < l.length - k
theorem tops_zero (l : List Nat) (h : OrdN l) : Tops 0 l := ⟨l, by rw [upN_nil (by omega), List.append_nil], fun x hx => h.lt x hx⟩
theorem tops_step {l : List Nat} {k : Nat} (h : OrdN l) (hk : k < l.length) (ht : Tops k l) : Tops (k + 1) (passF l) := by
  obtain ⟨A, h1, h2⟩ := ht
  have hpl := passF_len l
  obtain ⟨m, hm⟩ : ∃ m, l.length - k = m + 1 := ⟨l.length - k - 1, by omega⟩
  rw [hm] at h1 h2
  have hmA : m ∈ A := by
    have := h.mem (show m < l.length by omega)
    rw [h1] at this
    rcases List.mem_append.1 this with h3 | h3
    · exact h3
    · have := (mem_upN.1 h3).1; omega
  obtain ⟨L, R, rfl⟩ := List.append_of_mem hmA
  have hn : (L ++ m :: R).Nodup := by
    have := h.nodup
    rw [h1] at this
    exact (List.nodup_append.1 this).1
  have hne : ∀ x, (x ∈ L ∨ x ∈ R) → x < m := by
    intro x hx
    have h3 := h2 x (by rcases hx with hx | hx <;> simp [hx])
    have : x ≠ m := by
      rintro rfl
      rw [List.nodup_append] at hn
      rcases hx with hx | hx
      · exact hn.2.2 _ hx _ (by simp) rfl
      · exact (List.nodup_cons.1 hn.2.1).1 hx
    omega
  have hp := passF_split (fun x hx => hne x (.inl hx)) (fun x hx => hne x (.inr hx)) (m := m) (L := L) (R := R)
  have hlen : l.length = (m + 1) + (l.length - (m + 1)) := by omega
  have ht := passF_tail h2 (l.length - (m + 1))
  rw [← hlen, ← h1, hp] at ht
  refine ⟨passF L ++ passF R, ?_, fun x hx => ?_⟩
  · rw [hpl, show l.length - (k + 1) = m by omega, ht, upN_cons (show m < l.length by omega)]
    simp
  · rw [hpl, show l.length - (k + 1) = m by omega]
    rcases List.mem_append.1 hx with h3 | h3
    · exact hne x (.inl ((passF_perm L).mem_iff.1 h3))
    · exact hne x (.inr ((passF_perm R).mem_iff.1 h3))
theorem tops_all {o : List Nat} (ho : OrdN o) : ∀ k, k ≤ o.length → Tops k (pit o k)
  | 0, _ => tops_zero o ho
  | k + 1, hk => by
    obtain ⟨h1, h2⟩ := pit_ord ho k
    exact tops_step h1 (by omega) (tops_all ho k (by omega))
theorem tops_get {l : List Nat} {k : Nat} (ht : Tops k l) {x : Nat} (h1 : l.length - k ≤ x) (h2 : x < l.length) : l.getD x 0 = x := by
  obtain ⟨A, h3, h4⟩ := ht
  have hl := congrArg List.length h3
  rw [List.length_append, upN, List.length_range'] at hl
  have hx : l.getD x 0 = (A ++ upN (l.length - k) l.length).getD x 0 := by rw [← h3]
  rw [hx, List.getD_eq_getElem?_getD, List.getElem?_append_right (by omega), upN, List.getElem?_range' (by omega)]
  simp; omega
theorem asc_range {l : List Nat} (h : OrdN l) : ascB l = true ↔ l = List.range l.length := by
  constructor
  · intro ha
    rw [ascB_iff] at ha
    have hlt : ∀ i, i + 1 < l.length → l.getD i 0 < l.getD (i + 1) 0 := fun i hi => by
      have h1 := ha i hi
      have h2 : l.getD i 0 ≠ l.getD (i + 1) 0 := fun e => by have := nodup_get h.nodup (show i < l.length by omega) hi e; omega
      omega
    have hlo : ∀ i, i < l.length → i ≤ l.getD i 0 := by
      intro i
      induction i with
      | zero => intro _; exact Nat.zero_le _
      | succ i ih => intro hi; have := ih (by omega); have := hlt i hi; omega
    have hhi : ∀ d i, i + d + 1 = l.length → l.getD i 0 ≤ i := by
      intro d
      induction d with
      | zero => intro i hi; have := h.lt _ (getD_mem (a := 0) (show i < l.length by omega)); omega
      | succ d ih => intro i hi; have := ih (i + 1) (by omega); have := hlt i (by omega); omega
    refine ext_getD (a := 0) (by simp) fun i hi => ?_
    have h1 := hlo i hi
    have h2 := hhi (l.length - 1 - i) i (by omega)
    rw [getD_eq (l := List.range l.length) (by simpa using hi), List.getElem_range]; omega
  · intro e
    rw [ascB_iff]
    intro i hi
    rw [e, getD_eq (by simp; omega), getD_eq (by simp; omega), List.getElem_range, List.getElem_range]; omega
theorem asc_last {o : List Nat} (ho : OrdN o) : ascB (pit o (o.length - 1)) = true := by
  have h1 := ho.one
  obtain ⟨h2, h3⟩ := pit_ord ho (o.length - 1)
  obtain ⟨A, h4, h5⟩ := tops_all ho (o.length - 1) (by omega)
  rw [asc_range h2, h3]
  rw [h3, show o.length - (o.length - 1) = 1 by omega] at h4 h5
  have hl := congrArg List.length h4
  rw [List.length_append, upN, List.length_range', h3] at hl
  have hA : A = [0] := by
    cases A with
    | nil => simp at hl; omega
    | cons a A =>
      have h6 := h5 a (by simp)
      have h7 : A = [] := List.length_eq_zero_iff.1 (by simp at hl; omega)
      rw [h7, show a = 0 by omega]
  rw [h4, hA, ← upN_range, upN_cons (show 0 < o.length by omega)]; rfl
theorem asc_stays {o : List Nat} (ho : OrdN o) {k : Nat} (h : ascB (pit o k) = true) : ascB (pit o (k + 1)) = true := by
  obtain ⟨h2, h3⟩ := pit_ord ho k
  have e := (asc_range h2).1 h
  show ascB (passF (pit o k)) = true
  have : passF (pit o k) = pit o k := by rw [e, passF_range]
  rw [this]; exact h
/-- So many passes, and no fewer. -/
def PassN (o : List Nat) (k : Nat) : Prop := k ≤ o.length - 1 ∧ ascB (pit o k) = true ∧ ∀ j, j < k → ascB (pit o j) = false
theorem PassN.iff {o : List Nat} (ho : OrdN o) {k : Nat} (h : PassN o k) (i : Nat) : ascB (pit o i) = true ↔ k ≤ i := by
  constructor
  · intro ha
    refine Nat.le_of_not_lt fun hlt => ?_
    rw [h.2.2 i hlt] at ha; cases ha
  · intro hk
    obtain ⟨d, rfl⟩ := Nat.le.dest hk
    clear hk
    induction d with
    | zero => exact h.2.1
    | succ d ih => exact asc_stays ho ih
end Go.Proofs.Ytfnflkcjhefddaa.Lk

/- How many passes. -/
namespace Go.Proofs.Ytfnflkcjhefddaa.Lk
open Go Go.Abs Go.Mth
set_option linter.unusedVariables false
set_option linter.unusedSimpArgs false
structure QX where
  k : Nat
  v : Value
  Mx : HL
  n : Nat
attribute [local irreducible] gOK WS WC WR WD Ends FS YS OpV seqK blockK loopK midK retK rdK asgK rangeEnd sat Cell
section
variable {M : HL} {n0 : Nat} {H : Heap} {v w : Value}
set_option maxHeartbeats 1000000 in
theorem passesOf_fs (hH : hasH M n0 H) {o : List Nat} (ho : Sl M 1 v (nodes o)) (hO : OrdN o) :
    FS C 74 [v] H (fun e H' => ∃ (k : Nat) (n' : Nat), e = .int .i64 (k : Int) ∧ PassN o k ∧ n0 ≤ n' ∧ hasH M n' H') := by
  have h7 := hO.most
  have h1 := hO.one
  refine FS.intro (pf := pf74) rfl rfl rfl ?_
  repeat' (first | refine zP ?_ | refine zA ?_ | (refine zM ?_; intro _ _) | refine zX ?_ | (refine zC ?_; intro _ _ _ _) | (refine zS ?_; intro _ _) | (apply Ws <;> intro hg))
  refine WC.loopX [] (fun z : QX => [(0, z.v), (3, .int .i64 (z.k : Int))]) [] (fun z H' => z.k ≤ o.length - 1 ∧ (∀ j, j < z.k → ascB (pit o j) = false) ∧ Sl (z.Mx ++ M) 1 z.v (nodes (pit o z.k)) ∧ n0 ≤ z.n ∧ hasH (z.Mx ++ M) z.n H') (fun z => o.length - z.k) ⟨0, v, [], n0⟩ (by repeat' (first | exact .nil | refine .cons rfl ?_)) rfl
    ⟨Nat.zero_le _, fun j h => absurd h (Nat.not_lt_zero _), ho, Nat.le_refl _, hH⟩ ?_
  clear hH ho
  rintro ⟨k, v, Mx, n1⟩ H1 ⟨hk, hno, hS, hn1, hH⟩
  simp only at hk hno hS hn1 hH
  obtain ⟨hp1, hp2⟩ := pit_ord hO k
  dsimp only [List.cons_append, List.nil_append]
  repeat' (first | refine zP ?_ | refine zA ?_ | (refine zM ?_; intro _ _) | refine zX ?_ | (refine zC ?_; intro _ _ _ _) | (refine zS ?_; intro _ _) | (apply Ws <;> intro hg))
  refine WR.call (by first | exact gN | exact gS rfl) rfl rfl (IsSorted_fs hH hS (by omega)) ?_
  rintro _ H2 ⟨rfl, rfl⟩
  cases ha : ascB (pit o k) with
  | true =>
    repeat' (first | refine zP ?_ | refine zA ?_ | (refine zM ?_; intro _ _) | refine zX ?_ | (refine zC ?_; intro _ _ _ _) | (refine zS ?_; intro _ _) | (apply Ws <;> intro hg))
    exact Ends.ret1 rfl ⟨k, n1, rfl, ⟨hk, ha, hno⟩, hn1, hH.sub (List.sublist_append_right _ _)⟩
  | false =>
    have hk2 : k ≠ o.length - 1 := by
      rintro rfl
      rw [asc_last hO] at ha; cases ha
    repeat' (first | refine zP ?_ | refine zA ?_ | (refine zM ?_; intro _ _) | refine zX ?_ | (refine zC ?_; intro _ _ _ _) | (refine zS ?_; intro _ _) | (apply Ws <;> intro hg))
    refine WR.call (by first | exact gN | exact gS rfl) rfl rfl (passed_fs hH hS (by omega)) ?_
    rintro u H3 ⟨My, n3, hOw, hn3, hH3⟩
    repeat' (first | refine zP ?_ | refine zA ?_ | (refine zM ?_; intro _ _) | refine zX ?_ | (refine zC ?_; intro _ _ _ _) | (refine zS ?_; intro _ _) | (apply Ws <;> intro hg))
    refine Ends.loop ⟨k + 1, u, My, n3⟩ (by simp only; omega) (by repeat' (first | exact .nil | refine .cons rfl ?_)) rfl ⟨by simp only; omega, fun j hj => ?_, hOw.sl M, by simp only; omega, hH3.sub (List.Sublist.append_left (List.sublist_append_right _ _) _)⟩
    simp only at hj
    by_cases e : j = k
    · rw [e]; exact ha
    · exact hno j (by omega)
theorem Passes_fs (hH : hasH M n0 H) {o : List Nat} (ho : Sl M 1 v (nodes o)) (hO : OrdN o) :
    FS C 29 [v] H (fun e H' => ∃ (k : Nat) (n' : Nat), e = .tuple #[.int .i64 (k : Int), .int .i64 0] ∧ PassN o k ∧ n0 ≤ n' ∧ hasH M n' H') := by
  have hv := ho.one_
  refine FS.intro (pf := pf29) rfl rfl rfl ?_
  repeat' (first | refine zP ?_ | refine zA ?_ | (refine zM ?_; intro _ _) | refine zX ?_ | (refine zC ?_; intro _ _ _ _) | (refine zS ?_; intro _ _) | (apply Ws <;> intro hg))
  refine WR.call (by first | exact gN | exact gS rfl) rfl rfl (CheckN_fs hH ho hO) ?_
  rintro _ H1 ⟨rfl, rfl⟩
  repeat' (first | refine zP ?_ | refine zA ?_ | (refine zM ?_; intro _ _) | refine zX ?_ | (refine zC ?_; intro _ _ _ _) | (refine zS ?_; intro _ _) | refine zO ?_ | (apply Ws <;> intro hg))
  refine WR.call (by first | exact gN | exact gS rfl) rfl rfl (passesOf_fs hH ho hO) ?_
  rintro _ H2 ⟨k, n2, rfl, hP, hn2, hH2⟩
  repeat' (first | refine zP ?_ | refine zA ?_ | (refine zM ?_; intro _ _) | refine zX ?_ | (refine zC ?_; intro _ _ _ _) | (refine zS ?_; intro _ _) | refine zO ?_ | (apply Ws <;> intro hg))
  exact Ends.ret2 rfl rfl ⟨k, n2, rfl, hP, hn2, hH2⟩
end
end Go.Proofs.Ytfnflkcjhefddaa.Lk

/- A basin of lists: its methods. -/
namespace Go.Proofs.Ytfnflkcjhefddaa.Lk
open Go Go.Abs Go.Mth
set_option linter.unusedVariables false
set_option linter.unusedSimpArgs false
attribute [local irreducible] gOK WS WC WR WD Ends FS YS OpV seqK blockK loopK midK retK rdK asgK rangeEnd sat Cell
section
variable {M : HL} {n0 : Nat} {H : Heap} {v w : Value}
end
end Go.Proofs.Ytfnflkcjhefddaa.Lk

/- All lists of numbers below a bound, one after the other. -/
namespace Go.Proofs.Ytfnflkcjhefddaa.Lk
open Go Go.Abs Go.Mth
set_option linter.unusedVariables false
set_option linter.unusedSimpArgs false
/-- All that a list begins, with so many numbers more, in ascending order. -/
def extL (bound : Nat) (fits : List Nat → Nat → Bool) : Nat → List Nat → List (List Nat)
  | 0, b => [b]
  | m + 1, b => ((List.range bound).filter (fits b)).flatMap fun x => extL bound fits m (b ++ [x])
/-- The same, for numbers from k on. -/
def extK (bound : Nat) (fits : List Nat → Nat → Bool) (m : Nat) (b : List Nat) (k : Nat) : List (List Nat) := (((List.range bound).drop k).filter (fits b)).flatMap fun x => extL bound fits m (b ++ [x])
def rst (len bound : Nat) (fits : List Nat → Nat → Bool) (W : List (List Nat)) : List (List Nat) := W.reverse.flatMap fun b => extL bound fits (len - b.length) b
def wgt (len bound : Nat) (W : List (List Nat)) : Nat := (W.map fun b => (bound + 1) ^ (len - b.length)).sum
/-- A stack of lists, as they wait: not too many. -/
structure WaitS (len bound : Nat) (W : List (List Nat)) : Prop where
  idx : ∀ i, i < W.length → i ≤ bound * (W.getD i []).length
  len : ∀ i, i < W.length → (W.getD i []).length ≤ len
theorem WaitS.few {len bound : Nat} {W : List (List Nat)} (h : WaitS len bound W) (hl : len ≤ 7) (hb : bound ≤ 7) : W.length ≤ 50 := by
  refine Classical.byContradiction fun hn => ?_
  have h1 := h.idx 50 (by omega)
  have h2 := h.len 50 (by omega)
  have h3 : bound * (W.getD 50 []).length ≤ 7 * 7 := Nat.mul_le_mul hb (by omega)
  omega
/-- Lists in memory; none is nil. -/
def RowsZ (M : HL) (ws : List Value) (vs : List (List Nat)) : Prop := ws.length = vs.length ∧ ∀ i, i < vs.length → Sl M 1 (ws.getD i undef) (nodes (vs.getD i [])) ∧ (vs.getD i [] = [] → ws.getD i undef = .slice none 0 0)
theorem RowsZ.mono {M M' : HL} {ws : List Value} {vs : List (List Nat)} (h : RowsZ M ws vs) (k : ∀ p ∈ M, p ∈ M') : RowsZ M' ws vs := ⟨h.1, fun i hi => ⟨(h.2 i hi).1.mono k, (h.2 i hi).2⟩⟩
theorem RowsZ.nil (M : HL) : RowsZ M [] [] := ⟨rfl, fun i h => absurd h (Nat.not_lt_zero _)⟩
structure LX where
  v : Value
  ws : List Value
  W : List (List Nat)
  Mo : HL
  Mi : HL
  Mc : HL
  n : Nat
structure LY where
  k : Nat
  v : Value
  ws : List Value
  W : List (List Nat)
  Mo : HL
  Mi : HL
  n : Nat
attribute [local irreducible] gOK WS WC WR WD Ends FS YS OpV seqK blockK loopK midK retK rdK asgK rangeEnd sat Cell
section
variable {M : HL} {n0 : Nat} {H : Heap} {v w : Value}
end
end Go.Proofs.Ytfnflkcjhefddaa.Lk

/- Barges leave in the ascending order just if no two of a basin clash. -/
namespace Go.Proofs.Ytfnflkcjhefddaa.Lk
open Go Go.Abs Go.Mth
set_option linter.unusedVariables false
set_option linter.unusedSimpArgs false
def clashP (o : List Nat) (i j : Nat) : Prop := o.getD i 0 < o.getD j 0 ∧ ∃ k, j < k ∧ k < o.length ∧ o.getD k 0 < o.getD i 0
def WK (o t : List Nat) (k : Nat) : Nat := o.length - (basK o t (List.range o.length) k).2.2.length
structure StB (o t : List Nat) (k w : Nat) : Prop where
  bas : ∃ p q, basK o t (List.range o.length) k = (p, q, upN w o.length) ∧ InvB o t k w p q ∧ (w < o.length → p.head? ≠ some w ∧ q.head? ≠ some w)
  le : w ≤ o.length
end Go.Proofs.Ytfnflkcjhefddaa.Lk

/- The first of the lists with which two basins are enough. -/
namespace Go.Proofs.Ytfnflkcjhefddaa.Lk
open Go Go.Abs Go.Mth
set_option linter.unusedVariables false
set_option linter.unusedSimpArgs false
/-- Lists of zeros and ones. -/
def allT (n : Nat) : List (List Nat) := extL 2 (fun _ _ => true) n []
def twoL (o : List Nat) : Option (List Nat) := (allT o.length).find? (ascT o)
attribute [local irreducible] gOK WS WC WR WD Ends FS YS OpV seqK blockK loopK midK retK rdK asgK rangeEnd sat Cell
section
variable {M : HL} {n0 : Nat} {H : Heap} {v w : Value}
end
end Go.Proofs.Ytfnflkcjhefddaa.Lk

/- Orders by numbers. -/
namespace Go.Proofs.Ytfnflkcjhefddaa.Lk
open Go Go.Abs Go.Mth
set_option linter.unusedVariables false
set_option linter.unusedSimpArgs false
theorem u8k : C.c.P.underlying 5 = some (.int .u8) := by kernel_rfl
theorem i64k : C.c.P.underlying 3 = some (.int .i64) := by kernel_rfl
theorem cons_erase : ∀ {l : List Nat} {j : Nat} (h : j < l.length), (l[j] :: l.eraseIdx j).Perm l
  | a :: l, 0, h => List.Perm.refl _
  | a :: l, j + 1, h => by
    have := cons_erase (l := l) (j := j) (by simpa using h)
    simp only [List.getElem_cons_succ, List.eraseIdx_cons_succ]
    exact (List.Perm.swap _ _ _).trans (this.cons a)
/-- What is drawn, and what is left. -/
def drawO (by_ : List Nat) (n : Nat) : Nat → List Nat × List Nat
  | 0 => ([], List.range n)
  | k + 1 => let s := drawO by_ n k; (s.1 ++ [s.2.getD (by_.getD k 0 % s.2.length) 0], s.2.eraseIdx (by_.getD k 0 % s.2.length))
def madeO (x : Nat) (by_ : List Nat) (most : Nat) : List Nat := (drawO by_ (1 + x % most) (1 + x % most)).1
theorem drawO_props (by_ : List Nat) (n : Nat) : ∀ k, k ≤ n → (drawO by_ n k).1.length = k ∧ (drawO by_ n k).2.length = n - k ∧ ((drawO by_ n k).1 ++ (drawO by_ n k).2).Perm (List.range n)
  | 0, _ => by simp [drawO]
  | k + 1, hk => by
    obtain ⟨h1, h2, h3⟩ := drawO_props by_ n k (by omega)
    have hp : 0 < (drawO by_ n k).2.length := by omega
    have hm := Nat.mod_lt (by_.getD k 0) hp
    simp only [drawO]
    generalize by_.getD k 0 % (drawO by_ n k).2.length = j at hm
    refine ⟨by simp [h1], by rw [List.length_eraseIdx, if_pos hm]; omega, ?_⟩
    refine List.Perm.trans ?_ h3
    rw [List.append_assoc]
    refine List.Perm.append_left _ ?_
    rw [getD_eq hm]
    exact cons_erase hm
theorem madeO_ord {x most : Nat} (by_ : List Nat) (h1 : 1 ≤ most) (h7 : most ≤ 7) : OrdN (madeO x by_ most) ∧ (madeO x by_ most).length = 1 + x % most := by
  have hm := Nat.mod_lt x (show 0 < most by omega)
  obtain ⟨q1, q2, q3⟩ := drawO_props by_ (1 + x % most) (1 + x % most) (Nat.le_refl _)
  have hnil : (drawO by_ (1 + x % most) (1 + x % most)).2 = [] := List.length_eq_zero_iff.1 (by omega)
  rw [hnil, List.append_nil] at q3
  unfold madeO
  refine ⟨⟨by omega, by omega, fun y hy => ?_, ?_⟩, q1⟩
  · rw [q1]; exact List.mem_range.1 (q3.mem_iff.1 hy)
  · exact q3.nodup_iff.2 List.nodup_range
theorem getD_numsK {k : IntKind} {l : List Nat} {i : Nat} (h : i < l.length) : (numsK k l)[i]? = some (.int k ((l.getD i 0 : Nat) : Int)) := by
  unfold numsK
  rw [List.getElem?_map, List.getElem?_eq_getElem h, getD_eq h]; rfl
structure KM where
  k : Nat
  v : Value
  Mx : HL
  n : Nat
structure KN where
  k : Nat
  cp : Nat
  R : Nat
  ys : List Int
  ov : Value
  Mo : HL
  n : Nat
theorem sl_left {M : HL} {b u o len cp R : Nat} {ys : List Int} {l : List Nat} (hm : (b, Ch.row 3 u o (ints ys)) ∈ M) (hc : capR cp len R) (hly : len ≤ ys.length) (hy : ys.take len = IL l) : Sl M 1 (.slice (some ⟨b, o, some u⟩) len cp) (nodes l) := by
  have hl : l.length = len := by have := congrArg List.length hy; simp at this; omega
  refine .row hm (.row _ _ _ _) (Nat.le_refl _) (by simp [hl]) ?_ (by simp [hl]; omega) (.inl hc.cap)
  rw [nodes_IL, ← hy]
  simp [ints, List.map_take]
theorem drawO_succ (by_ : List Nat) (n k : Nat) : drawO by_ n (k + 1) = ((drawO by_ n k).1 ++ [(drawO by_ n k).2.getD (by_.getD k 0 % (drawO by_ n k).2.length) 0], (drawO by_ n k).2.eraseIdx (by_.getD k 0 % (drawO by_ n k).2.length)) := rfl
theorem IL_erase (l : List Nat) (j : Nat) : IL (l.eraseIdx j) = (IL l).take j ++ (IL l).drop (j + 1) := by
  rw [List.eraseIdx_eq_take_drop_succ]; simp [IL, List.map_take, List.map_drop]
attribute [local irreducible] gOK WS WC WR WD Ends FS YS OpV seqK blockK loopK midK retK rdK asgK rangeEnd sat Cell
section
variable {M : HL} {n0 : Nat} {H : Heap} {v w : Value}
theorem Delete_fs {b u o len cp R i j : Nat} {ys : List Int} (hH : hasH ((b, .row 3 u o (ints ys)) :: M) n0 H) (hc : capR cp len R) (hly : len ≤ ys.length) (hij : i < j) (hjl : j ≤ len) (hyl : ys.length ≤ 100000) :
    FS C 87 [.slice (some ⟨b, o, some u⟩) len cp, .int .i64 (i : Int), .int .i64 (j : Int)] H (fun e H' => ∃ zs, e = .slice (some ⟨b, o, some u⟩) (len - (j - i)) (roomCode 1 R) ∧ hasH ((b, .row 3 u o (ints zs)) :: M) n0 H' ∧
      zs.length = ys.length ∧ zs.take (len - (j - i)) = ys.take i ++ (ys.take len).drop j) := by
  have hR := hc.le
  refine FS.intro (pf := pf87) rfl rfl rfl ?_
  repeat' (first | refine zP ?_ | refine zA ?_ | (refine zM ?_; intro _ _) | refine zX ?_ | (refine zC ?_; intro _ _ _ _) | (refine zS ?_; intro _ _) | (apply Ws <;> intro hg))
  refine WR.cutMax (by first | exact gN | exact gS rfl) rfl rfl hc rfl rfl rfl (Nat.le_of_lt hij) hjl (Nat.le_refl _) (by omega) fun v13 => ?_
  repeat' (first | refine zP ?_ | refine zA ?_ | (refine zM ?_; intro _ _) | refine zX ?_ | (refine zC ?_; intro _ _ _ _) | (refine zS ?_; intro _ _) | refine zO ?_ | (apply Ws <;> intro hg))
  refine WR.op (by first | exact gN | exact gS rfl) rfl (OpV.cutPre rfl hc rfl (by omega) (by omega)) ?_
  repeat' (first | refine zP ?_ | refine zA ?_ | (refine zM ?_; intro _ _) | refine zX ?_ | (refine zC ?_; intro _ _ _ _) | (refine zS ?_; intro _ _) | (apply Ws <;> intro hg))
  refine WR.cutSuf (by first | exact gN | exact gS rfl) rfl rfl hc rfl hjl fun cp' => ?_
  refine WR.appendR (M' := (b, .row 3 u o (ints (ys.take i ++ (ys.drop j).take (len - j) ++ ys.drop (i + (len - j))))) :: M) (by first | exact gN | exact gS rfl) rfl rfl rfl hH .here (by omega) (by omega) (by omega) fun H1 hH1 => ?_
  have hl2 : i + (len - j) = len - (j - i) := by omega
  rw [hl2] at hH1 ⊢
  obtain ⟨zs, hzs⟩ : ∃ zs, ys.take i ++ (ys.drop j).take (len - j) ++ ys.drop (len - (j - i)) = zs := ⟨_, rfl⟩
  rw [hzs] at hH1
  have hzl : zs.length = ys.length := by rw [← hzs]; simp; omega
  have hzt : zs.take (len - (j - i)) = ys.take i ++ (ys.take len).drop j := by
    rw [← hzs, List.take_append_of_le_length (by simp; omega), List.take_of_length_le (by simp; omega), List.drop_take]
  repeat' (first | refine zP ?_ | refine zA ?_ | (refine zM ?_; intro _ _) | refine zX ?_ | (refine zC ?_; intro _ _ _ _) | (refine zS ?_; intro _ _) | (apply Ws <;> intro hg))
  refine WR.cutOver (by first | exact gN | exact gS rfl) rfl rfl (by omega) rfl rfl (by omega) (by omega) fun cp2 => ?_
  refine WR.clrI (M' := (b, .row 3 u o (ints (zs.take (len - (j - i)) ++ List.replicate (len - (len - (j - i))) 0 ++ zs.drop (len - (j - i) + (len - (len - (j - i))))))) :: M) (by first | exact gN | exact gS rfl) rfl hH1 .here (by omega) (by omega) fun H2 hH2 => ?_
  repeat' (first | refine zP ?_ | refine zA ?_ | (refine zM ?_; intro _ _) | refine zX ?_ | (refine zC ?_; intro _ _ _ _) | (refine zS ?_; intro _ _) | (apply Ws <;> intro hg))
  refine Ends.ret1 rfl ⟨_, rfl, hH2, by simp; omega, ?_⟩
  rw [List.append_assoc, List.take_append_of_le_length (by simp; omega), List.take_of_length_le (by simp; omega), hzt]
set_option maxHeartbeats 4000000 in
theorem made_fs (hH : hasH M n0 H) {x : Nat} {by_ : List Nat} (hx : x ≤ 255) (hbl : by_.length = 7) (hb : ∀ y ∈ by_, y ≤ 255) {most : Nat} (hm1 : 1 ≤ most) (hm : most ≤ 7) :
    FS C 42 [.agg (numsK .u8 (x :: by_)).toArray, .int .i64 (most : Int)] H (fun e H' => ∃ Mx n', Own 3 1 e (nodes (madeO x by_ most)) Mx ∧ n0 ≤ n' ∧ hasH (Mx ++ M) n' H') := by
  have hone : (numsK .u8 (x :: by_)).all one = true := by rw [List.all_eq_true]; intro q hq; obtain ⟨z, _, rfl⟩ := List.mem_map.1 hq; rfl
  have hsl : (numsK .u8 (x :: by_)).length = 8 := by simp [numsK, hbl]
  have hg0 : (numsK .u8 (x :: by_))[0]? = some (.int .u8 (x : Int)) := rfl
  refine FS.intro (pf := pf42) rfl rfl rfl ?_
  refine WC.seq ?_
  refine WC.region ?_
  refine WR.boxA (cs := numsK .u8 (x :: by_)) (by first | exact gN | exact gS rfl) rfl hH rfl hone fun H1 hH1 => ?_
  repeat' (first | refine zP ?_ | refine zA ?_ | (refine zM ?_; intro _ _) | refine zX ?_ | (refine zC ?_; intro _ _ _ _) | (refine zS ?_; intro _ _) | (apply Ws <;> intro hg))
  refine WR.op (by first | exact gN | exact gS rfl) rfl (OpV.conv u8k i64k rfl (c := (x : Int)) (IntWalk.i64_in _ (by omega))) ?_
  have hmod := Nat.mod_lt x (show 0 < most by omega)
  repeat' (first | refine zP ?_ | refine zA ?_ | (refine zM ?_; intro _ _) | refine zX ?_ | (refine zC ?_; intro _ _ _ _) | (refine zS ?_; intro _ _) | (apply Ws <;> intro hg))
  rw [show (x : Int) % (most : Int) = ((x % most : Nat) : Int) by simp]
  obtain ⟨r, hr⟩ : ∃ r, x % most = r := ⟨_, rfl⟩
  rw [hr] at hmod ⊢
  repeat' (first | refine zP ?_ | refine zA ?_ | (refine zM ?_; intro _ _) | refine zX ?_ | (refine zC ?_; intro _ _ _ _) | (refine zS ?_; intro _ _) | (apply Ws <;> intro hg))
  rw [show (1 : Int) + (r : Int) = ((1 + r : Nat) : Int) by omega]
  have hmade : madeO x by_ most = (drawO by_ (1 + r) (1 + r)).1 := by unfold madeO; rw [hr]
  rw [hmade]
  obtain ⟨n, hn⟩ : ∃ n, 1 + r = n := ⟨_, rfl⟩
  rw [hn]
  have hn7 : 1 ≤ n ∧ n ≤ 7 := by omega
  clear hmade hr hn hmod
  refine WC.loopX [(1, _), (2, _), (4, _), (5, _), (7, .slice none 0 0), (17, _)] (fun z : KM => [(18, .int .i64 (z.k : Int)), (6, z.v)]) [] (fun z H' => z.k ≤ n ∧ ((z.k = 0 ∧ z.v = .slice none 0 0 ∧ z.Mx = []) ∨ OwnR 3 1 z.v (nodes (List.range z.k)) z.Mx) ∧ n0 + 1 ≤ z.n ∧ hasH (z.Mx ++ ((n0, .row 50 0 0 (numsK .u8 (x :: by_))) :: M)) z.n H') (fun z => n - z.k) ⟨0, .slice none 0 0, [], n0 + 1⟩ (by repeat' (first | exact .nil | refine .cons rfl ?_)) rfl ⟨Nat.zero_le _, .inl ⟨rfl, rfl, rfl⟩, Nat.le_refl _, hH1⟩ ?_
  clear hH hH1
  rintro ⟨k, v, Mx, n1⟩ H2 ⟨hk, hO, hn1, hH⟩
  simp only at hk hO hn1 hH
  dsimp only [List.cons_append, List.nil_append]
  repeat' (first | refine zP ?_ | refine zA ?_ | (refine zM ?_; intro _ _) | refine zX ?_ | (refine zC ?_; intro _ _ _ _) | (refine zS ?_; intro _ _) | (apply Ws <;> intro hg))
  refine WC.condP rfl (fun hlt => ?_) (fun hlt => ?_)
  · have hk' : k < n := by omega
    have hOw : Own 3 1 v (nodes (List.range k)) Mx := by
      rcases hO with ⟨rfl, rfl, rfl⟩ | hO
      · exact .nil
      · exact hO.own
    repeat' (first | refine zP ?_ | refine zA ?_ | (refine zM ?_; intro _ _) | refine zX ?_ | (refine zC ?_; intro _ _ _ _) | (refine zS ?_; intro _ _) | (apply Ws <;> intro hg))
    refine WR.append1RF [] Mx _ rfl rfl rfl rfl hOw hH (new := [.int .i64 (k : Int)]) rfl rfl rfl (Nat.le_refl _) (by decide) (by simp; omega) fun v' Mx' n' H' h1 h2 h3 => ?_
    repeat' (first | refine zP ?_ | refine zA ?_ | (refine zM ?_; intro _ _) | refine zX ?_ | (refine zC ?_; intro _ _ _ _) | (refine zS ?_; intro _ _) | (apply Ws <;> intro hg))
    refine Ends.loop ⟨k + 1, v', Mx', n'⟩ (by simp only; omega) (by repeat' (first | exact .nil | refine .cons rfl ?_)) rfl ⟨hk', .inr ?_, by simp only; omega, h2⟩
    have : nodes (List.range (k + 1)) = nodes (List.range k) ++ [.int .i64 (k : Int)] := by rw [List.range_succ, nodes_snoc]
    simp only [this]; exact h1
  · have hkn : k = n := by omega
    subst hkn
    rcases hO with ⟨h0, _⟩ | hO
    · omega
    generalize hcs : nodes (List.range k) = cs at hO
    cases hO with
    | mk hl =>
    rename_i b u o len
    subst hcs
    have hlen : len = k := by simp at hl; omega
    subst hlen
    rw [nodes_IL] at hH
    repeat' (first | refine zP ?_ | refine zA ?_ | (refine zM ?_; intro _ _) | refine zX ?_ | (refine zC ?_; intro _ _ _ _) | (refine zS ?_; intro _ _) | (apply Ws <;> intro hg))
    refine WC.loopX [(1, _), (2, _), (4, _), (5, _), (26, _)] (fun z : KN => [(27, .int .i64 (z.k : Int)), (6, .slice (some ⟨b, o, some u⟩) (len - z.k) z.cp), (7, z.ov)]) []
      (fun z H' => z.k ≤ len ∧ capR z.cp (len - z.k) z.R ∧ z.ys.length = len ∧ z.ys.take (len - z.k) = IL (drawO by_ len z.k).2 ∧ Own 3 1 z.ov (nodes (drawO by_ len z.k).1) z.Mo ∧ n0 ≤ z.n ∧ hasH ((b, .row 3 u o (ints z.ys)) :: (z.Mo ++ ((n0, .row 50 0 0 (numsK .u8 (x :: by_))) :: M))) z.n H') (fun z => len - z.k)
      ⟨0, 2 * 1, len, IL (List.range len), .slice none 0 0, [], n1⟩ (by repeat' (first | exact .nil | refine .cons rfl ?_)) rfl ⟨Nat.zero_le _, .inl ⟨rfl, rfl⟩, by simp [IL], by simp only [drawO, Nat.sub_zero]; rw [List.take_of_length_le (by simp [IL])], .nil, by simp only; omega, hH⟩ ?_
    clear hH
    rintro ⟨k, cp, R, ys, ov, Mo, n2⟩ H3 ⟨hk, hc, hyl, hy, hO, hn2, hH⟩
    simp only at hk hc hyl hy hO hn2 hH
    obtain ⟨q1, q2, _⟩ := drawO_props by_ len k hk
    have hdr := drawO_succ by_ len k
    dsimp only [List.cons_append, List.nil_append]
    repeat' (first | refine zP ?_ | refine zA ?_ | (refine zM ?_; intro _ _) | refine zX ?_ | (refine zC ?_; intro _ _ _ _) | (refine zS ?_; intro _ _) | (apply Ws <;> intro hg))
    refine WC.condP rfl (fun hlt2 => ?_) (fun hlt2 => ?_)
    · have hk' : k < len := by omega
      have hby : by_.getD k 0 ≤ 255 := hb _ (getD_mem (by omega))
      have hSl := sl_left (.head _) hc (by omega) hy (M := (b, .row 3 u o (ints ys)) :: (Mo ++ ((n0, .row 50 0 0 (numsK .u8 (x :: by_))) :: M)))
      have hgk : (numsK .u8 (x :: by_))[1 + k]? = some (.int .u8 ((by_.getD k 0 : Nat) : Int)) := by
        rw [getD_numsK (by simp; omega), show 1 + k = k + 1 by omega]; rfl
      repeat' (first | refine zP ?_ | refine zA ?_ | (refine zM ?_; intro _ _) | refine zX ?_ | (refine zC ?_; intro _ _ _ _) | (refine zS ?_; intro _ _) | (apply Ws <;> intro hg))
      refine WR.op (by first | exact gN | exact gS rfl) rfl (OpV.load1 rfl hH (List.mem_cons_of_mem _ (List.mem_append_right _ (.head _))) (.row _ _ _ _) (Nat.zero_le _) hgk) ?_
      refine WR.op (by first | exact gN | exact gS rfl) rfl (OpV.conv u8k i64k rfl (c := ((by_.getD k 0 : Nat) : Int)) (IntWalk.i64_in _ (by omega))) ?_
      generalize by_.getD k 0 = y at hby hdr ⊢
      rw [q2] at hdr
      have hmod := Nat.mod_lt y (show 0 < len - k by omega)
      repeat' (first | refine zP ?_ | refine zR ?_ | (refine zM ?_; intro _ _) | refine zX ?_ | (refine zC ?_; intro _ _ _ _) | (refine zS ?_; intro _ _))
      rw [show (y : Int) % (((len - k) : Nat) : Int) = ((y % (len - k) : Nat) : Int) by simp]
      generalize y % (len - k) = j at hmod hdr ⊢
      obtain ⟨lv, hlv⟩ : ∃ lv, Value.slice (some ⟨b, o, some u⟩) (len - k) cp = lv := ⟨_, rfl⟩
      rw [hlv] at hSl ⊢
      repeat' (first | refine zP ?_ | refine zA ?_ | (refine zM ?_; intro _ _) | refine zX ?_ | (refine zC ?_; intro _ _ _ _) | (refine zS ?_; intro _ _) | (apply Ws <;> intro hg))
      rw [← hlv]
      refine WR.append1F [(b, .row 3 u o (ints ys))] Mo _ rfl rfl rfl rfl hO hH (new := [.int .i64 (((drawO by_ len k).2.getD j 0 : Nat) : Int)]) rfl rfl rfl (Nat.le_refl _) (by decide) (by simp; omega) fun v' Mx' n' H' h1 h2 h3 => ?_
      repeat' (first | refine zP ?_ | refine zA ?_ | (refine zM ?_; intro _ _) | refine zX ?_ | (refine zC ?_; intro _ _ _ _) | (refine zS ?_; intro _ _) | (apply Ws <;> intro hg))
      replace h2 : hasH ((b, .row 3 u o (ints ys)) :: (Mx' ++ ((n0, .row 50 0 0 (numsK .u8 (x :: by_))) :: M))) n' H' := h2
      refine WR.call (by first | exact gN | exact gS rfl) rfl rfl (Delete_fs (i := j) (j := j + 1) h2 hc (by omega) (Nat.lt_succ_self j) (by omega) (by omega)) ?_
      rintro _ H5 ⟨zs, rfl, hH5, hzl, hz⟩
      rw [show len - k - (j + 1 - j) = len - (k + 1) by omega] at hz ⊢
      have hR := hc.le
      repeat' (first | refine zP ?_ | refine zA ?_ | (refine zM ?_; intro _ _) | refine zX ?_ | (refine zC ?_; intro _ _ _ _) | (refine zS ?_; intro _ _) | (apply Ws <;> intro hg))
      refine Ends.loop ⟨k + 1, roomCode 1 R, R, zs, v', Mx', n'⟩ (by simp only; omega) (by repeat' (first | exact .nil | refine .cons rfl ?_)) rfl ⟨hk', .inr ⟨rfl, by simp only; omega⟩, by simp only; omega, ?_, ?_, by simp only; omega, hH5⟩
      · simp only
        rw [hz, hdr, hy, IL_erase]
        congr 1
        have := congrArg (List.take j) hy
        rw [List.take_take, Nat.min_eq_left (by omega)] at this
        exact this
      · simp only
        rw [hdr, nodes_snoc]; exact h1
    · have hkl : k = len := by omega
      subst hkl
      repeat' (first | refine zP ?_ | refine zA ?_ | (refine zM ?_; intro _ _) | refine zX ?_ | (refine zC ?_; intro _ _ _ _) | (refine zS ?_; intro _ _) | (apply Ws <;> intro hg))
      exact Ends.ret1 rfl ⟨Mo, n2, hO, hn2, (hH.sub (List.sublist_cons_self _ _)).sub (List.Sublist.append_left (List.sublist_cons_self _ _) _)⟩
end
end Go.Proofs.Ytfnflkcjhefddaa.Lk
