/- Texts of the law, joined. -/
import Derived.Test.YtfnflkcjhefddaaJ1
import Derived.Test.YtfnflkcjhefddaaLkP
import Derived.Test.YtfnflkcjhefddaaSymS
import Derived.Test.YtfnflkcjhefddaaSymG
/- Functions of the library; an order's check. -/
namespace Go.Proofs.Ytfnflkcjhefddaa.Lk
open Go Go.Abs Go.Mth
set_option linter.unusedVariables false
set_option linter.unusedSimpArgs false
abbrev IL (l : List Nat) : List Int := l.map fun (x : Nat) => (x : Int)
theorem IL_len (l : List Nat) : (IL l).length = l.length := by simp [IL]
theorem IL_get {l : List Nat} {i : Nat} (h : i < l.length) : (IL l).getD i 0 = ((l.getD i 0 : Nat) : Int) := by
  rw [getD_eq (by rw [IL_len]; exact h), getD_eq h]; simp [IL]
theorem nodes_IL (l : List Nat) : nodes l = ints (IL l) := by simp [nodes, ints, IL]
theorem nodes_one' (l : List Nat) : (nodes l).all one = true := by
  rw [List.all_eq_true]; intro q hq; obtain ⟨z, _, rfl⟩ := List.mem_map.1 hq; rfl
/-- The error of a number of an order. -/
def errA (o : List Int) (k : Nat) : Int := if o.getD k 0 < 0 ∨ (o.length : Int) ≤ o.getD k 0 then 2 else if o.getD k 0 ∈ o.take k then 6 else 0
def errO (o : List Int) : Int := if o.length < 1 ∨ 7 < o.length then 1 else firstE (errA o) o.length
theorem errO_ok {l : List Nat} (h : OrdN l) : errO (IL l) = 0 := by
  unfold errO
  have h1 := h.one
  have h2 := h.most
  rw [IL_len, if_neg (by omega), firstE_zero]
  intro i hi
  have hlt := h.lt _ (getD_mem (a := 0) hi)
  unfold errA
  rw [IL_get hi, IL_len, if_neg (by omega), if_neg]
  intro hm
  obtain ⟨j, hj, he⟩ := List.mem_iff_getElem.1 hm
  simp only [List.length_take, IL_len] at hj
  rw [List.getElem_take] at he
  have hj2 : j < l.length := by omega
  have : l.getD j 0 = l.getD i 0 := by
    rw [getD_eq hj2]
    have : (IL l)[j]'(by rw [IL_len]; exact hj2) = ((l[j] : Nat) : Int) := by simp [IL]
    rw [this] at he
    omega
  have := nodup_get h.nodup hj2 hi this
  omega
attribute [local irreducible] gOK WS WC WR WD Ends FS YS OpV seqK blockK loopK midK retK rdK asgK rangeEnd sat Cell
section
variable {M : HL} {n0 : Nat} {H : Heap} {v w : Value}
theorem Index_fs (hH : hasH M n0 H) {xs : List Int} (hS : Sl M 1 v (ints xs)) (hx : xs.length ≤ 100000) (a : Int) :
    FS C 52 [v, .int .i64 a] H (fun e H' => H' = H ∧ ((∃ k, k < xs.length ∧ xs.getD k 0 = a ∧ (∀ j, j < k → xs.getD j 0 ≠ a) ∧ e = .int .i64 (k : Int)) ∨ (a ∉ xs ∧ e = .int .i64 (-1)))) := by
  refine FS.intro (pf := pf52) rfl rfl rfl ?_
  repeat' (first | refine zP ?_ | refine zA ?_ | (refine zM ?_; intro _ _) | refine zX ?_ | (refine zC ?_; intro _ _ _ _) | (refine zS ?_; intro _ _) | (apply Ws <;> intro hg))
  refine WC.loopX [(0, _), (1, _), (6, _), (7, _)] (fun k : Nat => [(8, .int .i64 (k : Int))]) [] (fun k H' => H' = H ∧ k ≤ xs.length ∧ ∀ j, j < k → xs.getD j 0 ≠ a) (fun k => xs.length - k) 0 (by repeat' (first | exact .nil | refine .cons rfl ?_)) rfl ⟨rfl, Nat.zero_le _, fun j h => absurd h (Nat.not_lt_zero _)⟩ ?_
  rintro k H' ⟨rfl, hk, hno⟩
  dsimp only [List.cons_append, List.nil_append]
  repeat' (first | refine zP ?_ | refine zA ?_ | (refine zM ?_; intro _ _) | refine zX ?_ | (refine zC ?_; intro _ _ _ _) | (refine zS ?_; intro _ _) | (apply Ws <;> intro hg))
  refine WC.condP rfl (fun hlt => ?_) (fun hlt => ?_)
  · have hk' : k < xs.length := by omega
    repeat' (first | refine zP ?_ | refine zA ?_ | (refine zM ?_; intro _ _) | refine zX ?_ | (refine zC ?_; intro _ _ _ _) | (refine zS ?_; intro _ _) | (apply Ws <;> intro hg))
    refine WC.condP rfl (fun h => ?_) (fun h => ?_)
    · repeat' (first | refine zP ?_ | refine zA ?_ | (refine zM ?_; intro _ _) | refine zX ?_ | (refine zC ?_; intro _ _ _ _) | (refine zS ?_; intro _ _) | (apply Ws <;> intro hg))
      exact Ends.ret1 rfl ⟨rfl, .inl ⟨k, hk', h.symm, hno, rfl⟩⟩
    · repeat' (first | refine zP ?_ | refine zA ?_ | (refine zM ?_; intro _ _) | refine zX ?_ | (refine zC ?_; intro _ _ _ _) | (refine zS ?_; intro _ _) | (apply Ws <;> intro hg))
      refine Ends.loop (k + 1) (by omega) (by repeat' (first | exact .nil | refine .cons rfl ?_)) rfl ⟨rfl, hk', fun j hj => ?_⟩
      rcases Nat.lt_or_ge j k with h2 | h2
      · exact hno j h2
      · have : j = k := by omega
        subst this
        exact fun e => h e.symm
  · repeat' (first | refine zP ?_ | refine zA ?_ | (refine zM ?_; intro _ _) | refine zX ?_ | (refine zC ?_; intro _ _ _ _) | (refine zS ?_; intro _ _) | (apply Ws <;> intro hg))
    refine Ends.ret1 rfl ⟨rfl, .inr ⟨fun hm => ?_, rfl⟩⟩
    obtain ⟨j, hj, he⟩ := List.mem_iff_getElem.1 hm
    exact hno j (by omega) (by rw [getD_eq hj]; exact he)
theorem Contains_fs (hH : hasH M n0 H) {xs : List Int} (hS : Sl M 1 v (ints xs)) (hx : xs.length ≤ 100000) (a : Int) :
    FS C 68 [v, .int .i64 a] H (fun e H' => H' = H ∧ e = .bool (decide (a ∈ xs))) := by
  refine FS.intro (pf := pf68) rfl rfl rfl ?_
  repeat' (first | refine zP ?_ | refine zA ?_ | (refine zM ?_; intro _ _) | refine zX ?_ | (refine zC ?_; intro _ _ _ _) | (refine zS ?_; intro _ _) | (apply Ws <;> intro hg))
  refine WR.call (by first | exact gN | exact gS rfl) rfl rfl (Index_fs hH hS hx a) ?_
  rintro _ _ ⟨rfl, ⟨k, hk, he, _, rfl⟩ | ⟨hn, rfl⟩⟩
  · repeat' (first | refine zP ?_ | refine zA ?_ | (refine zM ?_; intro _ _) | refine zX ?_ | (refine zC ?_; intro _ _ _ _) | (refine zS ?_; intro _ _) | (apply Ws <;> intro hg))
    refine Ends.ret1 rfl ⟨rfl, ?_⟩
    have hm : a ∈ xs := by rw [← he]; exact getD_mem hk
    rw [decide_eq_true hm, decide_eq_true (by omega)]
  · repeat' (first | refine zP ?_ | refine zA ?_ | (refine zM ?_; intro _ _) | refine zX ?_ | (refine zC ?_; intro _ _ _ _) | (refine zS ?_; intro _ _) | (apply Ws <;> intro hg))
    refine Ends.ret1 rfl ⟨rfl, ?_⟩
    rw [decide_eq_false hn, decide_eq_false (by omega)]
theorem isPlace_fs (hH : hasH M n0 H) {xs : List Int} (hS : Sl M 1 v (ints xs)) (a : Int) :
    FS C 67 [v, .int .i64 a] H (fun e H' => H' = H ∧ e = .bool (decide (0 ≤ a ∧ a < xs.length))) := by
  refine FS.intro (pf := pf67) rfl rfl rfl ?_
  repeat' (first | refine zP ?_ | refine zA ?_ | (refine zM ?_; intro _ _) | refine zX ?_ | (refine zC ?_; intro _ _ _ _) | (refine zS ?_; intro _ _) | (apply Ws <;> intro hg))
  · exact Ends.ret1 rfl ⟨rfl, by congr 1; rw [decide_eq_decide]; omega⟩
  · exact Ends.ret1 rfl ⟨rfl, by rw [decide_eq_false (by omega)]⟩
theorem Check_fs (hH : hasH M n0 H) {xs : List Int} (hS : Sl M 1 v (ints xs)) (hx : xs.length ≤ 100000) :
    FS C 23 [v] H (fun e H' => H' = H ∧ e = .int .i64 (errO xs)) := by
  have hv := hS.one_
  refine FS.intro (pf := pf23) rfl rfl rfl ?_
  repeat' (first | refine zP ?_ | refine zA ?_ | (refine zM ?_; intro _ _) | refine zX ?_ | (refine zC ?_; intro _ _ _ _) | (refine zS ?_; intro _ _) | (apply Ws <;> intro hg))
  · refine Ends.ret1 rfl ⟨rfl, ?_⟩
    unfold errO; rw [if_pos (by omega)]
  · refine WC.condP rfl (fun h7 => ?_) (fun h7 => ?_)
    · repeat' (first | refine zP ?_ | refine zA ?_ | (refine zM ?_; intro _ _) | refine zX ?_ | (refine zC ?_; intro _ _ _ _) | (refine zS ?_; intro _ _) | (apply Ws <;> intro hg))
      refine Ends.ret1 rfl ⟨rfl, ?_⟩
      unfold errO; rw [if_pos (by omega)]
    · have hr : ¬ (xs.length < 1 ∨ 7 < xs.length) := by omega
      repeat' (first | refine zP ?_ | refine zA ?_ | (refine zM ?_; intro _ _) | refine zX ?_ | (refine zC ?_; intro _ _ _ _) | (refine zS ?_; intro _ _) | (apply Ws <;> intro hg))
      refine WC.loopX [(0, v), (13, v), (14, .int .i64 (xs.length : Int))] (fun k : Nat => [(15, .int .i64 (k : Int))]) [] (fun k H' => H' = H ∧ k ≤ xs.length ∧ firstE (errA xs) k = 0) (fun k => xs.length - k) 0 (by repeat' (first | exact .nil | refine .cons rfl ?_)) rfl ⟨rfl, Nat.zero_le _, rfl⟩ ?_
      rintro k H' ⟨rfl, hk, hz⟩
      dsimp only [List.cons_append, List.nil_append]
      repeat' (first | refine zP ?_ | refine zA ?_ | (refine zM ?_; intro _ _) | refine zX ?_ | (refine zC ?_; intro _ _ _ _) | (refine zS ?_; intro _ _) | (apply Ws <;> intro hg))
      refine WC.condP rfl (fun hlt => ?_) (fun hlt => ?_)
      · have hk' : k < xs.length := by omega
        repeat' (first | refine zP ?_ | refine zA ?_ | (refine zM ?_; intro _ _) | refine zX ?_ | (refine zC ?_; intro _ _ _ _) | (refine zS ?_; intro _ _) | (apply Ws <;> intro hg))
        refine WR.call (by first | exact gN | exact gS rfl) rfl rfl (isPlace_fs hH hS _) ?_
        rintro _ _ ⟨rfl, rfl⟩
        repeat' (first | refine zP ?_ | refine zA ?_ | (refine zM ?_; intro _ _) | refine zX ?_ | (refine zC ?_; intro _ _ _ _) | (refine zS ?_; intro _ _) | (apply Ws <;> intro hg))
        refine WC.condP rfl (fun hp => ?_) (fun hp => ?_)
        · repeat' (first | refine zP ?_ | refine zA ?_ | (refine zM ?_; intro _ _) | refine zX ?_ | (refine zC ?_; intro _ _ _ _) | (refine zS ?_; intro _ _) | (apply Ws <;> intro hg))
          refine Ends.ret1 rfl ⟨rfl, ?_⟩
          have h1 : errA xs k = 2 := by unfold errA; rw [if_pos (by omega)]
          unfold errO; rw [if_neg hr, firstE_at hz (by rw [h1]; decide) hk', h1]
        · have hpl : ¬ (xs.getD k 0 < 0 ∨ (xs.length : Int) ≤ xs.getD k 0) := by omega
          repeat' (first | refine zP ?_ | refine zA ?_ | (refine zM ?_; intro _ _) | refine zX ?_ | (refine zC ?_; intro _ _ _ _) | (refine zS ?_; intro _ _) | (apply Ws <;> intro hg))
          refine WR.cutHi (by first | exact gN | exact gS rfl) rfl rfl hS rfl (Nat.le_of_lt hk') fun v' hS' => ?_
          repeat' (first | refine zP ?_ | refine zA ?_ | (refine zM ?_; intro _ _) | refine zX ?_ | (refine zC ?_; intro _ _ _ _) | (refine zS ?_; intro _ _) | (apply Ws <;> intro hg))
          refine WR.call (by first | exact gN | exact gS rfl) rfl rfl (Contains_fs hH hS' (by simp; omega) _) ?_
          rintro _ _ ⟨rfl, rfl⟩
          repeat' (first | refine zP ?_ | refine zA ?_ | (refine zM ?_; intro _ _) | refine zX ?_ | (refine zC ?_; intro _ _ _ _) | (refine zS ?_; intro _ _) | (apply Ws <;> intro hg))
          refine WC.condP rfl (fun hm => ?_) (fun hm => ?_)
          · repeat' (first | refine zP ?_ | refine zA ?_ | (refine zM ?_; intro _ _) | refine zX ?_ | (refine zC ?_; intro _ _ _ _) | (refine zS ?_; intro _ _) | (apply Ws <;> intro hg))
            refine Ends.ret1 rfl ⟨rfl, ?_⟩
            have h1 : errA xs k = 6 := by unfold errA; rw [if_neg hpl, if_pos hm]
            unfold errO; rw [if_neg hr, firstE_at hz (by rw [h1]; decide) hk', h1]
          · repeat' (first | refine zP ?_ | refine zA ?_ | (refine zM ?_; intro _ _) | refine zX ?_ | (refine zC ?_; intro _ _ _ _) | (refine zS ?_; intro _ _) | (apply Ws <;> intro hg))
            refine Ends.loop (k + 1) (by omega) (by repeat' (first | exact .nil | refine .cons rfl ?_)) rfl ⟨rfl, hk', firstE_succ hz ?_⟩
            unfold errA; rw [if_neg hpl, if_neg hm]
      · have hkn : k = xs.length := by omega
        subst hkn
        repeat' (first | refine zP ?_ | refine zA ?_ | (refine zM ?_; intro _ _) | refine zX ?_ | (refine zC ?_; intro _ _ _ _) | (refine zS ?_; intro _ _) | (apply Ws <;> intro hg))
        refine Ends.ret1 rfl ⟨rfl, ?_⟩
        unfold errO; rw [if_neg hr, hz]
theorem CheckN_fs (hH : hasH M n0 H) {l : List Nat} (hS : Sl M 1 v (nodes l)) (ho : OrdN l) :
    FS C 23 [v] H (fun e H' => H' = H ∧ e = .int .i64 0) := by
  have := ho.most
  refine (Check_fs hH (xs := IL l) (by rw [← nodes_IL]; exact hS) (by rw [IL_len]; omega)).mono ?_
  rintro e H' ⟨h1, h2⟩
  rw [errO_ok ho] at h2
  exact ⟨h1, h2⟩
/-- No number is smaller than the one before it. -/
def ascB (l : List Nat) : Bool := (List.range (l.length - 1)).all fun i => decide (l.getD i 0 ≤ l.getD (i + 1) 0)
end
end Go.Proofs.Ytfnflkcjhefddaa.Lk

/- A basin's methods. -/
namespace Go.Proofs.Ytfnflkcjhefddaa.Lk
open Go Go.Abs Go.Mth
set_option linter.unusedVariables false
set_option linter.unusedSimpArgs false
abbrev ptrO (b o : Nat) : Value := .pointer (some ⟨b, o, some 0⟩)
theorem cell_row {M : HL} {b o e : Nat} {cs : List Value} {v : Value} (hm : (b, Ch.row e 0 0 cs) ∈ M) (hc : cs[o]? = some v) : Cell M b o 0 v := ⟨_, 0, cs, hm, .row _ _ _ _, Nat.zero_le _, hc⟩
attribute [local irreducible] gOK WS WC WR WD Ends FS YS OpV seqK blockK loopK midK retK rdK asgK rangeEnd sat Cell
section
variable {M : HL} {n0 : Nat} {H : Heap} {v w : Value}
theorem isEmpty_fs (hH : hasH M n0 H) {b o : Nat} {S : List Value} (hc : Cell M b o 0 v) (hS : Sl M 1 v S) :
    FS C 95 [ptrO b o] H (fun e H' => H' = H ∧ e = .bool (decide (S.length = 0))) := by
  refine FS.intro (pf := pf95) rfl rfl rfl ?_
  repeat' (first | refine zP ?_ | refine zA ?_ | (refine zM ?_; intro _ _) | refine zX ?_ | (refine zC ?_; intro _ _ _ _) | (refine zS ?_; intro _ _) | (apply Ws <;> intro hg))
  exact Ends.ret1 rfl ⟨rfl, by congr 1; rw [decide_eq_decide]; omega⟩
theorem last_fs (hH : hasH M n0 H) {b o : Nat} {S : List Value} {y : Value} (hc : Cell M b o 0 v) (hS : Sl M 1 v (S ++ [y])) (hb : S.length ≤ 10000) :
    FS C 96 [ptrO b o] H (fun e H' => H' = H ∧ e = y) := by
  refine FS.intro (pf := pf96) rfl rfl rfl ?_
  have hl : ((S ++ [y]).length : Int) = (S.length : Int) + 1 := by simp
  have h1 : S.length < (S ++ [y]).length := by simp
  have hg : (S ++ [y]).getD S.length undef = y := getD_snoc
  generalize S ++ [y] = Q at hS hl h1 hg
  repeat' (first | refine zP ?_ | refine zA ?_ | (refine zM ?_; intro _ _) | refine zX ?_ | (refine zC ?_; intro _ _ _ _) | (refine zS ?_; intro _ _) | (apply Ws <;> intro hg))
  rw [hl]
  repeat' (first | refine zP ?_ | refine zA ?_ | (refine zM ?_; intro _ _) | refine zX ?_ | (refine zC ?_; intro _ _ _ _) | (refine zS ?_; intro _ _) | (apply Ws <;> intro hg))
  rw [show (S.length : Int) + 1 - 1 = (S.length : Int) by omega]
  repeat' (first | refine zP ?_ | refine zA ?_ | (refine zM ?_; intro _ _) | refine zX ?_ | (refine zC ?_; intro _ _ _ _) | (refine zS ?_; intro _ _) | (apply Ws <;> intro hg))
  exact Ends.ret1 rfl ⟨rfl, hg⟩
theorem StkO.len {e : Nat} {v : Value} {S : List Value} {Mx : HL} (h : StkO e v S Mx) : S.length ≤ 10000 := by
  cases h with
  | nil => simp
  | mk hl hS hc hb => have := hc.le; omega
theorem take_fs {e b o : Nat} {cs : List Value} {Mx : HL} {S : List Value} {y : Value} (hO : StkO 3 v (S ++ [y]) Mx) (hH : hasH ((b, .row e 0 0 cs) :: (Mx ++ M)) n0 H) (hc : cs[o]? = some v) :
    FS C 97 [ptrO b o] H (fun r H' => r = y ∧ ∃ v', StkO 3 v' S Mx ∧ hasH ((b, .row e 0 0 (cs.set o v')) :: (Mx ++ M)) n0 H') := by
  have hS := (hO.sl M).cons (p := (b, Ch.row e 0 0 cs))
  have hC := cell_row (M := (b, Ch.row e 0 0 cs) :: (Mx ++ M)) (.head _) hc
  have ho : o < cs.length := (List.getElem?_eq_some_iff.1 hc).1
  refine FS.intro (pf := pf97) rfl rfl rfl ?_
  repeat' (first | refine zP ?_ | refine zA ?_ | (refine zM ?_; intro _ _) | refine zX ?_ | (refine zC ?_; intro _ _ _ _) | (refine zS ?_; intro _ _) | (apply Ws <;> intro hg))
  have hb := StkO.len hO
  rw [List.length_append, List.length_singleton] at hb
  refine WR.call (by first | exact gN | exact gS rfl) rfl rfl (last_fs hH hC hS (by omega)) ?_
  rintro r _ ⟨rfl, hr⟩
  rw [hr]
  have hl : ((S ++ [y]).length : Int) = (S.length : Int) + 1 := by simp
  repeat' (first | refine zP ?_ | refine zA ?_ | (refine zM ?_; intro _ _) | refine zX ?_ | (refine zC ?_; intro _ _ _ _) | (refine zS ?_; intro _ _) | (apply Ws <;> intro hg))
  rw [hl]
  repeat' (first | refine zP ?_ | refine zA ?_ | (refine zM ?_; intro _ _) | refine zX ?_ | (refine zC ?_; intro _ _ _ _) | (refine zS ?_; intro _ _) | (apply Ws <;> intro hg))
  rw [show (S.length : Int) + 1 - 1 = (S.length : Int) by omega]
  refine WR.popO (by first | exact gN | exact gS rfl) rfl rfl hO rfl fun v' h2 => ?_
  repeat' (first | refine zP ?_ | refine zA ?_ | (refine zM ?_; intro _ _) | refine zX ?_ | (refine zC ?_; intro _ _ _ _) | (refine zS ?_; intro _ _) | (apply Ws <;> intro hg))
  refine WR.store1 (M' := (b, .row e 0 0 (cs.set o v')) :: (Mx ++ M)) (by first | exact gN | exact gS rfl) hH rfl rfl h2.one_ .here (Nat.zero_le _) (by simpa using ho) (by simp) fun H2 hH2 => ?_
  repeat' (first | refine zP ?_ | refine zA ?_ | (refine zM ?_; intro _ _) | refine zX ?_ | (refine zC ?_; intro _ _ _ _) | (refine zS ?_; intro _ _) | (apply Ws <;> intro hg))
  exact Ends.ret1 rfl ⟨rfl, v', h2, hH2⟩
theorem bring_fs {e b o : Nat} {cs : List Value} {Mx : HL} {S : List Value} {a : Nat} (hO : StkO 3 v S Mx) (hH : hasH ((b, .row e 0 0 cs) :: (Mx ++ M)) n0 H) (hc : cs[o]? = some v) (hl : S.length ≤ 9000) :
    FS C 98 [ptrO b o, .int .i64 (a : Int)] H (fun r H' => ∃ v' Mx' n', StkO 3 v' (S ++ [.int .i64 (a : Int)]) Mx' ∧ n0 ≤ n' ∧ hasH ((b, .row e 0 0 (cs.set o v')) :: (Mx' ++ M)) n' H') := by
  have hC := cell_row (M := (b, Ch.row e 0 0 cs) :: (Mx ++ M)) (.head _) hc
  have ho : o < cs.length := (List.getElem?_eq_some_iff.1 hc).1
  refine FS.intro (pf := pf98) rfl rfl rfl ?_
  repeat' (first | refine zP ?_ | refine zA ?_ | (refine zM ?_; intro _ _) | refine zX ?_ | (refine zC ?_; intro _ _ _ _) | (refine zS ?_; intro _ _) | (apply Ws <;> intro hg))
  refine WR.push [(b, Ch.row e 0 0 cs)] Mx M rfl rfl rfl rfl hO hH rfl rfl hl fun v' Mx' n' H1 h1 hH1 hn => ?_
  repeat' (first | refine zP ?_ | refine zA ?_ | (refine zM ?_; intro _ _) | refine zX ?_ | (refine zC ?_; intro _ _ _ _) | (refine zS ?_; intro _ _) | (apply Ws <;> intro hg))
  refine WR.store1 (M' := (b, .row e 0 0 (cs.set o v')) :: (Mx' ++ M)) (by first | exact gN | exact gS rfl) hH1 rfl rfl h1.one_ .here (Nat.zero_le _) (by simpa using ho) (by simp) fun H2 hH2 => ?_
  repeat' (first | refine zP ?_ | refine zA ?_ | (refine zM ?_; intro _ _) | refine zX ?_ | (refine zC ?_; intro _ _ _ _) | (refine zS ?_; intro _ _) | (apply Ws <;> intro hg))
  exact Ends.end0 ⟨v', Mx', n', h1, hn, hH2⟩
end
end Go.Proofs.Ytfnflkcjhefddaa.Lk

/- Barges are brought in and taken out. -/
namespace Go.Proofs.Ytfnflkcjhefddaa.Lk
open Go Go.Abs Go.Mth
set_option linter.unusedVariables false
set_option linter.unusedSimpArgs false
/-- Two basins in memory. -/
def BB (b : Nat) (p q : List Nat) (M : HL) (n : Nat) (H : Heap) : Prop := ∃ v0 v1 M0 M1, StkO 3 v0 (nodes p.reverse) M0 ∧ StkO 3 v1 (nodes q.reverse) M1 ∧ hasH ((b, .row 109 0 0 [v0, v1]) :: (M0 ++ (M1 ++ M))) n H
def tkB (p q : List Nat) (a : Nat) : Bool := decide (p.head? = some a) || decide (q.head? = some a)
def tkP (p : List Nat) (a : Nat) : List Nat := if p.head? = some a then p.tail else p
def tkQ (p q : List Nat) (a : Nat) : List Nat := if p.head? = some a then q else if q.head? = some a then q.tail else q
theorem nodes_snoc (l : List Nat) (x : Nat) : nodes (l ++ [x]) = nodes l ++ [.int .i64 (x : Int)] := by simp [nodes]
theorem nodes_cons_rev (l : List Nat) (x : Nat) : nodes (x :: l).reverse = nodes l.reverse ++ [.int .i64 (x : Int)] := by rw [List.reverse_cons, nodes_snoc]
/-- The first two parts change places. -/
theorem swap2 {p : Nat × Ch} {A B M : HL} {n : Nat} {H : Heap} (h : hasH (p :: (A ++ (B ++ M))) n H) : hasH (p :: (B ++ (A ++ M))) n H :=
  h.perm (.cons _ (List.perm_append_comm_assoc A B M))
attribute [local irreducible] gOK WS WC WR WD Ends FS YS OpV seqK blockK loopK midK retK rdK asgK rangeEnd sat Cell
section
variable {M : HL} {n0 : Nat} {H : Heap} {v w : Value}
set_option maxHeartbeats 1000000 in
theorem takeLast_fs {b cap : Nat} {p q : List Nat} (hB : BB b p q M n0 H) (a : Nat) :
    FS C 108 [.slice (some ⟨b, 0, some 0⟩) 2 cap, .int .i64 (a : Int)] H (fun e H' => e = .bool (tkB p q a) ∧ BB b (tkP p a) (tkQ p q a) M n0 H') := by
  obtain ⟨v0, v1, M0, M1, hp, hq, hH⟩ := hB
  refine FS.intro (pf := pf108) rfl rfl rfl ?_
  repeat' (first | refine zP ?_ | refine zA ?_ | (refine zM ?_; intro _ _) | refine zX ?_ | (refine zC ?_; intro _ _ _ _) | (refine zS ?_; intro _ _) | (apply Ws <;> intro hg))
  refine WC.loopX [(0, _), (1, _), (7, _), (8, _)] (fun k : Nat => [(9, .int .i64 (k : Int))]) [] (fun k H' => H' = H ∧ k ≤ 2 ∧ (1 ≤ k → p.head? ≠ some a) ∧ (2 ≤ k → q.head? ≠ some a)) (fun k => 2 - k) 0 (by repeat' (first | exact .nil | refine .cons rfl ?_)) rfl ⟨rfl, by omega, by omega, by omega⟩ ?_
  rintro k H' ⟨rfl, hk, h1, h2⟩
  dsimp only [List.cons_append, List.nil_append]
  repeat' (first | refine zP ?_ | refine zA ?_ | (refine zM ?_; intro _ _) | refine zX ?_ | (refine zC ?_; intro _ _ _ _) | (refine zS ?_; intro _ _) | (apply Ws <;> intro hg))
  refine WC.condP rfl (fun hlt => ?_) (fun hlt => ?_)
  · rcases (show k = 0 ∨ k = 1 by omega) with rfl | rfl
    · have hC := cell_row (M := (b, Ch.row 109 0 0 [v0, v1]) :: (M0 ++ (M1 ++ M))) (.head _) (o := 0) (v := v0) rfl
      repeat' (first | refine zP ?_ | refine zA ?_ | (refine zM ?_; intro _ _) | refine zX ?_ | (refine zC ?_; intro _ _ _ _) | (refine zS ?_; intro _ _) | refine zO ?_ | (apply Ws <;> intro hg))
      refine WR.call (by first | exact gN | exact gS rfl) rfl rfl (isEmpty_fs hH hC (hp.sl _).cons) ?_
      rintro _ H1 ⟨rfl, rfl⟩
      cases p with
      | nil =>
        rw [decide_eq_true (by rfl)]
        repeat' (first | refine zP ?_ | refine zA ?_ | (refine zM ?_; intro _ _) | refine zX ?_ | (refine zC ?_; intro _ _ _ _) | (refine zS ?_; intro _ _) | refine zO ?_ | (apply Ws <;> intro hg))
        exact Ends.loop 1 (by omega) (by repeat' (first | exact .nil | refine .cons rfl ?_)) rfl ⟨rfl, by omega, fun _ => by simp, by omega⟩
      | cons x p =>
        rw [decide_eq_false (by simp)]
        rw [nodes_cons_rev] at hp
        have hbd := StkO.len hp
        rw [List.length_append, List.length_singleton] at hbd
        repeat' (first | refine zP ?_ | refine zA ?_ | (refine zM ?_; intro _ _) | refine zX ?_ | (refine zC ?_; intro _ _ _ _) | (refine zS ?_; intro _ _) | refine zO ?_ | (apply Ws <;> intro hg))
        refine WR.call (by first | exact gN | exact gS rfl) rfl rfl (last_fs hH hC (hp.sl _).cons (by omega)) ?_
        rintro _ H2 ⟨rfl, rfl⟩
        repeat' (first | refine zP ?_ | refine zA ?_ | (refine zM ?_; intro _ _) | refine zX ?_ | (refine zC ?_; intro _ _ _ _) | (refine zS ?_; intro _ _) | (apply Ws <;> intro hg))
        refine WC.condP rfl (fun he => ?_) (fun he => ?_)
        · have he2 : x = a := by omega
          subst he2
          repeat' (first | refine zP ?_ | refine zA ?_ | (refine zM ?_; intro _ _) | refine zX ?_ | (refine zC ?_; intro _ _ _ _) | (refine zS ?_; intro _ _) | (apply Ws <;> intro hg))
          refine WR.call (by first | exact gN | exact gS rfl) rfl rfl (take_fs hp hH rfl) ?_
          rintro _ H3 ⟨rfl, v', hv', hH3⟩
          repeat' (first | refine zP ?_ | refine zA ?_ | (refine zM ?_; intro _ _) | refine zX ?_ | (refine zC ?_; intro _ _ _ _) | (refine zS ?_; intro _ _) | (apply Ws <;> intro hg))
          refine Ends.ret1 rfl ⟨by simp [tkB], by simp only [tkP, tkQ, List.head?_cons, if_true, List.tail_cons]; exact ⟨v', v1, M0, M1, hv', hq, hH3⟩⟩
        · repeat' (first | refine zP ?_ | refine zA ?_ | (refine zM ?_; intro _ _) | refine zX ?_ | (refine zC ?_; intro _ _ _ _) | (refine zS ?_; intro _ _) | (apply Ws <;> intro hg))
          exact Ends.loop 1 (by omega) (by repeat' (first | exact .nil | refine .cons rfl ?_)) rfl ⟨rfl, by omega, fun _ => by simp; omega, by omega⟩
    · have hC := cell_row (M := (b, Ch.row 109 0 0 [v0, v1]) :: (M1 ++ (M0 ++ M))) (.head _) (o := 1) (v := v1) rfl
      have hpa := h1 (Nat.le_refl _)
      replace hH := swap2 hH
      repeat' (first | refine zP ?_ | refine zA ?_ | (refine zM ?_; intro _ _) | refine zX ?_ | (refine zC ?_; intro _ _ _ _) | (refine zS ?_; intro _ _) | refine zO ?_ | (apply Ws <;> intro hg))
      refine WR.call (by first | exact gN | exact gS rfl) rfl rfl (isEmpty_fs hH hC (hq.sl _).cons) ?_
      rintro _ H1 ⟨rfl, rfl⟩
      cases q with
      | nil =>
        rw [decide_eq_true (by rfl)]
        repeat' (first | refine zP ?_ | refine zA ?_ | (refine zM ?_; intro _ _) | refine zX ?_ | (refine zC ?_; intro _ _ _ _) | (refine zS ?_; intro _ _) | refine zO ?_ | (apply Ws <;> intro hg))
        exact Ends.loop 2 (by omega) (by repeat' (first | exact .nil | refine .cons rfl ?_)) rfl ⟨rfl, by omega, fun _ => hpa, fun _ => by simp⟩
      | cons x q =>
        rw [decide_eq_false (by simp)]
        rw [nodes_cons_rev] at hq
        have hbd := StkO.len hq
        rw [List.length_append, List.length_singleton] at hbd
        repeat' (first | refine zP ?_ | refine zA ?_ | (refine zM ?_; intro _ _) | refine zX ?_ | (refine zC ?_; intro _ _ _ _) | (refine zS ?_; intro _ _) | refine zO ?_ | (apply Ws <;> intro hg))
        refine WR.call (by first | exact gN | exact gS rfl) rfl rfl (last_fs hH hC (hq.sl _).cons (by omega)) ?_
        rintro _ H2 ⟨rfl, rfl⟩
        repeat' (first | refine zP ?_ | refine zA ?_ | (refine zM ?_; intro _ _) | refine zX ?_ | (refine zC ?_; intro _ _ _ _) | (refine zS ?_; intro _ _) | (apply Ws <;> intro hg))
        refine WC.condP rfl (fun he => ?_) (fun he => ?_)
        · have he2 : x = a := by omega
          subst he2
          repeat' (first | refine zP ?_ | refine zA ?_ | (refine zM ?_; intro _ _) | refine zX ?_ | (refine zC ?_; intro _ _ _ _) | (refine zS ?_; intro _ _) | (apply Ws <;> intro hg))
          refine WR.call (by first | exact gN | exact gS rfl) rfl rfl (take_fs hq hH rfl) ?_
          rintro _ H3 ⟨rfl, v', hv', hH3⟩
          repeat' (first | refine zP ?_ | refine zA ?_ | (refine zM ?_; intro _ _) | refine zX ?_ | (refine zC ?_; intro _ _ _ _) | (refine zS ?_; intro _ _) | (apply Ws <;> intro hg))
          refine Ends.ret1 rfl ⟨by simp [tkB], by simp only [tkP, tkQ, List.head?_cons, if_true, List.tail_cons, if_neg hpa]; exact ⟨v0, v', M0, M1, hp, hv', swap2 hH3⟩⟩
        · repeat' (first | refine zP ?_ | refine zA ?_ | (refine zM ?_; intro _ _) | refine zX ?_ | (refine zC ?_; intro _ _ _ _) | (refine zS ?_; intro _ _) | (apply Ws <;> intro hg))
          exact Ends.loop 2 (by omega) (by repeat' (first | exact .nil | refine .cons rfl ?_)) rfl ⟨rfl, by omega, fun _ => hpa, fun _ => by simp; omega⟩
  · have hk2 : k = 2 := by omega
    subst hk2
    have hpa := h1 (by omega)
    have hqa := h2 (by omega)
    repeat' (first | refine zP ?_ | refine zA ?_ | (refine zM ?_; intro _ _) | refine zX ?_ | (refine zC ?_; intro _ _ _ _) | (refine zS ?_; intro _ _) | (apply Ws <;> intro hg))
    refine Ends.ret1 rfl ⟨by simp [tkB, hpa, hqa], ?_⟩
    simp only [tkP, tkQ, if_neg hpa, if_neg hqa]
    exact ⟨v0, v1, M0, M1, hp, hq, hH⟩
end
end Go.Proofs.Ytfnflkcjhefddaa.Lk

/- Barges are brought in, and taken out as soon as they can be. -/
namespace Go.Proofs.Ytfnflkcjhefddaa.Lk
open Go Go.Abs Go.Mth
set_option linter.unusedVariables false
set_option linter.unusedSimpArgs false
/-- What is told of each move. -/
def TellK (fn : Nat) (caps : List Value) (J : List (Nat × Nat) → HL → Prop) (M : HL) : Prop := ∀ (tr : List (Nat × Nat)) (Mj F : HL) (n : Nat) (H : Heap) (a x : Nat), J tr Mj → tr.length ≤ 100 → (a = 105 ∨ a = 111) → hasH (F ++ (Mj ++ M)) n H →
  FS C fn ([] ++ [.int .u8 (a : Int), .int .i64 (x : Int)] ++ caps) H (fun e H' => ∃ Mj' n', J (tr ++ [(a, x)]) Mj' ∧ n ≤ n' ∧ hasH (F ++ (Mj' ++ M)) n' H')
theorem BB.tell {fn : Nat} {caps : List Value} {J : List (Nat × Nat) → HL → Prop} {M Mj : HL} {b n : Nat} {H : Heap} {p q : List Nat} {tr : List (Nat × Nat)} (hT : TellK fn caps J M) (h : BB b p q (Mj ++ M) n H) (hJ : J tr Mj) (hl : tr.length ≤ 100) (a x : Nat) (ha : a = 105 ∨ a = 111) :
    FS C fn ([] ++ [.int .u8 (a : Int), .int .i64 (x : Int)] ++ caps) H (fun e H' => ∃ Mj' n', J (tr ++ [(a, x)]) Mj' ∧ n ≤ n' ∧ BB b p q (Mj' ++ M) n' H') := by
  obtain ⟨v0, v1, M0, M1, hp, hq, hH⟩ := h
  refine (hT tr Mj ((b, .row 109 0 0 [v0, v1]) :: (M0 ++ M1)) n H a x hJ hl ha (by rw [List.cons_append, List.append_assoc]; exact hH)).mono ?_
  rintro e H' ⟨Mj', n', h1, h2, h3⟩
  refine ⟨Mj', n', h1, h2, v0, v1, M0, M1, hp, hq, ?_⟩
  rw [List.cons_append, List.append_assoc] at h3
  exact h3
theorem BB.bring {M : HL} {b n o : Nat} {H : Heap} {p q : List Nat} (h : BB b p q M n H) (x : Nat) (ho : o < 2) (hl : p.length ≤ 1000 ∧ q.length ≤ 1000) :
    FS C 98 [ptrO b o, .int .i64 (x : Int)] H (fun e H' => ∃ n', n ≤ n' ∧ BB b (if o = 0 then x :: p else p) (if o = 0 then q else x :: q) M n' H') := by
  obtain ⟨v0, v1, M0, M1, hp, hq, hH⟩ := h
  rcases (show o = 0 ∨ o = 1 by omega) with rfl | rfl
  · refine (bring_fs hp hH rfl (by simp; omega)).mono ?_
    rintro e H' ⟨v', Mx', n', h1, h2, h3⟩
    refine ⟨n', h2, v', v1, Mx', M1, ?_, hq, h3⟩
    rw [if_pos rfl, nodes_cons_rev]; exact h1
  · refine (bring_fs hq (swap2 hH) rfl (by simp; omega)).mono ?_
    rintro e H' ⟨v', Mx', n', h1, h2, h3⟩
    refine ⟨n', h2, v0, v', M0, Mx', hp, ?_, swap2 h3⟩
    rw [if_neg (by decide), nodes_cons_rev]; exact h1
theorem BB.sl {M : HL} {b n : Nat} {H : Heap} {p q : List Nat} (h : BB b p q M n H) : ∃ U, hasH U n H ∧ ∀ z ∈ M, z ∈ U := by
  obtain ⟨v0, v1, M0, M1, hp, hq, hH⟩ := h
  exact ⟨_, hH, fun z hz => List.mem_cons_of_mem _ (List.mem_append_right _ (List.mem_append_right _ hz))⟩
structure FX where
  k : Nat
  vw : Value
  Mj : HL
  n : Nat
structure FY where
  p : List Nat
  q : List Nat
  ws : List Nat
  tr : List (Nat × Nat)
  vw : Value
  Mj : HL
  n : Nat
/-- How many lie in the basins. -/
theorem popAll_len : ∀ (ws p q : List Nat), (popAll p q ws).1.length ≤ p.length ∧ (popAll p q ws).2.1.length ≤ q.length ∧ (popAll p q ws).2.2.length ≤ ws.length
  | [], p, q => by simp [popAll]
  | w :: ws, p, q => by
    simp only [popAll]
    split
    · have := popAll_len ws p.tail q; simp at this ⊢; omega
    · split
      · have := popAll_len ws p q.tail; simp at this ⊢; omega
      · simp
theorem basK_len (o t ws : List Nat) : ∀ k, (basK o t ws k).1.length ≤ k ∧ (basK o t ws k).2.1.length ≤ k
  | 0 => by simp [basK]
  | k + 1 => by
    have ih := basK_len o t ws k
    simp only [basK, put2]
    split
    · have := popAll_len (basK o t ws k).2.2 (o.getD k 0 :: (basK o t ws k).1) (basK o t ws k).2.1; rw [List.length_cons] at this; omega
    · have := popAll_len (basK o t ws k).2.2 (basK o t ws k).1 (o.getD k 0 :: (basK o t ws k).2.1); rw [List.length_cons] at this; omega
theorem pop_yes {p q : List Nat} {w : Nat} (h : tkB p q w = true) (ws : List Nat) : popAll p q (w :: ws) = popAll (tkP p w) (tkQ p q w) ws ∧ popTr p q (w :: ws) = (111, w) :: popTr (tkP p w) (tkQ p q w) ws := by
  simp only [tkB, Bool.or_eq_true, decide_eq_true_eq] at h
  simp only [popAll, popTr, tkP, tkQ]
  by_cases h1 : p.head? = some w
  · simp only [if_pos h1]; exact ⟨trivial, trivial⟩
  · have h2 := h.resolve_left h1
    simp only [if_neg h1, if_pos h2]; exact ⟨trivial, trivial⟩
theorem pop_no {p q : List Nat} {w : Nat} (h : tkB p q w = false) (ws : List Nat) : popAll p q (w :: ws) = (p, q, w :: ws) ∧ popTr p q (w :: ws) = [] := by
  simp only [tkB, Bool.or_eq_false_iff, decide_eq_false_iff_not] at h
  simp only [popAll, popTr, if_neg h.1, if_neg h.2]; exact ⟨trivial, trivial⟩
theorem no_same {p q : List Nat} {w : Nat} (h : tkB p q w = false) : tkP p w = p ∧ tkQ p q w = q := by
  simp only [tkB, Bool.or_eq_false_iff, decide_eq_false_iff_not] at h
  simp only [tkP, tkQ, if_neg h.1, if_neg h.2]; exact ⟨trivial, trivial⟩
attribute [local irreducible] gOK WS WC WR WD Ends FS YS OpV seqK blockK loopK midK retK rdK asgK rangeEnd sat Cell
section
variable {M : HL} {n0 : Nat} {H : Heap} {v w : Value}
set_option maxHeartbeats 2000000 in
theorem fetch_fs {fn : Nat} {caps : List Value} {J : List (Nat × Nat) → HL → Prop} (hT : TellK fn caps J M) {Mj : HL} (hJ : J [] Mj) {o ws t : List Nat} {vo vw vt : Value} (ho : Sl M 1 vo (nodes o)) (hw : Sl M 1 vw (nodes ws)) (ht : Sl M 1 vt (nodes t))
    (hol : o.length ≤ 10) (hwl : ws.length ≤ 10) (htl : o.length ≤ t.length) (ht2 : ∀ x ∈ t, x < 2) (hH : hasH (Mj ++ M) n0 H) :
    FS C 80 [vo, vw, vt, .func (.func fn) [].toArray caps.toArray] H (fun e H' => ∃ Mj' n', e = .bool (decide ((basK o t ws o.length).2.2 = [])) ∧ J (trK o t ws o.length) Mj' ∧ n0 ≤ n' ∧ hasH (Mj' ++ M) n' H') := by
  have ho0 := ho.mono fun q hq => List.mem_append_right Mj hq
  refine FS.intro (pf := pf80) rfl rfl rfl ?_
  repeat' (first | refine zP ?_ | refine zA ?_ | (refine zM ?_; intro _ _) | refine zX ?_ | (refine zC ?_; intro _ _ _ _) | (refine zS ?_; intro _ _) | (apply Ws <;> intro hg))
  rename_i H1 hH1
  have ho1 := ho0.cons (p := (n0, Ch.row 109 0 0 [.slice none 0 0, .slice none 0 0]))
  repeat' (first | refine zP ?_ | refine zA ?_ | (refine zM ?_; intro _ _) | refine zX ?_ | (refine zC ?_; intro _ _ _ _) | (refine zS ?_; intro _ _) | (apply Ws <;> intro hg))
  have hB1 : BB n0 [] [] (Mj ++ M) (n0 + 1) H1 := ⟨_, _, [], [], .nil, .nil, hH1⟩
  clear ho0 ho1 hH hH1
  refine WC.loopX [(0, vo), (2, vt), (3, .func (.func fn) [].toArray caps.toArray), (9, ptrO n0 0), (12, vo), (13, .int .i64 (o.length : Int))] (fun z : FX => [(14, .int .i64 (z.k : Int)), (1, z.vw)]) []
    (fun z H' => z.k ≤ o.length ∧ Sl M 1 z.vw (nodes (basK o t ws z.k).2.2) ∧ J (trK o t ws z.k) z.Mj ∧ n0 ≤ z.n ∧ BB n0 (basK o t ws z.k).1 (basK o t ws z.k).2.1 (z.Mj ++ M) z.n H') (fun z => o.length - z.k) ⟨0, vw, Mj, n0 + 1⟩ (by repeat' (first | exact .nil | refine .cons rfl ?_)) rfl
    ⟨Nat.zero_le _, hw, hJ, Nat.le_succ _, hB1⟩ ?_
  clear hB1 hJ hw
  rintro ⟨k, vw, Mj, n1⟩ H2 ⟨hk, hw, hJ, hn1, hB⟩
  simp only at hk hw hJ hn1 hB
  have hlen := trK_len o t ws k
  have hbl := basK_len o t ws k
  have hsucc : basK o t ws (k + 1) = put2 (basK o t ws k) (o.getD k 0) (t.getD k 0) := rfl
  have htsucc : trK o t ws (k + 1) = trK o t ws k ++ putTr (basK o t ws k) (o.getD k 0) (t.getD k 0) := rfl
  dsimp only [List.cons_append, List.nil_append]
  obtain ⟨U, hU, hMU⟩ := hB.sl
  have hoU := ho.mono fun q hq => hMU q (List.mem_append_right _ hq)
  have htU := ht.mono fun q hq => hMU q (List.mem_append_right _ hq)
  repeat' (first | refine zP ?_ | refine zA ?_ | (refine zM ?_; intro _ _) | refine zX ?_ | (refine zC ?_; intro _ _ _ _) | (refine zS ?_; intro _ _) | (apply Ws <;> intro hg))
  refine WC.condP rfl (fun hlt => ?_) (fun hlt => ?_)
  · have hk' : k < o.length := by omega
    have hkt : k < t.length := by omega
    have hbt : t.getD k 0 < 2 := ht2 _ (getD_mem hkt)
    repeat' (first | refine zP ?_ | refine zA ?_ | (refine zM ?_; intro _ _) | refine zX ?_ | (refine zC ?_; intro _ _ _ _) | (refine zS ?_; intro _ _) | (apply Ws <;> intro hg))
    refine WR.call (by first | exact gN | exact gS rfl) rfl rfl (hB.bring (o.getD k 0) hbt (by omega)) ?_
    clear hB hU hoU htU hMU
    rintro _ H3 ⟨n3, hn3, hB⟩
    repeat' (first | refine zP ?_ | refine zA ?_ | (refine zM ?_; intro _ _) | refine zX ?_ | (refine zC ?_; intro _ _ _ _) | (refine zS ?_; intro _ _) | (apply Ws <;> intro hg))
    refine WR.callV (by first | exact gN | exact gS rfl) rfl rfl rfl (hB.tell hT hJ (by omega) 105 (o.getD k 0) (.inl rfl)) ?_
    rintro _ H4 ⟨Mj4, n4, hJ4, hn4, hB4⟩
    clear hB hJ
    repeat' (first | refine zP ?_ | refine zA ?_ | (refine zM ?_; intro _ _) | refine zX ?_ | (refine zC ?_; intro _ _ _ _) | (refine zS ?_; intro _ _) | (apply Ws <;> intro hg))
    obtain ⟨p0, hp0⟩ : ∃ p0, (if t.getD k 0 = 0 then o.getD k 0 :: (basK o t ws k).1 else (basK o t ws k).1) = p0 := ⟨_, rfl⟩
    obtain ⟨q0, hq0⟩ : ∃ q0, (if t.getD k 0 = 0 then (basK o t ws k).2.1 else o.getD k 0 :: (basK o t ws k).2.1) = q0 := ⟨_, rfl⟩
    have hput : put2 (basK o t ws k) (o.getD k 0) (t.getD k 0) = popAll p0 q0 (basK o t ws k).2.2 := by
      rw [← hp0, ← hq0]; unfold put2; split <;> rfl
    have hptr : putTr (basK o t ws k) (o.getD k 0) (t.getD k 0) = (105, o.getD k 0) :: popTr p0 q0 (basK o t ws k).2.2 := by
      rw [← hp0, ← hq0]; unfold putTr; split <;> rfl
    rw [hp0, hq0] at hB4
    rw [hput] at hsucc
    rw [hptr, List.append_cons] at htsucc
    clear hput hptr hp0 hq0
    have hl4 : (trK o t ws k ++ [(105, o.getD k 0)]).length + (basK o t ws k).2.2.length ≤ 30 := by simp; omega
    generalize (basK o t ws k).2.2 = ws0 at *
    generalize trK o t ws k ++ [(105, o.getD k 0)] = tr0 at *
    generalize o.getD k 0 = x at *
    refine WC.loopX [(0, vo), (2, vt), (3, .func (.func fn) [].toArray caps.toArray), (9, ptrO n0 0), (12, vo), (13, .int .i64 (o.length : Int)), (14, .int .i64 (k : Int))] (fun z : FY => [(1, z.vw)]) []
      (fun z H' => Sl M 1 z.vw (nodes z.ws) ∧ J z.tr z.Mj ∧ n0 ≤ z.n ∧ BB n0 z.p z.q (z.Mj ++ M) z.n H' ∧ popAll z.p z.q z.ws = popAll p0 q0 ws0 ∧ z.tr ++ popTr z.p z.q z.ws = tr0 ++ popTr p0 q0 ws0 ∧ z.tr.length + z.ws.length ≤ 30) (fun z => z.ws.length) ⟨p0, q0, ws0, tr0, vw, Mj4, n4⟩ (by repeat' (first | exact .nil | refine .cons rfl ?_)) rfl
      ⟨hw, hJ4, by simp only; omega, hB4, rfl, rfl, hl4⟩ ?_
    clear hB4 hJ4 hw hl4
    rintro ⟨p, q, ws1, tr, vw1, Mj5, n5⟩ H5 ⟨hw, hJ, hn5, hB, hpop, htr, hl5⟩
    simp only at hw hJ hn5 hB hpop htr hl5
    dsimp only [List.cons_append, List.nil_append]
    obtain ⟨U, hU, hMU⟩ := hB.sl
    have hwU := hw.mono fun q hq => hMU q (List.mem_append_right _ hq)
    cases ws1 with
    | nil =>
      have e1 : basK o t ws (k + 1) = (p, q, []) := by rw [hsucc, ← hpop]; rfl
      have e2 : trK o t ws (k + 1) = tr := by rw [htsucc, ← htr]; exact List.append_nil _
      have hwl0 : ([] : List Nat).length = 0 := rfl
      repeat' (first | refine zP ?_ | refine zA ?_ | (refine zM ?_; intro _ _) | refine zX ?_ | (refine zC ?_; intro _ _ _ _) | (refine zS ?_; intro _ _) | refine zO ?_ | (apply Ws <;> intro hg))
      refine Ends.loop ⟨k + 1, vw1, Mj5, n5⟩ (by simp only; omega) (by repeat' (first | exact .nil | refine .cons rfl ?_)) rfl ⟨hk', ?_, ?_, hn5, ?_⟩
      · simp only [e1]; exact hw
      · simp only [e2]; exact hJ
      · simp only [e1]; exact hB
    | cons w ws2 =>
      have hl6 : (w :: ws2).length = ws2.length + 1 := rfl
      have hg0 : (w :: ws2).getD 0 0 = w := rfl
      repeat' (first | refine zP ?_ | refine zA ?_ | (refine zM ?_; intro _ _) | refine zX ?_ | (refine zC ?_; intro _ _ _ _) | (refine zS ?_; intro _ _) | refine zO ?_ | (apply Ws <;> intro hg))
      refine WR.op (by first | exact gN | exact gS rfl) rfl (OpV.slA rfl (by decide)) ?_
      repeat' (first | refine zP ?_ | refine zA ?_ | (refine zM ?_; intro _ _) | refine zX ?_ | (refine zC ?_; intro _ _ _ _) | (refine zS ?_; intro _ _) | refine zO ?_ | (apply Ws <;> intro hg))
      refine WR.call (by first | exact gN | exact gS rfl) rfl rfl (takeLast_fs hB w) ?_
      rintro _ H6 ⟨rfl, hB6⟩
      clear hU hwU hMU hB
      cases hb : tkB p q w with
      | false =>
        have e0 := pop_no hb ws2
        have e9 := no_same hb
        rw [e9.1, e9.2] at hB6
        have e1 : basK o t ws (k + 1) = (p, q, w :: ws2) := by rw [hsucc, ← hpop, e0.1]
        have e2 : trK o t ws (k + 1) = tr := by rw [htsucc, ← htr, e0.2]; exact List.append_nil _
        repeat' (first | refine zP ?_ | refine zA ?_ | (refine zM ?_; intro _ _) | refine zX ?_ | (refine zC ?_; intro _ _ _ _) | (refine zS ?_; intro _ _) | refine zO ?_ | (apply Ws <;> intro hg))
        refine Ends.loop ⟨k + 1, vw1, Mj5, n5⟩ (by simp only; omega) (by repeat' (first | exact .nil | refine .cons rfl ?_)) rfl ⟨hk', ?_, ?_, hn5, ?_⟩
        · simp only [e1]; exact hw
        · simp only [e2]; exact hJ
        · simp only [e1]; exact hB6
      | true =>
        have e0 := pop_yes hb ws2
        obtain ⟨U, hU, hMU⟩ := hB6.sl
        have hwU := hw.mono fun q hq => hMU q (List.mem_append_right _ hq)
        repeat' (first | refine zP ?_ | refine zA ?_ | (refine zM ?_; intro _ _) | refine zX ?_ | (refine zC ?_; intro _ _ _ _) | (refine zS ?_; intro _ _) | refine zO ?_ | (apply Ws <;> intro hg))
        refine WR.callV (by first | exact gN | exact gS rfl) rfl rfl rfl (hB6.tell hT hJ (by omega) 111 w (.inr rfl)) ?_
        rintro _ H7 ⟨Mj7, n7, hJ7, hn7, hB7⟩
        repeat' (first | refine zP ?_ | refine zA ?_ | (refine zM ?_; intro _ _) | refine zX ?_ | (refine zC ?_; intro _ _ _ _) | (refine zS ?_; intro _ _) | (apply Ws <;> intro hg))
        refine WR.cutLoN (a := 1) (by first | exact gN | exact gS rfl) rfl rfl hw rfl (by rw [hl6]; omega) fun v' hv' => ?_
        repeat' (first | refine zP ?_ | refine zA ?_ | (refine zM ?_; intro _ _) | refine zX ?_ | (refine zC ?_; intro _ _ _ _) | (refine zS ?_; intro _ _) | (apply Ws <;> intro hg))
        refine Ends.loop ⟨tkP p w, tkQ p q w, ws2, tr ++ [(111, w)], v', Mj7, n7⟩ (by simp only [hl6]; omega) (by repeat' (first | exact .nil | refine .cons rfl ?_)) rfl ⟨hv', hJ7, by simp only; omega, hB7, ?_, ?_, ?_⟩
        · simp only [← e0.1]; exact hpop
        · rw [← htr, e0.2]; simp
        · simp only [List.length_append, List.length_singleton]; omega
  · have hkn : k = o.length := by omega
    subst hkn
    have hw2 := hw.mono fun q hq => hMU q (List.mem_append_right _ hq)
    obtain ⟨we, hwe⟩ : ∃ we, (basK o t ws o.length).2.2 = we := ⟨_, rfl⟩
    rw [hwe] at hw2 ⊢
    have hwl2 : we.length ≤ 100 := by rw [← hwe]; omega
    clear hw hsucc htsucc hlen
    repeat' (first | refine zP ?_ | refine zA ?_ | (refine zM ?_; intro _ _) | refine zX ?_ | (refine zC ?_; intro _ _ _ _) | (refine zS ?_; intro _ _) | (apply Ws <;> intro hg))
    obtain ⟨v0, v1, M0, M1, hp, hq, hH⟩ := hB
    refine Ends.ret1 rfl ⟨Mj, n1, ?_, hJ, hn1, hH.sub (((List.sublist_append_right M1 _).trans (List.sublist_append_right M0 _)).cons _)⟩
    congr 1
    rw [decide_eq_decide, ← List.length_eq_zero_iff]
    omega
end
end Go.Proofs.Ytfnflkcjhefddaa.Lk

/- Whether barges can leave in the ascending order. -/
namespace Go.Proofs.Ytfnflkcjhefddaa.Lk
open Go Go.Abs Go.Mth
set_option linter.unusedVariables false
set_option linter.unusedSimpArgs false
def ascT (o t : List Nat) : Bool := decide ((basK o t (List.range o.length) o.length).2.2 = [])
structure UX where
  k : Nat
  v : Value
  Mx : HL
  n : Nat
attribute [local irreducible] gOK WS WC WR WD Ends FS YS OpV seqK blockK loopK midK retK rdK asgK rangeEnd sat Cell
section
variable {M : HL} {n0 : Nat} {H : Heap} {v w : Value}
theorem upTo_fs (hH : hasH M n0 H) {n : Nat} (hn : n ≤ 1000) :
    FS C 81 [.int .i64 (n : Int)] H (fun e H' => ∃ Mx n', Own 3 1 e (nodes (List.range n)) Mx ∧ n0 ≤ n' ∧ hasH (Mx ++ M) n' H') := by
  refine FS.intro (pf := pf81) rfl rfl rfl ?_
  repeat' (first | refine zP ?_ | refine zA ?_ | (refine zM ?_; intro _ _) | refine zX ?_ | (refine zC ?_; intro _ _ _ _) | (refine zS ?_; intro _ _) | (apply Ws <;> intro hg))
  refine WC.loopX [(0, .int .i64 (n : Int)), (5, .int .i64 (n : Int))] (fun z : UX => [(6, .int .i64 (z.k : Int)), (3, z.v)]) [] (fun z H' => z.k ≤ n ∧ Own 3 1 z.v (nodes (List.range z.k)) z.Mx ∧ n0 ≤ z.n ∧ hasH (z.Mx ++ M) z.n H') (fun z => n - z.k) ⟨0, .slice none 0 0, [], n0⟩ (by repeat' (first | exact .nil | refine .cons rfl ?_)) rfl ⟨Nat.zero_le _, .nil, Nat.le_refl _, hH⟩ ?_
  clear hH
  rintro ⟨k, v, Mx, n1⟩ H1 ⟨hk, hO, hn1, hH⟩
  simp only at hk hO hn1 hH
  dsimp only [List.cons_append, List.nil_append]
  repeat' (first | refine zP ?_ | refine zA ?_ | (refine zM ?_; intro _ _) | refine zX ?_ | (refine zC ?_; intro _ _ _ _) | (refine zS ?_; intro _ _) | (apply Ws <;> intro hg))
  refine WC.condP rfl (fun hlt => ?_) (fun hlt => ?_)
  · have hk' : k < n := by omega
    repeat' (first | refine zP ?_ | refine zA ?_ | (refine zM ?_; intro _ _) | refine zX ?_ | (refine zC ?_; intro _ _ _ _) | (refine zS ?_; intro _ _) | (apply Ws <;> intro hg))
    refine WR.append1F [] Mx M rfl rfl rfl rfl hO hH (new := [.int .i64 (k : Int)]) rfl rfl rfl (Nat.le_refl _) (by decide) (by simp; omega) fun v' Mx' n' H' h1 h2 h3 => ?_
    repeat' (first | refine zP ?_ | refine zA ?_ | (refine zM ?_; intro _ _) | refine zX ?_ | (refine zC ?_; intro _ _ _ _) | (refine zS ?_; intro _ _) | (apply Ws <;> intro hg))
    refine Ends.loop ⟨k + 1, v', Mx', n'⟩ (by simp only; omega) (by repeat' (first | exact .nil | refine .cons rfl ?_)) rfl ⟨hk', ?_, by simp only; omega, h2⟩
    have : nodes (List.range (k + 1)) = nodes (List.range k) ++ [.int .i64 (k : Int)] := by rw [List.range_succ, nodes_snoc]
    simp only [this]; exact h1
  · have hkn : k = n := by omega
    subst hkn
    repeat' (first | refine zP ?_ | refine zA ?_ | (refine zM ?_; intro _ _) | refine zX ?_ | (refine zC ?_; intro _ _ _ _) | (refine zS ?_; intro _ _) | (apply Ws <;> intro hg))
    exact Ends.ret1 rfl ⟨Mx, n1, hO, hn1, hH⟩
theorem tell_none (M : HL) : TellK 101 [] (fun _ Mj => Mj = []) M := by
  rintro tr Mj F n H a x rfl _ _ hH
  refine FS.intro (pf := pf101) rfl rfl rfl ?_
  repeat' (first | refine zP ?_ | refine zA ?_ | (refine zM ?_; intro _ _) | refine zX ?_ | (refine zC ?_; intro _ _ _ _) | (refine zS ?_; intro _ _) | (apply Ws <;> intro hg))
  exact Ends.end0 ⟨[], n, rfl, Nat.le_refl _, hH⟩
theorem canAscend_fs (hH : hasH M n0 H) {o t : List Nat} (ho : Sl M 1 v (nodes o)) (ht : Sl M 1 w (nodes t)) (hol : o.length ≤ 10) (htl : o.length ≤ t.length) (ht2 : ∀ x ∈ t, x < 2) :
    FS C 71 [v, w] H (fun e H' => ∃ n', e = .bool (ascT o t) ∧ n0 ≤ n' ∧ hasH M n' H') := by
  have hv := ho.one_
  have hw := ht.one_
  refine FS.intro (pf := pf71) rfl rfl rfl ?_
  repeat' (first | refine zP ?_ | refine zA ?_ | (refine zM ?_; intro _ _) | refine zX ?_ | (refine zC ?_; intro _ _ _ _) | (refine zS ?_; intro _ _) | (apply Ws <;> intro hg))
  refine WR.call (by first | exact gN | exact gS rfl) rfl rfl (upTo_fs hH (by omega)) ?_
  rintro vw H1 ⟨Mx, n1, hO, hn1, hH1⟩
  have hS := hO.sl M
  have ho1 := ho.mono fun q hq => List.mem_append_right Mx hq
  have ht1 := ht.mono fun q hq => List.mem_append_right Mx hq
  repeat' (first | refine zP ?_ | refine zA ?_ | (refine zM ?_; intro _ _) | refine zX ?_ | (refine zC ?_; intro _ _ _ _) | (refine zS ?_; intro _ _) | (apply Ws <;> intro hg))
  refine WR.call (by first | exact gN | exact gS rfl) rfl rfl (fetch_fs (Mj := []) (tell_none (Mx ++ M)) rfl ho1 hS ht1 hol (by simp; omega) htl ht2 hH1) ?_
  rintro _ H2 ⟨Mj, n2, rfl, rfl, hn2, hH2⟩
  repeat' (first | refine zP ?_ | refine zA ?_ | (refine zM ?_; intro _ _) | refine zX ?_ | (refine zC ?_; intro _ _ _ _) | (refine zS ?_; intro _ _) | (apply Ws <;> intro hg))
  exact Ends.ret1 rfl ⟨n2, rfl, by omega, hH2.sub (List.sublist_append_right _ _)⟩
theorem Sorted_fs (hH : hasH M n0 H) {o : List Nat} (ho : Sl M 1 v (nodes o)) (hO : OrdN o) :
    FS C 25 [v] H (fun e H' => ∃ n', e = .tuple #[.bool (ascT o (List.replicate o.length 0)), .int .i64 0] ∧ n0 ≤ n' ∧ hasH M n' H') := by
  have hv := ho.one_
  have h7 := hO.most
  refine FS.intro (pf := pf25) rfl rfl rfl ?_
  repeat' (first | refine zP ?_ | refine zA ?_ | (refine zM ?_; intro _ _) | refine zX ?_ | (refine zC ?_; intro _ _ _ _) | (refine zS ?_; intro _ _) | (apply Ws <;> intro hg))
  refine WR.call (by first | exact gN | exact gS rfl) rfl rfl (CheckN_fs hH ho hO) ?_
  rintro _ H1 ⟨rfl, rfl⟩
  repeat' (first | refine zP ?_ | refine zA ?_ | (refine zM ?_; intro _ _) | refine zX ?_ | (refine zC ?_; intro _ _ _ _) | (refine zS ?_; intro _ _) | refine zO ?_ | (apply Ws <;> intro hg))
  refine WR.mkS (m := o.length) (by first | exact gN | exact gS rfl) rfl hH rfl rfl (by omega) rfl fun H2 hH2 => ?_
  have hz : List.replicate o.length (Value.int .i64 0) = nodes (List.replicate o.length 0) := by simp [nodes]
  rw [hz] at hH2
  have hS : Sl ((n0, .row 3 0 0 (nodes (List.replicate o.length 0))) :: M) 1 (.slice (some ⟨n0, 0, some 0⟩) o.length (2 * o.length + 1)) (nodes (List.replicate o.length 0)) := by
    refine .row (.head _) (.row _ _ _ _) (Nat.le_refl _) (by simp) (by simp) (by simp) (.inr ⟨_, rfl, ?_⟩)
    omega
  repeat' (first | refine zP ?_ | refine zA ?_ | (refine zM ?_; intro _ _) | refine zX ?_ | (refine zC ?_; intro _ _ _ _) | (refine zS ?_; intro _ _) | refine zO ?_ | (apply Ws <;> intro hg))
  refine WR.call (by first | exact gN | exact gS rfl) rfl rfl (canAscend_fs hH2 ho.cons hS (by omega) (by simp) (fun x hx => by rw [(List.mem_replicate.1 hx).2]; decide)) ?_
  rintro _ H3 ⟨n3, rfl, hn3, hH3⟩
  repeat' (first | refine zP ?_ | refine zA ?_ | (refine zM ?_; intro _ _) | refine zX ?_ | (refine zC ?_; intro _ _ _ _) | (refine zS ?_; intro _ _) | refine zO ?_ | (apply Ws <;> intro hg))
  exact Ends.ret2 rfl rfl ⟨n3, rfl, by omega, hH3.tail⟩
end
end Go.Proofs.Ytfnflkcjhefddaa.Lk

/- A basin of lists: its methods. -/
namespace Go.Proofs.Ytfnflkcjhefddaa.Lk
open Go Go.Abs Go.Mth
set_option linter.unusedVariables false
set_option linter.unusedSimpArgs false
theorem fill1 {v : Value} (h : one v = true) : Instr.fill (fun j => some (j * 1, 1)) [Value.slice none 0 0].toArray [(0, v)] = some [v].toArray := by
  cases v <;> first | rfl | cases h
attribute [local irreducible] gOK WS WC WR WD Ends FS YS OpV seqK blockK loopK midK retK rdK asgK rangeEnd sat Cell
section
variable {M : HL} {n0 : Nat} {H : Heap} {v w : Value}
theorem isEmptyL_fs (hH : hasH M n0 H) {b o : Nat} {S : List Value} (hc : Cell M b o 0 v) (hS : Sl M 1 v S) :
    FS C 105 [ptrO b o] H (fun e H' => H' = H ∧ e = .bool (decide (S.length = 0))) := by
  refine FS.intro (pf := pf105) rfl rfl rfl ?_
  repeat' (first | refine zP ?_ | refine zA ?_ | (refine zM ?_; intro _ _) | refine zX ?_ | (refine zC ?_; intro _ _ _ _) | (refine zS ?_; intro _ _) | (apply Ws <;> intro hg))
  exact Ends.ret1 rfl ⟨rfl, by congr 1; rw [decide_eq_decide]; omega⟩
theorem lastL_fs (hH : hasH M n0 H) {b o : Nat} {S : List Value} {y : Value} (hc : Cell M b o 0 v) (hS : Sl M 1 v (S ++ [y])) (hb : S.length ≤ 10000) :
    FS C 120 [ptrO b o] H (fun e H' => H' = H ∧ e = y) := by
  refine FS.intro (pf := pf120) rfl rfl rfl ?_
  have hl : ((S ++ [y]).length : Int) = (S.length : Int) + 1 := by simp
  have h1 : S.length < (S ++ [y]).length := by simp
  have hg : (S ++ [y]).getD S.length undef = y := getD_snoc
  generalize S ++ [y] = Q at hS hl h1 hg
  repeat' (first | refine zP ?_ | refine zA ?_ | (refine zM ?_; intro _ _) | refine zX ?_ | (refine zC ?_; intro _ _ _ _) | (refine zS ?_; intro _ _) | (apply Ws <;> intro hg))
  rw [hl]
  repeat' (first | refine zP ?_ | refine zA ?_ | (refine zM ?_; intro _ _) | refine zX ?_ | (refine zC ?_; intro _ _ _ _) | (refine zS ?_; intro _ _) | (apply Ws <;> intro hg))
  rw [show (S.length : Int) + 1 - 1 = (S.length : Int) by omega]
  repeat' (first | refine zP ?_ | refine zA ?_ | (refine zM ?_; intro _ _) | refine zX ?_ | (refine zC ?_; intro _ _ _ _) | (refine zS ?_; intro _ _) | (apply Ws <;> intro hg))
  exact Ends.ret1 rfl ⟨rfl, hg⟩
theorem takeL_fs {e b o : Nat} {cs : List Value} {Mx : HL} {S : List Value} {y : Value} (hO : StkO 22 v (S ++ [y]) Mx) (hH : hasH ((b, .row e 0 0 cs) :: (Mx ++ M)) n0 H) (hc : cs[o]? = some v) :
    FS C 106 [ptrO b o] H (fun r H' => r = y ∧ ∃ v', StkO 22 v' S Mx ∧ hasH ((b, .row e 0 0 (cs.set o v')) :: (Mx ++ M)) n0 H') := by
  have hS := (hO.sl M).cons (p := (b, Ch.row e 0 0 cs))
  have hC := cell_row (M := (b, Ch.row e 0 0 cs) :: (Mx ++ M)) (.head _) hc
  have ho : o < cs.length := (List.getElem?_eq_some_iff.1 hc).1
  refine FS.intro (pf := pf106) rfl rfl rfl ?_
  repeat' (first | refine zP ?_ | refine zA ?_ | (refine zM ?_; intro _ _) | refine zX ?_ | (refine zC ?_; intro _ _ _ _) | (refine zS ?_; intro _ _) | (apply Ws <;> intro hg))
  have hb := StkO.len hO
  rw [List.length_append, List.length_singleton] at hb
  refine WR.call (by first | exact gN | exact gS rfl) rfl rfl (lastL_fs hH hC hS (by omega)) ?_
  rintro r _ ⟨rfl, hr⟩
  rw [hr]
  have hl : ((S ++ [y]).length : Int) = (S.length : Int) + 1 := by simp
  repeat' (first | refine zP ?_ | refine zA ?_ | (refine zM ?_; intro _ _) | refine zX ?_ | (refine zC ?_; intro _ _ _ _) | (refine zS ?_; intro _ _) | (apply Ws <;> intro hg))
  rw [hl]
  repeat' (first | refine zP ?_ | refine zA ?_ | (refine zM ?_; intro _ _) | refine zX ?_ | (refine zC ?_; intro _ _ _ _) | (refine zS ?_; intro _ _) | (apply Ws <;> intro hg))
  rw [show (S.length : Int) + 1 - 1 = (S.length : Int) by omega]
  refine WR.popO (by first | exact gN | exact gS rfl) rfl rfl hO rfl fun v' h2 => ?_
  repeat' (first | refine zP ?_ | refine zA ?_ | (refine zM ?_; intro _ _) | refine zX ?_ | (refine zC ?_; intro _ _ _ _) | (refine zS ?_; intro _ _) | (apply Ws <;> intro hg))
  refine WR.store1 (M' := (b, .row e 0 0 (cs.set o v')) :: (Mx ++ M)) (by first | exact gN | exact gS rfl) hH rfl rfl h2.one_ .here (Nat.zero_le _) (by simpa using ho) (by simp) fun H2 hH2 => ?_
  repeat' (first | refine zP ?_ | refine zA ?_ | (refine zM ?_; intro _ _) | refine zX ?_ | (refine zC ?_; intro _ _ _ _) | (refine zS ?_; intro _ _) | (apply Ws <;> intro hg))
  exact Ends.ret1 rfl ⟨rfl, v', h2, hH2⟩
theorem bringL_fs {e b o : Nat} {cs : List Value} {Mx : HL} {S : List Value} {a : Value} (ha : one a = true) (hO : StkO 22 v S Mx) (hH : hasH ((b, .row e 0 0 cs) :: (Mx ++ M)) n0 H) (hc : cs[o]? = some v) (hl : S.length ≤ 9000) :
    FS C 104 [ptrO b o, a] H (fun r H' => ∃ v' Mx' n', StkO 22 v' (S ++ [a]) Mx' ∧ n0 ≤ n' ∧ hasH ((b, .row e 0 0 (cs.set o v')) :: (Mx' ++ M)) n' H') := by
  have hC := cell_row (M := (b, Ch.row e 0 0 cs) :: (Mx ++ M)) (.head _) hc
  have ho : o < cs.length := (List.getElem?_eq_some_iff.1 hc).1
  refine FS.intro (pf := pf104) rfl rfl rfl ?_
  repeat' (first | refine zP ?_ | refine zA ?_ | (refine zM ?_; intro _ _) | refine zX ?_ | (refine zC ?_; intro _ _ _ _) | (refine zS ?_; intro _ _) | (apply Ws <;> intro hg))
  refine WR.push [(b, Ch.row e 0 0 cs)] Mx M rfl rfl rfl rfl hO hH (fill1 ha) ha hl fun v' Mx' n' H1 h1 hH1 hn => ?_
  repeat' (first | refine zP ?_ | refine zA ?_ | (refine zM ?_; intro _ _) | refine zX ?_ | (refine zC ?_; intro _ _ _ _) | (refine zS ?_; intro _ _) | (apply Ws <;> intro hg))
  refine WR.store1 (M' := (b, .row e 0 0 (cs.set o v')) :: (Mx' ++ M)) (by first | exact gN | exact gS rfl) hH1 rfl rfl h1.one_ .here (Nat.zero_le _) (by simpa using ho) (by simp) fun H2 hH2 => ?_
  repeat' (first | refine zP ?_ | refine zA ?_ | (refine zM ?_; intro _ _) | refine zX ?_ | (refine zC ?_; intro _ _ _ _) | (refine zS ?_; intro _ _) | (apply Ws <;> intro hg))
  exact Ends.end0 ⟨v', Mx', n', h1, hn, hH2⟩
end
end Go.Proofs.Ytfnflkcjhefddaa.Lk

/- All lists of numbers below a bound, one after the other. -/
namespace Go.Proofs.Ytfnflkcjhefddaa.Lk
open Go Go.Abs Go.Mth
set_option linter.unusedVariables false
set_option linter.unusedSimpArgs false
/-- All that a list begins, with so many numbers more, in ascending order. -/
def extL (bound : Nat) (fits : List Nat → Nat → Bool) : Nat → List Nat → List (List Nat)
  | 0, b => [b]
  | m + 1, b => ((List.range bound).filter (fits b)).flatMap fun x => extL bound fits m (b ++ [x])
/-- The same, for numbers from k on. -/
def extK (bound : Nat) (fits : List Nat → Nat → Bool) (m : Nat) (b : List Nat) (k : Nat) : List (List Nat) := (((List.range bound).drop k).filter (fits b)).flatMap fun x => extL bound fits m (b ++ [x])
theorem extK_zero (bound : Nat) (fits : List Nat → Nat → Bool) (m : Nat) (b : List Nat) : extK bound fits m b 0 = extL bound fits (m + 1) b := rfl
theorem extK_all (bound : Nat) (fits : List Nat → Nat → Bool) (m : Nat) (b : List Nat) : extK bound fits m b bound = [] := by
  unfold extK; rw [List.drop_of_length_le (by simp)]; rfl
theorem extK_step {bound k : Nat} (fits : List Nat → Nat → Bool) (m : Nat) (b : List Nat) (h : k < bound) : extK bound fits m b k = (if fits b k = true then extL bound fits m (b ++ [k]) else []) ++ extK bound fits m b (k + 1) := by
  unfold extK
  rw [List.drop_eq_getElem_cons (by simpa using h), List.getElem_range]
  by_cases hf : fits b k = true
  · rw [List.filter_cons_of_pos hf, List.flatMap_cons, if_pos hf]
  · rw [List.filter_cons_of_neg hf, if_neg hf, List.nil_append]
def rst (len bound : Nat) (fits : List Nat → Nat → Bool) (W : List (List Nat)) : List (List Nat) := W.reverse.flatMap fun b => extL bound fits (len - b.length) b
theorem rst_snoc (len bound : Nat) (fits : List Nat → Nat → Bool) (W : List (List Nat)) (b : List Nat) : rst len bound fits (W ++ [b]) = extL bound fits (len - b.length) b ++ rst len bound fits W := by
  simp [rst]
def wgt (len bound : Nat) (W : List (List Nat)) : Nat := (W.map fun b => (bound + 1) ^ (len - b.length)).sum
theorem wgt_snoc (len bound : Nat) (W : List (List Nat)) (b : List Nat) : wgt len bound (W ++ [b]) = wgt len bound W + (bound + 1) ^ (len - b.length) := by
  simp [wgt]
/-- A stack of lists, as they wait: not too many. -/
structure WaitS (len bound : Nat) (W : List (List Nat)) : Prop where
  idx : ∀ i, i < W.length → i ≤ bound * (W.getD i []).length
  len : ∀ i, i < W.length → (W.getD i []).length ≤ len
theorem WaitS.few {len bound : Nat} {W : List (List Nat)} (h : WaitS len bound W) (hl : len ≤ 7) (hb : bound ≤ 7) : W.length ≤ 50 := by
  refine Classical.byContradiction fun hn => ?_
  have h1 := h.idx 50 (by omega)
  have h2 := h.len 50 (by omega)
  have h3 : bound * (W.getD 50 []).length ≤ 7 * 7 := Nat.mul_le_mul hb (by omega)
  omega
theorem WaitS.init {len bound : Nat} {W : List (List Nat)} {b : List Nat} (h : WaitS len bound (W ++ [b])) : WaitS len bound W where
  idx i hi := by have := h.idx i (by simp; omega); rwa [getD_app_l hi] at this
  len i hi := by have := h.len i (by simp; omega); rwa [getD_app_l hi] at this
theorem WaitS.snoc {len bound : Nat} {W : List (List Nat)} {b : List Nat} (h : WaitS len bound W) (h1 : W.length ≤ bound * b.length) (h2 : b.length ≤ len) : WaitS len bound (W ++ [b]) where
  idx i hi := by
    rw [List.length_append, List.length_singleton] at hi
    by_cases e : i < W.length
    · rw [getD_app_l e]; exact h.idx i e
    · rw [show i = W.length by omega, getD_snoc]; exact h1
  len i hi := by
    rw [List.length_append, List.length_singleton] at hi
    by_cases e : i < W.length
    · rw [getD_app_l e]; exact h.len i e
    · rw [show i = W.length by omega, getD_snoc]; exact h2
/-- Lists in memory; none is nil. -/
def RowsZ (M : HL) (ws : List Value) (vs : List (List Nat)) : Prop := ws.length = vs.length ∧ ∀ i, i < vs.length → Sl M 1 (ws.getD i undef) (nodes (vs.getD i [])) ∧ (vs.getD i [] = [] → ws.getD i undef = .slice none 0 0)
theorem RowsZ.mono {M M' : HL} {ws : List Value} {vs : List (List Nat)} (h : RowsZ M ws vs) (k : ∀ p ∈ M, p ∈ M') : RowsZ M' ws vs := ⟨h.1, fun i hi => ⟨(h.2 i hi).1.mono k, (h.2 i hi).2⟩⟩
theorem RowsZ.nil (M : HL) : RowsZ M [] [] := ⟨rfl, fun i h => absurd h (Nat.not_lt_zero _)⟩
theorem RowsZ.snoc {M : HL} {ws : List Value} {w : Value} {vs : List (List Nat)} {r : List Nat} (h : RowsZ M ws vs) (hw : Sl M 1 w (nodes r)) (h0 : r = [] → w = .slice none 0 0) : RowsZ M (ws ++ [w]) (vs ++ [r]) := by
  refine ⟨by simp [h.1], fun i hi => ?_⟩
  rw [List.length_append, List.length_singleton] at hi
  by_cases e : i < vs.length
  · rw [getD_app_l (by rw [h.1]; exact e), getD_app_l e]; exact h.2 i e
  · have : i = vs.length := by omega
    subst this
    rw [getD_snoc, show vs.length = ws.length from h.1.symm, getD_snoc]; exact ⟨hw, h0⟩
theorem RowsZ.init {M : HL} {ws : List Value} {w : Value} {vs : List (List Nat)} {r : List Nat} (h : RowsZ M (ws ++ [w]) (vs ++ [r])) : RowsZ M ws vs ∧ Sl M 1 w (nodes r) ∧ (r = [] → w = .slice none 0 0) := by
  have hl : ws.length = vs.length := by have := h.1; simp at this; exact this
  refine ⟨⟨hl, fun i hi => ?_⟩, ?_⟩
  · have := h.2 i (by simp; omega)
    rwa [getD_app_l (by rw [hl]; exact hi), getD_app_l hi] at this
  · have := h.2 vs.length (by simp)
    rw [getD_snoc] at this
    rw [← hl, getD_snoc] at this
    exact this
structure LX where
  v : Value
  ws : List Value
  W : List (List Nat)
  Mo : HL
  Mi : HL
  Mc : HL
  n : Nat
structure LY where
  k : Nat
  v : Value
  ws : List Value
  W : List (List Nat)
  Mo : HL
  Mi : HL
  n : Nat
attribute [local irreducible] gOK WS WC WR WD Ends FS YS OpV seqK blockK loopK midK retK rdK asgK rangeEnd sat Cell
section
variable {M : HL} {n0 : Nat} {H : Heap} {v w : Value}
theorem Clone_fs (hH : hasH M n0 H) {l : List Nat} (hS : Sl M 1 v (nodes l)) (h0 : l = [] → v = .slice none 0 0) (hl : l.length ≤ 1000) :
    FS C 107 [v] H (fun e H' => ∃ Mx n', Own 3 1 e (nodes l) Mx ∧ n0 ≤ n' ∧ hasH (Mx ++ M) n' H') := by
  by_cases hl0 : l = []
  · have hv := h0 hl0
    subst hv
    subst hl0
    refine FS.intro (pf := pf107) rfl rfl rfl ?_
    repeat' (first | refine zP ?_ | refine zA ?_ | (refine zM ?_; intro _ _) | refine zX ?_ | (refine zC ?_; intro _ _ _ _) | (refine zS ?_; intro _ _) | (apply Ws <;> intro hg))
    exact Ends.ret1 rfl ⟨[], n0, .nil, Nat.le_refl _, hH⟩
  · have hne : nodes l ≠ [] := fun h => hl0 (List.map_eq_nil_iff.1 h)
    have hl1 : 0 < l.length := List.length_pos_iff.2 hl0
    have hsm : ∃ a len cap, v = .slice (some a) len cap := by
      generalize nodes l = cs at hS hne
      cases hS with
      | nil c => exact absurd rfl hne
      | emp a => exact ⟨_, _, _, rfl⟩
      | row => exact ⟨_, _, _, rfl⟩
    obtain ⟨a, len, cap, rfl⟩ := hsm
    refine FS.intro (pf := pf107) rfl rfl rfl ?_
    repeat' (first | refine zP ?_ | refine zA ?_ | (refine zM ?_; intro _ _) | refine zX ?_ | (refine zC ?_; intro _ _ _ _) | (refine zS ?_; intro _ _) | (apply Ws <;> intro hg))
    refine WR.bldS (by first | exact gN | exact gS rfl) rfl hH (vs := []) rfl (cs := []) (by rfl) rfl fun H3 hH3 => ?_
    repeat' (first | refine zP ?_ | refine zA ?_ | (refine zM ?_; intro _ _) | refine zX ?_ | (refine zC ?_; intro _ _ _ _) | (refine zS ?_; intro _ _) | (apply Ws <;> intro hg))
    obtain ⟨hk, hsr⟩ := (hS.cons (p := (n0, .row 3 0 0 []))).src hH3 hne
    refine WR.appendNew (by first | exact gN | exact gS rfl) rfl rfl rfl hH3 (.head _) (.row _ _ _ _) (Nat.zero_le _) (Nat.zero_le _) hk (by have := hsr _ (Nat.le_refl _); rw [List.take_length] at this; exact this) (by simp) (by simp; omega) (nodes_one' _) (by omega) (by omega) (by simp; omega) fun H' hH' => ?_
    repeat' (first | refine zP ?_ | refine zA ?_ | (refine zM ?_; intro _ _) | refine zX ?_ | (refine zC ?_; intro _ _ _ _) | (refine zS ?_; intro _ _) | (apply Ws <;> intro hg))
    exact Ends.ret1 rfl ⟨[(n0 + 1, .row 3 0 0 (nodes l))], n0 + 2, .row (by simp), by omega, hH'.sub (.cons_cons _ (List.sublist_cons_self _ _))⟩
set_option maxHeartbeats 4000000 in
theorem listsIt_fs {l ff bl bb bf len bound : Nat} {fits : List Nat → Nat → Bool} {B : HL} {J : List (List Nat) → HL → Prop} {Stop : List Nat → Value → HL → Prop} (hlen : len ≤ 7) (hbound : bound ≤ 7)
    (hfit : ∀ {T : HL} {n : Nat} {H : Heap} {u : Value} {b : List Nat} {x : Nat}, hasH T n H → Sl T 1 u (nodes b) → b.length ≤ 10 → FS C ff ([] ++ [u, .int .i64 (x : Int)] ++ []) H (fun e H' => H' = H ∧ e = .bool (fits b x)))
    (hH : hasH M n0 H) (hml : (bl, Ch.row 3 0 0 [.int .i64 (len : Int)]) ∈ B) (hmb : (bb, Ch.row 3 0 0 [.int .i64 (bound : Int)]) ∈ B) (hmf : (bf, Ch.row 83 0 0 [.func (.func ff) [].toArray [].toArray]) ∈ B)
    (hB : ∀ zs Mc, J zs Mc → ∀ p ∈ B, p ∈ Mc) (hJ : J (extL bound fits len []) M)
    (hy : ∀ z zs Mc T u n' H', n0 ≤ n' → J (z :: zs) Mc → Sl T 1 u (nodes z) → hasH (Mc ++ T) n' H' → YS C l [u] H'
      (fun r H2 => ∃ M2 n2, n' ≤ n2 ∧ hasH (M2 ++ T) n2 H2 ∧ ((r = .bool true ∧ J zs M2) ∨ (r = .bool false ∧ Stop z u M2)))) :
    FS C 103 [.func (.yield l) #[] #[], ptrO bl 0, ptrO bb 0, ptrO bf 0] H (fun _ H' => ∃ M2 T n2, n0 ≤ n2 ∧ hasH (M2 ++ T) n2 H' ∧ (J [] M2 ∨ ∃ z u, Sl T 1 u (nodes z) ∧ Stop z u M2)) := by
  refine FS.intro (pf := pf103) rfl rfl rfl ?_
  repeat' (first | refine zP ?_ | refine zA ?_ | (refine zM ?_; intro _ _) | refine zX ?_ | (refine zC ?_; intro _ _ _ _) | (refine zS ?_; intro _ _) | (apply Ws <;> intro hg))
  rename_i H1 hH1
  refine WR.call (by first | exact gN | exact gS rfl) rfl rfl (bringL_fs (a := .slice none 0 0) rfl (S := []) .nil (cs := [.slice none 0 0]) hH1 rfl (Nat.zero_le _)) ?_
  rintro _ H2 ⟨v1, Mo1, n1, hO1, hn1, hH2⟩
  replace hH2 : hasH ((n0, .row 108 0 0 [v1]) :: (Mo1 ++ M)) n1 H2 := hH2
  clear hH hH1
  repeat' (first | refine zP ?_ | refine zA ?_ | (refine zM ?_; intro _ _) | refine zX ?_ | (refine zC ?_; intro _ _ _ _) | (refine zS ?_; intro _ _) | (apply Ws <;> intro hg))
  refine WC.loopX [(0, _), (1, _), (2, _), (3, _), (5, ptrO n0 0)] (fun z : LX => []) []
    (fun z H' => n0 ≤ z.n ∧ WaitS len bound z.W ∧ J (rst len bound fits z.W) z.Mc ∧ StkO 22 z.v z.ws z.Mo ∧ RowsZ z.Mi z.ws z.W ∧ hasH ((n0, .row 108 0 0 [z.v]) :: (z.Mo ++ (z.Mi ++ z.Mc))) z.n H') (fun z => wgt len bound z.W) ⟨v1, [.slice none 0 0], [[]], Mo1, [], M, n1⟩ (by repeat' (first | exact .nil | refine .cons rfl ?_)) rfl
    ⟨by simp only; omega, ⟨fun i hi => by simp at hi; subst hi; exact Nat.zero_le _, fun i hi => by simp at hi; subst hi; exact Nat.zero_le _⟩, by simpa [rst] using hJ, hO1, RowsZ.snoc (RowsZ.nil _) (.nil 0) (fun _ => rfl), hH2⟩ ?_
  clear hH2 hO1 hJ
  rintro ⟨v, ws, W, Mo, Mi, Mc, n2⟩ H3 ⟨hn2, hW, hJ, hO, hR, hH⟩
  simp only at hn2 hW hJ hO hR hH
  dsimp only [List.cons_append, List.nil_append]
  have hC := cell_row (M := (n0, Ch.row 108 0 0 [v]) :: (Mo ++ (Mi ++ Mc))) (.head _) (o := 0) (v := v) rfl
  repeat' (first | refine zP ?_ | refine zA ?_ | (refine zM ?_; intro _ _) | refine zX ?_ | (refine zC ?_; intro _ _ _ _) | (refine zS ?_; intro _ _) | (apply Ws <;> intro hg))
  refine WR.call (by first | exact gN | exact gS rfl) rfl rfl (isEmptyL_fs hH hC (hO.sl _).cons) ?_
  rintro _ H4 ⟨rfl, rfl⟩
  have hwl := hR.1
  rcases List.eq_nil_or_concat W with rfl | ⟨W0, b, rfl⟩
  · rw [decide_eq_true (by rw [hwl]; rfl)]
    repeat' (first | refine zP ?_ | refine zA ?_ | (refine zM ?_; intro _ _) | refine zX ?_ | (refine zC ?_; intro _ _ _ _) | (refine zS ?_; intro _ _) | refine zO ?_ | (apply Ws <;> intro hg))
    exact Ends.end0 ⟨Mc, (n0, Ch.row 108 0 0 [v]) :: (Mo ++ Mi), n2, hn2, hH.perm (by classical exact List.perm_iff_count.2 (fun a => by simp only [defds, List.map_cons, List.map_nil, List.count_append, List.count_cons, List.count_nil, List.cons_append, List.nil_append, List.append_nil]; omega)), .inl hJ⟩
  · obtain ⟨ws0, u, rfl⟩ : ∃ ws0 u, ws = ws0 ++ [u] := by
      rcases List.eq_nil_or_concat ws with rfl | ⟨ws0, u, h⟩
      · simp at hwl
      · exact ⟨ws0, u, by rw [h, List.concat_eq_append]⟩
    rw [List.concat_eq_append] at hW hJ hR hwl
    rw [List.concat_eq_append]
    rw [decide_eq_false (by simp)]
    have hfew := hW.few hlen hbound
    have hbl := hW.len W0.length (by simp)
    have hbi := hW.idx W0.length (by simp)
    rw [getD_snoc] at hbl hbi
    obtain ⟨hR0, hSu, hu0⟩ := hR.init
    have hW0 := hW.init
    clear hR hW
    rw [rst_snoc] at hJ
    have hu1 := hSu.one_
    repeat' (first | refine zP ?_ | refine zA ?_ | (refine zM ?_; intro _ _) | refine zX ?_ | (refine zC ?_; intro _ _ _ _) | (refine zS ?_; intro _ _) | refine zO ?_ | (apply Ws <;> intro hg))
    refine WR.call (by first | exact gN | exact gS rfl) rfl rfl (takeL_fs hO hH rfl) ?_
    rintro r H5 ⟨hr, v', hO', hH5⟩
    rw [hr]
    clear hr hH hC hO
    replace hH5 : hasH ((n0, .row 108 0 0 [v']) :: (Mo ++ (Mi ++ Mc))) n2 H5 := hH5
    have hBM : ∀ p ∈ B, p ∈ (n0, Ch.row 108 0 0 [v']) :: (Mo ++ (Mi ++ Mc)) := fun p hp => List.mem_cons_of_mem _ (List.mem_append_right _ (List.mem_append_right _ (hB _ _ hJ p hp)))
    have mL := hBM _ hml
    have mB := hBM _ hmb
    have hSu5 := (hSu.mono fun q hq => List.mem_append_right Mo (List.mem_append_left Mc hq)).cons (p := (n0, Ch.row 108 0 0 [v']))
    repeat' (first | refine zP ?_ | refine zA ?_ | (refine zM ?_; intro _ _) | refine zX ?_ | (refine zC ?_; intro _ _ _ _) | (refine zS ?_; intro _ _) | (apply Ws <;> intro hg))
    refine WC.condP rfl (fun hfull => ?_) (fun hfull => ?_)
    · have hfl : len - b.length = 0 := by omega
      rw [hfl] at hJ
      replace hJ : J (b :: rst len bound fits W0) Mc := hJ
      repeat' (first | refine zP ?_ | refine zA ?_ | (refine zM ?_; intro _ _) | refine zX ?_ | (refine zC ?_; intro _ _ _ _) | (refine zS ?_; intro _ _) | (apply Ws <;> intro hg))
      refine WR.yield (by first | exact gN | exact gS rfl) rfl rfl rfl (hy b _ Mc ((n0, Ch.row 108 0 0 [v']) :: (Mo ++ Mi)) u n2 H5 hn2 hJ ((hSu.mono fun q hq => List.mem_append_right Mo hq).cons) (hH5.perm (by classical exact List.perm_iff_count.2 (fun a => by simp only [defds, List.map_cons, List.map_nil, List.count_append, List.count_cons, List.count_nil, List.cons_append, List.nil_append, List.append_nil]; omega)))) ?_
      rintro r H6 ⟨Mc2, n6, hn6, hH6, ⟨rfl, hJ2⟩ | ⟨rfl, hSt⟩⟩
      · repeat' (first | refine zP ?_ | refine zA ?_ | (refine zM ?_; intro _ _) | refine zX ?_ | (refine zC ?_; intro _ _ _ _) | (refine zS ?_; intro _ _) | (apply Ws <;> intro hg))
        refine Ends.loop ⟨v', ws0, W0, Mo, Mi, Mc2, n6⟩ ?_ (by repeat' (first | exact .nil | refine .cons rfl ?_)) rfl ⟨Nat.le_trans hn2 hn6, hW0, hJ2, hO', hR0, hH6.perm (by classical exact List.perm_iff_count.2 (fun a => by simp only [defds, List.map_cons, List.map_nil, List.count_append, List.count_cons, List.count_nil, List.cons_append, List.nil_append, List.append_nil]; omega))⟩
        simp only [wgt_snoc, hfl, Nat.pow_zero]; omega
      · repeat' (first | refine zP ?_ | refine zA ?_ | (refine zM ?_; intro _ _) | refine zX ?_ | (refine zC ?_; intro _ _ _ _) | (refine zS ?_; intro _ _) | (apply Ws <;> intro hg))
        exact Ends.ret0 ⟨Mc2, _, n6, by omega, hH6, .inr ⟨b, u, (hSu.mono fun q hq => List.mem_append_right Mo hq).cons, hSt⟩⟩
    · obtain ⟨m, hm⟩ : ∃ m, len - b.length = m + 1 := ⟨len - b.length - 1, by omega⟩
      rw [hm, ← extK_zero] at hJ
      repeat' (first | refine zP ?_ | refine zA ?_ | (refine zM ?_; intro _ _) | refine zX ?_ | (refine zC ?_; intro _ _ _ _) | (refine zS ?_; intro _ _) | (apply Ws <;> intro hg))
      clear mL mB hSu5
      refine WC.loopX [(0, _), (1, _), (2, _), (3, _), (5, ptrO n0 0), (6, u)] (fun z : LY => [(7, .int .i64 ((z.k : Int) - 1))]) []
        (fun z H' => z.k ≤ bound ∧ n0 ≤ z.n ∧ WaitS len bound z.W ∧ rst len bound fits z.W = extK bound fits m b z.k ++ rst len bound fits W0 ∧ wgt len bound z.W + z.k * (bound + 1) ^ m ≤ wgt len bound W0 + bound * (bound + 1) ^ m ∧ z.W.length + z.k ≤ W0.length + bound ∧
          StkO 22 z.v z.ws z.Mo ∧ RowsZ z.Mi z.ws z.W ∧ Sl z.Mi 1 u (nodes b) ∧ hasH ((n0, .row 108 0 0 [z.v]) :: (z.Mo ++ (z.Mi ++ Mc))) z.n H') (fun z => z.k) ⟨bound, v', ws0, W0, Mo, Mi, n2⟩ (by repeat' (first | exact .nil | refine .cons rfl ?_)) rfl
        ⟨Nat.le_refl _, hn2, hW0, by simp only [extK_all]; rfl, Nat.le_refl _, Nat.le_refl _, hO', hR0, hSu, hH5⟩ ?_
      clear hH5 hO' hR0 hSu hW0 hBM
      rintro ⟨k, v, ws, W, Mo, Mi, n7⟩ H7 ⟨hk, hn7, hW, hrst, hwg, hwc, hO, hR, hSu, hH⟩
      simp only at hk hn7 hW hrst hwg hwc hO hR hSu hH
      dsimp only [List.cons_append, List.nil_append]
      repeat' (first | refine zP ?_ | refine zA ?_ | (refine zM ?_; intro _ _) | refine zX ?_ | (refine zC ?_; intro _ _ _ _) | (refine zS ?_; intro _ _) | (apply Ws <;> intro hg))
      refine WC.condP rfl (fun hk0 => ?_) (fun hk0 => ?_)
      · obtain ⟨k, rfl⟩ : ∃ j, k = j + 1 := ⟨k - 1, by omega⟩
        rw [show ((k + 1 : Nat) : Int) - 1 = (k : Int) by omega]
        have hBM : ∀ p ∈ B, p ∈ (n0, Ch.row 108 0 0 [v]) :: (Mo ++ (Mi ++ Mc)) := fun p hp => List.mem_cons_of_mem _ (List.mem_append_right _ (List.mem_append_right _ (hB _ _ hJ p hp)))
        have mF := hBM _ hmf
        have hSu7 := (hSu.mono fun q hq => List.mem_append_right Mo (List.mem_append_left Mc hq)).cons (p := (n0, Ch.row 108 0 0 [v]))
        have hes := extK_step fits m b (show k < bound by omega)
        repeat' (first | refine zP ?_ | refine zA ?_ | (refine zM ?_; intro _ _) | refine zX ?_ | (refine zC ?_; intro _ _ _ _) | (refine zS ?_; intro _ _) | (apply Ws <;> intro hg))
        refine WR.callV (by first | exact gN | exact gS rfl) rfl rfl rfl (hfit hH hSu7 (by omega)) ?_
        rintro _ H8 ⟨rfl, rfl⟩
        have hmul : (k + 1) * (bound + 1) ^ m = k * (bound + 1) ^ m + (bound + 1) ^ m := Nat.succ_mul _ _
        cases hf : fits b k with
        | false =>
          rw [hf, if_neg (by decide), List.nil_append] at hes
          repeat' (first | refine zP ?_ | refine zA ?_ | (refine zM ?_; intro _ _) | refine zX ?_ | (refine zC ?_; intro _ _ _ _) | (refine zS ?_; intro _ _) | (apply Ws <;> intro hg))
          refine Ends.loop ⟨k, v, ws, W, Mo, Mi, n7⟩ (by simp only; omega) (by repeat' (first | exact .nil | refine .cons rfl ?_)) rfl ⟨by simp only; omega, hn7, hW, by simp only; rw [hrst, hes], by simp only; omega, by simp only; omega, hO, hR, hSu, hH⟩
        | true =>
          rw [hf, if_pos rfl] at hes
          repeat' (first | refine zP ?_ | refine zA ?_ | (refine zM ?_; intro _ _) | refine zX ?_ | (refine zC ?_; intro _ _ _ _) | (refine zS ?_; intro _ _) | (apply Ws <;> intro hg))
          refine WR.call (by first | exact gN | exact gS rfl) rfl rfl (Clone_fs hH hSu7 hu0 (by omega)) ?_
          rintro e9 H9 ⟨Mx, n9, hOx, hn9, hH9⟩
          repeat' (first | refine zP ?_ | refine zA ?_ | (refine zM ?_; intro _ _) | refine zX ?_ | (refine zC ?_; intro _ _ _ _) | (refine zS ?_; intro _ _) | (apply Ws <;> intro hg))
          refine WR.append1RF [] Mx _ rfl rfl rfl rfl hOx hH9 (new := [.int .i64 (k : Int)]) (by rfl) rfl rfl (Nat.le_refl _) (by omega) (by simp; omega) fun v4 M4 n4 H10 hO4 hH10 hn4 => ?_
          have hv41 := (hO4.own.sl []).one_
          have hwl2 := hR.1
          have hfew2 := hW.few hlen hbound
          repeat' (first | refine zP ?_ | refine zA ?_ | (refine zM ?_; intro _ _) | refine zX ?_ | (refine zC ?_; intro _ _ _ _) | (refine zS ?_; intro _ _) | (apply Ws <;> intro hg))
          refine WR.call (by first | exact gN | exact gS rfl) rfl rfl (bringL_fs (e := 108) (b := n0) (o := 0) (M := M4 ++ (Mi ++ Mc)) hv41 hO (cs := [v]) (hH10.perm (by classical exact List.perm_iff_count.2 (fun a => by simp only [defds, List.map_cons, List.map_nil, List.count_append, List.count_cons, List.count_nil, List.cons_append, List.nil_append, List.append_nil]; omega))) rfl (by omega)) ?_
          rintro _ H11 ⟨v5, Mo5, n5, hO5, hn5, hH11⟩
          replace hH11 : hasH ((n0, .row 108 0 0 [v5]) :: (Mo5 ++ (M4 ++ (Mi ++ Mc)))) n5 H11 := hH11
          repeat' (first | refine zP ?_ | refine zA ?_ | (refine zM ?_; intro _ _) | refine zX ?_ | (refine zC ?_; intro _ _ _ _) | (refine zS ?_; intro _ _) | (apply Ws <;> intro hg))
          refine Ends.loop ⟨k, v5, ws ++ [v4], W ++ [b ++ [k]], Mo5, M4 ++ Mi, n5⟩ (by simp only; omega) (by repeat' (first | exact .nil | refine .cons rfl ?_)) rfl ⟨by simp only; omega, by simp only; omega, ?_, ?_, ?_, ?_, hO5, ?_, hSu.mono fun q hq => List.mem_append_right _ hq, hH11.perm (by classical exact List.perm_iff_count.2 (fun a => by simp only [defds, List.map_cons, List.map_nil, List.count_append, List.count_cons, List.count_nil, List.cons_append, List.nil_append, List.append_nil]; omega))⟩
          · refine hW.snoc ?_ (by simp; omega)
            rw [List.length_append, List.length_singleton, Nat.mul_add, Nat.mul_one]; omega
          · simp only [rst_snoc, hrst, hes, ← List.append_assoc]
            rw [show len - (b ++ [k]).length = m by simp; omega]
          · simp only [wgt_snoc]
            rw [show len - (b ++ [k]).length = m by simp; omega]; omega
          · simp only [List.length_append, List.length_singleton]; omega
          · refine RowsZ.snoc (hR.mono fun q hq => List.mem_append_right _ hq) ?_ (fun h => by simp at h)
            have := hO4.own.sl Mi
            rw [nodes_snoc]; exact this
      · have hk00 : k = 0 := by omega
        subst hk00
        repeat' (first | refine zP ?_ | refine zA ?_ | (refine zM ?_; intro _ _) | refine zX ?_ | (refine zC ?_; intro _ _ _ _) | (refine zS ?_; intro _ _) | (apply Ws <;> intro hg))
        refine Ends.loop ⟨v, ws, W, Mo, Mi, Mc, n7⟩ ?_ (by repeat' (first | exact .nil | refine .cons rfl ?_)) rfl ⟨hn7, hW, by simp only; rw [hrst]; exact hJ, hO, hR, hH⟩
        have hp : 0 < (bound + 1) ^ m := Nat.pow_pos (by omega)
        have hps : (bound + 1) ^ (m + 1) = bound * (bound + 1) ^ m + (bound + 1) ^ m := by rw [Nat.pow_succ, Nat.mul_comm, Nat.succ_mul]
        simp only [wgt_snoc, hm, hps]; omega
end
end Go.Proofs.Ytfnflkcjhefddaa.Lk

/- Barges leave in the ascending order just if no two of a basin clash. -/
namespace Go.Proofs.Ytfnflkcjhefddaa.Lk
open Go Go.Abs Go.Mth
set_option linter.unusedVariables false
set_option linter.unusedSimpArgs false
def clashP (o : List Nat) (i j : Nat) : Prop := o.getD i 0 < o.getD j 0 ∧ ∃ k, j < k ∧ k < o.length ∧ o.getD k 0 < o.getD i 0
def WK (o t : List Nat) (k : Nat) : Nat := o.length - (basK o t (List.range o.length) k).2.2.length
theorem upN_len (w n : Nat) : (upN w n).length = n - w := by simp [upN]
theorem two_at {a b : Nat} : ∀ {l : List Nat}, [a, b].Sublist l → ∃ i j, i < j ∧ j < l.length ∧ l.getD i 0 = a ∧ l.getD j 0 = b
  | [], h => by cases h
  | x :: l, h => by
    cases h with
    | cons _ h =>
      obtain ⟨i, j, h1, h2, h3, h4⟩ := two_at h
      exact ⟨i + 1, j + 1, by omega, by simp; omega, by simpa using h3, by simpa using h4⟩
    | cons_cons _ h =>
      obtain ⟨j, hj, he⟩ := mem_get (h.subset (List.mem_singleton_self b))
      exact ⟨0, j + 1, by omega, by simp; omega, rfl, by simpa using he⟩
/-- What lies above came later. -/
theorem above {o : List Nat} {k a b : Nat} {l : List Nat} (hn : o.Nodup) (hs : (a :: l).Sublist (o.take k).reverse) (hb : b ∈ l) {i j : Nat} (hi : i < o.length) (hj : j < o.length) (ha : o.getD j 0 = a) (hbi : o.getD i 0 = b) : i < j := by
  have h1 : [a, b].Sublist (o.take k).reverse := ((List.singleton_sublist.2 hb).cons_cons a).trans hs
  have h2 : [b, a].Sublist (o.take k) := by have := h1.reverse; simpa using this
  obtain ⟨i2, j2, q1, q2, q3, q4⟩ := two_at (h2.trans (List.take_sublist k o))
  have e1 := nodup_get hn (show i2 < o.length by omega) hi (q3.trans hbi.symm)
  have e2 := nodup_get hn q2 hj (q4.trans ha.symm)
  omega
theorem not_before {o : List Nat} {k : Nat} (hn : o.Nodup) (hk : k < o.length) : o.getD k 0 ∉ o.take k := by
  intro h
  obtain ⟨i, hi, he⟩ := mem_get h
  simp only [List.length_take] at hi
  rw [getD_take (by omega)] at he
  have := nodup_get hn (show i < o.length by omega) hk he
  omega
theorem mem_take {o : List Nat} {k x : Nat} (h : x ∈ o.take k) : ∃ i, i < k ∧ i < o.length ∧ o.getD i 0 = x := by
  obtain ⟨i, hi, he⟩ := mem_get h
  simp only [List.length_take] at hi
  rw [getD_take (by omega)] at he
  exact ⟨i, by omega, by omega, he⟩
theorem in_take {o : List Nat} {k i : Nat} (h : i < k) (hi : i < o.length) : o.getD i 0 ∈ o.take k := by
  rw [← getD_take (k := k) h]
  exact getD_mem (by simp; omega)
structure StB (o t : List Nat) (k w : Nat) : Prop where
  bas : ∃ p q, basK o t (List.range o.length) k = (p, q, upN w o.length) ∧ InvB o t k w p q ∧ (w < o.length → p.head? ≠ some w ∧ q.head? ≠ some w)
  le : w ≤ o.length
theorem StB.eq {o t : List Nat} {k w : Nat} (h : StB o t k w) : WK o t k = w := by
  obtain ⟨⟨p, q, h1, _⟩, h2⟩ := h
  unfold WK; rw [h1]
  show o.length - (upN w o.length).length = w
  rw [upN_len]; omega
theorem st_zero (o t : List Nat) : StB o t 0 0 := by
  refine ⟨⟨[], [], by rw [upN_range]; rfl, ⟨fun x => by simp, fun x h => by simp at h, fun x h => by simp at h, fun x h => by simp at h, by simp, by simp, fun x h => by omega⟩, fun _ => by simp⟩, Nat.zero_le _⟩
theorem st_step {o t : List Nat} (ho : OrdN o) {k w : Nat} (hk : k < o.length) (h : StB o t k w) : ∃ w', StB o t (k + 1) w' ∧ w ≤ w' ∧ ∀ s, (∀ p2 q2, InvB o t (k + 1) s p2 q2 → p2.head? ≠ some s ∧ q2.head? ≠ some s) → w ≤ s → s ≤ o.length → w' ≤ s := by
  obtain ⟨⟨p, q, h1, h2, h3⟩, h4⟩ := h
  have hw : w ≤ o.getD k 0 := by
    refine Nat.le_of_not_lt fun hc => not_before ho.nodup hk (h2.low _ hc)
  have hp := h2.push ho.nodup hk hw
  obtain ⟨p', q', w', e1, e2, e3, e4, e5, e6⟩ := hp.pop ho.nodup ho.lt (o.length - w) w rfl h4
  refine ⟨w', ⟨⟨p', q', ?_, e4, e5⟩, e3⟩, e2, e6⟩
  rw [← e1]
  show put2 (basK o t (List.range o.length) k) (o.getD k 0) (t.getD k 0) = _
  rw [h1]
  unfold put2
  split <;> rfl
theorem st_all {o t : List Nat} (ho : OrdN o) : ∀ k, k ≤ o.length → StB o t k (WK o t k)
  | 0, _ => by have := st_zero o t; rw [this.eq]; exact this
  | k + 1, hk => by
    obtain ⟨w', h, _⟩ := st_step ho (by omega) (st_all ho k (by omega))
    rw [h.eq]; exact h
theorem WK_mono {o t : List Nat} (ho : OrdN o) {k : Nat} (hk : k < o.length) : WK o t k ≤ WK o t (k + 1) := by
  obtain ⟨w', h, h2, _⟩ := st_step ho hk (st_all (t := t) ho k (by omega))
  rw [h.eq]; exact h2
theorem WK_le {o t : List Nat} (ho : OrdN o) {j : Nat} : ∀ {k : Nat}, j ≤ k → k ≤ o.length → WK o t j ≤ WK o t k
  | 0, h, _ => by rw [show j = 0 by omega]; exact Nat.le_refl _
  | k + 1, h, hk => by
    by_cases e : j = k + 1
    · rw [e]; exact Nat.le_refl _
    · exact Nat.le_trans (WK_le ho (show j ≤ k by omega) (by omega)) (WK_mono ho (by omega))
theorem asc_W {o t : List Nat} (ho : OrdN o) : (basK o t (List.range o.length) o.length).2.2 = [] ↔ WK o t o.length = o.length := by
  obtain ⟨⟨p, q, h1, _⟩, h2⟩ := st_all (t := t) ho o.length (Nat.le_refl _)
  rw [h1]
  exact upN_empty h2
theorem asc_iff {o t : List Nat} (ho : OrdN o) (ht : ∀ i, i < o.length → t.getD i 0 < 2) :
    (basK o t (List.range o.length) o.length).2.2 = [] ↔ ∀ i j, i < j → j < o.length → t.getD i 0 = t.getD j 0 → ¬ clashP o i j := by
  rw [asc_W ho]
  constructor
  · rintro hW i j hij hj hb ⟨hlt, m, hjm, hm, hc⟩
    have hi : i < o.length := by omega
    -- what is wanted never passes the one below
    have key : ∀ k, j + 1 ≤ k → k ≤ o.length → WK o t k ≤ o.getD i 0 := by
      intro k hk
      obtain ⟨d, rfl⟩ := Nat.le.dest hk
      clear hk
      induction d with
      | zero =>
        intro hk
        show WK o t (j + 1) ≤ _
        obtain ⟨⟨p, q, h1, h2, _⟩, _⟩ := st_all (t := t) ho (j + 1) hk
        refine Nat.le_of_not_lt fun hc2 => ?_
        have hmem := h2.low (o.getD m 0) (by omega)
        obtain ⟨x, hx1, hx2, hx3⟩ := mem_take hmem
        have := nodup_get ho.nodup hx2 hm hx3
        omega
      | succ d ih =>
        intro hk
        have ih := ih (by omega)
        obtain ⟨w', hw1, hw2, hw3⟩ := st_step ho (show j + 1 + d < o.length by omega) (st_all (t := t) ho (j + 1 + d) (by omega))
        rw [show j + 1 + (d + 1) = j + 1 + d + 1 by omega, hw1.eq]
        refine hw3 (o.getD i 0) (fun p2 q2 hI => ?_) ih (Nat.le_of_lt (ho.lt _ (getD_mem hi)))
        have hgm := (hI.mem (o.getD j 0)).2 ⟨in_take (by omega) hj, by omega⟩
        constructor
        · intro hh
          obtain ⟨p3, rfl⟩ : ∃ p3, p2 = o.getD i 0 :: p3 := by
            cases p2 with
            | nil => cases hh
            | cons a p3 => simp only [List.head?_cons, Option.some.injEq] at hh; exact ⟨p3, by rw [hh]⟩
          obtain ⟨i2, _, q2a, q3, q4⟩ := hI.inp _ (.head _)
          have ei := nodup_get ho.nodup q2a hi q3
          subst ei
          rcases hgm with hgm | hgm
          · rcases List.mem_cons.1 hgm with hgm | hgm
            · omega
            · have := above ho.nodup hI.sp hgm hj hi rfl rfl
              omega
          · obtain ⟨j2, _, r2, r3, r4⟩ := hI.inq _ hgm
            have ej := nodup_get ho.nodup r2 hj r3
            subst ej
            omega
        · intro hh
          obtain ⟨p3, rfl⟩ : ∃ p3, q2 = o.getD i 0 :: p3 := by
            cases q2 with
            | nil => cases hh
            | cons a p3 => simp only [List.head?_cons, Option.some.injEq] at hh; exact ⟨p3, by rw [hh]⟩
          obtain ⟨i2, _, q2a, q3, q4⟩ := hI.inq _ (.head _)
          have ei := nodup_get ho.nodup q2a hi q3
          subst ei
          rcases hgm with hgm | hgm
          · obtain ⟨j2, _, r2, r3, r4⟩ := hI.inp _ hgm
            have ej := nodup_get ho.nodup r2 hj r3
            subst ej
            omega
          · rcases List.mem_cons.1 hgm with hgm | hgm
            · omega
            · have := above ho.nodup hI.sq hgm hj hi rfl rfl
              omega
    have h1 := key o.length (by omega) (Nat.le_refl _)
    have h2 := ho.lt _ (getD_mem (a := 0) hi)
    omega
  · intro hno
    have key : ∀ k, k ≤ o.length → WK o t k < o.length → WK o t k ∉ o.take k := by
      intro k
      induction k using Nat.strongRecOn with
      | _ k ih =>
        intro hk hw hm
        obtain ⟨⟨p, q, h1, hI, hh⟩, _⟩ := st_all (t := t) ho k hk
        obtain ⟨hh1, hh2⟩ := hh hw
        have main : ∀ (l : List Nat), l.Sublist (o.take k).reverse → l.head? ≠ some (WK o t k) → WK o t k ∈ l → (∀ x ∈ l, x ∈ o.take k ∧ WK o t k ≤ x) → (∀ x ∈ l, ∃ i, i < k ∧ i < o.length ∧ o.getD i 0 = x) → (∀ i j, i < o.length → j < o.length → o.getD i 0 ∈ l → o.getD j 0 ∈ l → t.getD i 0 = t.getD j 0) → False := by
          intro l hs hne hwl hml hpl hbl
          cases l with
          | nil => cases hwl
          | cons h l =>
            have hhw : h ≠ WK o t k := fun e => hne (by rw [e]; rfl)
            have hwl2 : WK o t k ∈ l := by
              rcases List.mem_cons.1 hwl with e | e
              · exact absurd e.symm hhw
              · exact e
            obtain ⟨i, hi1, hi2, hi3⟩ := hpl _ (.tail _ hwl2)
            obtain ⟨j, hj1, hj2, hj3⟩ := hpl h (.head _)
            have hij := above ho.nodup hs hwl2 hi2 hj2 hj3 hi3
            have hle := (hml h (.head _)).2
            have hWj := WK_le (t := t) ho (show j ≤ k by omega) hk
            have hni := ih j hj1 (by omega) (by omega)
            have hit := in_take hij hi2
            have hne2 : WK o t j ≠ WK o t k := fun e => hni (by rw [e, ← hi3]; exact hit)
            obtain ⟨m, hm1, hm2⟩ := mem_get (ho.mem (show WK o t j < o.length by omega))
            have hmj : ¬ m < j := fun e => hni (by rw [← hm2]; exact in_take e hm1)
            have hmj2 : m ≠ j := by rintro rfl; omega
            refine hno i j hij hj2 (hbl i j hi2 hj2 (by rw [hi3]; exact .tail _ hwl2) (by rw [hj3]; exact .head _)) ⟨by omega, m, by omega, hm1, by omega⟩
        rcases (hI.mem _).2 ⟨hm, Nat.le_refl _⟩ with h5 | h5
        · refine main p hI.sp hh1 h5 (fun x hx => (hI.mem x).1 (.inl hx)) (fun x hx => ?_) (fun i j hi hj h6 h7 => ?_)
          · obtain ⟨i, a, b, c, _⟩ := hI.inp x hx
            exact ⟨i, a, b, c⟩
          · obtain ⟨i2, _, b, c, d⟩ := hI.inp _ h6
            obtain ⟨j2, _, b', c', d'⟩ := hI.inp _ h7
            have e1 := nodup_get ho.nodup b hi c
            have e2 := nodup_get ho.nodup b' hj c'
            subst e1; subst e2; omega
        · refine main q hI.sq hh2 h5 (fun x hx => (hI.mem x).1 (.inr hx)) (fun x hx => ?_) (fun i j hi hj h6 h7 => ?_)
          · obtain ⟨i, a, b, c, _⟩ := hI.inq x hx
            exact ⟨i, a, b, c⟩
          · obtain ⟨i2, _, b, c, d⟩ := hI.inq _ h6
            obtain ⟨j2, _, b', c', d'⟩ := hI.inq _ h7
            have e1 := nodup_get ho.nodup b hi c
            have e2 := nodup_get ho.nodup b' hj c'
            subst e1; subst e2
            have := ht i2 hi
            have := ht j2 hj
            omega
    obtain ⟨_, hle⟩ := st_all (t := t) ho o.length (Nat.le_refl _)
    refine Classical.byContradiction fun hne => ?_
    have hlt : WK o t o.length < o.length := by omega
    refine key o.length (Nat.le_refl _) hlt ?_
    rw [List.take_length]
    exact ho.mem hlt
end Go.Proofs.Ytfnflkcjhefddaa.Lk

/- The first of the lists with which two basins are enough. -/
namespace Go.Proofs.Ytfnflkcjhefddaa.Lk
open Go Go.Abs Go.Mth
set_option linter.unusedVariables false
set_option linter.unusedSimpArgs false
theorem ext_props {bound : Nat} {fits : List Nat → Nat → Bool} : ∀ {m : Nat} {b z : List Nat}, z ∈ extL bound fits m b → z.length = b.length + m ∧ b <+: z ∧ ∀ i, b.length ≤ i → i < z.length → z.getD i 0 < bound
  | 0, b, z, h => by
    rw [extL, List.mem_singleton] at h
    subst h
    exact ⟨rfl, List.prefix_refl _, fun i h1 h2 => by omega⟩
  | m + 1, b, z, h => by
    simp only [extL, List.mem_flatMap, List.mem_filter, List.mem_range] at h
    obtain ⟨x, ⟨hx, hf⟩, hz⟩ := h
    obtain ⟨h1, h2, h3⟩ := ext_props hz
    rw [List.length_append, List.length_singleton] at h1 h3
    refine ⟨by omega, (List.prefix_append b [x]).trans h2, fun i hi hl => ?_⟩
    by_cases e : i = b.length
    · obtain ⟨r, rfl⟩ := h2
      rw [e, getD_app_l (by simp), getD_snoc]; exact hx
    · exact h3 i (by omega) hl
/-- Lists of zeros and ones. -/
def allT (n : Nat) : List (List Nat) := extL 2 (fun _ _ => true) n []
theorem allT_len {n : Nat} {z : List Nat} (h : z ∈ allT n) : z.length = n := by have := (ext_props h).1; simpa using this
theorem allT_lt {n : Nat} {z : List Nat} (h : z ∈ allT n) : ∀ x ∈ z, x < 2 := by
  intro x hx
  obtain ⟨i, hi, rfl⟩ := mem_get hx
  exact (ext_props h).2.2 i (Nat.zero_le _) hi
theorem ext_mem : ∀ {m : Nat} {b z : List Nat}, z.length = b.length + m → b <+: z → (∀ x ∈ z, x < 2) → z ∈ extL 2 (fun _ _ => true) m b
  | 0, b, z, h1, h2, h3 => by
    rw [extL, List.mem_singleton]
    exact (h2.eq_of_length (by omega)).symm
  | m + 1, b, z, h1, h2, h3 => by
    obtain ⟨r, rfl⟩ := h2
    cases r with
    | nil => simp at h1
    | cons x r =>
      simp only [extL, List.mem_flatMap, List.mem_filter, List.mem_range]
      refine ⟨x, ⟨h3 x (by simp), trivial⟩, ext_mem (by simp at h1 ⊢; omega) ⟨r, by simp⟩ h3⟩
theorem mem_allT {n : Nat} {z : List Nat} : z ∈ allT n ↔ z.length = n ∧ ∀ x ∈ z, x < 2 :=
  ⟨fun h => ⟨allT_len h, allT_lt h⟩, fun h => ext_mem (by simpa using h.1) (List.nil_prefix) h.2⟩
def twoL (o : List Nat) : Option (List Nat) := (allT o.length).find? (ascT o)
attribute [local irreducible] gOK WS WC WR WD Ends FS YS OpV seqK blockK loopK midK retK rdK asgK rangeEnd sat Cell
section
variable {M : HL} {n0 : Nat} {H : Heap} {v w : Value}
theorem lists_fs (hH : hasH M n0 H) (len bound ff : Nat) :
    FS C 77 [.int .i64 (len : Int), .int .i64 (bound : Int), .func (.func ff) [].toArray [].toArray] H (fun e H' => e = .func (.func 103) [].toArray [ptrO n0 0, ptrO (n0 + 1) 0, ptrO (n0 + 2) 0].toArray ∧
      hasH ((n0 + 2, .row 83 0 0 [.func (.func ff) [].toArray [].toArray]) :: (n0 + 1, .row 3 0 0 [.int .i64 (bound : Int)]) :: (n0, .row 3 0 0 [.int .i64 (len : Int)]) :: M) (n0 + 3) H') := by
  refine FS.intro (pf := pf77) rfl rfl rfl ?_
  repeat' (first | refine zP ?_ | refine zA ?_ | (refine zM ?_; intro _ _) | refine zX ?_ | (refine zC ?_; intro _ _ _ _) | (refine zS ?_; intro _ _) | (apply Ws <;> intro hg))
  rename_i H1 hH1 H2 hH2 H3 hH3
  exact Ends.ret1 rfl ⟨rfl, hH3⟩
theorem isAny_fs {T : HL} {n : Nat} {H : Heap} {u : Value} {b : List Nat} {x : Nat} (hH : hasH T n H) (hS : Sl T 1 u (nodes b)) (hl : b.length ≤ 10) : FS C 85 ([] ++ [u, .int .i64 (x : Int)] ++ []) H (fun e H' => H' = H ∧ e = .bool ((fun _ _ => true : List Nat → Nat → Bool) b x)) := by
  refine FS.intro (pf := pf85) rfl rfl rfl ?_
  repeat' (first | refine zP ?_ | refine zA ?_ | (refine zM ?_; intro _ _) | refine zX ?_ | (refine zC ?_; intro _ _ _ _) | (refine zS ?_; intro _ _) | (apply Ws <;> intro hg))
  exact Ends.ret1 rfl ⟨rfl, rfl⟩
set_option maxHeartbeats 4000000 in
theorem Two_fs (hH : hasH M n0 H) {o : List Nat} (ho : Sl M 1 v (nodes o)) (hO : OrdN o) :
    FS C 39 [v] H (fun e H' => ∃ M2 n' u, n0 ≤ n' ∧ hasH (M2 ++ M) n' H' ∧ ((∃ z, twoL o = some z ∧ Sl M2 1 u (nodes z) ∧ e = .tuple #[u, .int .i64 0]) ∨ (twoL o = none ∧ e = .tuple #[.slice none 0 0, .int .i64 12]))) := by
  have hv := ho.one_
  have h7 := hO.most
  refine FS.intro (pf := pf39) rfl rfl rfl ?_
  refine WC.seq ?_
  refine WC.region ?_
  refine WR.box1 (by first | exact gN | exact gS rfl) rfl hH rfl hv fun H1 hH1 => ?_
  repeat' (first | refine zP ?_ | refine zA ?_ | (refine zM ?_; intro _ _) | refine zX ?_ | (refine zC ?_; intro _ _ _ _) | (refine zS ?_; intro _ _) | (apply Ws <;> intro hg))
  rename_i H2 hH2 H3 hH3
  have ho3 : Sl ((n0 + 2, Ch.row 24 0 0 [.int .i64 0]) :: (n0 + 1, .row 22 0 0 [.slice none 0 0]) :: (n0, .row 22 0 0 [v]) :: M) 1 v (nodes o) := ho.cons.cons.cons
  repeat' (first | refine zP ?_ | refine zA ?_ | (refine zM ?_; intro _ _) | refine zX ?_ | (refine zC ?_; intro _ _ _ _) | (refine zS ?_; intro _ _) | (apply Ws <;> intro hg))
  refine WR.call (by first | exact gN | exact gS rfl) rfl rfl (CheckN_fs hH3 ho3 hO) ?_
  rintro _ H4 ⟨rfl, rfl⟩
  clear hH hH1 hH2
  repeat' (first | refine zP ?_ | refine zA ?_ | (refine zM ?_; intro _ _) | refine zX ?_ | (refine zC ?_; intro _ _ _ _) | (refine zS ?_; intro _ _) | refine zO ?_ | (apply Ws <;> intro hg))
  refine WR.call (by first | exact gN | exact gS rfl) rfl rfl (lists_fs hH3 o.length 2 85) ?_
  rintro _ H5 ⟨rfl, hH5⟩
  clear hH3 ho3
  repeat' (first | refine zP ?_ | refine zA ?_ | (refine zM ?_; intro _ _) | refine zX ?_ | (refine zC ?_; intro _ _ _ _) | (refine zS ?_; intro _ _) | (apply Ws <;> intro hg))
  refine WC.range0 (va := []) (vb := [ptrO (n0 + 1 + 1 + 1) 0, ptrO (n0 + 1 + 1 + 1 + 1) 0, ptrO (n0 + 1 + 1 + 1 + 2) 0]) rfl hH5 fun t ht H6 hH6 => ?_
  generalize hRR : ({ state := .ready, pending := none, fn := 39, tmps := t, params := [14], assign := _, body := _, nt := _ } : LoopE) = R at hH6
  obtain ⟨nn, hnn, hnn0⟩ : ∃ nn, n0 + 1 + 1 + 1 + 3 + 2 = nn ∧ n0 ≤ nn := ⟨_, rfl, by omega⟩
  rw [hnn] at hH6
  generalize n0 + 1 + 1 + 1 + 3 + 1 = lp at hH6 ⊢
  generalize n0 + 1 + 1 + 1 + 3 = df at hH6 ⊢
  generalize n0 + 1 + 1 + 1 + 2 = l3 at hH6 ⊢
  generalize n0 + 1 + 1 + 1 + 1 = l2 at hH6 ⊢
  generalize n0 + 1 + 1 + 1 = l1 at hH6 ⊢
  generalize n0 + 1 + 1 = b3 at hH6 hRR ht ⊢
  generalize n0 + 1 = b2 at hH6 hRR ht ⊢
  clear hH5 hnn
  replace hH6 : hasH ((lp, .loop R) :: (df, .defd false) :: (l3, .row 83 0 0 [.func (.func 85) [].toArray [].toArray]) :: (l2, .row 3 0 0 [.int .i64 ((2 : Nat) : Int)]) :: (l1, .row 3 0 0 [.int .i64 (o.length : Int)]) :: (b3, .row 24 0 0 [.int .i64 0]) :: (b2, .row 22 0 0 [.slice none 0 0]) :: (n0, .row 22 0 0 [v]) :: M) nn H6 := hH6
  refine FS.mono (listsIt_fs (l := lp) (ff := 85) (bl := l1) (bb := l2) (bf := l3) (len := o.length) (bound := 2) (fits := fun _ _ => true)
    (B := (l3, .row 83 0 0 [.func (.func 85) [].toArray [].toArray]) :: (l2, .row 3 0 0 [.int .i64 ((2 : Nat) : Int)]) :: (l1, .row 3 0 0 [.int .i64 (o.length : Int)]) :: [])
    (J := fun zs Mc => ∃ ds, ds ++ zs = allT o.length ∧ (∀ d ∈ ds, ascT o d = false) ∧ Mc = (lp, .loop R) :: (df, .defd false) :: (l3, .row 83 0 0 [.func (.func 85) [].toArray [].toArray]) :: (l2, .row 3 0 0 [.int .i64 ((2 : Nat) : Int)]) :: (l1, .row 3 0 0 [.int .i64 (o.length : Int)]) :: (b3, .row 24 0 0 [.int .i64 0]) :: (b2, .row 22 0 0 [.slice none 0 0]) :: (n0, .row 22 0 0 [v]) :: M)
    (Stop := fun z u Mc => ascT o z = true ∧ (∃ ds zs, ds ++ z :: zs = allT o.length ∧ ∀ d ∈ ds, ascT o d = false) ∧ Mc = (lp, .loop { R with state := .done, pending := some .ret }) :: (df, .defd false) :: (l3, .row 83 0 0 [.func (.func 85) [].toArray [].toArray]) :: (l2, .row 3 0 0 [.int .i64 ((2 : Nat) : Int)]) :: (l1, .row 3 0 0 [.int .i64 (o.length : Int)]) :: (b3, .row 24 0 0 [.int .i64 0]) :: (b2, .row 22 0 0 [u]) :: (n0, .row 22 0 0 [v]) :: M)
    h7 (by decide) (fun h1 h2 h3 => isAny_fs h1 h2 h3) hH6 (by simp) (by simp) (by simp) ?_ ⟨[], rfl, fun d hd => (by cases hd), rfl⟩ ?_) ?_
  · rintro zs Mc ⟨ds, _, _, rfl⟩ p hp
    simp only [List.mem_cons, List.not_mem_nil, or_false] at hp
    rcases hp with rfl | rfl | rfl <;> simp
  · rintro z zs Mc T0 u n' H7 hn' ⟨ds, hds, hno, rfl⟩ hSz hH7
    simp only [List.cons_append] at hH7
    have hz : z ∈ allT o.length := by rw [← hds]; simp
    have hzl := allT_len hz
    have hzt := allT_lt hz
    have hu1 := hSz.one_
    refine YS.intro hH7 (.head _) (by rw [← hRR]) (by rw [← hRR]) (by rw [← hRR]; rfl) (by rw [← hRR]; exact ht) ?_
    subst hRR
    dsimp only
    repeat' (first | refine zA ?_ | (refine zM ?_; intro _ _) | (apply Ws <;> intro hg))
    refine Ends.asg hH7 .here fun H8 hH8 => ?_
    dsimp only
    clear hH7
    generalize hRb : ({ state := .busy, pending := none, fn := 39, tmps := t, params := [14], assign := _, body := _, nt := _ } : LoopE) = Rb at hH8
    have mO : (n0, Ch.row 22 0 0 [v]) ∈ (lp, Ch.loop Rb) :: (df, .defd false) :: (l3, .row 83 0 0 [.func (.func 85) [].toArray [].toArray]) :: (l2, .row 3 0 0 [.int .i64 ((2 : Nat) : Int)]) :: (l1, .row 3 0 0 [.int .i64 (o.length : Int)]) :: (b3, .row 24 0 0 [.int .i64 0]) :: (b2, .row 22 0 0 [.slice none 0 0]) :: (n0, .row 22 0 0 [v]) :: (M ++ T0) := by simp
    repeat' (first | refine zP ?_ | refine zA ?_ | (refine zM ?_; intro _ _) | refine zX ?_ | (refine zC ?_; intro _ _ _ _) | (refine zS ?_; intro _ _) | (apply Ws <;> intro hg))
    refine WR.call (by first | exact gN | exact gS rfl) rfl rfl (canAscend_fs (t := z) hH8 (ho.mono fun q hq => by simp [hq]) (hSz.mono fun q hq => by simp [hq]) (by omega) (by omega) hzt) ?_
    rintro _ H9 ⟨n9, rfl, hn9, hH9⟩
    clear hH8 mO
    subst hRb
    cases hcb : ascT o z with
    | true =>
      repeat' (first | refine zP ?_ | refine zA ?_ | (refine zM ?_; intro _ _) | refine zX ?_ | (refine zC ?_; intro _ _ _ _) | (refine zS ?_; intro _ _) | (apply Ws <;> intro hg))
      refine WR.storeBox (by first | exact gN | exact gS rfl) hH9 rfl rfl hu1 (.there (.there (.there (.there (.there (.there .here)))))) fun H10 hH10 => ?_
      repeat' (first | refine zP ?_ | refine zA ?_ | (refine zM ?_; intro _ _) | refine zX ?_ | (refine zC ?_; intro _ _ _ _) | (refine zS ?_; intro _ _) | (apply Ws <;> intro hg))
      refine WR.storeBox (by first | exact gN | exact gS rfl) hH10 rfl rfl rfl (.there (.there (.there (.there (.there .here))))) fun H11 hH11 => ?_
      repeat' (first | refine zP ?_ | refine zA ?_ | (refine zM ?_; intro _ _) | refine zX ?_ | (refine zC ?_; intro _ _ _ _) | (refine zS ?_; intro _ _) | (apply Ws <;> intro hg))
      exact Ends.rd rfl rfl rfl hH11 .here fun H' h' => ⟨_ :: _ :: _ :: _ :: _ :: _ :: _ :: _ :: M, n9, hn9, h', .inr ⟨rfl, rfl, ⟨ds, zs, hds, hno⟩, rfl⟩⟩
    | false =>
      have hno2 : ∀ d ∈ ds ++ [z], ascT o d = false := fun d hd => by
        rcases List.mem_append.1 hd with hd | hd
        · exact hno d hd
        · rw [List.mem_singleton.1 hd]; exact hcb
      have hds2 : (ds ++ [z]) ++ zs = allT o.length := by rw [← hds]; simp
      repeat' (first | refine zP ?_ | refine zA ?_ | (refine zM ?_; intro _ _) | refine zX ?_ | (refine zC ?_; intro _ _ _ _) | (refine zS ?_; intro _ _) | (apply Ws <;> intro hg))
      exact Ends.rd rfl rfl rfl hH9 .here fun H' h' => ⟨_ :: _ :: _ :: _ :: _ :: _ :: _ :: _ :: M, n9, hn9, h', .inl ⟨rfl, ds ++ [z], hds2, hno2, rfl⟩⟩
  · rintro _ H7 ⟨M7, T0, n7, hn7, hH7, ⟨ds, hds, hno, rfl⟩ | ⟨z, u, hSz, hcb, ⟨ds, zs, hds, hno⟩, rfl⟩⟩
    · rw [List.append_nil] at hds
      simp only [List.cons_append] at hH7
      refine rangeEnd_of hH7 .here (by rw [← hRR]; simp) (by rw [← hRR]; rfl) fun H8 hH8 => ?_
      have hnone : twoL o = none := List.find?_eq_none.2 fun d hd => by rw [← hds] at hd; rw [hno d hd]; simp
      repeat' (first | refine zP ?_ | refine zA ?_ | (refine zM ?_; intro _ _) | refine zX ?_ | (refine zC ?_; intro _ _ _ _) | (refine zS ?_; intro _ _) | (apply Ws <;> intro hg))
      refine WR.storeBox (by first | exact gN | exact gS rfl) hH8 rfl rfl rfl (.there (.there (.there (.there (.there (.there .here)))))) fun H10 hH10 => ?_
      refine WR.storeBox (by first | exact gN | exact gS rfl) hH10 rfl rfl rfl (.there (.there (.there (.there (.there .here))))) fun H11 hH11 => ?_
      repeat' (first | refine zP ?_ | refine zA ?_ | (refine zM ?_; intro _ _) | refine zX ?_ | (refine zC ?_; intro _ _ _ _) | (refine zS ?_; intro _ _) | (apply Ws <;> intro hg))
      exact retC2D (v := .slice none 0 0) (w := .int .i64 12) trivial rfl rfl hH11 (.cons _ (List.Sublist.refl _)) (List.Perm.refl _) fun H' h' => ⟨h'.read (.tail _ (.tail _ (.tail _ (.tail _ (.head _))))) (.row _ _ _ _) (Nat.zero_le _) rfl, h'.read (.tail _ (.tail _ (.tail _ (.head _)))) (.row _ _ _ _) (Nat.zero_le _) rfl,
        (l3, .row 83 0 0 [.func (.func 85) [].toArray [].toArray]) :: (l2, .row 3 0 0 [.int .i64 ((2 : Nat) : Int)]) :: (l1, .row 3 0 0 [.int .i64 (o.length : Int)]) :: (b3, .row 24 0 0 [.int .i64 12]) :: (b2, .row 22 0 0 [.slice none 0 0]) :: (n0, .row 22 0 0 [v]) :: T0, n7, .slice none 0 0, by omega, h'.perm (by classical exact List.perm_iff_count.2 (fun a => by simp only [defds, List.map_cons, List.map_nil, List.count_append, List.count_cons, List.count_nil, List.cons_append, List.nil_append, List.append_nil]; omega)), .inr ⟨hnone, rfl⟩⟩
    · simp only [List.cons_append] at hH7
      refine rangeEnd_of hH7 .here (by simp) rfl fun H8 hH8 => ?_
      have hsome : twoL o = some z := List.find?_eq_some_iff_append.2 ⟨hcb, ds, zs, hds.symm, fun d hd => by rw [hno d hd]; rfl⟩
      repeat' (first | refine zP ?_ | refine zA ?_ | (refine zM ?_; intro _ _) | refine zX ?_ | (refine zC ?_; intro _ _ _ _) | (refine zS ?_; intro _ _) | (apply Ws <;> intro hg))
      exact retC2D (v := u) (w := .int .i64 0) trivial rfl rfl hH8 (.cons _ (List.Sublist.refl _)) (List.Perm.refl _) fun H' h' => ⟨h'.read (.tail _ (.tail _ (.tail _ (.tail _ (.head _))))) (.row _ _ _ _) (Nat.zero_le _) rfl, h'.read (.tail _ (.tail _ (.tail _ (.head _)))) (.row _ _ _ _) (Nat.zero_le _) rfl,
        (l3, .row 83 0 0 [.func (.func 85) [].toArray [].toArray]) :: (l2, .row 3 0 0 [.int .i64 ((2 : Nat) : Int)]) :: (l1, .row 3 0 0 [.int .i64 (o.length : Int)]) :: (b3, .row 24 0 0 [.int .i64 0]) :: (b2, .row 22 0 0 [u]) :: (n0, .row 22 0 0 [v]) :: T0, n7, u, by omega, h'.perm (by classical exact List.perm_iff_count.2 (fun a => by simp only [defds, List.map_cons, List.map_nil, List.count_append, List.count_cons, List.count_nil, List.cons_append, List.nil_append, List.append_nil]; omega)), .inl ⟨z, hsome, hSz.mono fun q hq => by simp [hq], rfl⟩⟩
end
end Go.Proofs.Ytfnflkcjhefddaa.Lk
