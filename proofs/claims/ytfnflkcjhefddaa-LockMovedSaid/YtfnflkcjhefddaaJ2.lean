/- Texts of the law, joined. -/
import Derived.Test.YtfnflkcjhefddaaJ1
import Derived.Test.YtfnflkcjhefddaaLkP
import Derived.Test.YtfnflkcjhefddaaSymS
import Derived.Test.YtfnflkcjhefddaaSymG
import Derived.Test.YtfnflkcjhefddaaSymD
/- Functions of the library; an order's check. -/
namespace Go.Proofs.Ytfnflkcjhefddaa.Lk
open Go Go.Abs Go.Mth
set_option linter.unusedVariables false
set_option linter.unusedSimpArgs false
abbrev IL (l : List Nat) : List Int := l.map fun (x : Nat) => (x : Int)
theorem IL_len (l : List Nat) : (IL l).length = l.length := by simp [IL]
theorem IL_get {l : List Nat} {i : Nat} (h : i < l.length) : (IL l).getD i 0 = ((l.getD i 0 : Nat) : Int) := by
  rw [getD_eq (by rw [IL_len]; exact h), getD_eq h]; simp [IL]
theorem nodes_IL (l : List Nat) : nodes l = ints (IL l) := by simp [nodes, ints, IL]
/-- The error of a number of an order. -/
def errA (o : List Int) (k : Nat) : Int := if o.getD k 0 < 0 ∨ (o.length : Int) ≤ o.getD k 0 then 2 else if o.getD k 0 ∈ o.take k then 6 else 0
def errO (o : List Int) : Int := if o.length < 1 ∨ 7 < o.length then 1 else firstE (errA o) o.length
theorem errO_ok {l : List Nat} (h : OrdN l) : errO (IL l) = 0 := by
  unfold errO
  have h1 := h.one
  have h2 := h.most
  rw [IL_len, if_neg (by omega), firstE_zero]
  intro i hi
  have hlt := h.lt _ (getD_mem (a := 0) hi)
  unfold errA
  rw [IL_get hi, IL_len, if_neg (by omega), if_neg]
  intro hm
  obtain ⟨j, hj, he⟩ := List.mem_iff_getElem.1 hm
  simp only [List.length_take, IL_len] at hj
  rw [List.getElem_take] at he
  have hj2 : j < l.length := by omega
  have : l.getD j 0 = l.getD i 0 := by
    rw [getD_eq hj2]
    have : (IL l)[j]'(by rw [IL_len]; exact hj2) = ((l[j] : Nat) : Int) := by simp [IL]
    rw [this] at he
    omega
  have := nodup_get h.nodup hj2 hi this
  omega
attribute [local irreducible] gOK WS WC WR WD Ends FS YS OpV seqK blockK loopK midK retK rdK asgK rangeEnd sat Cell
section
variable {M : HL} {n0 : Nat} {H : Heap} {v w : Value}
theorem Index_fs (hH : hasH M n0 H) {xs : List Int} (hS : Sl M 1 v (ints xs)) (hx : xs.length ≤ 100000) (a : Int) :
    FS C 52 [v, .int .i64 a] H (fun e H' => H' = H ∧ ((∃ k, k < xs.length ∧ xs.getD k 0 = a ∧ (∀ j, j < k → xs.getD j 0 ≠ a) ∧ e = .int .i64 (k : Int)) ∨ (a ∉ xs ∧ e = .int .i64 (-1)))) := by
  refine FS.intro (pf := pf52) rfl rfl rfl ?_
  repeat' (first | refine zP ?_ | refine zA ?_ | (refine zM ?_; intro _ _) | refine zX ?_ | (refine zC ?_; intro _ _ _ _) | (refine zS ?_; intro _ _) | (apply Ws <;> intro hg))
  refine WC.loopX [(0, _), (1, _), (6, _), (7, _)] (fun k : Nat => [(8, .int .i64 (k : Int))]) [] (fun k H' => H' = H ∧ k ≤ xs.length ∧ ∀ j, j < k → xs.getD j 0 ≠ a) (fun k => xs.length - k) 0 (by repeat' (first | exact .nil | refine .cons rfl ?_)) rfl ⟨rfl, Nat.zero_le _, fun j h => absurd h (Nat.not_lt_zero _)⟩ ?_
  rintro k H' ⟨rfl, hk, hno⟩
  dsimp only [List.cons_append, List.nil_append]
  repeat' (first | refine zP ?_ | refine zA ?_ | (refine zM ?_; intro _ _) | refine zX ?_ | (refine zC ?_; intro _ _ _ _) | (refine zS ?_; intro _ _) | (apply Ws <;> intro hg))
  refine WC.condP rfl (fun hlt => ?_) (fun hlt => ?_)
  · have hk' : k < xs.length := by omega
    repeat' (first | refine zP ?_ | refine zA ?_ | (refine zM ?_; intro _ _) | refine zX ?_ | (refine zC ?_; intro _ _ _ _) | (refine zS ?_; intro _ _) | (apply Ws <;> intro hg))
    refine WC.condP rfl (fun h => ?_) (fun h => ?_)
    · repeat' (first | refine zP ?_ | refine zA ?_ | (refine zM ?_; intro _ _) | refine zX ?_ | (refine zC ?_; intro _ _ _ _) | (refine zS ?_; intro _ _) | (apply Ws <;> intro hg))
      exact Ends.ret1 rfl ⟨rfl, .inl ⟨k, hk', h.symm, hno, rfl⟩⟩
    · repeat' (first | refine zP ?_ | refine zA ?_ | (refine zM ?_; intro _ _) | refine zX ?_ | (refine zC ?_; intro _ _ _ _) | (refine zS ?_; intro _ _) | (apply Ws <;> intro hg))
      refine Ends.loop (k + 1) (by omega) (by repeat' (first | exact .nil | refine .cons rfl ?_)) rfl ⟨rfl, hk', fun j hj => ?_⟩
      rcases Nat.lt_or_ge j k with h2 | h2
      · exact hno j h2
      · have : j = k := by omega
        subst this
        exact fun e => h e.symm
  · repeat' (first | refine zP ?_ | refine zA ?_ | (refine zM ?_; intro _ _) | refine zX ?_ | (refine zC ?_; intro _ _ _ _) | (refine zS ?_; intro _ _) | (apply Ws <;> intro hg))
    refine Ends.ret1 rfl ⟨rfl, .inr ⟨fun hm => ?_, rfl⟩⟩
    obtain ⟨j, hj, he⟩ := List.mem_iff_getElem.1 hm
    exact hno j (by omega) (by rw [getD_eq hj]; exact he)
theorem Contains_fs (hH : hasH M n0 H) {xs : List Int} (hS : Sl M 1 v (ints xs)) (hx : xs.length ≤ 100000) (a : Int) :
    FS C 68 [v, .int .i64 a] H (fun e H' => H' = H ∧ e = .bool (decide (a ∈ xs))) := by
  refine FS.intro (pf := pf68) rfl rfl rfl ?_
  repeat' (first | refine zP ?_ | refine zA ?_ | (refine zM ?_; intro _ _) | refine zX ?_ | (refine zC ?_; intro _ _ _ _) | (refine zS ?_; intro _ _) | (apply Ws <;> intro hg))
  refine WR.call (by first | exact gN | exact gS rfl) rfl rfl (Index_fs hH hS hx a) ?_
  rintro _ _ ⟨rfl, ⟨k, hk, he, _, rfl⟩ | ⟨hn, rfl⟩⟩
  · repeat' (first | refine zP ?_ | refine zA ?_ | (refine zM ?_; intro _ _) | refine zX ?_ | (refine zC ?_; intro _ _ _ _) | (refine zS ?_; intro _ _) | (apply Ws <;> intro hg))
    refine Ends.ret1 rfl ⟨rfl, ?_⟩
    have hm : a ∈ xs := by rw [← he]; exact getD_mem hk
    rw [decide_eq_true hm, decide_eq_true (by omega)]
  · repeat' (first | refine zP ?_ | refine zA ?_ | (refine zM ?_; intro _ _) | refine zX ?_ | (refine zC ?_; intro _ _ _ _) | (refine zS ?_; intro _ _) | (apply Ws <;> intro hg))
    refine Ends.ret1 rfl ⟨rfl, ?_⟩
    rw [decide_eq_false hn, decide_eq_false (by omega)]
theorem isPlace_fs (hH : hasH M n0 H) {xs : List Int} (hS : Sl M 1 v (ints xs)) (a : Int) :
    FS C 67 [v, .int .i64 a] H (fun e H' => H' = H ∧ e = .bool (decide (0 ≤ a ∧ a < xs.length))) := by
  refine FS.intro (pf := pf67) rfl rfl rfl ?_
  repeat' (first | refine zP ?_ | refine zA ?_ | (refine zM ?_; intro _ _) | refine zX ?_ | (refine zC ?_; intro _ _ _ _) | (refine zS ?_; intro _ _) | (apply Ws <;> intro hg))
  · exact Ends.ret1 rfl ⟨rfl, by congr 1; rw [decide_eq_decide]; omega⟩
  · exact Ends.ret1 rfl ⟨rfl, by rw [decide_eq_false (by omega)]⟩
theorem Check_fs (hH : hasH M n0 H) {xs : List Int} (hS : Sl M 1 v (ints xs)) (hx : xs.length ≤ 100000) :
    FS C 23 [v] H (fun e H' => H' = H ∧ e = .int .i64 (errO xs)) := by
  have hv := hS.one_
  refine FS.intro (pf := pf23) rfl rfl rfl ?_
  repeat' (first | refine zP ?_ | refine zA ?_ | (refine zM ?_; intro _ _) | refine zX ?_ | (refine zC ?_; intro _ _ _ _) | (refine zS ?_; intro _ _) | (apply Ws <;> intro hg))
  · refine Ends.ret1 rfl ⟨rfl, ?_⟩
    unfold errO; rw [if_pos (by omega)]
  · refine WC.condP rfl (fun h7 => ?_) (fun h7 => ?_)
    · repeat' (first | refine zP ?_ | refine zA ?_ | (refine zM ?_; intro _ _) | refine zX ?_ | (refine zC ?_; intro _ _ _ _) | (refine zS ?_; intro _ _) | (apply Ws <;> intro hg))
      refine Ends.ret1 rfl ⟨rfl, ?_⟩
      unfold errO; rw [if_pos (by omega)]
    · have hr : ¬ (xs.length < 1 ∨ 7 < xs.length) := by omega
      repeat' (first | refine zP ?_ | refine zA ?_ | (refine zM ?_; intro _ _) | refine zX ?_ | (refine zC ?_; intro _ _ _ _) | (refine zS ?_; intro _ _) | (apply Ws <;> intro hg))
      refine WC.loopX [(0, v), (13, v), (14, .int .i64 (xs.length : Int))] (fun k : Nat => [(15, .int .i64 (k : Int))]) [] (fun k H' => H' = H ∧ k ≤ xs.length ∧ firstE (errA xs) k = 0) (fun k => xs.length - k) 0 (by repeat' (first | exact .nil | refine .cons rfl ?_)) rfl ⟨rfl, Nat.zero_le _, rfl⟩ ?_
      rintro k H' ⟨rfl, hk, hz⟩
      dsimp only [List.cons_append, List.nil_append]
      repeat' (first | refine zP ?_ | refine zA ?_ | (refine zM ?_; intro _ _) | refine zX ?_ | (refine zC ?_; intro _ _ _ _) | (refine zS ?_; intro _ _) | (apply Ws <;> intro hg))
      refine WC.condP rfl (fun hlt => ?_) (fun hlt => ?_)
      · have hk' : k < xs.length := by omega
        repeat' (first | refine zP ?_ | refine zA ?_ | (refine zM ?_; intro _ _) | refine zX ?_ | (refine zC ?_; intro _ _ _ _) | (refine zS ?_; intro _ _) | (apply Ws <;> intro hg))
        refine WR.call (by first | exact gN | exact gS rfl) rfl rfl (isPlace_fs hH hS _) ?_
        rintro _ _ ⟨rfl, rfl⟩
        repeat' (first | refine zP ?_ | refine zA ?_ | (refine zM ?_; intro _ _) | refine zX ?_ | (refine zC ?_; intro _ _ _ _) | (refine zS ?_; intro _ _) | (apply Ws <;> intro hg))
        refine WC.condP rfl (fun hp => ?_) (fun hp => ?_)
        · repeat' (first | refine zP ?_ | refine zA ?_ | (refine zM ?_; intro _ _) | refine zX ?_ | (refine zC ?_; intro _ _ _ _) | (refine zS ?_; intro _ _) | (apply Ws <;> intro hg))
          refine Ends.ret1 rfl ⟨rfl, ?_⟩
          have h1 : errA xs k = 2 := by unfold errA; rw [if_pos (by omega)]
          unfold errO; rw [if_neg hr, firstE_at hz (by rw [h1]; decide) hk', h1]
        · have hpl : ¬ (xs.getD k 0 < 0 ∨ (xs.length : Int) ≤ xs.getD k 0) := by omega
          repeat' (first | refine zP ?_ | refine zA ?_ | (refine zM ?_; intro _ _) | refine zX ?_ | (refine zC ?_; intro _ _ _ _) | (refine zS ?_; intro _ _) | (apply Ws <;> intro hg))
          refine WR.cutHi (by first | exact gN | exact gS rfl) rfl rfl hS rfl (Nat.le_of_lt hk') fun v' hS' => ?_
          repeat' (first | refine zP ?_ | refine zA ?_ | (refine zM ?_; intro _ _) | refine zX ?_ | (refine zC ?_; intro _ _ _ _) | (refine zS ?_; intro _ _) | (apply Ws <;> intro hg))
          refine WR.call (by first | exact gN | exact gS rfl) rfl rfl (Contains_fs hH hS' (by simp; omega) _) ?_
          rintro _ _ ⟨rfl, rfl⟩
          repeat' (first | refine zP ?_ | refine zA ?_ | (refine zM ?_; intro _ _) | refine zX ?_ | (refine zC ?_; intro _ _ _ _) | (refine zS ?_; intro _ _) | (apply Ws <;> intro hg))
          refine WC.condP rfl (fun hm => ?_) (fun hm => ?_)
          · repeat' (first | refine zP ?_ | refine zA ?_ | (refine zM ?_; intro _ _) | refine zX ?_ | (refine zC ?_; intro _ _ _ _) | (refine zS ?_; intro _ _) | (apply Ws <;> intro hg))
            refine Ends.ret1 rfl ⟨rfl, ?_⟩
            have h1 : errA xs k = 6 := by unfold errA; rw [if_neg hpl, if_pos hm]
            unfold errO; rw [if_neg hr, firstE_at hz (by rw [h1]; decide) hk', h1]
          · repeat' (first | refine zP ?_ | refine zA ?_ | (refine zM ?_; intro _ _) | refine zX ?_ | (refine zC ?_; intro _ _ _ _) | (refine zS ?_; intro _ _) | (apply Ws <;> intro hg))
            refine Ends.loop (k + 1) (by omega) (by repeat' (first | exact .nil | refine .cons rfl ?_)) rfl ⟨rfl, hk', firstE_succ hz ?_⟩
            unfold errA; rw [if_neg hpl, if_neg hm]
      · have hkn : k = xs.length := by omega
        subst hkn
        repeat' (first | refine zP ?_ | refine zA ?_ | (refine zM ?_; intro _ _) | refine zX ?_ | (refine zC ?_; intro _ _ _ _) | (refine zS ?_; intro _ _) | (apply Ws <;> intro hg))
        refine Ends.ret1 rfl ⟨rfl, ?_⟩
        unfold errO; rw [if_neg hr, hz]
theorem CheckN_fs (hH : hasH M n0 H) {l : List Nat} (hS : Sl M 1 v (nodes l)) (ho : OrdN l) :
    FS C 23 [v] H (fun e H' => H' = H ∧ e = .int .i64 0) := by
  have := ho.most
  refine (Check_fs hH (xs := IL l) (by rw [← nodes_IL]; exact hS) (by rw [IL_len]; omega)).mono ?_
  rintro e H' ⟨h1, h2⟩
  rw [errO_ok ho] at h2
  exact ⟨h1, h2⟩
/-- No number is smaller than the one before it. -/
def ascB (l : List Nat) : Bool := (List.range (l.length - 1)).all fun i => decide (l.getD i 0 ≤ l.getD (i + 1) 0)
end
end Go.Proofs.Ytfnflkcjhefddaa.Lk

/- A basin's methods. -/
namespace Go.Proofs.Ytfnflkcjhefddaa.Lk
open Go Go.Abs Go.Mth
set_option linter.unusedVariables false
set_option linter.unusedSimpArgs false
abbrev ptrO (b o : Nat) : Value := .pointer (some ⟨b, o, some 0⟩)
theorem cell_row {M : HL} {b o e : Nat} {cs : List Value} {v : Value} (hm : (b, Ch.row e 0 0 cs) ∈ M) (hc : cs[o]? = some v) : Cell M b o 0 v := ⟨_, 0, cs, hm, .row _ _ _ _, Nat.zero_le _, hc⟩
attribute [local irreducible] gOK WS WC WR WD Ends FS YS OpV seqK blockK loopK midK retK rdK asgK rangeEnd sat Cell
section
variable {M : HL} {n0 : Nat} {H : Heap} {v w : Value}
theorem isEmpty_fs (hH : hasH M n0 H) {b o : Nat} {S : List Value} (hc : Cell M b o 0 v) (hS : Sl M 1 v S) :
    FS C 95 [ptrO b o] H (fun e H' => H' = H ∧ e = .bool (decide (S.length = 0))) := by
  refine FS.intro (pf := pf95) rfl rfl rfl ?_
  repeat' (first | refine zP ?_ | refine zA ?_ | (refine zM ?_; intro _ _) | refine zX ?_ | (refine zC ?_; intro _ _ _ _) | (refine zS ?_; intro _ _) | (apply Ws <;> intro hg))
  exact Ends.ret1 rfl ⟨rfl, by congr 1; rw [decide_eq_decide]; omega⟩
theorem last_fs (hH : hasH M n0 H) {b o : Nat} {S : List Value} {y : Value} (hc : Cell M b o 0 v) (hS : Sl M 1 v (S ++ [y])) (hb : S.length ≤ 10000) :
    FS C 96 [ptrO b o] H (fun e H' => H' = H ∧ e = y) := by
  refine FS.intro (pf := pf96) rfl rfl rfl ?_
  have hl : ((S ++ [y]).length : Int) = (S.length : Int) + 1 := by simp
  have h1 : S.length < (S ++ [y]).length := by simp
  have hg : (S ++ [y]).getD S.length undef = y := getD_snoc
  generalize S ++ [y] = Q at hS hl h1 hg
  repeat' (first | refine zP ?_ | refine zA ?_ | (refine zM ?_; intro _ _) | refine zX ?_ | (refine zC ?_; intro _ _ _ _) | (refine zS ?_; intro _ _) | (apply Ws <;> intro hg))
  rw [hl]
  repeat' (first | refine zP ?_ | refine zA ?_ | (refine zM ?_; intro _ _) | refine zX ?_ | (refine zC ?_; intro _ _ _ _) | (refine zS ?_; intro _ _) | (apply Ws <;> intro hg))
  rw [show (S.length : Int) + 1 - 1 = (S.length : Int) by omega]
  repeat' (first | refine zP ?_ | refine zA ?_ | (refine zM ?_; intro _ _) | refine zX ?_ | (refine zC ?_; intro _ _ _ _) | (refine zS ?_; intro _ _) | (apply Ws <;> intro hg))
  exact Ends.ret1 rfl ⟨rfl, hg⟩
theorem StkO.len {e : Nat} {v : Value} {S : List Value} {Mx : HL} (h : StkO e v S Mx) : S.length ≤ 10000 := by
  cases h with
  | nil => simp
  | mk hl hS hc hb => have := hc.le; omega
theorem take_fs {e b o : Nat} {cs : List Value} {Mx : HL} {S : List Value} {y : Value} (hO : StkO 3 v (S ++ [y]) Mx) (hH : hasH ((b, .row e 0 0 cs) :: (Mx ++ M)) n0 H) (hc : cs[o]? = some v) :
    FS C 97 [ptrO b o] H (fun r H' => r = y ∧ ∃ v', StkO 3 v' S Mx ∧ hasH ((b, .row e 0 0 (cs.set o v')) :: (Mx ++ M)) n0 H') := by
  have hS := (hO.sl M).cons (p := (b, Ch.row e 0 0 cs))
  have hC := cell_row (M := (b, Ch.row e 0 0 cs) :: (Mx ++ M)) (.head _) hc
  have ho : o < cs.length := (List.getElem?_eq_some_iff.1 hc).1
  refine FS.intro (pf := pf97) rfl rfl rfl ?_
  repeat' (first | refine zP ?_ | refine zA ?_ | (refine zM ?_; intro _ _) | refine zX ?_ | (refine zC ?_; intro _ _ _ _) | (refine zS ?_; intro _ _) | (apply Ws <;> intro hg))
  have hb := StkO.len hO
  rw [List.length_append, List.length_singleton] at hb
  refine WR.call (by first | exact gN | exact gS rfl) rfl rfl (last_fs hH hC hS (by omega)) ?_
  rintro r _ ⟨rfl, hr⟩
  rw [hr]
  have hl : ((S ++ [y]).length : Int) = (S.length : Int) + 1 := by simp
  repeat' (first | refine zP ?_ | refine zA ?_ | (refine zM ?_; intro _ _) | refine zX ?_ | (refine zC ?_; intro _ _ _ _) | (refine zS ?_; intro _ _) | (apply Ws <;> intro hg))
  rw [hl]
  repeat' (first | refine zP ?_ | refine zA ?_ | (refine zM ?_; intro _ _) | refine zX ?_ | (refine zC ?_; intro _ _ _ _) | (refine zS ?_; intro _ _) | (apply Ws <;> intro hg))
  rw [show (S.length : Int) + 1 - 1 = (S.length : Int) by omega]
  refine WR.popO (by first | exact gN | exact gS rfl) rfl rfl hO rfl fun v' h2 => ?_
  repeat' (first | refine zP ?_ | refine zA ?_ | (refine zM ?_; intro _ _) | refine zX ?_ | (refine zC ?_; intro _ _ _ _) | (refine zS ?_; intro _ _) | (apply Ws <;> intro hg))
  refine WR.store1 (M' := (b, .row e 0 0 (cs.set o v')) :: (Mx ++ M)) (by first | exact gN | exact gS rfl) hH rfl rfl h2.one_ .here (Nat.zero_le _) (by simpa using ho) (by simp) fun H2 hH2 => ?_
  repeat' (first | refine zP ?_ | refine zA ?_ | (refine zM ?_; intro _ _) | refine zX ?_ | (refine zC ?_; intro _ _ _ _) | (refine zS ?_; intro _ _) | (apply Ws <;> intro hg))
  exact Ends.ret1 rfl ⟨rfl, v', h2, hH2⟩
theorem bring_fs {e b o : Nat} {cs : List Value} {Mx : HL} {S : List Value} {a : Nat} (hO : StkO 3 v S Mx) (hH : hasH ((b, .row e 0 0 cs) :: (Mx ++ M)) n0 H) (hc : cs[o]? = some v) (hl : S.length ≤ 9000) :
    FS C 98 [ptrO b o, .int .i64 (a : Int)] H (fun r H' => ∃ v' Mx' n', StkO 3 v' (S ++ [.int .i64 (a : Int)]) Mx' ∧ n0 ≤ n' ∧ hasH ((b, .row e 0 0 (cs.set o v')) :: (Mx' ++ M)) n' H') := by
  have hC := cell_row (M := (b, Ch.row e 0 0 cs) :: (Mx ++ M)) (.head _) hc
  have ho : o < cs.length := (List.getElem?_eq_some_iff.1 hc).1
  refine FS.intro (pf := pf98) rfl rfl rfl ?_
  repeat' (first | refine zP ?_ | refine zA ?_ | (refine zM ?_; intro _ _) | refine zX ?_ | (refine zC ?_; intro _ _ _ _) | (refine zS ?_; intro _ _) | (apply Ws <;> intro hg))
  refine WR.push [(b, Ch.row e 0 0 cs)] Mx M rfl rfl rfl rfl hO hH rfl rfl hl fun v' Mx' n' H1 h1 hH1 hn => ?_
  repeat' (first | refine zP ?_ | refine zA ?_ | (refine zM ?_; intro _ _) | refine zX ?_ | (refine zC ?_; intro _ _ _ _) | (refine zS ?_; intro _ _) | (apply Ws <;> intro hg))
  refine WR.store1 (M' := (b, .row e 0 0 (cs.set o v')) :: (Mx' ++ M)) (by first | exact gN | exact gS rfl) hH1 rfl rfl h1.one_ .here (Nat.zero_le _) (by simpa using ho) (by simp) fun H2 hH2 => ?_
  repeat' (first | refine zP ?_ | refine zA ?_ | (refine zM ?_; intro _ _) | refine zX ?_ | (refine zC ?_; intro _ _ _ _) | (refine zS ?_; intro _ _) | (apply Ws <;> intro hg))
  exact Ends.end0 ⟨v', Mx', n', h1, hn, hH2⟩
end
end Go.Proofs.Ytfnflkcjhefddaa.Lk

/- Barges are brought in and taken out. -/
namespace Go.Proofs.Ytfnflkcjhefddaa.Lk
open Go Go.Abs Go.Mth
set_option linter.unusedVariables false
set_option linter.unusedSimpArgs false
/-- Two basins in memory. -/
def BB (b : Nat) (p q : List Nat) (M : HL) (n : Nat) (H : Heap) : Prop := ∃ v0 v1 M0 M1, StkO 3 v0 (nodes p.reverse) M0 ∧ StkO 3 v1 (nodes q.reverse) M1 ∧ hasH ((b, .row 109 0 0 [v0, v1]) :: (M0 ++ (M1 ++ M))) n H
def tkB (p q : List Nat) (a : Nat) : Bool := decide (p.head? = some a) || decide (q.head? = some a)
def tkP (p : List Nat) (a : Nat) : List Nat := if p.head? = some a then p.tail else p
def tkQ (p q : List Nat) (a : Nat) : List Nat := if p.head? = some a then q else if q.head? = some a then q.tail else q
theorem nodes_snoc (l : List Nat) (x : Nat) : nodes (l ++ [x]) = nodes l ++ [.int .i64 (x : Int)] := by simp [nodes]
theorem nodes_cons_rev (l : List Nat) (x : Nat) : nodes (x :: l).reverse = nodes l.reverse ++ [.int .i64 (x : Int)] := by rw [List.reverse_cons, nodes_snoc]
theorem nodes_len' (l : List Nat) : (nodes l).length = l.length := by simp [nodes]
/-- The first two parts change places. -/
theorem swap2 {p : Nat × Ch} {A B M : HL} {n : Nat} {H : Heap} (h : hasH (p :: (A ++ (B ++ M))) n H) : hasH (p :: (B ++ (A ++ M))) n H :=
  h.perm (.cons _ (List.perm_append_comm_assoc A B M))
attribute [local irreducible] gOK WS WC WR WD Ends FS YS OpV seqK blockK loopK midK retK rdK asgK rangeEnd sat Cell
section
variable {M : HL} {n0 : Nat} {H : Heap} {v w : Value}
end
end Go.Proofs.Ytfnflkcjhefddaa.Lk

/- Barges are brought in, and taken out as soon as they can be. -/
namespace Go.Proofs.Ytfnflkcjhefddaa.Lk
open Go Go.Abs Go.Mth
set_option linter.unusedVariables false
set_option linter.unusedSimpArgs false
/-- What is told of each move. -/
def TellK (fn : Nat) (caps : List Value) (J : List (Nat × Nat) → HL → Prop) (M : HL) : Prop := ∀ (tr : List (Nat × Nat)) (Mj F : HL) (n : Nat) (H : Heap) (a x : Nat), J tr Mj → tr.length ≤ 100 → (a = 105 ∨ a = 111) → hasH (F ++ (Mj ++ M)) n H →
  FS C fn ([] ++ [.int .u8 (a : Int), .int .i64 (x : Int)] ++ caps) H (fun e H' => ∃ Mj' n', J (tr ++ [(a, x)]) Mj' ∧ n ≤ n' ∧ hasH (F ++ (Mj' ++ M)) n' H')
theorem BB.tell {fn : Nat} {caps : List Value} {J : List (Nat × Nat) → HL → Prop} {M Mj : HL} {b n : Nat} {H : Heap} {p q : List Nat} {tr : List (Nat × Nat)} (hT : TellK fn caps J M) (h : BB b p q (Mj ++ M) n H) (hJ : J tr Mj) (hl : tr.length ≤ 100) (a x : Nat) (ha : a = 105 ∨ a = 111) :
    FS C fn ([] ++ [.int .u8 (a : Int), .int .i64 (x : Int)] ++ caps) H (fun e H' => ∃ Mj' n', J (tr ++ [(a, x)]) Mj' ∧ n ≤ n' ∧ BB b p q (Mj' ++ M) n' H') := by
  obtain ⟨v0, v1, M0, M1, hp, hq, hH⟩ := h
  refine (hT tr Mj ((b, .row 109 0 0 [v0, v1]) :: (M0 ++ M1)) n H a x hJ hl ha (by rw [List.cons_append, List.append_assoc]; exact hH)).mono ?_
  rintro e H' ⟨Mj', n', h1, h2, h3⟩
  refine ⟨Mj', n', h1, h2, v0, v1, M0, M1, hp, hq, ?_⟩
  rw [List.cons_append, List.append_assoc] at h3
  exact h3
theorem BB.bring {M : HL} {b n o : Nat} {H : Heap} {p q : List Nat} (h : BB b p q M n H) (x : Nat) (ho : o < 2) (hl : p.length ≤ 1000 ∧ q.length ≤ 1000) :
    FS C 98 [ptrO b o, .int .i64 (x : Int)] H (fun e H' => ∃ n', n ≤ n' ∧ BB b (if o = 0 then x :: p else p) (if o = 0 then q else x :: q) M n' H') := by
  obtain ⟨v0, v1, M0, M1, hp, hq, hH⟩ := h
  rcases (show o = 0 ∨ o = 1 by omega) with rfl | rfl
  · refine (bring_fs hp hH rfl (by simp; omega)).mono ?_
    rintro e H' ⟨v', Mx', n', h1, h2, h3⟩
    refine ⟨n', h2, v', v1, Mx', M1, ?_, hq, h3⟩
    rw [if_pos rfl, nodes_cons_rev]; exact h1
  · refine (bring_fs hq (swap2 hH) rfl (by simp; omega)).mono ?_
    rintro e H' ⟨v', Mx', n', h1, h2, h3⟩
    refine ⟨n', h2, v0, v', M0, Mx', hp, ?_, swap2 h3⟩
    rw [if_neg (by decide), nodes_cons_rev]; exact h1
theorem BB.sl {M : HL} {b n : Nat} {H : Heap} {p q : List Nat} (h : BB b p q M n H) : ∃ U, hasH U n H ∧ ∀ z ∈ M, z ∈ U := by
  obtain ⟨v0, v1, M0, M1, hp, hq, hH⟩ := h
  exact ⟨_, hH, fun z hz => List.mem_cons_of_mem _ (List.mem_append_right _ (List.mem_append_right _ hz))⟩
structure FX where
  k : Nat
  vw : Value
  Mj : HL
  n : Nat
structure FY where
  p : List Nat
  q : List Nat
  ws : List Nat
  tr : List (Nat × Nat)
  vw : Value
  Mj : HL
  n : Nat
attribute [local irreducible] gOK WS WC WR WD Ends FS YS OpV seqK blockK loopK midK retK rdK asgK rangeEnd sat Cell
section
variable {M : HL} {n0 : Nat} {H : Heap} {v w : Value}
end
end Go.Proofs.Ytfnflkcjhefddaa.Lk

/- A pass: what leaves, and in which order. -/
namespace Go.Proofs.Ytfnflkcjhefddaa.Lk
open Go Go.Abs Go.Mth
set_option linter.unusedVariables false
set_option linter.unusedSimpArgs false
/-- The moves of a pass, with what lies in the basin (what is on top first) and what still comes. -/
def runTr : List Nat → List Nat → List (Nat × Nat)
  | st, [] => st.map fun y => (111, y)
  | st, x :: xs => (st.takeWhile fun y => decide (y < x)).map (fun y => (111, y)) ++ (105, x) :: runTr (x :: st.dropWhile fun y => decide (y < x)) xs
/-- What leaves. -/
def runS : List Nat → List Nat → List Nat
  | st, [] => st
  | st, x :: xs => (st.takeWhile fun y => decide (y < x)) ++ runS (x :: st.dropWhile fun y => decide (y < x)) xs
def outsT (tr : List (Nat × Nat)) : List Nat := (tr.filter fun e => decide (e.1 = 111)).map (·.2)
theorem outsT_app (a b : List (Nat × Nat)) : outsT (a ++ b) = outsT a ++ outsT b := by simp [outsT]
theorem outsT_map (l : List Nat) : outsT (l.map fun y => (111, y)) = l := by
  induction l with
  | nil => rfl
  | cons a l ih => simp only [outsT, List.map_cons, List.filter_cons] at ih ⊢; simp [ih]
theorem outs_run : ∀ (xs st : List Nat), outsT (runTr st xs) = runS st xs
  | [], st => outsT_map st
  | x :: xs, st => by
    simp only [runTr, runS]
    rw [outsT_app, outsT_map]
    congr 1
    have : outsT ((105, x) :: runTr (x :: st.dropWhile fun y => decide (y < x)) xs) = outsT (runTr (x :: st.dropWhile fun y => decide (y < x)) xs) := by simp [outsT]
    rw [this, outs_run]
theorem runTr_len : ∀ (xs st : List Nat), (runTr st xs).length = st.length + 2 * xs.length
  | [], st => by simp [runTr]
  | x :: xs, st => by
    have := congrArg List.length (List.takeWhile_append_dropWhile (p := fun y => decide (y < x)) (l := st))
    simp only [List.length_append] at this
    simp only [runTr, List.length_append, List.length_map, List.length_cons, runTr_len]
    omega
theorem run_no {st : List Nat} {x : Nat} (h : ∀ y, st.head? = some y → ¬ y < x) (xs : List Nat) : runTr st (x :: xs) = (105, x) :: runTr (x :: st) xs := by
  cases st with
  | nil => rfl
  | cons y st =>
    have : decide (y < x) = false := decide_eq_false (h y rfl)
    simp only [runTr, List.takeWhile_cons, List.dropWhile_cons, this]
    rfl
theorem run_yes {st : List Nat} {x y : Nat} (h : y < x) (xs : List Nat) : runTr (y :: st) (x :: xs) = (111, y) :: runTr st (x :: xs) := by
  have : decide (y < x) = true := decide_eq_true h
  simp only [runTr, List.takeWhile_cons, List.dropWhile_cons, this]
  rfl
def passF (l : List Nat) : List Nat := runS [] l
theorem runS_perm : ∀ (xs st : List Nat), (runS st xs).Perm (st ++ xs)
  | [], st => by simp [runS]
  | x :: xs, st => by
    simp only [runS]
    refine (List.Perm.append_left _ (runS_perm xs _)).trans ?_
    have e : st = (st.takeWhile fun y => decide (y < x)) ++ (st.dropWhile fun y => decide (y < x)) := List.takeWhile_append_dropWhile.symm
    generalize (st.takeWhile fun y => decide (y < x)) = a at e ⊢
    generalize (st.dropWhile fun y => decide (y < x)) = b at e ⊢
    subst e
    rw [List.append_assoc]
    refine List.Perm.append_left _ ?_
    exact List.perm_middle.symm
theorem passF_perm (l : List Nat) : (passF l).Perm l := by have := runS_perm l []; simpa [passF] using this
theorem passF_len (l : List Nat) : (passF l).length = l.length := (passF_perm l).length_eq
end Go.Proofs.Ytfnflkcjhefddaa.Lk

/- A pass is made. -/
namespace Go.Proofs.Ytfnflkcjhefddaa.Lk
open Go Go.Abs Go.Mth
set_option linter.unusedVariables false
set_option linter.unusedSimpArgs false
/-- One basin in memory. -/
def BP (b : Nat) (p : List Nat) (M : HL) (n : Nat) (H : Heap) : Prop := ∃ v M0, StkO 3 v (nodes p.reverse) M0 ∧ hasH ((b, .row 103 0 0 [v]) :: (M0 ++ M)) n H
theorem BP.tell {fn : Nat} {caps : List Value} {J : List (Nat × Nat) → HL → Prop} {M Mj : HL} {b n : Nat} {H : Heap} {p : List Nat} {tr : List (Nat × Nat)} (hT : TellK fn caps J M) (h : BP b p (Mj ++ M) n H) (hJ : J tr Mj) (hl : tr.length ≤ 100) (a x : Nat) (ha : a = 105 ∨ a = 111) :
    FS C fn ([] ++ [.int .u8 (a : Int), .int .i64 (x : Int)] ++ caps) H (fun e H' => ∃ Mj' n', J (tr ++ [(a, x)]) Mj' ∧ n ≤ n' ∧ BP b p (Mj' ++ M) n' H') := by
  obtain ⟨v, M0, hp, hH⟩ := h
  refine (hT tr Mj ((b, .row 103 0 0 [v]) :: M0) n H a x hJ hl ha hH).mono ?_
  rintro e H' ⟨Mj', n', h1, h2, h3⟩
  exact ⟨Mj', n', h1, h2, v, M0, hp, h3⟩
theorem BP.bring {M : HL} {b n : Nat} {H : Heap} {p : List Nat} (h : BP b p M n H) (x : Nat) (hl : p.length ≤ 1000) :
    FS C 98 [ptrO b 0, .int .i64 (x : Int)] H (fun e H' => ∃ n', n ≤ n' ∧ BP b (x :: p) M n' H') := by
  obtain ⟨v, M0, hp, hH⟩ := h
  refine (bring_fs hp hH rfl (by simp; omega)).mono ?_
  rintro e H' ⟨v', Mx', n', h1, h2, h3⟩
  refine ⟨n', h2, v', Mx', ?_, h3⟩
  rw [nodes_cons_rev]; exact h1
theorem BP.isEmpty {M : HL} {b n : Nat} {H : Heap} {p : List Nat} (h : BP b p M n H) :
    FS C 95 [ptrO b 0] H (fun e H' => H' = H ∧ e = .bool (decide (p = []))) := by
  obtain ⟨v, M0, hp, hH⟩ := h
  refine (isEmpty_fs hH (cell_row (.head _) rfl) (hp.sl _).cons).mono ?_
  rintro e H' ⟨h1, rfl⟩
  refine ⟨h1, ?_⟩
  congr 1
  rw [decide_eq_decide, nodes_len', List.length_reverse, List.length_eq_zero_iff]
theorem BP.last {M : HL} {b n x : Nat} {H : Heap} {p : List Nat} (h : BP b (x :: p) M n H) :
    FS C 96 [ptrO b 0] H (fun e H' => H' = H ∧ e = .int .i64 (x : Int)) := by
  obtain ⟨v, M0, hp, hH⟩ := h
  rw [nodes_cons_rev] at hp
  have hb := StkO.len hp
  rw [List.length_append, List.length_singleton] at hb
  exact last_fs hH (cell_row (.head _) rfl) (hp.sl _).cons (by omega)
theorem BP.take {M : HL} {b n x : Nat} {H : Heap} {p : List Nat} (h : BP b (x :: p) M n H) :
    FS C 97 [ptrO b 0] H (fun e H' => e = .int .i64 (x : Int) ∧ BP b p M n H') := by
  obtain ⟨v, M0, hp, hH⟩ := h
  rw [nodes_cons_rev] at hp
  refine (take_fs hp hH rfl).mono ?_
  rintro e H' ⟨h1, v', h2, h3⟩
  exact ⟨h1, v', M0, h2, h3⟩
theorem BP.sl {M : HL} {b n : Nat} {H : Heap} {p : List Nat} (h : BP b p M n H) : ∃ U, hasH U n H ∧ ∀ z ∈ M, z ∈ U := by
  obtain ⟨v, M0, hp, hH⟩ := h
  exact ⟨_, hH, fun z hz => List.mem_cons_of_mem _ (List.mem_append_right _ hz)⟩
structure PX where
  k : Nat
  st : List Nat
  tr : List (Nat × Nat)
  Mj : HL
  n : Nat
attribute [local irreducible] gOK WS WC WR WD Ends FS YS OpV seqK blockK loopK midK retK rdK asgK rangeEnd sat Cell
section
variable {M : HL} {n0 : Nat} {H : Heap} {v w : Value}
set_option maxHeartbeats 2000000 in
theorem pass_fs {fn : Nat} {caps : List Value} {J : List (Nat × Nat) → HL → Prop} (hT : TellK fn caps J M) {Mj : HL} (hJ : J [] Mj) {o : List Nat} {vo : Value} (ho : Sl M 1 vo (nodes o)) (hol : o.length ≤ 10) (hH : hasH (Mj ++ M) n0 H) :
    FS C 63 [vo, .func (.func fn) [].toArray caps.toArray] H (fun e H' => ∃ Mj' n', J (runTr [] o) Mj' ∧ n0 ≤ n' ∧ hasH (Mj' ++ M) n' H') := by
  have ho0 := ho.mono fun q hq => List.mem_append_right Mj hq
  refine FS.intro (pf := pf63) rfl rfl rfl ?_
  repeat' (first | refine zP ?_ | refine zA ?_ | (refine zM ?_; intro _ _) | refine zX ?_ | (refine zC ?_; intro _ _ _ _) | (refine zS ?_; intro _ _) | (apply Ws <;> intro hg))
  rename_i H1 hH1
  have ho1 := ho0.cons (p := (n0, Ch.row 103 0 0 [.slice none 0 0]))
  repeat' (first | refine zP ?_ | refine zA ?_ | (refine zM ?_; intro _ _) | refine zX ?_ | (refine zC ?_; intro _ _ _ _) | (refine zS ?_; intro _ _) | (apply Ws <;> intro hg))
  have hB1 : BP n0 [] (Mj ++ M) (n0 + 1) H1 := ⟨_, [], .nil, hH1⟩
  clear ho0 ho1 hH hH1
  refine WC.loopX [(1, .func (.func fn) [].toArray caps.toArray), (4, ptrO n0 0), (7, vo), (8, .int .i64 (o.length : Int))] (fun z : PX => [(9, .int .i64 (z.k : Int))]) []
    (fun z H' => z.k ≤ o.length ∧ z.st.length ≤ z.k ∧ z.tr ++ runTr z.st (o.drop z.k) = runTr [] o ∧ J z.tr z.Mj ∧ n0 ≤ z.n ∧ BP n0 z.st (z.Mj ++ M) z.n H') (fun z => o.length - z.k) ⟨0, [], [], Mj, n0 + 1⟩ (by repeat' (first | exact .nil | refine .cons rfl ?_)) rfl
    ⟨Nat.zero_le _, Nat.zero_le _, rfl, hJ, Nat.le_succ _, hB1⟩ ?_
  clear hB1 hJ
  rintro ⟨k, st, tr, Mj, n1⟩ H2 ⟨hk, hstl, htr, hJ, hn1, hB⟩
  simp only at hk hstl htr hJ hn1 hB
  have hlen := congrArg List.length htr
  rw [List.length_append, runTr_len, runTr_len, List.length_drop, List.length_nil] at hlen
  dsimp only [List.cons_append, List.nil_append]
  obtain ⟨U, hU, hMU⟩ := hB.sl
  have hoU := ho.mono fun q hq => hMU q (List.mem_append_right _ hq)
  repeat' (first | refine zP ?_ | refine zA ?_ | (refine zM ?_; intro _ _) | refine zX ?_ | (refine zC ?_; intro _ _ _ _) | (refine zS ?_; intro _ _) | (apply Ws <;> intro hg))
  refine WC.condP rfl (fun hlt => ?_) (fun hlt => ?_)
  · have hk' : k < o.length := by omega
    repeat' (first | refine zP ?_ | refine zA ?_ | (refine zM ?_; intro _ _) | refine zX ?_ | (refine zC ?_; intro _ _ _ _) | (refine zS ?_; intro _ _) | (apply Ws <;> intro hg))
    clear hU hoU hMU
    rw [List.drop_eq_getElem_cons hk', ← getD_eq (a := 0)] at htr
    have hx : o.getD k 0 = o.getD k 0 := rfl
    generalize o.getD k 0 = x at htr ⊢
    refine WC.loopX [(1, .func (.func fn) [].toArray caps.toArray), (4, ptrO n0 0), (7, vo), (8, .int .i64 (o.length : Int)), (9, .int .i64 (k : Int)), (6, .int .i64 (x : Int))] (fun z : PX => []) []
      (fun z H' => z.st.length ≤ k ∧ z.tr ++ runTr z.st (x :: o.drop (k + 1)) = runTr [] o ∧ J z.tr z.Mj ∧ n0 ≤ z.n ∧ BP n0 z.st (z.Mj ++ M) z.n H') (fun z => z.st.length) ⟨0, st, tr, Mj, n1⟩ (by repeat' (first | exact .nil | refine .cons rfl ?_)) rfl
      ⟨hstl, htr, hJ, hn1, hB⟩ ?_
    clear hB hJ htr hlen
    rintro ⟨_, st, tr, Mj, n1⟩ H3 ⟨hstl, htr, hJ, hn1, hB⟩
    simp only at hstl htr hJ hn1 hB
    have hlen := congrArg List.length htr
    rw [List.length_append, runTr_len, runTr_len, List.length_cons, List.length_drop, List.length_nil] at hlen
    dsimp only [List.cons_append, List.nil_append]
    repeat' (first | refine zP ?_ | refine zA ?_ | (refine zM ?_; intro _ _) | refine zX ?_ | (refine zC ?_; intro _ _ _ _) | (refine zS ?_; intro _ _) | (apply Ws <;> intro hg))
    refine WR.call (by first | exact gN | exact gS rfl) rfl rfl hB.isEmpty ?_
    rintro _ H4 ⟨rfl, rfl⟩
    cases st with
    | nil =>
      have hl0 : ([] : List Nat).length = 0 := rfl
      repeat' (first | refine zP ?_ | refine zA ?_ | (refine zM ?_; intro _ _) | refine zX ?_ | (refine zC ?_; intro _ _ _ _) | (refine zS ?_; intro _ _) | refine zO ?_ | (apply Ws <;> intro hg))
      refine WR.call (by first | exact gN | exact gS rfl) rfl rfl (hB.bring x (by omega)) ?_
      rintro _ H5 ⟨n5, hn5, hB5⟩
      repeat' (first | refine zP ?_ | refine zA ?_ | (refine zM ?_; intro _ _) | refine zX ?_ | (refine zC ?_; intro _ _ _ _) | (refine zS ?_; intro _ _) | (apply Ws <;> intro hg))
      refine WR.callV (by first | exact gN | exact gS rfl) rfl rfl rfl (hB5.tell hT hJ (by omega) 105 x (.inl rfl)) ?_
      rintro _ H6 ⟨Mj6, n6, hJ6, hn6, hB6⟩
      repeat' (first | refine zP ?_ | refine zA ?_ | (refine zM ?_; intro _ _) | refine zX ?_ | (refine zC ?_; intro _ _ _ _) | (refine zS ?_; intro _ _) | (apply Ws <;> intro hg))
      refine Ends.loop ⟨k + 1, x :: [], tr ++ [(105, x)], Mj6, n6⟩ (by simp only; omega) (by repeat' (first | exact .nil | refine .cons rfl ?_)) rfl ⟨hk', by simp only [List.length_cons] at hstl ⊢; omega, ?_, hJ6, by simp only; omega, hB6⟩
      simp only
      rw [← htr, run_no (fun y h => by simp at h)]; simp
    | cons y st =>
      have hl0 : (y :: st).length = st.length + 1 := rfl
      repeat' (first | refine zP ?_ | refine zA ?_ | (refine zM ?_; intro _ _) | refine zX ?_ | (refine zC ?_; intro _ _ _ _) | (refine zS ?_; intro _ _) | refine zO ?_ | (apply Ws <;> intro hg))
      refine WR.call (by first | exact gN | exact gS rfl) rfl rfl hB.last ?_
      rintro _ H7 ⟨rfl, rfl⟩
      by_cases hyx : y < x
      · repeat' (first | refine zP ?_ | refine zA ?_ | (refine zM ?_; intro _ _) | refine zX ?_ | (refine zC ?_; intro _ _ _ _) | (refine zS ?_; intro _ _) | refine zO ?_ | (apply Ws <;> intro hg))
        refine WR.call (by first | exact gN | exact gS rfl) rfl rfl hB.take ?_
        rintro _ H8 ⟨rfl, hB8⟩
        refine WR.callV (by first | exact gN | exact gS rfl) rfl rfl rfl (hB8.tell hT hJ (by omega) 111 y (.inr rfl)) ?_
        rintro _ H9 ⟨Mj9, n9, hJ9, hn9, hB9⟩
        repeat' (first | refine zP ?_ | refine zA ?_ | (refine zM ?_; intro _ _) | refine zX ?_ | (refine zC ?_; intro _ _ _ _) | (refine zS ?_; intro _ _) | (apply Ws <;> intro hg))
        refine Ends.loop ⟨0, st, tr ++ [(111, y)], Mj9, n9⟩ (by simp only [hl0]; omega) (by repeat' (first | exact .nil | refine .cons rfl ?_)) rfl ⟨by simp only; omega, ?_, hJ9, by simp only; omega, hB9⟩
        simp only
        rw [← htr, run_yes hyx]; simp
      · repeat' (first | refine zP ?_ | refine zA ?_ | (refine zM ?_; intro _ _) | refine zX ?_ | (refine zC ?_; intro _ _ _ _) | (refine zS ?_; intro _ _) | refine zO ?_ | (apply Ws <;> intro hg))
        refine WR.call (by first | exact gN | exact gS rfl) rfl rfl (hB.bring x (by omega)) ?_
        rintro _ H5 ⟨n5, hn5, hB5⟩
        repeat' (first | refine zP ?_ | refine zA ?_ | (refine zM ?_; intro _ _) | refine zX ?_ | (refine zC ?_; intro _ _ _ _) | (refine zS ?_; intro _ _) | (apply Ws <;> intro hg))
        refine WR.callV (by first | exact gN | exact gS rfl) rfl rfl rfl (hB5.tell hT hJ (by omega) 105 x (.inl rfl)) ?_
        rintro _ H6 ⟨Mj6, n6, hJ6, hn6, hB6⟩
        repeat' (first | refine zP ?_ | refine zA ?_ | (refine zM ?_; intro _ _) | refine zX ?_ | (refine zC ?_; intro _ _ _ _) | (refine zS ?_; intro _ _) | (apply Ws <;> intro hg))
        refine Ends.loop ⟨k + 1, x :: (y :: st), tr ++ [(105, x)], Mj6, n6⟩ (by simp only; omega) (by repeat' (first | exact .nil | refine .cons rfl ?_)) rfl ⟨hk', by simp only [List.length_cons] at hstl ⊢; omega, ?_, hJ6, by simp only; omega, hB6⟩
        simp only
        rw [← htr, run_no (fun z h => by simp at h; omega)]; simp
  · have hkn : k = o.length := by omega
    subst hkn
    rw [List.drop_length] at htr
    repeat' (first | refine zP ?_ | refine zA ?_ | (refine zM ?_; intro _ _) | refine zX ?_ | (refine zC ?_; intro _ _ _ _) | (refine zS ?_; intro _ _) | (apply Ws <;> intro hg))
    clear hU hoU hMU
    refine WC.loopX [(1, .func (.func fn) [].toArray caps.toArray), (4, ptrO n0 0)] (fun z : PX => []) []
      (fun z H' => z.tr ++ z.st.map (fun y => (111, y)) = runTr [] o ∧ J z.tr z.Mj ∧ n0 ≤ z.n ∧ BP n0 z.st (z.Mj ++ M) z.n H') (fun z => z.st.length) ⟨0, st, tr, Mj, n1⟩ (by repeat' (first | exact .nil | refine .cons rfl ?_)) rfl
      ⟨htr, hJ, hn1, hB⟩ ?_
    clear hB hJ htr hlen hstl hn1
    rintro ⟨_, st, tr, Mj, n1⟩ H3 ⟨htr, hJ, hn1, hB⟩
    simp only at htr hJ hn1 hB
    have hlen := congrArg List.length htr
    rw [List.length_append, runTr_len, List.length_map, List.length_nil] at hlen
    dsimp only [List.cons_append, List.nil_append]
    repeat' (first | refine zP ?_ | refine zA ?_ | (refine zM ?_; intro _ _) | refine zX ?_ | (refine zC ?_; intro _ _ _ _) | (refine zS ?_; intro _ _) | (apply Ws <;> intro hg))
    refine WR.call (by first | exact gN | exact gS rfl) rfl rfl hB.isEmpty ?_
    rintro _ H4 ⟨rfl, rfl⟩
    cases st with
    | nil =>
      repeat' (first | refine zP ?_ | refine zA ?_ | (refine zM ?_; intro _ _) | refine zX ?_ | (refine zC ?_; intro _ _ _ _) | (refine zS ?_; intro _ _) | refine zO ?_ | (apply Ws <;> intro hg))
      obtain ⟨v, M0, hp, hH⟩ := hB
      rw [List.map_nil, List.append_nil] at htr
      exact Ends.end0 ⟨Mj, n1, htr ▸ hJ, hn1, hH.sub ((List.sublist_append_right M0 _).cons _)⟩
    | cons y st =>
      have hl0 : (y :: st).length = st.length + 1 := rfl
      repeat' (first | refine zP ?_ | refine zA ?_ | (refine zM ?_; intro _ _) | refine zX ?_ | (refine zC ?_; intro _ _ _ _) | (refine zS ?_; intro _ _) | refine zO ?_ | (apply Ws <;> intro hg))
      refine WR.call (by first | exact gN | exact gS rfl) rfl rfl hB.take ?_
      rintro _ H8 ⟨rfl, hB8⟩
      refine WR.callV (by first | exact gN | exact gS rfl) rfl rfl rfl (hB8.tell hT hJ (by omega) 111 y (.inr rfl)) ?_
      rintro _ H9 ⟨Mj9, n9, hJ9, hn9, hB9⟩
      repeat' (first | refine zP ?_ | refine zA ?_ | (refine zM ?_; intro _ _) | refine zX ?_ | (refine zC ?_; intro _ _ _ _) | (refine zS ?_; intro _ _) | (apply Ws <;> intro hg))
      refine Ends.loop ⟨0, st, tr ++ [(111, y)], Mj9, n9⟩ (by simp only [hl0]; omega) (by repeat' (first | exact .nil | refine .cons rfl ?_)) rfl ⟨?_, hJ9, by simp only; omega, hB9⟩
      simp only
      rw [← htr]; simp
end
end Go.Proofs.Ytfnflkcjhefddaa.Lk

/- Whether barges can leave in the ascending order. -/
namespace Go.Proofs.Ytfnflkcjhefddaa.Lk
open Go Go.Abs Go.Mth
set_option linter.unusedVariables false
set_option linter.unusedSimpArgs false
def ascT (o t : List Nat) : Bool := decide ((basK o t (List.range o.length) o.length).2.2 = [])
structure UX where
  k : Nat
  v : Value
  Mx : HL
  n : Nat
attribute [local irreducible] gOK WS WC WR WD Ends FS YS OpV seqK blockK loopK midK retK rdK asgK rangeEnd sat Cell
section
variable {M : HL} {n0 : Nat} {H : Heap} {v w : Value}
end
end Go.Proofs.Ytfnflkcjhefddaa.Lk

/- The order in which barges leave; how many passes. -/
namespace Go.Abs
set_option linter.unusedSectionVars false
open Go
section
variable [Globs] {C : CW} {nt : Nat} {L : Env} {D : List Nat} {H H' : Heap} {K : St → Prop} {M M' : HL} {n i d : Nat} {gd : Option (Tmp × Bool)} {lo : List Nat} {l : List POp} {rs : List Rd}
theorem WD.append {e sz : Nat} {s x : Operand} {v y : Value} {cs : List Value} {Mx M0 : HL} {k : Nat} {new : List Value} (hg : gOK L gd) (hd : Nat.blt d nt = true) (hs : ev L s = some v) (hy : ev L x = some y)
    (hO : Own e sz v cs Mx) (hH : hasH M n H) (hM : M'.Sublist M) (hp : M'.Perm (Mx ++ M0)) (hk : srcLen y = some k) (hx : srcCells H sz k y = some new) (hl : new.length = k * sz) (h1 : 1 ≤ k) (hone : new.all one = true) (hs1 : 1 ≤ sz) (hs2 : sz ≤ 1000)
    (hsm : cs.length + new.length ≤ 100000) (kk : ∀ v' Mx' n' H', OwnR e sz v' (cs ++ new) Mx' → hasH (Mx' ++ M0) n' H' → n ≤ n' → stands H' lo rs = true ∧ WD C nt l rs ((d, v') :: L) D H' K) :
    WD C nt (⟨i, some d, .append e sz s x, gd, lo⟩ :: l) rs L D H K := by
  obtain ⟨v', Mx', n', H', q1, q2, q3, q4⟩ := append_ownR (P := C.c.P) hO ((hH.sub hM).perm hp) hk hx hl h1 hone hs1 hs2 hsm
  obtain ⟨k1, k2⟩ := kk v' Mx' n' H' q2 q3 q4
  refine WD.op hg hd (H' := H') (v := v') (fun t ht => ?_) rfl k1 k2
  simp only [opA, ev_ok ht hs, ev_ok ht hy, q1]
/-- One element more, what was read before may be read after. -/
theorem WD.append1F {j d2 : Nat} {e : Nat} {z : List Value} {s x : Operand} {lo2 : List Nat} {v y : Value} {cs : List Value} {new : Value} (F Mx T : HL) (hd : Nat.blt d nt = true) (hd2 : Nat.blt d2 nt = true)
    (hx : ev L x = some y) (hs : ev ((d, .slice (some ⟨n, 0, some 0⟩) 1 (2 * 1 + 1)) :: L) s = some v) (hO : Own e 1 v cs Mx) (hH : hasH (F ++ (Mx ++ T)) n H)
    (hc : Instr.fill (fun j => some (j * 1, 1)) z.toArray [(0, y)] = some [new].toArray) (hone : one new = true) (hsm : cs.length + 1 ≤ 100000)
    (hst : ∀ H', hasH ((n, .row e 0 0 [new]) :: (F ++ (Mx ++ T))) (n + 1) H' → stands H' lo rs = true)
    (kk : ∀ v' Mx' n' H', OwnR e 1 v' (cs ++ [new]) Mx' → hasH (F ++ (Mx' ++ T)) n' H' → n ≤ n' → stands H' lo2 rs = true ∧ WD C nt l rs ((d2, v') :: (d, .slice (some ⟨n, 0, some 0⟩) 1 (2 * 1 + 1)) :: L) D H' K) :
    WD C nt (⟨i, some d, .bldS e 1 z 1 [(0, x)], none, lo⟩ :: ⟨j, some d2, .append e 1 s (.tmp d), none, lo2⟩ :: l) rs L D H K := by
  refine WD.bldS True.intro hd hH (vs := [(0, y)]) (by simp only [evp, hx]) hc (by simp [hone]) hst fun H1 hH1 => ?_
  have hx2 : srcCells H1 1 1 (.slice (some ⟨n, 0, some 0⟩) 1 (2 * 1 + 1)) = some [new] := by
    have := hH1.readN (b := n) (u := 0) (lo := 0) (o := 0) (k := 1 * 1) (ch := .row e 0 0 [new]) (cs := [new]) (by simp) (.row _ _ _ _) (Nat.le_refl _) (by simp)
    simpa [srcCells] using this
  have hy : ev ((d, .slice (some ⟨n, 0, some 0⟩) 1 (2 * 1 + 1)) :: L) (.tmp d) = some (.slice (some ⟨n, 0, some 0⟩) 1 (2 * 1 + 1)) := by simp [ev, Env.get]
  refine WD.append True.intro hd2 hs hy hO hH1 (M' := F ++ (Mx ++ T)) (List.sublist_cons_self _ _) (M0 := F ++ T) (List.perm_append_comm_assoc F Mx T) rfl hx2 (by simp) (Nat.le_refl _) (by simp [hone]) (Nat.le_refl _) (by omega) (by simpa using hsm) fun v' Mx' n' H' q1 q2 q3 => ?_
  exact kk v' Mx' n' H' q1 (q2.perm (List.perm_append_comm_assoc Mx' F T)) (by omega)

end
end Go.Abs
namespace Go.Proofs.Ytfnflkcjhefddaa.Lk
open Go Go.Abs Go.Mth
set_option linter.unusedVariables false
set_option linter.unusedSimpArgs false
def LeftJ (bl : Nat) (tr : List (Nat × Nat)) (Mj : HL) : Prop := ∃ lv Mo, Own 3 1 lv (nodes (outsT tr)) Mo ∧ Mj = (bl, Ch.row 22 0 0 [lv]) :: Mo
theorem outsT_in (tr : List (Nat × Nat)) (x : Nat) : outsT (tr ++ [(105, x)]) = outsT tr := by rw [outsT_app]; simp [outsT]
theorem outsT_out (tr : List (Nat × Nat)) (x : Nat) : outsT (tr ++ [(111, x)]) = outsT tr ++ [x] := by rw [outsT_app]; rfl
theorem outsT_le (tr : List (Nat × Nat)) : (outsT tr).length ≤ tr.length := by
  unfold outsT; rw [List.length_map]; exact List.length_filter_le _ _
attribute [local irreducible] gOK WS WC WR WD Ends FS YS OpV seqK blockK loopK midK retK rdK asgK rangeEnd sat Cell
section
variable {M : HL} {n0 : Nat} {H : Heap} {v w : Value}
set_option maxHeartbeats 1000000 in
theorem tell_left {bl bx : Nat} (hm : (bx, Ch.row 82 0 0 [ptrO bl 0]) ∈ M) : TellK 100 [ptrO bx 0] (LeftJ bl) M := by
  rintro tr Mj F n H a x ⟨lv, Mo, hO, rfl⟩ hl ha hH
  have hol := outsT_le tr
  refine FS.intro (pf := pf100) rfl rfl rfl ?_
  rcases ha with rfl | rfl
  · repeat' (first | refine zP ?_ | refine zA ?_ | (refine zM ?_; intro _ _) | refine zX ?_ | (refine zC ?_; intro _ _ _ _) | (refine zS ?_; intro _ _) | refine zO ?_ | (apply Ws <;> intro hg))
    exact Ends.end0 ⟨_, n, ⟨lv, Mo, by rw [outsT_in]; exact hO, rfl⟩, Nat.le_refl _, hH⟩
  · repeat' (first | refine zP ?_ | refine zA ?_ | (refine zM ?_; intro _ _) | refine zX ?_ | (refine zC ?_; intro _ _ _ _) | (refine zS ?_; intro _ _) | refine zO ?_ | (apply Ws <;> intro hg))
    have hlv := (hO.sl []).one_
    have hls := (hO.sl []).same
    have mX : (bx, Ch.row 82 0 0 [ptrO bl 0]) ∈ F ++ (((bl, Ch.row 22 0 0 [lv]) :: Mo) ++ M) := List.mem_append_right _ (List.mem_append_right _ hm)
    have mL : (bl, Ch.row 22 0 0 [lv]) ∈ F ++ (((bl, Ch.row 22 0 0 [lv]) :: Mo) ++ M) := List.mem_append_right _ (List.mem_append_left _ (.head _))
    have hsp : same1 (ptrO bl 0) (ptrO bl 0) = true := same_ptr _
    refine WC.regionD ?_
    refine WD.load1 (by first | exact gN | exact gS rfl) rfl rfl (hH.read mX (.row _ _ _ _) (Nat.zero_le _) rfl) ?_
    refine WD.load1 (by first | exact gN | exact gS rfl) rfl rfl (hH.read mX (.row _ _ _ _) (Nat.zero_le _) rfl) ?_
    repeat' (first | refine zD ?_ | (refine zE ?_; intro _ _ _ _))
    have hst : ∀ {Y : HL} {n' : Nat} {H' : Heap}, hasH Y n' H' → (bx, Ch.row 82 0 0 [ptrO bl 0]) ∈ Y → (bl, Ch.row 22 0 0 [lv]) ∈ Y → stands H' [0, 1, 3] [⟨3, ⟨bl, 0, some 0⟩, none, lv⟩, ⟨1, ⟨bx, 0, some 0⟩, none, ptrO bl 0⟩, ⟨0, ⟨bx, 0, some 0⟩, none, ptrO bl 0⟩] = true := fun h h1 h2 =>
      stands_cons (.inr (holds_at (h.read h2 (.row _ _ _ _) (Nat.zero_le _) rfl) hls)) (stands_cons (.inr (holds_at (h.read h1 (.row _ _ _ _) (Nat.zero_le _) rfl) hsp)) (stands_cons (.inr (holds_at (h.read h1 (.row _ _ _ _) (Nat.zero_le _) rfl) hsp)) stands_nil'))
    refine WD.append1F (new := .int .i64 (x : Int)) (F ++ [(bl, Ch.row 22 0 0 [lv])]) Mo M rfl rfl rfl rfl hO (by simpa using hH) rfl rfl (by simp; omega) (fun H' h' => hst h' (by simp [hm]) (by simp)) fun v' Mx' n' H2 hO2 hH2 hn2 => ⟨?_, ?_⟩
    · exact stands_cons (.inl rfl) (stands_cons (.inl rfl) (stands_cons (.inr (holds_at (hH2.read (b := bx) (ch := .row 82 0 0 [ptrO bl 0]) (by simp [hm]) (.row _ _ _ _) (Nat.zero_le _) rfl) hsp)) stands_nil'))
    refine WD.toWR rfl ?_
    repeat' (first | refine zP ?_ | refine zA ?_ | (refine zM ?_; intro _ _) | refine zX ?_ | (refine zC ?_; intro _ _ _ _) | (refine zS ?_; intro _ _) | (apply Ws <;> intro hg))
    have hH3 : hasH ((bl, .row 22 0 0 [lv]) :: (F ++ (Mx' ++ M))) n' H2 := hH2.perm (by classical exact List.perm_iff_count.2 (fun a => by simp only [defds, List.map_cons, List.map_nil, List.count_append, List.count_cons, List.count_nil, List.cons_append, List.nil_append, List.append_nil]; omega))
    refine WR.storeBox (by first | exact gN | exact gS rfl) hH3 rfl rfl (hO2.own.sl []).one_ .here fun H4 hH4 => ?_
    repeat' (first | refine zP ?_ | refine zA ?_ | (refine zM ?_; intro _ _) | refine zX ?_ | (refine zC ?_; intro _ _ _ _) | (refine zS ?_; intro _ _) | (apply Ws <;> intro hg))
    refine Ends.end0 ⟨(bl, Ch.row 22 0 0 [v']) :: Mx', n', ⟨v', Mx', ?_, rfl⟩, hn2, hH4.perm (by classical exact List.perm_iff_count.2 (fun a => by simp only [defds, List.map_cons, List.map_nil, List.count_append, List.count_cons, List.count_nil, List.cons_append, List.nil_append, List.append_nil]; omega))⟩
    rw [outsT_out, nodes_snoc]; exact hO2.own
theorem leavers_fs (hH : hasH M n0 H) (b : Nat) :
    FS C 66 [ptrO b 0] H (fun e H' => e = .func (.func 100) [].toArray [ptrO n0 0].toArray ∧ hasH ((n0, .row 82 0 0 [ptrO b 0]) :: M) (n0 + 1) H') := by
  refine FS.intro (pf := pf66) rfl rfl rfl ?_
  repeat' (first | refine zP ?_ | refine zA ?_ | (refine zM ?_; intro _ _) | refine zX ?_ | (refine zC ?_; intro _ _ _ _) | (refine zS ?_; intro _ _) | (apply Ws <;> intro hg))
  rename_i H1 hH1
  exact Ends.ret1 rfl ⟨rfl, hH1⟩
theorem passed_fs (hH : hasH M n0 H) {o : List Nat} (ho : Sl M 1 v (nodes o)) (hol : o.length ≤ 10) :
    FS C 61 [v] H (fun e H' => ∃ Mx n', Own 3 1 e (nodes (passF o)) Mx ∧ n0 ≤ n' ∧ hasH (Mx ++ M) n' H') := by
  have hv := ho.one_
  refine FS.intro (pf := pf61) rfl rfl rfl ?_
  repeat' (first | refine zP ?_ | refine zA ?_ | (refine zM ?_; intro _ _) | refine zX ?_ | (refine zC ?_; intro _ _ _ _) | (refine zS ?_; intro _ _) | (apply Ws <;> intro hg))
  rename_i H1 hH1
  refine WR.call (by first | exact gN | exact gS rfl) rfl rfl (leavers_fs hH1 n0) ?_
  rintro _ H2 ⟨rfl, hH2⟩
  clear hH1
  have hH3 : hasH ([(n0, Ch.row 22 0 0 [.slice none 0 0])] ++ ((n0 + 1, Ch.row 82 0 0 [ptrO n0 0]) :: M)) (n0 + 1 + 1) H2 := hH2.perm (.swap _ _ _)
  clear hH2
  refine WR.call (by first | exact gN | exact gS rfl) rfl rfl (pass_fs (tell_left (bl := n0) (bx := n0 + 1) (.head _)) ⟨.slice none 0 0, [], .nil, rfl⟩ ho.cons hol hH3) ?_
  rintro _ H4 ⟨_, n4, ⟨lv, Mo, hO, rfl⟩, hn4, hH4⟩
  rw [outs_run] at hO
  replace hH4 : hasH ((n0, Ch.row 22 0 0 [lv]) :: (Mo ++ ((n0 + 1, Ch.row 82 0 0 [ptrO n0 0]) :: M))) n4 H4 := hH4
  repeat' (first | refine zP ?_ | refine zA ?_ | (refine zM ?_; intro _ _) | refine zX ?_ | (refine zC ?_; intro _ _ _ _) | (refine zS ?_; intro _ _) | (apply Ws <;> intro hg))
  exact Ends.ret1 rfl ⟨Mo, n4, hO, by omega, (hH4.tail).sub (List.Sublist.append_left (List.sublist_cons_self _ _) _)⟩
theorem Pass_fs (hH : hasH M n0 H) {o : List Nat} (ho : Sl M 1 v (nodes o)) (hO : OrdN o) :
    FS C 16 [v] H (fun e H' => ∃ u Mx n', e = .tuple #[u, .int .i64 0] ∧ Own 3 1 u (nodes (passF o)) Mx ∧ n0 ≤ n' ∧ hasH (Mx ++ M) n' H') := by
  have hv := ho.one_
  have h7 := hO.most
  refine FS.intro (pf := pf16) rfl rfl rfl ?_
  repeat' (first | refine zP ?_ | refine zA ?_ | (refine zM ?_; intro _ _) | refine zX ?_ | (refine zC ?_; intro _ _ _ _) | (refine zS ?_; intro _ _) | (apply Ws <;> intro hg))
  refine WR.call (by first | exact gN | exact gS rfl) rfl rfl (CheckN_fs hH ho hO) ?_
  rintro _ H1 ⟨rfl, rfl⟩
  repeat' (first | refine zP ?_ | refine zA ?_ | (refine zM ?_; intro _ _) | refine zX ?_ | (refine zC ?_; intro _ _ _ _) | (refine zS ?_; intro _ _) | refine zO ?_ | (apply Ws <;> intro hg))
  refine WR.call (by first | exact gN | exact gS rfl) rfl rfl (passed_fs hH ho (by omega)) ?_
  rintro u H2 ⟨Mx, n2, hOw, hn2, hH2⟩
  repeat' (first | refine zP ?_ | refine zA ?_ | (refine zM ?_; intro _ _) | refine zX ?_ | (refine zC ?_; intro _ _ _ _) | (refine zS ?_; intro _ _) | refine zO ?_ | (apply Ws <;> intro hg))
  exact Ends.ret2 rfl rfl ⟨u, Mx, n2, rfl, hOw, hn2, hH2⟩
end
end Go.Proofs.Ytfnflkcjhefddaa.Lk
