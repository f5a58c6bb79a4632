/- Texts of the law, joined. -/
import Derived.Test.YteopjpfhhekkoaaJ1
import Derived.Test.YteopjpfhhekkoaaTtP
import Derived.Test.YteopjpfhhekkoaaSymK
import Derived.Test.YteopjpfhhekkoaaSymG
/- Functions of the library. -/
namespace Go.Abs
set_option linter.unusedSectionVars false
variable [Globs]
open Go Go.Mth
section
variable {C : CW} {nt : Nat} {L : Env} {D : List Nat} {H : Heap} {K : St → Prop} {M M' : HL} {n i d : Nat} {gd : Option (Tmp × Bool)} {lo' : List Nat} {l : List POp}
theorem WR.cutHiN {x hi : Operand} {v : Value} {xs : List Nat} {m : Nat} {kd : IntKind} (hg : gOK L gd) (hd : Nat.blt d nt = true) (hx : ev L x = some v) (hS : Sl M 1 v (nodes xs)) (hh : ev L hi = some (.int kd (m : Int))) (hm : m ≤ xs.length)
    (k : ∀ v', Sl M 1 v' (nodes (xs.take m)) → WR C nt l ((d, v') :: L) D H K) : WR C nt (⟨i, some d, .slS x 1 none (some hi) none, gd, lo'⟩ :: l) L D H K := by
  refine WR.slS (vl := none) (vh := some (.int kd (m : Int))) (a := 0) (b := m) hg hd hx hS rfl (by simp [bnd, hh]) rfl (fun _ _ => rfl) (Nat.zero_le _) (by simpa using hm) (Nat.le_refl _) fun v' h => k v' ?_
  simpa [List.map_take] using h
theorem WR.cutLoV {x lo : Operand} {v : Value} {xs : List Value} {a : Nat} {ka : IntKind} (hg : gOK L gd) (hd : Nat.blt d nt = true) (hx : ev L x = some v) (hS : Sl M 1 v xs) (h1 : ev L lo = some (.int ka (a : Int))) (hab : a ≤ xs.length)
    (k : ∀ v', Sl M 1 v' (xs.drop a) → WR C nt l ((d, v') :: L) D H K) : WR C nt (⟨i, some d, .slS x 1 (some lo) none none, gd, lo'⟩ :: l) L D H K := by
  refine WR.slS (vl := some (.int ka (a : Int))) (vh := none) (a := a) (b := xs.length) hg hd hx hS (by simp [bnd, h1]) rfl rfl (fun len h => by simp [hiOf]; simpa using h) hab (by simp) (Nat.le_refl _) fun v' h => k v' ?_
  have e : (xs.drop (a * 1)).take ((xs.length - a) * 1) = xs.drop a := by
    rw [Nat.mul_one, Nat.mul_one, List.take_of_length_le (by simp)]
  rwa [e] at h
theorem WR.cutLoN {x lo : Operand} {v : Value} {xs : List Nat} {a : Nat} {ka : IntKind} (hg : gOK L gd) (hd : Nat.blt d nt = true) (hx : ev L x = some v) (hS : Sl M 1 v (nodes xs)) (h1 : ev L lo = some (.int ka (a : Int))) (hab : a ≤ xs.length)
    (k : ∀ v', Sl M 1 v' (nodes (xs.drop a)) → WR C nt l ((d, v') :: L) D H K) : WR C nt (⟨i, some d, .slS x 1 (some lo) none none, gd, lo'⟩ :: l) L D H K :=
  WR.cutLoV hg hd hx hS h1 (by simpa using hab) fun v' h => k v' (by simpa [nodes, List.map_drop] using h)
end
end Go.Abs
namespace Go.Proofs.Yteopjpfhhekkoaa.Tt
open Go Go.Abs Go.Mth
set_option linter.unusedVariables false
set_option linter.unusedSimpArgs false
theorem nodes_IL (l : List Nat) : nodes l = ints (IL l) := by simp [nodes, ints, IL]
attribute [local irreducible] gOK WS WC WR WD Ends FS YS OpV seqK blockK loopK midK retK rdK asgK rangeEnd sat Cell
section
variable {M : HL} {n0 : Nat} {H : Heap} {v w : Value}
theorem Index_fs (hH : hasH M n0 H) {xs : List Nat} (hS : Sl M 1 v (nodes xs)) (hx : xs.length ≤ 100000) (a : Nat) :
    FS C 91 [v, .int .i64 (a : Int)] H (fun e H' => H' = H ∧ ((∃ k, k < xs.length ∧ xs.getD k 0 = a ∧ (∀ j, j < k → xs.getD j 0 ≠ a) ∧ e = .int .i64 (k : Int)) ∨ (a ∉ xs ∧ e = .int .i64 (-1)))) := by
  refine FS.intro (pf := pf91) rfl rfl rfl ?_
  repeat' (first | refine zP ?_ | refine zA ?_ | (refine zM ?_; intro _ _) | refine zX ?_ | (refine zC ?_; intro _ _ _ _) | (refine zS ?_; intro _ _) | (apply Ws <;> intro hg))
  refine WC.loopX [(0, _), (1, _), (6, _), (7, _)] (fun k : Nat => [(8, .int .i64 (k : Int))]) [] (fun k H' => H' = H ∧ k ≤ xs.length ∧ ∀ j, j < k → xs.getD j 0 ≠ a) (fun k => xs.length - k) 0 (by repeat' (first | exact .nil | refine .cons rfl ?_)) rfl ⟨rfl, Nat.zero_le _, fun j h => absurd h (Nat.not_lt_zero _)⟩ ?_
  rintro k H' ⟨rfl, hk, hno⟩
  dsimp only [List.cons_append, List.nil_append]
  repeat' (first | refine zP ?_ | refine zA ?_ | (refine zM ?_; intro _ _) | refine zX ?_ | (refine zC ?_; intro _ _ _ _) | (refine zS ?_; intro _ _) | (apply Ws <;> intro hg))
  refine WC.condP rfl (fun hlt => ?_) (fun hlt => ?_)
  · have hk' : k < xs.length := by omega
    repeat' (first | refine zP ?_ | refine zA ?_ | (refine zM ?_; intro _ _) | refine zX ?_ | (refine zC ?_; intro _ _ _ _) | (refine zS ?_; intro _ _) | (apply Ws <;> intro hg))
    refine WC.condP rfl (fun h => ?_) (fun h => ?_)
    · repeat' (first | refine zP ?_ | refine zA ?_ | (refine zM ?_; intro _ _) | refine zX ?_ | (refine zC ?_; intro _ _ _ _) | (refine zS ?_; intro _ _) | (apply Ws <;> intro hg))
      exact Ends.ret1 rfl ⟨rfl, .inl ⟨k, hk', by omega, hno, rfl⟩⟩
    · repeat' (first | refine zP ?_ | refine zA ?_ | (refine zM ?_; intro _ _) | refine zX ?_ | (refine zC ?_; intro _ _ _ _) | (refine zS ?_; intro _ _) | (apply Ws <;> intro hg))
      refine Ends.loop (k + 1) (by omega) (by repeat' (first | exact .nil | refine .cons rfl ?_)) rfl ⟨rfl, hk', fun j hj => ?_⟩
      rcases Nat.lt_or_ge j k with h2 | h2
      · exact hno j h2
      · have : j = k := by omega
        subst this
        omega
  · repeat' (first | refine zP ?_ | refine zA ?_ | (refine zM ?_; intro _ _) | refine zX ?_ | (refine zC ?_; intro _ _ _ _) | (refine zS ?_; intro _ _) | (apply Ws <;> intro hg))
    refine Ends.ret1 rfl ⟨rfl, .inr ⟨fun hm => ?_, rfl⟩⟩
    obtain ⟨j, hj, he⟩ := List.mem_iff_getElem.1 hm
    exact hno j (by omega) (by rw [getD_eq hj]; exact he)
theorem Contains_fs (hH : hasH M n0 H) {xs : List Nat} (hS : Sl M 1 v (nodes xs)) (hx : xs.length ≤ 100000) (a : Nat) :
    FS C 52 [v, .int .i64 (a : Int)] H (fun e H' => H' = H ∧ e = .bool (decide (a ∈ xs))) := by
  refine FS.intro (pf := pf52) rfl rfl rfl ?_
  repeat' (first | refine zP ?_ | refine zA ?_ | (refine zM ?_; intro _ _) | refine zX ?_ | (refine zC ?_; intro _ _ _ _) | (refine zS ?_; intro _ _) | (apply Ws <;> intro hg))
  refine WR.call (by first | exact gN | exact gS rfl) rfl rfl (Index_fs hH hS hx a) ?_
  rintro _ _ ⟨rfl, ⟨k, hk, he, _, rfl⟩ | ⟨hn, rfl⟩⟩
  · repeat' (first | refine zP ?_ | refine zA ?_ | (refine zM ?_; intro _ _) | refine zX ?_ | (refine zC ?_; intro _ _ _ _) | (refine zS ?_; intro _ _) | (apply Ws <;> intro hg))
    refine Ends.ret1 rfl ⟨rfl, ?_⟩
    have hm : a ∈ xs := by rw [← he]; exact getD_mem hk
    rw [decide_eq_true hm, decide_eq_true (by omega)]
  · repeat' (first | refine zP ?_ | refine zA ?_ | (refine zM ?_; intro _ _) | refine zX ?_ | (refine zC ?_; intro _ _ _ _) | (refine zS ?_; intro _ _) | (apply Ws <;> intro hg))
    refine Ends.ret1 rfl ⟨rfl, ?_⟩
    rw [decide_eq_false hn, decide_eq_false (by omega)]
theorem isNaN_fs (a : Int) (H : Heap) : FS C 101 [.int .i64 a] H (fun e H' => e = .bool false ∧ H' = H) := by
  refine FS.intro (pf := pf101) rfl rfl rfl ?_
  repeat' (first | refine zP ?_ | refine zA ?_ | (refine zM ?_; intro _ _) | refine zX ?_ | (refine zC ?_; intro _ _ _ _) | (refine zS ?_; intro _ _) | (apply Ws <;> intro hg))
  exact Ends.ret1 rfl ⟨by rw [decide_eq_false (by simp)], rfl⟩
theorem cmpI_fs (a b : Int) (H : Heap) : FS C 90 [.int .i64 a, .int .i64 b] H (fun e H' => e = .int .i64 (cmpI a b) ∧ H' = H) := by
  refine FS.intro (pf := pf90) rfl rfl rfl ?_
  repeat' (first | refine zP ?_ | refine zA ?_ | (refine zM ?_; intro _ _) | refine zX ?_ | (refine zC ?_; intro _ _ _ _) | (refine zS ?_; intro _ _) | (apply Ws <;> intro hg))
  refine WR.call (by first | exact gN | exact gS rfl) rfl rfl (isNaN_fs _ _) ?_
  rintro _ _ ⟨rfl, rfl⟩
  repeat' (first | refine zP ?_ | refine zA ?_ | (refine zM ?_; intro _ _) | refine zX ?_ | (refine zC ?_; intro _ _ _ _) | (refine zS ?_; intro _ _) | (apply Ws <;> intro hg))
  refine WR.call (by first | exact gN | exact gS rfl) rfl rfl (isNaN_fs _ _) ?_
  rintro _ _ ⟨rfl, rfl⟩
  repeat' (first | refine zP ?_ | refine zA ?_ | (refine zM ?_; intro _ _) | refine zX ?_ | (refine zC ?_; intro _ _ _ _) | (refine zS ?_; intro _ _) | (apply Ws <;> intro hg))
  refine WC.condP rfl (fun h1 => ?_) (fun h1 => ?_)
  · repeat' (first | refine zP ?_ | refine zA ?_ | (refine zM ?_; intro _ _) | refine zX ?_ | (refine zC ?_; intro _ _ _ _) | (refine zS ?_; intro _ _) | (apply Ws <;> intro hg))
    exact Ends.ret1 rfl ⟨by rw [cmpI, if_pos h1], rfl⟩
  · repeat' (first | refine zP ?_ | refine zA ?_ | (refine zM ?_; intro _ _) | refine zX ?_ | (refine zC ?_; intro _ _ _ _) | (refine zS ?_; intro _ _) | (apply Ws <;> intro hg))
    refine WC.condP rfl (fun h2 => ?_) (fun h2 => ?_)
    · repeat' (first | refine zP ?_ | refine zA ?_ | (refine zM ?_; intro _ _) | refine zX ?_ | (refine zC ?_; intro _ _ _ _) | (refine zS ?_; intro _ _) | (apply Ws <;> intro hg))
      exact Ends.ret1 rfl ⟨by rw [cmpI, if_neg h1, if_pos h2], rfl⟩
    · repeat' (first | refine zP ?_ | refine zA ?_ | (refine zM ?_; intro _ _) | refine zX ?_ | (refine zC ?_; intro _ _ _ _) | (refine zS ?_; intro _ _) | (apply Ws <;> intro hg))
      exact Ends.ret1 rfl ⟨by rw [cmpI, if_neg h1, if_neg h2], rfl⟩
theorem Compare_fs (hH : hasH M n0 H) {xs ys : List Int} (hS : Sl M 1 v (ints xs)) (hU : Sl M 1 w (ints ys)) (hx : xs.length ≤ 1000) (hy : ys.length ≤ 1000) :
    FS C 49 [v, w] H (fun e H' => e = .int .i64 (lexC xs ys) ∧ H' = H) := by
  refine FS.intro (pf := pf49) rfl rfl rfl ?_
  repeat' (first | refine zP ?_ | refine zA ?_ | (refine zM ?_; intro _ _) | refine zX ?_ | (refine zC ?_; intro _ _ _ _) | (refine zS ?_; intro _ _) | (apply Ws <;> intro hg))
  refine WC.loopX [(0, _), (1, _), (9, _), (10, _)] (fun k : Nat => [(11, .int .i64 (k : Int))]) [] (fun k H' => H' = H ∧ k ≤ xs.length ∧ k ≤ ys.length ∧ lexC xs ys = lexC (xs.drop k) (ys.drop k)) (fun k => xs.length - k) 0 (by repeat' (first | exact .nil | refine .cons rfl ?_)) rfl ⟨rfl, Nat.zero_le _, Nat.zero_le _, rfl⟩ ?_
  rintro k _ ⟨rfl, hk, hk2, hL⟩
  dsimp only [List.cons_append, List.nil_append]
  repeat' (first | refine zP ?_ | refine zA ?_ | (refine zM ?_; intro _ _) | refine zX ?_ | (refine zC ?_; intro _ _ _ _) | (refine zS ?_; intro _ _) | (apply Ws <;> intro hg))
  refine WC.condP rfl (fun hlt => ?_) (fun hlt => ?_)
  · have hk' : k < xs.length := by omega
    rw [List.drop_eq_getElem_cons hk'] at hL
    repeat' (first | refine zP ?_ | refine zA ?_ | (refine zM ?_; intro _ _) | refine zX ?_ | (refine zC ?_; intro _ _ _ _) | (refine zS ?_; intro _ _) | (apply Ws <;> intro hg))
    refine WC.condP rfl (fun hge => ?_) (fun hge => ?_)
    · have hke : k = ys.length := by omega
      repeat' (first | refine zP ?_ | refine zA ?_ | (refine zM ?_; intro _ _) | refine zX ?_ | (refine zC ?_; intro _ _ _ _) | (refine zS ?_; intro _ _) | (apply Ws <;> intro hg))
      refine Ends.ret1 rfl ⟨?_, rfl⟩
      rw [hL, show ys.drop k = [] from List.drop_eq_nil_of_le (by omega)]; rfl
    · have hk3 : k < ys.length := by omega
      rw [List.drop_eq_getElem_cons hk3, lexC, ← getD_eq (a := 0) hk', ← getD_eq (a := 0) hk3] at hL
      repeat' (first | refine zP ?_ | refine zA ?_ | (refine zM ?_; intro _ _) | refine zX ?_ | (refine zC ?_; intro _ _ _ _) | (refine zS ?_; intro _ _) | (apply Ws <;> intro hg))
      refine WR.call (by first | exact gN | exact gS rfl) rfl rfl (cmpI_fs _ _ _) ?_
      rintro _ _ ⟨rfl, rfl⟩
      repeat' (first | refine zP ?_ | refine zA ?_ | (refine zM ?_; intro _ _) | refine zX ?_ | (refine zC ?_; intro _ _ _ _) | (refine zS ?_; intro _ _) | (apply Ws <;> intro hg))
      refine WC.condP rfl (fun hne => ?_) (fun hne => ?_)
      · repeat' (first | refine zP ?_ | refine zA ?_ | (refine zM ?_; intro _ _) | refine zX ?_ | (refine zC ?_; intro _ _ _ _) | (refine zS ?_; intro _ _) | (apply Ws <;> intro hg))
        exact Ends.ret1 rfl ⟨by rw [hL, if_pos hne], rfl⟩
      · repeat' (first | refine zP ?_ | refine zA ?_ | (refine zM ?_; intro _ _) | refine zX ?_ | (refine zC ?_; intro _ _ _ _) | (refine zS ?_; intro _ _) | (apply Ws <;> intro hg))
        exact Ends.loop (k + 1) (by omega) (by repeat' (first | exact .nil | refine .cons rfl ?_)) rfl ⟨rfl, by omega, by omega, by rw [hL, if_neg hne]⟩
  · have hkl : k = xs.length := by omega
    rw [show xs.drop k = [] from List.drop_eq_nil_of_le (by omega)] at hL
    repeat' (first | refine zP ?_ | refine zA ?_ | (refine zM ?_; intro _ _) | refine zX ?_ | (refine zC ?_; intro _ _ _ _) | (refine zS ?_; intro _ _) | (apply Ws <;> intro hg))
    refine WC.condP rfl (fun h3 => ?_) (fun h3 => ?_)
    · rw [List.drop_eq_getElem_cons (show k < ys.length by omega)] at hL
      repeat' (first | refine zP ?_ | refine zA ?_ | (refine zM ?_; intro _ _) | refine zX ?_ | (refine zC ?_; intro _ _ _ _) | (refine zS ?_; intro _ _) | (apply Ws <;> intro hg))
      exact Ends.ret1 rfl ⟨by rw [hL]; rfl, rfl⟩
    · rw [show ys.drop k = [] from List.drop_eq_nil_of_le (by omega)] at hL
      repeat' (first | refine zP ?_ | refine zA ?_ | (refine zM ?_; intro _ _) | refine zX ?_ | (refine zC ?_; intro _ _ _ _) | (refine zS ?_; intro _ _) | (apply Ws <;> intro hg))
      exact Ends.ret1 rfl ⟨by rw [hL]; rfl, rfl⟩

theorem CompareN_fs (hH : hasH M n0 H) {xs ys : List Nat} (hS : Sl M 1 v (nodes xs)) (hU : Sl M 1 w (nodes ys)) (hx : xs.length ≤ 1000) (hy : ys.length ≤ 1000) :
    FS C 49 [v, w] H (fun e H' => e = .int .i64 (lexC (IL xs) (IL ys)) ∧ H' = H) :=
  Compare_fs hH (by rw [← nodes_IL]; exact hS) (by rw [← nodes_IL]; exact hU) (by rw [IL_len]; exact hx) (by rw [IL_len]; exact hy)
theorem Min_fs (hH : hasH M n0 H) {xs : List Nat} (hS : Sl M 1 v (nodes xs)) (hx : xs.length ≤ 1000) (h0 : 1 ≤ xs.length) :
    FS C 96 [v] H (fun e H' => H' = H ∧ ∃ m : Nat, e = .int .i64 (m : Int) ∧ (m = xs.getD 0 0 ↔ ∀ j, j < xs.length → xs.getD 0 0 ≤ xs.getD j 0)) := by
  refine FS.intro (pf := pf96) rfl rfl rfl ?_
  repeat' (first | refine zP ?_ | refine zA ?_ | (refine zM ?_; intro _ _) | refine zX ?_ | (refine zC ?_; intro _ _ _ _) | (refine zS ?_; intro _ _) | refine zO ?_ | (apply Ws <;> intro hg))
  refine WC.loopX [(0, v)] (fun s : Nat × Nat => [(3, .int .i64 (s.2 : Int)), (4, .int .i64 (s.1 : Int))]) [] (fun s H' => H' = H ∧ 1 ≤ s.1 ∧ s.1 ≤ xs.length ∧ (∃ i, i < s.1 ∧ s.2 = xs.getD i 0) ∧ ∀ j, j < s.1 → s.2 ≤ xs.getD j 0) (fun s => xs.length - s.1) (1, xs.getD 0 0) (by repeat' (first | exact .nil | refine .cons rfl ?_)) rfl
    ⟨rfl, Nat.le_refl _, h0, ⟨0, by simp, rfl⟩, fun j hj => by rw [show j = 0 by simp only at hj; omega]; exact Nat.le_refl _⟩ ?_
  rintro ⟨k, m⟩ H' ⟨rfl, hk1, hk, ⟨i, hi, hm⟩, hall⟩
  simp only at hk1 hk hi hm hall
  dsimp only [List.cons_append, List.nil_append]
  repeat' (first | refine zP ?_ | refine zA ?_ | (refine zM ?_; intro _ _) | refine zX ?_ | (refine zC ?_; intro _ _ _ _) | (refine zS ?_; intro _ _) | (apply Ws <;> intro hg))
  refine WC.condP rfl (fun hlt => ?_) (fun hlt => ?_)
  · have hk' : k < xs.length := by omega
    repeat' (first | refine zP ?_ | refine zA ?_ | (refine zM ?_; intro _ _) | refine zX ?_ | (refine zC ?_; intro _ _ _ _) | (refine zS ?_; intro _ _) | (apply Ws <;> intro hg))
    rw [show Min.min (m : Int) ((xs.getD k 0 : Nat) : Int) = ((Min.min m (xs.getD k 0) : Nat) : Int) by omega]
    refine Ends.loop (k + 1, Min.min m (xs.getD k 0)) (by simp only; omega) (by repeat' (first | exact .nil | refine .cons rfl ?_)) rfl ⟨rfl, by simp only; omega, hk', ?_, fun j hj => ?_⟩
    · rcases Nat.le_total m (xs.getD k 0) with h | h
      · exact ⟨i, by simp only; omega, by simp only; omega⟩
      · exact ⟨k, by simp only; omega, by simp only; omega⟩
    · simp only at hj ⊢
      rcases Nat.lt_or_ge j k with h | h
      · have := hall j h; omega
      · rw [show j = k by omega]; omega
  · have hkn : k = xs.length := by omega
    subst hkn
    repeat' (first | refine zP ?_ | refine zA ?_ | (refine zM ?_; intro _ _) | refine zX ?_ | (refine zC ?_; intro _ _ _ _) | (refine zS ?_; intro _ _) | (apply Ws <;> intro hg))
    refine Ends.ret1 rfl ⟨rfl, m, rfl, fun h j hj => ?_, fun h => ?_⟩
    · rw [← h]; exact hall j hj
    · have q1 := hall 0 (by omega)
      have q2 := h i hi
      omega
end
end Go.Proofs.Yteopjpfhhekkoaa.Tt

/- Costs, what they show, rings. -/
namespace Go.Proofs.Yteopjpfhhekkoaa.Tt
open Go Go.Abs Go.Mth
set_option linter.unusedVariables false
set_option linter.unusedSimpArgs false
structure SqP (P : List (List Int)) : Prop where
  len : P.length ≤ 6
  row : ∀ i, i < P.length → (P.getD i []).length = P.length
  bd : ∀ i j, 0 ≤ (P.getD i []).getD j 0 ∧ (P.getD i []).getD j 0 ≤ 243
def DP (P : List (List Int)) (a b : Nat) : Int := (P.getD a []).getD a 0 - (P.getD a []).getD b 0
theorem SqP.dp {P : List (List Int)} (h : SqP P) (a b : Nat) : -243 ≤ DP P a b ∧ DP P a b ≤ 243 := by
  have q1 := h.bd a a
  have q2 := h.bd a b
  unfold DP; omega
def withB (lo hi : Int) (xs : List Int) : Bool := xs.all fun x => decide (lo ≤ x) && decide (x ≤ hi)
attribute [local irreducible] gOK WS WC WR WD Ends FS YS OpV seqK blockK loopK midK retK rdK asgK rangeEnd sat Cell
section
variable {M : HL} {n0 : Nat} {H : Heap} {v w : Value}
theorem within_fs (hH : hasH M n0 H) {xs : List Int} (hS : Sl M 1 v (ints xs)) (hx : xs.length ≤ 100000) (lo hi : Int) :
    FS C 71 [v, .int .i64 lo, .int .i64 hi] H (fun e H' => H' = H ∧ e = .bool (withB lo hi xs)) := by
  refine FS.intro (pf := pf71) rfl rfl rfl ?_
  repeat' (first | refine zP ?_ | refine zA ?_ | (refine zM ?_; intro _ _) | refine zX ?_ | (refine zC ?_; intro _ _ _ _) | (refine zS ?_; intro _ _) | (apply Ws <;> intro hg))
  refine WC.loopX [(1, _), (2, _), (9, _), (10, _)] (fun k : Nat => [(11, .int .i64 (k : Int))]) [] (fun k H' => H' = H ∧ k ≤ xs.length ∧ ∀ j, j < k → lo ≤ xs.getD j 0 ∧ xs.getD j 0 ≤ hi) (fun k => xs.length - k) 0 (by repeat' (first | exact .nil | refine .cons rfl ?_)) rfl ⟨rfl, Nat.zero_le _, fun j h => absurd h (Nat.not_lt_zero _)⟩ ?_
  rintro k H' ⟨rfl, hk, hno⟩
  dsimp only [List.cons_append, List.nil_append]
  repeat' (first | refine zP ?_ | refine zA ?_ | (refine zM ?_; intro _ _) | refine zX ?_ | (refine zC ?_; intro _ _ _ _) | (refine zS ?_; intro _ _) | (apply Ws <;> intro hg))
  refine WC.condP rfl (fun hlt => ?_) (fun hlt => ?_)
  · have hk' : k < xs.length := by omega
    have hbad : ¬ (lo ≤ xs.getD k 0 ∧ xs.getD k 0 ≤ hi) → withB lo hi xs = false := fun hn => by
      cases hb : withB lo hi xs with
      | false => rfl
      | true =>
        have := List.all_eq_true.1 hb _ (getD_mem (a := 0) hk')
        rw [Bool.and_eq_true, decide_eq_true_eq, decide_eq_true_eq] at this
        exact absurd this hn
    repeat' (first | refine zP ?_ | refine zA ?_ | (refine zM ?_; intro _ _) | refine zX ?_ | (refine zC ?_; intro _ _ _ _) | (refine zS ?_; intro _ _) | (apply Ws <;> intro hg))
    · refine Ends.ret1 rfl ⟨rfl, ?_⟩
      rw [hbad (by omega)]
    · refine WC.condP rfl (fun h => ?_) (fun h => ?_)
      · repeat' (first | refine zP ?_ | refine zA ?_ | (refine zM ?_; intro _ _) | refine zX ?_ | (refine zC ?_; intro _ _ _ _) | (refine zS ?_; intro _ _) | (apply Ws <;> intro hg))
        refine Ends.ret1 rfl ⟨rfl, ?_⟩
        rw [hbad (by omega)]
      · repeat' (first | refine zP ?_ | refine zA ?_ | (refine zM ?_; intro _ _) | refine zX ?_ | (refine zC ?_; intro _ _ _ _) | (refine zS ?_; intro _ _) | (apply Ws <;> intro hg))
        refine Ends.loop (k + 1) (by omega) (by repeat' (first | exact .nil | refine .cons rfl ?_)) rfl ⟨rfl, hk', fun j hj => ?_⟩
        by_cases he : j = k
        · subst he; omega
        · exact hno j (by omega)
  · have hkl : k = xs.length := by omega
    subst hkl
    repeat' (first | refine zP ?_ | refine zA ?_ | (refine zM ?_; intro _ _) | refine zX ?_ | (refine zC ?_; intro _ _ _ _) | (refine zS ?_; intro _ _) | (apply Ws <;> intro hg))
    refine Ends.ret1 rfl ⟨rfl, ?_⟩
    have : withB lo hi xs = true := List.all_eq_true.2 fun x hx => by
      obtain ⟨j, hj, he⟩ := List.mem_iff_getElem.1 hx
      have := hno j hj
      rw [getD_eq hj, he] at this
      rw [Bool.and_eq_true, decide_eq_true_eq, decide_eq_true_eq]; exact this
    rw [this]
theorem spares_fs (hH : hasH M n0 H) {P : List (List Int)} (hP : SqP P) (hR : RowsI M v P) {a b : Nat} (ha : a < P.length) (hb : b < P.length) :
    FS C 93 [v, .int .i64 (a : Int), .int .i64 (b : Int)] H (fun e H' => H' = H ∧ e = .int .i64 (DP P a b)) := by
  obtain ⟨ws, hS, hwl, hrow⟩ := hR
  have hra := hrow a ha
  have hla := hP.row a ha
  have hba := hP.bd a a
  have hbb := hP.bd a b
  refine FS.intro (pf := pf93) rfl rfl rfl ?_
  repeat' (first | refine zP ?_ | refine zA ?_ | (refine zM ?_; intro _ _) | refine zX ?_ | (refine zC ?_; intro _ _ _ _) | (refine zS ?_; intro _ _) | (apply Ws <;> intro hg))
  exact Ends.ret1 rfl ⟨rfl, rfl⟩
theorem asGood_fs (hH : hasH M n0 H) {P : List (List Int)} (hP : SqP P) (hR : RowsI M v P) {a b : Nat} (ha : a < P.length) (hb : b < P.length) :
    FS C 67 [v, .int .i64 (a : Int), .int .i64 (b : Int)] H (fun e H' => H' = H ∧ e = .bool (gD (DP P) a b)) := by
  refine FS.intro (pf := pf67) rfl rfl rfl ?_
  repeat' (first | refine zP ?_ | refine zA ?_ | (refine zM ?_; intro _ _) | refine zX ?_ | (refine zC ?_; intro _ _ _ _) | (refine zS ?_; intro _ _) | (apply Ws <;> intro hg))
  refine WR.call (by first | exact gN | exact gS rfl) rfl rfl (spares_fs hH hP hR ha hb) ?_
  rintro _ _ ⟨rfl, rfl⟩
  repeat' (first | refine zP ?_ | refine zA ?_ | (refine zM ?_; intro _ _) | refine zX ?_ | (refine zC ?_; intro _ _ _ _) | (refine zS ?_; intro _ _) | (apply Ws <;> intro hg))
  exact Ends.ret1 rfl ⟨rfl, rfl⟩
theorem better_fs (hH : hasH M n0 H) {P : List (List Int)} (hP : SqP P) (hR : RowsI M v P) {a b : Nat} (ha : a < P.length) (hb : b < P.length) :
    FS C 69 [v, .int .i64 (a : Int), .int .i64 (b : Int)] H (fun e H' => H' = H ∧ e = .bool (decide (0 < DP P a b))) := by
  refine FS.intro (pf := pf69) rfl rfl rfl ?_
  repeat' (first | refine zP ?_ | refine zA ?_ | (refine zM ?_; intro _ _) | refine zX ?_ | (refine zC ?_; intro _ _ _ _) | (refine zS ?_; intro _ _) | (apply Ws <;> intro hg))
  refine WR.call (by first | exact gN | exact gS rfl) rfl rfl (spares_fs hH hP hR ha hb) ?_
  rintro _ _ ⟨rfl, rfl⟩
  repeat' (first | refine zP ?_ | refine zA ?_ | (refine zM ?_; intro _ _) | refine zX ?_ | (refine zC ?_; intro _ _ _ _) | (refine zS ?_; intro _ _) | (apply Ws <;> intro hg))
  exact Ends.ret1 rfl ⟨rfl, rfl⟩
theorem ends_fs (hH : hasH M n0 H) {l : List Nat} (hS : Sl M 1 v (nodes l)) (h0 : 1 ≤ l.length) (hl : l.length ≤ 1000) :
    FS C 74 [v] H (fun e H' => H' = H ∧ e = .tuple #[.int .i64 (l.getD 0 0 : Nat), .int .i64 (l.getD (l.length - 1) 0 : Nat)]) := by
  refine FS.intro (pf := pf74) rfl rfl rfl ?_
  repeat' (first | refine zP ?_ | refine zA ?_ | (refine zM ?_; intro _ _) | refine zX ?_ | (refine zC ?_; intro _ _ _ _) | (refine zS ?_; intro _ _) | (apply Ws <;> intro hg))
  rw [show (l.length : Int) - 1 = ((l.length - 1 : Nat) : Int) by omega]
  repeat' (first | refine zP ?_ | refine zA ?_ | (refine zM ?_; intro _ _) | refine zX ?_ | (refine zC ?_; intro _ _ _ _) | (refine zS ?_; intro _ _) | (apply Ws <;> intro hg))
  exact Ends.ret2 rfl rfl ⟨rfl, rfl⟩
theorem hasBetter_fs (hH : hasH M n0 H) {P : List (List Int)} (hP : SqP P) (hR : RowsI M v P) {l : List Nat} (hS : Sl M 1 w (nodes l)) (h0 : 1 ≤ l.length) (hl : l.length ≤ 1000) (hlt : ∀ x ∈ l, x < P.length) :
    FS C 95 [v, w] H (fun e H' => H' = H ∧ e = .bool (betB (DP P) l)) := by
  refine FS.intro (pf := pf95) rfl rfl rfl ?_
  repeat' (first | refine zP ?_ | refine zA ?_ | (refine zM ?_; intro _ _) | refine zX ?_ | (refine zC ?_; intro _ _ _ _) | (refine zS ?_; intro _ _) | (apply Ws <;> intro hg))
  refine WR.cutLoN (a := 1) (by first | exact gN | exact gS rfl) rfl rfl hS rfl (by omega) fun s hs => ?_
  have hdl : (l.drop 1).length = l.length - 1 := List.length_drop
  repeat' (first | refine zP ?_ | refine zA ?_ | (refine zM ?_; intro _ _) | refine zX ?_ | (refine zC ?_; intro _ _ _ _) | (refine zS ?_; intro _ _) | (apply Ws <;> intro hg))
  refine WC.loopX [(0, _), (1, _), (8, _), (9, _)] (fun k : Nat => [(10, .int .i64 (k : Int))]) [] (fun k H' => H' = H ∧ k + 1 ≤ l.length ∧ ∀ j, j < k → ¬ 0 < DP P (l.getD j 0) (l.getD (j + 1) 0)) (fun k => l.length - k) 0 (by repeat' (first | exact .nil | refine .cons rfl ?_)) rfl ⟨rfl, h0, fun j h => absurd h (Nat.not_lt_zero _)⟩ ?_
  rintro k H' ⟨rfl, hk, hno⟩
  dsimp only [List.cons_append, List.nil_append]
  repeat' (first | refine zP ?_ | refine zA ?_ | (refine zM ?_; intro _ _) | refine zX ?_ | (refine zC ?_; intro _ _ _ _) | (refine zS ?_; intro _ _) | (apply Ws <;> intro hg))
  refine WC.condP rfl (fun hltk => ?_) (fun hltk => ?_)
  · have hk' : k + 1 < l.length := by omega
    have hg1 : (l.drop 1).getD k 0 = l.getD (k + 1) 0 := by rw [getD_drop', Nat.add_comm]
    have hl1 := hlt _ (getD_mem (a := 0) (show k < l.length by omega))
    have hl2 := hlt _ (getD_mem (a := 0) hk')
    repeat' (first | refine zP ?_ | refine zA ?_ | (refine zM ?_; intro _ _) | refine zX ?_ | (refine zC ?_; intro _ _ _ _) | (refine zS ?_; intro _ _) | (apply Ws <;> intro hg))
    rw [hg1]
    refine WR.call (by first | exact gN | exact gS rfl) rfl rfl (better_fs hH hP hR hl1 hl2) ?_
    rintro _ _ ⟨rfl, rfl⟩
    repeat' (first | refine zP ?_ | refine zA ?_ | (refine zM ?_; intro _ _) | refine zX ?_ | (refine zC ?_; intro _ _ _ _) | (refine zS ?_; intro _ _) | (apply Ws <;> intro hg))
    refine WC.condP rfl (fun hb => ?_) (fun hb => ?_)
    · repeat' (first | refine zP ?_ | refine zA ?_ | (refine zM ?_; intro _ _) | refine zX ?_ | (refine zC ?_; intro _ _ _ _) | (refine zS ?_; intro _ _) | (apply Ws <;> intro hg))
      refine Ends.ret1 rfl ⟨rfl, ?_⟩
      rw [betB_iff.2 ⟨k, hk', hb⟩]
    · repeat' (first | refine zP ?_ | refine zA ?_ | (refine zM ?_; intro _ _) | refine zX ?_ | (refine zC ?_; intro _ _ _ _) | (refine zS ?_; intro _ _) | (apply Ws <;> intro hg))
      refine Ends.loop (k + 1) (by omega) (by repeat' (first | exact .nil | refine .cons rfl ?_)) rfl ⟨rfl, hk', fun j hj => ?_⟩
      by_cases he : j = k
      · subst he; exact hb
      · exact hno j (by omega)
  · have hkl : k + 1 = l.length := by omega
    repeat' (first | refine zP ?_ | refine zA ?_ | (refine zM ?_; intro _ _) | refine zX ?_ | (refine zC ?_; intro _ _ _ _) | (refine zS ?_; intro _ _) | (apply Ws <;> intro hg))
    refine Ends.ret1 rfl ⟨rfl, ?_⟩
    have : betB (DP P) l = false := by
      cases hb : betB (DP P) l with
      | false => rfl
      | true =>
        obtain ⟨j, hj, hd⟩ := betB_iff.1 hb
        exact absurd hd (hno j (by omega))
    rw [this]
end
end Go.Proofs.Yteopjpfhhekkoaa.Tt

/- Is a list a ring. -/
namespace Go.Proofs.Yteopjpfhhekkoaa.Tt
open Go Go.Abs Go.Mth
set_option linter.unusedVariables false
set_option linter.unusedSimpArgs false
theorem closB_min {D : Nat → Nat → Int} {l : List Nat} (h : ¬ ∀ j, j < l.length → l.getD 0 0 ≤ l.getD j 0) : closB D l = false := by
  cases hb : closB D l with
  | false => rfl
  | true => exact absurd (fun j hj => (cycB_iff.1 (Bool.and_eq_true_iff.1 hb).1 j hj).1) h
def strK (D : Nat → Nat → Int) (l : List Nat) (k : Nat) : Bool := (List.range k).any fun i => decide (0 < D (l.getD i 0) (nxtE l i))
theorem strK_succ (D : Nat → Nat → Int) (l : List Nat) (k : Nat) : strK D l (k + 1) = (strK D l k || decide (0 < D (l.getD k 0) (nxtE l k))) := by simp [strK, List.range_succ]
theorem closB_bad {D : Nat → Nat → Int} {l : List Nat} {k : Nat} (hk : k < l.length) (h : ¬ 0 ≤ D (l.getD k 0) (nxtE l k)) : closB D l = false := by
  cases hb : closB D l with
  | false => rfl
  | true => exact absurd (cycB_iff.1 (Bool.and_eq_true_iff.1 hb).1 k hk).2 h
theorem closB_all {D : Nat → Nat → Int} {l : List Nat} (hm : ∀ j, j < l.length → l.getD 0 0 ≤ l.getD j 0) (h : ∀ k, k < l.length → 0 ≤ D (l.getD k 0) (nxtE l k)) : closB D l = strK D l l.length := by
  have : cycB D l = true := cycB_iff.2 fun i hi => ⟨hm i hi, h i hi⟩
  unfold closB; rw [this, Bool.true_and]; rfl
theorem nxtE_mem {l : List Nat} {i : Nat} (h : 0 < l.length) : nxtE l i ∈ l := getD_mem (Nat.mod_lt _ h)
attribute [local irreducible] gOK WS WC WR WD Ends FS YS OpV seqK blockK loopK midK retK rdK asgK rangeEnd sat Cell
section
variable {M : HL} {n0 : Nat} {H : Heap} {v w : Value}
set_option maxHeartbeats 1000000 in
theorem isRing_fs (hH : hasH M n0 H) {P : List (List Int)} (hP : SqP P) (hR : RowsI M v P) {l : List Nat} (hS : Sl M 1 w (nodes l)) (hl : l.length ≤ 1000) (hlt : ∀ x ∈ l, x < P.length) :
    FS C 80 [v, w] H (fun e H' => H' = H ∧ e = .bool (closB (DP P) l)) := by
  refine FS.intro (pf := pf80) rfl rfl rfl ?_
  repeat' (first | refine zP ?_ | refine zA ?_ | (refine zM ?_; intro _ _) | refine zX ?_ | (refine zC ?_; intro _ _ _ _) | (refine zS ?_; intro _ _) | (apply Ws <;> intro hg))
  by_cases h0 : l.length = 0
  · refine WC.regionD ?_
    repeat' (first | refine WD.guardF rfl rfl (stands_nil _ _) ?_ | refine WD.guardU rfl rfl (stands_nil _ _) ?_ | refine zD ?_ | (refine zE ?_; intro _ _ _ _))
    rw [show (decide ((l.length : Int) = 0)) = true from decide_eq_true (by omega)]
    repeat' (first | refine WD.guardF rfl rfl (stands_nil _ _) ?_ | refine WD.guardU rfl rfl (stands_nil _ _) ?_ | refine zD ?_ | (refine zE ?_; intro _ _ _ _))
    refine WD.guardF rfl rfl (by exact zSt) ?_
    repeat' (first | refine WD.guardF rfl rfl (stands_nil _ _) ?_ | refine WD.guardU rfl rfl (stands_nil _ _) ?_ | refine zD ?_ | (refine zE ?_; intro _ _ _ _))
    refine WD.nil ?_
    repeat' (first | refine zP ?_ | refine zA ?_ | (refine zM ?_; intro _ _) | refine zX ?_ | (refine zC ?_; intro _ _ _ _) | (refine zS ?_; intro _ _) | (apply Ws <;> intro hg))
    refine Ends.ret1 rfl ⟨rfl, ?_⟩
    rw [List.length_eq_zero_iff.1 h0]; rfl
  · refine WC.regionD ?_
    repeat' (first | refine WD.guardF rfl rfl (stands_nil _ _) ?_ | refine WD.guardU rfl rfl (stands_nil _ _) ?_ | refine zD ?_ | (refine zE ?_; intro _ _ _ _))
    rw [show (decide ((l.length : Int) = 0)) = false from decide_eq_false (by omega)]
    have hnl : (nodes l).length = l.length := by simp
    repeat' (first | refine WD.guardF rfl rfl (stands_nil _ _) ?_ | refine WD.guardU rfl rfl (stands_nil _ _) ?_ | refine zD ?_ | (refine zE ?_; intro _ _ _ _))
    rename_i b0 o0 u0 hc0
    have hn0 : (nodes l).getD 0 undef = .int .i64 (l.getD 0 0 : Nat) := by
      rw [getD_eq (by simp; omega), getD_eq (show 0 < l.length by omega)]; simp
    rw [hn0] at hc0 ⊢
    refine WD.call (by first | exact gN | exact gS rfl) rfl rfl (Min_fs hH hS hl (by omega)) ?_
    rintro _ H2 ⟨rfl, m, rfl, hm⟩
    refine ⟨stands_cons (.inr (holds_at (hc0.read hH) (same_int _ _))) stands_nil', ?_⟩
    refine WD.toWR rfl ?_
    repeat' (first | refine zP ?_ | refine zA ?_ | (refine zM ?_; intro _ _) | refine zX ?_ | (refine zC ?_; intro _ _ _ _) | (refine zS ?_; intro _ _) | (apply Ws <;> intro hg))
    refine WC.condP rfl (fun hne => ?_) (fun hne => ?_)
    · repeat' (first | refine zP ?_ | refine zA ?_ | (refine zM ?_; intro _ _) | refine zX ?_ | (refine zC ?_; intro _ _ _ _) | (refine zS ?_; intro _ _) | (apply Ws <;> intro hg))
      refine Ends.ret1 rfl ⟨rfl, ?_⟩
      rw [closB_min fun h => hne (by rw [hm.2 h])]
    · have hmin := hm.1 (by omega)
      repeat' (first | refine zP ?_ | refine zA ?_ | (refine zM ?_; intro _ _) | refine zX ?_ | (refine zC ?_; intro _ _ _ _) | (refine zS ?_; intro _ _) | (apply Ws <;> intro hg))
      refine WC.loopX [(0, _), (1, _), (20, _), (21, _)] (fun k : Nat => [(5, .bool (strK (DP P) l k)), (22, .int .i64 (k : Int))]) [] (fun k H' => H' = H2 ∧ k ≤ l.length ∧ ∀ j, j < k → 0 ≤ DP P (l.getD j 0) (nxtE l j)) (fun k => l.length - k) 0 (by repeat' (first | exact .nil | refine .cons rfl ?_)) rfl ⟨rfl, Nat.zero_le _, fun j h => absurd h (Nat.not_lt_zero _)⟩ ?_
      rintro k H' ⟨rfl, hk, hno⟩
      dsimp only [List.cons_append, List.nil_append]
      repeat' (first | refine zP ?_ | refine zA ?_ | (refine zM ?_; intro _ _) | refine zX ?_ | (refine zC ?_; intro _ _ _ _) | (refine zS ?_; intro _ _) | (apply Ws <;> intro hg))
      refine WC.condP rfl (fun hltk => ?_) (fun hltk => ?_)
      · have hk' : k < l.length := by omega
        have hl1 := hlt _ (getD_mem (a := 0) hk')
        have hl2 := hlt _ (nxtE_mem (i := k) (by omega))
        have hmod : (k + 1) % l.length < l.length := Nat.mod_lt _ (by omega)
        have hsu := strK_succ (DP P) l k
        repeat' (first | refine zP ?_ | refine zA ?_ | (refine zM ?_; intro _ _) | refine zX ?_ | (refine zC ?_; intro _ _ _ _) | (refine zS ?_; intro _ _) | (apply Ws <;> intro hg))
        rw [show ((k : Int) + 1) % (l.length : Int) = (((k + 1) % l.length : Nat) : Int) by simp]
        repeat' (first | refine zP ?_ | refine zA ?_ | (refine zM ?_; intro _ _) | refine zX ?_ | (refine zC ?_; intro _ _ _ _) | (refine zS ?_; intro _ _) | (apply Ws <;> intro hg))
        rw [show l.getD ((k + 1) % l.length) 0 = nxtE l k from rfl]
        refine WR.call (by first | exact gN | exact gS rfl) rfl rfl (asGood_fs hH hP hR hl1 hl2) ?_
        rintro _ _ ⟨rfl, rfl⟩
        cases hg1 : gD (DP P) (l.getD k 0) (nxtE l k) with
        | false =>
          repeat' (first | refine zP ?_ | refine zA ?_ | (refine zM ?_; intro _ _) | refine zX ?_ | (refine zC ?_; intro _ _ _ _) | (refine zS ?_; intro _ _) | (apply Ws <;> intro hg))
          refine Ends.ret1 rfl ⟨rfl, ?_⟩
          rw [closB_bad hk' fun h => by rw [gD_iff.2 h] at hg1; cases hg1]
        | true =>
          have hno2 : ∀ j, j < k + 1 → 0 ≤ DP P (l.getD j 0) (nxtE l j) := fun j hj => by
            by_cases he : j = k
            · subst he; exact gD_iff.1 hg1
            · exact hno j (by omega)
          cases hst : strK (DP P) l k with
          | true =>
            rw [hst, Bool.true_or] at hsu
            repeat' (first | refine zP ?_ | refine zA ?_ | (refine zM ?_; intro _ _) | refine zX ?_ | (refine zC ?_; intro _ _ _ _) | (refine zS ?_; intro _ _) | (apply Ws <;> intro hg))
            exact Ends.loop (k + 1) (by omega) (by simp only [hsu]; exact (by repeat' (first | exact .nil | refine .cons rfl ?_))) rfl ⟨rfl, hk', hno2⟩
          | false =>
            rw [hst, Bool.false_or] at hsu
            repeat' (first | refine zP ?_ | refine zA ?_ | (refine zM ?_; intro _ _) | refine zX ?_ | (refine zC ?_; intro _ _ _ _) | (refine zS ?_; intro _ _) | (apply Ws <;> intro hg))
            refine WR.call (by first | exact gN | exact gS rfl) rfl rfl (better_fs hH hP hR hl1 hl2) ?_
            rintro _ _ ⟨rfl, rfl⟩
            repeat' (first | refine zP ?_ | refine zA ?_ | (refine zM ?_; intro _ _) | refine zX ?_ | (refine zC ?_; intro _ _ _ _) | (refine zS ?_; intro _ _) | (apply Ws <;> intro hg))
            exact Ends.loop (k + 1) (by omega) (by simp only [hsu]; exact (by repeat' (first | exact .nil | refine .cons rfl ?_))) rfl ⟨rfl, hk', hno2⟩
      · have hkl : k = l.length := by omega
        subst hkl
        repeat' (first | refine zP ?_ | refine zA ?_ | (refine zM ?_; intro _ _) | refine zX ?_ | (refine zC ?_; intro _ _ _ _) | (refine zS ?_; intro _ _) | (apply Ws <;> intro hg))
        refine Ends.ret1 rfl ⟨rfl, ?_⟩
        rw [closB_all hmin hno]
end
end Go.Proofs.Yteopjpfhhekkoaa.Tt

/- Sales: their check, their costs. -/
namespace Go.Proofs.Yteopjpfhhekkoaa.Tt
open Go Go.Abs Go.Mth
set_option linter.unusedVariables false
set_option linter.unusedSimpArgs false
abbrev Sal := List Int × List Int
abbrev noSal : Sal := ([], [])
def pairV (w : Value × Value) : List Value := [w.1, w.2]
theorem pairV_len (w : Value × Value) : (pairV w).length = 2 := rfl
abbrev noVal : Value × Value := (undef, undef)
def SalesI (M : HL) (v : Value) (S : List Sal) : Prop := ∃ ws : List (Value × Value), Sl M 2 v (cellsF pairV ws) ∧ ws.length = S.length ∧
  ∀ i, i < S.length → Sl M 1 (ws.getD i noVal).1 (ints (S.getD i noSal).1) ∧ Sl M 1 (ws.getD i noVal).2 (ints (S.getD i noSal).2)
theorem SalesI.mono {M M' : HL} {v : Value} {S : List Sal} (h : SalesI M v S) (k : ∀ q ∈ M, q ∈ M') : SalesI M' v S := by
  obtain ⟨ws, q1, q2, q3⟩ := h
  exact ⟨ws, q1.mono k, q2, fun i hi => ⟨(q3 i hi).1.mono k, (q3 i hi).2.mono k⟩⟩
theorem SalesI.cons {M : HL} {p : Nat × Ch} {v : Value} {S : List Sal} (h : SalesI M v S) : SalesI (p :: M) v S := h.mono fun q hq => List.mem_cons_of_mem _ hq
theorem SalesI.one_ {M : HL} {v : Value} {S : List Sal} (h : SalesI M v S) : one v = true := by obtain ⟨ws, q1, _⟩ := h; exact q1.one_
theorem one2 {a b : Value} (ha : one a = true) (hb : one b = true) : [a, b].all one = true := by simp [ha, hb]
def saleE (g : Int) (s : Sal) : Int := if (s.1.length : Int) ≠ g ∨ (s.2.length : Int) ≠ g then 5 else if withB 1 9 s.1 && withB 0 9 s.2 then 0 else 1
def errS (g : Int) (S : List Sal) : Int := if g < 1 ∨ 3 < g then 1 else if 6 < S.length then 3 else firstE (fun i => saleE g (S.getD i noSal)) S.length
structure OKS (g : Nat) (S : List Sal) : Prop where
  g1 : 1 ≤ g
  g3 : g ≤ 3
  len : S.length ≤ 6
  lp : ∀ i, i < S.length → (S.getD i noSal).1.length = g
  lt : ∀ i, i < S.length → (S.getD i noSal).2.length = g
  bp : ∀ i, i < S.length → ∀ x ∈ (S.getD i noSal).1, 1 ≤ x ∧ x ≤ 9
  bt : ∀ i, i < S.length → ∀ x ∈ (S.getD i noSal).2, 0 ≤ x ∧ x ≤ 9
theorem withB_iff {lo hi : Int} {xs : List Int} : withB lo hi xs = true ↔ ∀ x ∈ xs, lo ≤ x ∧ x ≤ hi := by
  simp only [withB, List.all_eq_true, Bool.and_eq_true, decide_eq_true_eq]
theorem saleE_zero {g : Int} {s : Sal} : saleE g s = 0 ↔ (s.1.length : Int) = g ∧ (s.2.length : Int) = g ∧ (∀ x ∈ s.1, 1 ≤ x ∧ x ≤ 9) ∧ ∀ x ∈ s.2, 0 ≤ x ∧ x ≤ 9 := by
  unfold saleE
  by_cases h : (s.1.length : Int) ≠ g ∨ (s.2.length : Int) ≠ g
  · rw [if_pos h]
    constructor
    · intro k; exact absurd k (by decide)
    · rintro ⟨k1, k2, _⟩; rcases h with h | h <;> contradiction
  · rw [if_neg h]
    have k1 : (s.1.length : Int) = g := Decidable.not_not.1 fun k => h (.inl k)
    have k2 : (s.2.length : Int) = g := Decidable.not_not.1 fun k => h (.inr k)
    by_cases hb : (withB 1 9 s.1 && withB 0 9 s.2) = true
    · rw [if_pos hb]
      rw [Bool.and_eq_true, withB_iff, withB_iff] at hb
      exact ⟨fun _ => ⟨k1, k2, hb.1, hb.2⟩, fun _ => rfl⟩
    · rw [if_neg hb]
      rw [Bool.and_eq_true, withB_iff, withB_iff] at hb
      exact ⟨fun k => absurd k (by decide), fun k => absurd ⟨k.2.2.1, k.2.2.2⟩ hb⟩
theorem errS_zero {g : Int} {S : List Sal} : errS g S = 0 ↔ ∃ n : Nat, g = n ∧ OKS n S := by
  unfold errS
  by_cases h1 : g < 1 ∨ 3 < g
  · rw [if_pos h1]
    constructor
    · intro k; exact absurd k (by decide)
    · rintro ⟨n, rfl, hn⟩
      have q1 := hn.g1
      have q2 := hn.g3
      omega
  · rw [if_neg h1]
    by_cases h2 : 6 < S.length
    · rw [if_pos h2]
      constructor
      · intro k; exact absurd k (by decide)
      · rintro ⟨n, rfl, hn⟩
        have q1 := hn.len
        omega
    · rw [if_neg h2, firstE_zero]
      constructor
      · intro h
        refine ⟨g.toNat, by omega, by omega, by omega, by omega, fun i hi => ?_, fun i hi => ?_, fun i hi => ?_, fun i hi => ?_⟩
        · have := (saleE_zero.1 (h i hi)).1; omega
        · have := (saleE_zero.1 (h i hi)).2.1; omega
        · exact (saleE_zero.1 (h i hi)).2.2.1
        · exact (saleE_zero.1 (h i hi)).2.2.2
      · rintro ⟨n, rfl, hn⟩ i hi
        exact saleE_zero.2 ⟨by rw [hn.lp i hi], by rw [hn.lt i hi], hn.bp i hi, hn.bt i hi⟩
def dotI (p t : List Int) : Nat → Int
  | 0 => 0
  | k + 1 => dotI p t k + p.getD k 0 * t.getD k 0
theorem dot_bd {p t : List Int} (hp : ∀ x ∈ p, 1 ≤ x ∧ x ≤ 9) (ht : ∀ x ∈ t, 0 ≤ x ∧ x ≤ 9) : ∀ k, k ≤ p.length → k ≤ t.length → 0 ≤ dotI p t k ∧ dotI p t k ≤ 81 * k
  | 0, _, _ => by simp [dotI]
  | k + 1, h1, h2 => by
    have ih := dot_bd hp ht k (by omega) (by omega)
    have q1 := hp _ (getD_mem (a := 0) (show k < p.length by omega))
    have q2 := ht _ (getD_mem (a := 0) (show k < t.length by omega))
    have q3 : 0 ≤ p.getD k 0 * t.getD k 0 := Int.mul_nonneg (by omega) q2.1
    have q4 : p.getD k 0 * t.getD k 0 ≤ 9 * 9 := Int.mul_le_mul q1.2 q2.2 q2.1 (by decide)
    simp only [dotI]
    omega
def cs (S : List Sal) (a b : Nat) : Int := dotI (S.getD a noSal).1 (S.getD b noSal).2 (S.getD a noSal).1.length
def rowS (S : List Sal) (a : Nat) : List Int := (List.range S.length).map (cs S a)
def matS (S : List Sal) : List (List Int) := (List.range S.length).map (rowS S)
theorem rowS_len (S : List Sal) (a : Nat) : (rowS S a).length = S.length := by simp [rowS]
theorem matS_len (S : List Sal) : (matS S).length = S.length := by simp [matS]
theorem rowS_get {S : List Sal} {a b : Nat} (h : b < S.length) : (rowS S a).getD b 0 = cs S a b := by
  rw [getD_eq (by rw [rowS_len]; exact h)]; simp [rowS]
theorem matS_get {S : List Sal} {a : Nat} (h : a < S.length) : (matS S).getD a [] = rowS S a := by
  rw [getD_eq (by rw [matS_len]; exact h)]; simp [matS]
theorem OKS.cs_bd {g : Nat} {S : List Sal} (h : OKS g S) {a b : Nat} (ha : a < S.length) (hb : b < S.length) : 0 ≤ cs S a b ∧ cs S a b ≤ 243 := by
  have := dot_bd (h.bp a ha) (h.bt b hb) (S.getD a noSal).1.length (Nat.le_refl _) (by rw [h.lp a ha, h.lt b hb]; exact Nat.le_refl _)
  have q1 := h.g3
  have q2 := h.lp a ha
  unfold cs
  rw [q2] at this ⊢
  omega
theorem OKS.sq {g : Nat} {S : List Sal} (h : OKS g S) : SqP (matS S) := by
  refine ⟨by rw [matS_len]; exact h.len, fun i hi => ?_, fun i j => ?_⟩
  · rw [matS_len] at hi ⊢; rw [matS_get hi, rowS_len]
  · by_cases hi : i < S.length
    · rw [matS_get hi]
      by_cases hj : j < S.length
      · rw [rowS_get hj]; exact h.cs_bd hi hj
      · rw [List.getD_eq_getElem?_getD, List.getElem?_eq_none (by rw [rowS_len]; omega)]; decide
    · rw [List.getD_eq_getElem?_getD (l := matS S), List.getElem?_eq_none (by rw [matS_len]; omega)]; simp
attribute [local irreducible] gOK WS WC WR WD Ends FS YS OpV seqK blockK loopK midK retK rdK asgK rangeEnd sat Cell
section
variable {M : HL} {n0 : Nat} {H : Heap} {v w : Value}
set_option maxHeartbeats 1000000 in
theorem Check_fs (hH : hasH M n0 H) {S : List Sal} (hS : SalesI M v S) (hl : S.length ≤ 1000) (hll : ∀ i, i < S.length → (S.getD i noSal).1.length ≤ 1000 ∧ (S.getD i noSal).2.length ≤ 1000) (g : Int) :
    FS C 25 [.int .i64 g, v] H (fun e H' => ∃ n', n0 ≤ n' ∧ hasH M n' H' ∧ e = .int .i64 (errS g S)) := by
  obtain ⟨ws, hV, hwl, hrow⟩ := hS
  refine FS.intro (pf := pf25) rfl rfl rfl ?_
  repeat' (first | refine zP ?_ | refine zA ?_ | (refine zM ?_; intro _ _) | refine zX ?_ | (refine zC ?_; intro _ _ _ _) | (refine zS ?_; intro _ _) | (apply Ws <;> intro hg))
  · refine Ends.ret1 rfl ⟨n0, Nat.le_refl _, hH, ?_⟩
    unfold errS
    rw [if_pos (by omega)]
  · refine WC.condP rfl (fun hg3 => ?_) (fun hg3 => ?_)
    · repeat' (first | refine zP ?_ | refine zA ?_ | (refine zM ?_; intro _ _) | refine zX ?_ | (refine zC ?_; intro _ _ _ _) | (refine zS ?_; intro _ _) | (apply Ws <;> intro hg))
      refine Ends.ret1 rfl ⟨n0, Nat.le_refl _, hH, ?_⟩
      unfold errS
      rw [if_pos (by omega)]
    · have hgr : ¬ (g < 1 ∨ 3 < g) := by omega
      repeat' (first | refine zP ?_ | refine zA ?_ | (refine zM ?_; intro _ _) | refine zX ?_ | (refine zC ?_; intro _ _ _ _) | (refine zS ?_; intro _ _) | (apply Ws <;> intro hg))
      refine WR.op (by first | exact gN | exact gS rfl) rfl (OpV.lenK pairV_len (by decide) rfl hV) ?_
      repeat' (first | refine zP ?_ | refine zA ?_ | (refine zM ?_; intro _ _) | refine zX ?_ | (refine zC ?_; intro _ _ _ _) | (refine zS ?_; intro _ _) | (apply Ws <;> intro hg))
      refine WC.condP rfl (fun hbig => ?_) (fun hbig => ?_)
      · repeat' (first | refine zP ?_ | refine zA ?_ | (refine zM ?_; intro _ _) | refine zX ?_ | (refine zC ?_; intro _ _ _ _) | (refine zS ?_; intro _ _) | (apply Ws <;> intro hg))
        refine Ends.ret1 rfl ⟨n0, Nat.le_refl _, hH, ?_⟩
        unfold errS
        rw [if_neg hgr, if_pos (by omega)]
      · repeat' (first | refine zP ?_ | refine zA ?_ | (refine zM ?_; intro _ _) | refine zX ?_ | (refine zC ?_; intro _ _ _ _) | (refine zS ?_; intro _ _) | (apply Ws <;> intro hg))
        refine WR.op (by first | exact gN | exact gS rfl) rfl (OpV.lenK pairV_len (by decide) rfl hV) ?_
        repeat' (first | refine zP ?_ | refine zA ?_ | (refine zM ?_; intro _ _) | refine zX ?_ | (refine zC ?_; intro _ _ _ _) | (refine zS ?_; intro _ _) | (apply Ws <;> intro hg))
        refine WC.loopX [(0, _), (1, _), (16, _), (17, _)] (fun s : Nat × Nat => [(18, .int .i64 (s.1 : Int))]) [] (fun s H' => s.1 ≤ S.length ∧ n0 ≤ s.2 ∧ hasH M s.2 H' ∧ firstE (fun i => saleE g (S.getD i noSal)) s.1 = 0) (fun s => S.length - s.1) (0, n0) (by repeat' (first | exact .nil | refine .cons rfl ?_)) rfl ⟨Nat.zero_le _, Nat.le_refl _, hH, rfl⟩ ?_
        clear hH
        rintro ⟨k, n2⟩ H2 ⟨hk, hn2, hH2, hz⟩
        simp only at hk hn2 hH2 hz
        dsimp only [List.cons_append, List.nil_append]
        repeat' (first | refine zP ?_ | refine zA ?_ | (refine zM ?_; intro _ _) | refine zX ?_ | (refine zC ?_; intro _ _ _ _) | (refine zS ?_; intro _ _) | (apply Ws <;> intro hg))
        refine WC.condP rfl (fun hltk => ?_) (fun hltk => ?_)
        · have hk' : k < S.length := by omega
          obtain ⟨hp, ht⟩ := hrow k hk'
          obtain ⟨hlp, hlt⟩ := hll k hk'
          have herr : saleE g (S.getD k noSal) ≠ 0 → errS g S = saleE g (S.getD k noSal) := fun hne => by
            unfold errS
            rw [if_neg hgr, if_neg (by omega), firstE_at (f := fun i => saleE g (S.getD i noSal)) hz hne hk']
          have hz2 : saleE g (S.getD k noSal) = 0 → firstE (fun i => saleE g (S.getD i noSal)) (k + 1) = 0 := fun h => firstE_succ hz h
          have hwk : ws[k] = ws.getD k noVal := (getD_eq (by omega)).symm
          repeat' (first | refine zP ?_ | refine zA ?_ | (refine zM ?_; intro _ _) | refine zX ?_ | (refine zC ?_; intro _ _ _ _) | (refine zS ?_; intro _ _) | (apply Ws <;> intro hg))
          refine WR.idxK pairV_len (by decide) (by first | exact gN | exact gS rfl) rfl rfl hV rfl (by omega) fun b o u hC => ?_
          rw [hwk] at hC
          have hsd : S.getD k noSal = ((S.getD k noSal).1, (S.getD k noSal).2) := rfl
          have hone := one2 hp.one_ ht.one_
          generalize ws.getD k noVal = wk at hp ht hC hone
          obtain ⟨w1, w2⟩ := wk
          refine WR.op (by first | exact gN | exact gS rfl) rfl (OpV.loadK rfl hC hH2 rfl) ?_
          repeat' (first | refine zP ?_ | refine zA ?_ | (refine zM ?_; intro _ _) | refine zX ?_ | (refine zC ?_; intro _ _ _ _) | (refine zS ?_; intro _ _) | (apply Ws <;> intro hg))
          rename_i H3 hH3
          refine WR.storeAll (by first | exact gN | exact gS rfl) hH3 rfl rfl (ls := [w1, w2]) rfl rfl .here hone rfl fun H4 hH4 => ?_
          clear hH3 hH2
          generalize S.getD k noSal = sk at hp ht hlp hlt herr hz2
          obtain ⟨p, t⟩ := sk
          simp only at hp ht hlp hlt herr
          replace hp := hp.cons (p := (n2, Ch.row 74 0 0 [w1, w2]))
          replace ht := ht.cons (p := (n2, Ch.row 74 0 0 [w1, w2]))
          have hback : ∀ {n' : Nat} {H' : Heap}, hasH ((n2, Ch.row 74 0 0 [w1, w2]) :: M) n' H' → hasH M n' H' := fun h => h.tail
          have h5 : ((p.length : Int) ≠ g ∨ (t.length : Int) ≠ g) → saleE g (p, t) = 5 := fun h => by unfold saleE; rw [if_pos h]
          have h1 : ¬ ((p.length : Int) ≠ g ∨ (t.length : Int) ≠ g) → (withB 1 9 p && withB 0 9 t) = false → saleE g (p, t) = 1 := fun h k => by unfold saleE; rw [if_neg h, k]; rfl
          have h0 : ¬ ((p.length : Int) ≠ g ∨ (t.length : Int) ≠ g) → (withB 1 9 p && withB 0 9 t) = true → saleE g (p, t) = 0 := fun h k => by unfold saleE; rw [if_neg h, k]; rfl
          repeat' (first | refine zP ?_ | refine zA ?_ | (refine zM ?_; intro _ _) | refine zX ?_ | (refine zC ?_; intro _ _ _ _) | (refine zS ?_; intro _ _) | (apply Ws <;> intro hg))
          · have e5 := h5 (.inl ‹_›)
            refine Ends.ret1 rfl ⟨n2 + 1, by omega, hback hH4, ?_⟩
            rw [herr (by rw [e5]; decide), e5]
          · refine WC.condP rfl (fun htl => ?_) (fun htl => ?_)
            · have e5 := h5 (.inr htl)
              repeat' (first | refine zP ?_ | refine zA ?_ | (refine zM ?_; intro _ _) | refine zX ?_ | (refine zC ?_; intro _ _ _ _) | (refine zS ?_; intro _ _) | (apply Ws <;> intro hg))
              refine Ends.ret1 rfl ⟨n2 + 1, by omega, hback hH4, ?_⟩
              rw [herr (by rw [e5]; decide), e5]
            · have hsh : ¬ ((p.length : Int) ≠ g ∨ (t.length : Int) ≠ g) := by omega
              repeat' (first | refine zP ?_ | refine zA ?_ | (refine zM ?_; intro _ _) | refine zX ?_ | (refine zC ?_; intro _ _ _ _) | (refine zS ?_; intro _ _) | (apply Ws <;> intro hg))
              refine WR.call (by first | exact gN | exact gS rfl) rfl rfl (within_fs hH4 hp (by omega) 1 9) ?_
              rintro _ H5 ⟨rfl, rfl⟩
              cases hw1 : withB 1 9 p with
              | false =>
                have e5 := h1 hsh (by rw [hw1]; rfl)
                repeat' (first | refine zP ?_ | refine zA ?_ | (refine zM ?_; intro _ _) | refine zX ?_ | (refine zC ?_; intro _ _ _ _) | (refine zS ?_; intro _ _) | (apply Ws <;> intro hg))
                refine Ends.ret1 rfl ⟨n2 + 1, by omega, hback hH4, ?_⟩
                rw [herr (by rw [e5]; decide), e5]
              | true =>
                repeat' (first | refine zP ?_ | refine zA ?_ | (refine zM ?_; intro _ _) | refine zX ?_ | (refine zC ?_; intro _ _ _ _) | (refine zS ?_; intro _ _) | (apply Ws <;> intro hg))
                refine WR.call (by first | exact gN | exact gS rfl) rfl rfl (within_fs hH4 ht (by omega) 0 9) ?_
                rintro _ H6 ⟨rfl, rfl⟩
                cases hw2 : withB 0 9 t with
                | false =>
                  have e5 := h1 hsh (by rw [hw2, hw1]; rfl)
                  repeat' (first | refine zP ?_ | refine zA ?_ | (refine zM ?_; intro _ _) | refine zX ?_ | (refine zC ?_; intro _ _ _ _) | (refine zS ?_; intro _ _) | (apply Ws <;> intro hg))
                  refine Ends.ret1 rfl ⟨n2 + 1, by omega, hback hH4, ?_⟩
                  rw [herr (by rw [e5]; decide), e5]
                | true =>
                  have e0 := h0 hsh (by rw [hw2, hw1]; rfl)
                  repeat' (first | refine zP ?_ | refine zA ?_ | (refine zM ?_; intro _ _) | refine zX ?_ | (refine zC ?_; intro _ _ _ _) | (refine zS ?_; intro _ _) | (apply Ws <;> intro hg))
                  exact Ends.loop (k + 1, n2 + 1) (by simp only; omega) (by repeat' (first | exact .nil | refine .cons rfl ?_)) rfl ⟨by simp only; omega, by simp only; omega, hback hH4, hz2 e0⟩
        · have hkl : k = S.length := by omega
          subst hkl
          repeat' (first | refine zP ?_ | refine zA ?_ | (refine zM ?_; intro _ _) | refine zX ?_ | (refine zC ?_; intro _ _ _ _) | (refine zS ?_; intro _ _) | (apply Ws <;> intro hg))
          refine Ends.ret1 rfl ⟨n2, hn2, hH2, ?_⟩
          unfold errS
          rw [if_neg hgr, if_neg (by omega), hz]
end
end Go.Proofs.Yteopjpfhhekkoaa.Tt
