/- Texts of the law, joined. -/
import Derived.Test.YtfnflkcjhefddaaJ3
import Derived.Test.YtfnflkcjhefddaaJ2
import Derived.Test.YtfnflkcjhefddaaJ1
/- How many passes. -/
namespace Go.Proofs.Ytfnflkcjhefddaa.Lk
open Go Go.Abs Go.Mth
set_option linter.unusedVariables false
set_option linter.unusedSimpArgs false
structure QX where
  k : Nat
  v : Value
  Mx : HL
  n : Nat
attribute [local irreducible] gOK WS WC WR WD Ends FS YS OpV seqK blockK loopK midK retK rdK asgK rangeEnd sat Cell
section
variable {M : HL} {n0 : Nat} {H : Heap} {v w : Value}
set_option maxHeartbeats 1000000 in
theorem passesOf_fs (hH : hasH M n0 H) {o : List Nat} (ho : Sl M 1 v (nodes o)) (hO : OrdN o) :
    FS C 74 [v] H (fun e H' => ∃ (k : Nat) (n' : Nat), e = .int .i64 (k : Int) ∧ PassN o k ∧ n0 ≤ n' ∧ hasH M n' H') := by
  have h7 := hO.most
  have h1 := hO.one
  refine FS.intro (pf := pf74) rfl rfl rfl ?_
  repeat' (first | refine zP ?_ | refine zA ?_ | (refine zM ?_; intro _ _) | refine zX ?_ | (refine zC ?_; intro _ _ _ _) | (refine zS ?_; intro _ _) | (apply Ws <;> intro hg))
  refine WC.loopX [] (fun z : QX => [(0, z.v), (3, .int .i64 (z.k : Int))]) [] (fun z H' => z.k ≤ o.length - 1 ∧ (∀ j, j < z.k → ascB (pit o j) = false) ∧ Sl (z.Mx ++ M) 1 z.v (nodes (pit o z.k)) ∧ n0 ≤ z.n ∧ hasH (z.Mx ++ M) z.n H') (fun z => o.length - z.k) ⟨0, v, [], n0⟩ (by repeat' (first | exact .nil | refine .cons rfl ?_)) rfl
    ⟨Nat.zero_le _, fun j h => absurd h (Nat.not_lt_zero _), ho, Nat.le_refl _, hH⟩ ?_
  clear hH ho
  rintro ⟨k, v, Mx, n1⟩ H1 ⟨hk, hno, hS, hn1, hH⟩
  simp only at hk hno hS hn1 hH
  obtain ⟨hp1, hp2⟩ := pit_ord hO k
  dsimp only [List.cons_append, List.nil_append]
  repeat' (first | refine zP ?_ | refine zA ?_ | (refine zM ?_; intro _ _) | refine zX ?_ | (refine zC ?_; intro _ _ _ _) | (refine zS ?_; intro _ _) | (apply Ws <;> intro hg))
  refine WR.call (by first | exact gN | exact gS rfl) rfl rfl (IsSorted_fs hH hS (by omega)) ?_
  rintro _ H2 ⟨rfl, rfl⟩
  cases ha : ascB (pit o k) with
  | true =>
    repeat' (first | refine zP ?_ | refine zA ?_ | (refine zM ?_; intro _ _) | refine zX ?_ | (refine zC ?_; intro _ _ _ _) | (refine zS ?_; intro _ _) | (apply Ws <;> intro hg))
    exact Ends.ret1 rfl ⟨k, n1, rfl, ⟨hk, ha, hno⟩, hn1, hH.sub (List.sublist_append_right _ _)⟩
  | false =>
    have hk2 : k ≠ o.length - 1 := by
      rintro rfl
      rw [asc_last hO] at ha; cases ha
    repeat' (first | refine zP ?_ | refine zA ?_ | (refine zM ?_; intro _ _) | refine zX ?_ | (refine zC ?_; intro _ _ _ _) | (refine zS ?_; intro _ _) | (apply Ws <;> intro hg))
    refine WR.call (by first | exact gN | exact gS rfl) rfl rfl (passed_fs hH hS (by omega)) ?_
    rintro u H3 ⟨My, n3, hOw, hn3, hH3⟩
    repeat' (first | refine zP ?_ | refine zA ?_ | (refine zM ?_; intro _ _) | refine zX ?_ | (refine zC ?_; intro _ _ _ _) | (refine zS ?_; intro _ _) | (apply Ws <;> intro hg))
    refine Ends.loop ⟨k + 1, u, My, n3⟩ (by simp only; omega) (by repeat' (first | exact .nil | refine .cons rfl ?_)) rfl ⟨by simp only; omega, fun j hj => ?_, hOw.sl M, by simp only; omega, hH3.sub (List.Sublist.append_left (List.sublist_append_right _ _) _)⟩
    simp only at hj
    by_cases e : j = k
    · rw [e]; exact ha
    · exact hno j (by omega)
theorem Passes_fs (hH : hasH M n0 H) {o : List Nat} (ho : Sl M 1 v (nodes o)) (hO : OrdN o) :
    FS C 29 [v] H (fun e H' => ∃ (k : Nat) (n' : Nat), e = .tuple #[.int .i64 (k : Int), .int .i64 0] ∧ PassN o k ∧ n0 ≤ n' ∧ hasH M n' H') := by
  have hv := ho.one_
  refine FS.intro (pf := pf29) rfl rfl rfl ?_
  repeat' (first | refine zP ?_ | refine zA ?_ | (refine zM ?_; intro _ _) | refine zX ?_ | (refine zC ?_; intro _ _ _ _) | (refine zS ?_; intro _ _) | (apply Ws <;> intro hg))
  refine WR.call (by first | exact gN | exact gS rfl) rfl rfl (CheckN_fs hH ho hO) ?_
  rintro _ H1 ⟨rfl, rfl⟩
  repeat' (first | refine zP ?_ | refine zA ?_ | (refine zM ?_; intro _ _) | refine zX ?_ | (refine zC ?_; intro _ _ _ _) | (refine zS ?_; intro _ _) | refine zO ?_ | (apply Ws <;> intro hg))
  refine WR.call (by first | exact gN | exact gS rfl) rfl rfl (passesOf_fs hH ho hO) ?_
  rintro _ H2 ⟨k, n2, rfl, hP, hn2, hH2⟩
  repeat' (first | refine zP ?_ | refine zA ?_ | (refine zM ?_; intro _ _) | refine zX ?_ | (refine zC ?_; intro _ _ _ _) | (refine zS ?_; intro _ _) | refine zO ?_ | (apply Ws <;> intro hg))
  exact Ends.ret2 rfl rfl ⟨k, n2, rfl, hP, hn2, hH2⟩
end
end Go.Proofs.Ytfnflkcjhefddaa.Lk

/- The reference's Check, barred, Sorted, Why, Passes, Proves; what both answer to what is no order. -/
namespace Go.Proofs.Ytfnflkcjhefddaa.Lk
open Go Go.Abs Go.Mth
set_option linter.unusedVariables false
set_option linter.unusedSimpArgs false
def BarR (o : List Nat) (i j k : Nat) (f : Bool) : Prop := (f = true ∧ i < j ∧ j < k ∧ k < o.length ∧ barB o i j k = true ∧ NoBefore o i j k) ∨ (f = false ∧ i = 0 ∧ j = 0 ∧ k = 0 ∧ NoBar o)
def inO (o : List Nat) (a : Int) : Prop := 0 ≤ a ∧ a < (o.length : Int)
instance (o : List Nat) (a : Int) : Decidable (inO o a) := inferInstanceAs (Decidable (_ ∧ _))
def prvI (o : List Nat) (i j k : Int) : Int := if inO o i ∧ inO o j ∧ inO o k then prvE o i.toNat j.toNat k.toNat else 2
theorem NoBefore.uniq {o : List Nat} {i j k a b c : Nat} (h : NoBefore o i j k) (h2 : NoBefore o a b c) (hij : i < j) (hjk : j < k) (hk : k < o.length) (hab : a < b) (hbc : b < c) (hc : c < o.length) (h3 : barB o i j k = true) (h4 : barB o a b c = true) : i = a ∧ j = b ∧ k = c := by
  have q1 : ¬ (a < i ∨ (a = i ∧ (b < j ∨ (b = j ∧ c < k)))) := fun q => by rw [h a b c hab hbc hc q] at h4; cases h4
  have q2 : ¬ (i < a ∨ (i = a ∧ (j < b ∨ (j = b ∧ k < c)))) := fun q => by rw [h2 i j k hij hjk hk q] at h3; cases h3
  omega
theorem WhyR.uniq {o : List Nat} {i j k a b c : Nat} {e f : Int} (h : WhyR o i j k e) (h2 : WhyR o a b c f) : i = a ∧ j = b ∧ k = c ∧ e = f := by
  rcases h with ⟨rfl, h1, h3, h4, h5, h6⟩ | ⟨rfl, rfl, rfl, rfl, h7⟩ <;> rcases h2 with ⟨rfl, g1, g3, g4, g5, g6⟩ | ⟨rfl, rfl, rfl, rfl, g7⟩
  · obtain ⟨q1, q2, q3⟩ := h6.uniq g6 h1 h3 h4 g1 g3 g4 h5 g5
    exact ⟨q1, q2, q3, rfl⟩
  · rw [g7 i j k h1 h3 h4] at h5; cases h5
  · rw [h7 a b c g1 g3 g4] at g5; cases g5
  · exact ⟨rfl, rfl, rfl, rfl⟩
attribute [local irreducible] gOK WS WC WR WD Ends FS YS OpV seqK blockK loopK midK retK rdK asgK rangeEnd sat Cell
section
variable {M : HL} {n0 : Nat} {H : Heap} {v w : Value}
theorem RCheck_fs (hH : hasH M n0 H) {xs : List Int} (hS : Sl M 1 v (ints xs)) (hx : xs.length ≤ 100000) :
    FS C 24 [v] H (fun e H' => H' = H ∧ e = .int .i64 (errO xs)) := by
  have hv := hS.one_
  refine FS.intro (pf := pf24) rfl rfl rfl ?_
  repeat' (first | refine zP ?_ | refine zA ?_ | (refine zM ?_; intro _ _) | refine zX ?_ | (refine zC ?_; intro _ _ _ _) | (refine zS ?_; intro _ _) | (apply Ws <;> intro hg))
  refine WR.call (by first | exact gN | exact gS rfl) rfl rfl (rin_fs _ _ _ _) ?_
  rintro _ H1 ⟨rfl, rfl⟩
  by_cases hr : xs.length < 1 ∨ 7 < xs.length
  · rw [decide_eq_false (by omega)]
    repeat' (first | refine zP ?_ | refine zA ?_ | (refine zM ?_; intro _ _) | refine zX ?_ | (refine zC ?_; intro _ _ _ _) | (refine zS ?_; intro _ _) | refine zO ?_ | (apply Ws <;> intro hg))
    refine Ends.ret1 rfl ⟨rfl, ?_⟩
    unfold errO; rw [if_pos hr]
  · rw [decide_eq_true (by omega)]
    repeat' (first | refine zP ?_ | refine zA ?_ | (refine zM ?_; intro _ _) | refine zX ?_ | (refine zC ?_; intro _ _ _ _) | (refine zS ?_; intro _ _) | refine zO ?_ | (apply Ws <;> intro hg))
    refine WC.loopX [(0, v), (3, .int .i64 (xs.length : Int))] (fun k : Nat => [(4, .int .i64 (k : Int))]) [] (fun k H' => H' = H1 ∧ k ≤ xs.length ∧ firstE (errA xs) k = 0) (fun k => xs.length - k) 0 (by repeat' (first | exact .nil | refine .cons rfl ?_)) rfl ⟨rfl, Nat.zero_le _, rfl⟩ ?_
    rintro k H' ⟨rfl, hk, hz⟩
    dsimp only [List.cons_append, List.nil_append]
    repeat' (first | refine zP ?_ | refine zA ?_ | (refine zM ?_; intro _ _) | refine zX ?_ | (refine zC ?_; intro _ _ _ _) | (refine zS ?_; intro _ _) | (apply Ws <;> intro hg))
    refine WC.condP rfl (fun hlt => ?_) (fun hlt => ?_)
    · have hk' : k < xs.length := by omega
      repeat' (first | refine zP ?_ | refine zA ?_ | (refine zM ?_; intro _ _) | refine zX ?_ | (refine zC ?_; intro _ _ _ _) | (refine zS ?_; intro _ _) | (apply Ws <;> intro hg))
      refine WR.call (by first | exact gN | exact gS rfl) rfl rfl (rin_fs _ _ _ _) ?_
      rintro _ _ ⟨rfl, rfl⟩
      by_cases hp : xs.getD k 0 < 0 ∨ (xs.length : Int) ≤ xs.getD k 0
      · rw [decide_eq_false (by omega)]
        repeat' (first | refine zP ?_ | refine zA ?_ | (refine zM ?_; intro _ _) | refine zX ?_ | (refine zC ?_; intro _ _ _ _) | (refine zS ?_; intro _ _) | refine zO ?_ | (apply Ws <;> intro hg))
        refine Ends.ret1 rfl ⟨rfl, ?_⟩
        have h1 : errA xs k = 2 := by unfold errA; rw [if_pos (by omega)]
        unfold errO; rw [if_neg hr, firstE_at hz (by rw [h1]; decide) hk', h1]
      · rw [decide_eq_true (by omega)]
        repeat' (first | refine zP ?_ | refine zA ?_ | (refine zM ?_; intro _ _) | refine zX ?_ | (refine zC ?_; intro _ _ _ _) | (refine zS ?_; intro _ _) | refine zO ?_ | (apply Ws <;> intro hg))
        refine WR.cutHi (by first | exact gN | exact gS rfl) rfl rfl hS rfl (Nat.le_of_lt hk') fun v' hS' => ?_
        repeat' (first | refine zP ?_ | refine zA ?_ | (refine zM ?_; intro _ _) | refine zX ?_ | (refine zC ?_; intro _ _ _ _) | (refine zS ?_; intro _ _) | (apply Ws <;> intro hg))
        refine WR.call (by first | exact gN | exact gS rfl) rfl rfl (place_fs hH hS' (by simp; omega) _) ?_
        rintro _ _ ⟨rfl, ⟨q, hq, hg, _, rfl⟩ | ⟨hn, rfl⟩⟩
        · have hm : xs.getD k 0 ∈ xs.take k := by rw [← hg]; exact getD_mem hq
          repeat' (first | refine zP ?_ | refine zA ?_ | (refine zM ?_; intro _ _) | refine zX ?_ | (refine zC ?_; intro _ _ _ _) | (refine zS ?_; intro _ _) | refine zO ?_ | (apply Ws <;> intro hg))
          refine Ends.ret1 rfl ⟨rfl, ?_⟩
          have h1 : errA xs k = 6 := by unfold errA; rw [if_neg hp, if_pos hm]
          unfold errO; rw [if_neg hr, firstE_at hz (by rw [h1]; decide) hk', h1]
        · repeat' (first | refine zP ?_ | refine zA ?_ | (refine zM ?_; intro _ _) | refine zX ?_ | (refine zC ?_; intro _ _ _ _) | (refine zS ?_; intro _ _) | refine zO ?_ | (apply Ws <;> intro hg))
          refine Ends.loop (k + 1) (by omega) (by repeat' (first | exact .nil | refine .cons rfl ?_)) rfl ⟨rfl, hk', firstE_succ hz ?_⟩
          unfold errA; rw [if_neg hp, if_neg hn]
    · have hkn : k = xs.length := by omega
      subst hkn
      repeat' (first | refine zP ?_ | refine zA ?_ | (refine zM ?_; intro _ _) | refine zX ?_ | (refine zC ?_; intro _ _ _ _) | (refine zS ?_; intro _ _) | (apply Ws <;> intro hg))
      refine Ends.ret1 rfl ⟨rfl, ?_⟩
      unfold errO; rw [if_neg hr, hz]
theorem RCheckN_fs (hH : hasH M n0 H) {l : List Nat} (hS : Sl M 1 v (nodes l)) (ho : OrdN l) :
    FS C 24 [v] H (fun e H' => H' = H ∧ e = .int .i64 0) := by
  have := ho.most
  refine (RCheck_fs hH (xs := IL l) (by rw [← nodes_IL]; exact hS) (by rw [IL_len]; omega)).mono ?_
  rintro e H' ⟨h1, h2⟩
  rw [errO_ok ho] at h2
  exact ⟨h1, h2⟩
theorem rbars_fs (hH : hasH M n0 H) {o : List Nat} (hS : Sl M 1 v (nodes o)) {i j k : Nat} (hi : i < o.length) (hj : j < o.length) (hk : k < o.length) :
    FS C 76 [v, .int .i64 (i : Int), .int .i64 (j : Int), .int .i64 (k : Int)] H (fun e H' => H' = H ∧ e = .bool (barB o i j k)) := by
  refine FS.intro (pf := pf76) rfl rfl rfl ?_
  repeat' (first | refine zP ?_ | refine zA ?_ | (refine zM ?_; intro _ _) | refine zX ?_ | (refine zC ?_; intro _ _ _ _) | (refine zS ?_; intro _ _) | (apply Ws <;> intro hg))
  · refine Ends.ret1 rfl ⟨rfl, ?_⟩
    unfold barB
    rw [decide_eq_true (show o.getD k 0 < o.getD i 0 by omega), Bool.true_and]
    congr 1; rw [decide_eq_decide]; omega
  · refine Ends.ret1 rfl ⟨rfl, ?_⟩
    unfold barB
    rw [decide_eq_false (show ¬ o.getD k 0 < o.getD i 0 by omega)]; rfl
set_option maxHeartbeats 1000000 in
theorem barred_fs (hH : hasH M n0 H) {o : List Nat} (hS : Sl M 1 v (nodes o)) (hO : OrdN o) :
    FS C 72 [v] H (fun r H' => H' = H ∧ ∃ (i j k : Nat) (f : Bool), BarR o i j k f ∧ r = .tuple #[.int .i64 (i : Int), .int .i64 (j : Int), .int .i64 (k : Int), .bool f]) := by
  have hv := hS.one_
  have h7 := hO.most
  refine FS.intro (pf := pf72) rfl rfl rfl ?_
  repeat' (first | refine zP ?_ | refine zA ?_ | (refine zM ?_; intro _ _) | refine zX ?_ | (refine zC ?_; intro _ _ _ _) | (refine zS ?_; intro _ _) | (apply Ws <;> intro hg))
  refine WC.loopX [(0, v)] (fun i : Nat => [(6, .int .i64 (i : Int))]) [] (fun i H' => H' = H ∧ i ≤ o.length ∧ NoBefore o i 0 0) (fun i => o.length - i) 0 (by repeat' (first | exact .nil | refine .cons rfl ?_)) rfl ⟨rfl, Nat.zero_le _, fun a b c _ _ _ h => by omega⟩ ?_
  rintro i H2 ⟨rfl, hi, hno⟩
  dsimp only [List.cons_append, List.nil_append]
  repeat' (first | refine zP ?_ | refine zA ?_ | (refine zM ?_; intro _ _) | refine zX ?_ | (refine zC ?_; intro _ _ _ _) | (refine zS ?_; intro _ _) | (apply Ws <;> intro hg))
  refine WC.condP rfl (fun hlt => ?_) (fun hlt => ?_)
  · have hi' : i < o.length := by omega
    repeat' (first | refine zP ?_ | refine zA ?_ | (refine zM ?_; intro _ _) | refine zX ?_ | (refine zC ?_; intro _ _ _ _) | (refine zS ?_; intro _ _) | (apply Ws <;> intro hg))
    refine WC.loopX [(0, v), (6, _)] (fun j : Nat => [(7, .int .i64 (j : Int))]) [] (fun j H' => H' = H2 ∧ i + 1 ≤ j ∧ j ≤ o.length ∧ NoBefore o i j 0) (fun j => o.length - j) (i + 1) (by repeat' (first | exact .nil | refine .cons rfl ?_)) rfl ⟨rfl, Nat.le_refl _, hi', fun a b c h1 h2 h3 h => hno a b c h1 h2 h3 (by omega)⟩ ?_
    clear hno
    rintro j H3 ⟨rfl, hj1, hj, hno⟩
    dsimp only [List.cons_append, List.nil_append]
    repeat' (first | refine zP ?_ | refine zA ?_ | (refine zM ?_; intro _ _) | refine zX ?_ | (refine zC ?_; intro _ _ _ _) | (refine zS ?_; intro _ _) | (apply Ws <;> intro hg))
    refine WC.condP rfl (fun hlt2 => ?_) (fun hlt2 => ?_)
    · have hj' : j < o.length := by omega
      repeat' (first | refine zP ?_ | refine zA ?_ | (refine zM ?_; intro _ _) | refine zX ?_ | (refine zC ?_; intro _ _ _ _) | (refine zS ?_; intro _ _) | (apply Ws <;> intro hg))
      refine WC.loopX [(0, v), (6, _), (7, .int .i64 (j : Int))] (fun z : Nat => [(8, .int .i64 (z : Int))]) [] (fun z H' => H' = H3 ∧ j + 1 ≤ z ∧ z ≤ o.length ∧ NoBefore o i j z) (fun z => o.length - z) (j + 1) (by repeat' (first | exact .nil | refine .cons rfl ?_)) rfl ⟨rfl, Nat.le_refl _, hj', fun a b c h1 h2 h3 h => hno a b c h1 h2 h3 (by omega)⟩ ?_
      clear hno
      rintro k H4 ⟨rfl, hk1, hk, hno⟩
      dsimp only [List.cons_append, List.nil_append]
      repeat' (first | refine zP ?_ | refine zA ?_ | (refine zM ?_; intro _ _) | refine zX ?_ | (refine zC ?_; intro _ _ _ _) | (refine zS ?_; intro _ _) | (apply Ws <;> intro hg))
      refine WC.condP rfl (fun hlt3 => ?_) (fun hlt3 => ?_)
      · have hk' : k < o.length := by omega
        repeat' (first | refine zP ?_ | refine zA ?_ | (refine zM ?_; intro _ _) | refine zX ?_ | (refine zC ?_; intro _ _ _ _) | (refine zS ?_; intro _ _) | (apply Ws <;> intro hg))
        refine WR.call (by first | exact gN | exact gS rfl) rfl rfl (rbars_fs hH hS hi' hj' hk') ?_
        rintro _ H5 ⟨rfl, rfl⟩
        cases hb : barB o i j k with
        | true =>
          repeat' (first | refine zP ?_ | refine zA ?_ | (refine zM ?_; intro _ _) | refine zX ?_ | (refine zC ?_; intro _ _ _ _) | (refine zS ?_; intro _ _) | (apply Ws <;> intro hg))
          exact Ends.ret4 rfl rfl rfl rfl ⟨rfl, i, j, k, true, .inl ⟨rfl, by omega, by omega, hk', hb, hno⟩, rfl⟩
        | false =>
          repeat' (first | refine zP ?_ | refine zA ?_ | (refine zM ?_; intro _ _) | refine zX ?_ | (refine zC ?_; intro _ _ _ _) | (refine zS ?_; intro _ _) | (apply Ws <;> intro hg))
          refine Ends.loop (k + 1) (by omega) (by repeat' (first | exact .nil | refine .cons rfl ?_)) rfl ⟨rfl, by omega, hk', fun a b c h1 h2 h3 h => ?_⟩
          by_cases e : a = i ∧ b = j ∧ c = k
          · obtain ⟨rfl, rfl, rfl⟩ := e; exact hb
          · exact hno a b c h1 h2 h3 (by omega)
      · have hkn : k = o.length := by omega
        subst hkn
        repeat' (first | refine zP ?_ | refine zA ?_ | (refine zM ?_; intro _ _) | refine zX ?_ | (refine zC ?_; intro _ _ _ _) | (refine zS ?_; intro _ _) | (apply Ws <;> intro hg))
        exact Ends.loop (j + 1) (by omega) (by repeat' (first | exact .nil | refine .cons rfl ?_)) rfl ⟨rfl, by omega, by omega, fun a b c h1 h2 h3 h => hno a b c h1 h2 h3 (by omega)⟩
    · have hjn : j = o.length := by omega
      subst hjn
      repeat' (first | refine zP ?_ | refine zA ?_ | (refine zM ?_; intro _ _) | refine zX ?_ | (refine zC ?_; intro _ _ _ _) | (refine zS ?_; intro _ _) | (apply Ws <;> intro hg))
      exact Ends.loop (i + 1) (by omega) (by repeat' (first | exact .nil | refine .cons rfl ?_)) rfl ⟨rfl, by omega, fun a b c h1 h2 h3 h => hno a b c h1 h2 h3 (by omega)⟩
  · have hin : i = o.length := by omega
    subst hin
    repeat' (first | refine zP ?_ | refine zA ?_ | (refine zM ?_; intro _ _) | refine zX ?_ | (refine zC ?_; intro _ _ _ _) | (refine zS ?_; intro _ _) | (apply Ws <;> intro hg))
    exact Ends.ret4 rfl rfl rfl rfl ⟨rfl, 0, 0, 0, false, .inr ⟨rfl, rfl, rfl, rfl, fun a b c h1 h2 h3 => hno a b c h1 h2 h3 (by omega)⟩, rfl⟩
theorem BarR.asc {o : List Nat} (hO : OrdN o) {i j k : Nat} {f : Bool} (h : BarR o i j k f) : (!f) = ascT o (List.replicate o.length 0) := by
  have hiff := asc_nobar hO
  unfold ascT
  rcases h with ⟨rfl, h1, h2, h3, h4, _⟩ | ⟨rfl, _, _, _, h5⟩
  · rw [decide_eq_false fun q => ?_]; rfl
    have := hiff.1 q i j k h1 h2 h3
    rw [this] at h4; cases h4
  · rw [decide_eq_true (hiff.2 h5)]; rfl
theorem RSorted_fs (hH : hasH M n0 H) {o : List Nat} (ho : Sl M 1 v (nodes o)) (hO : OrdN o) :
    FS C 26 [v] H (fun e H' => e = .tuple #[.bool (ascT o (List.replicate o.length 0)), .int .i64 0] ∧ H' = H) := by
  have hv := ho.one_
  refine FS.intro (pf := pf26) rfl rfl rfl ?_
  repeat' (first | refine zP ?_ | refine zA ?_ | (refine zM ?_; intro _ _) | refine zX ?_ | (refine zC ?_; intro _ _ _ _) | (refine zS ?_; intro _ _) | (apply Ws <;> intro hg))
  refine WR.call (by first | exact gN | exact gS rfl) rfl rfl (RCheckN_fs hH ho hO) ?_
  rintro _ H1 ⟨rfl, rfl⟩
  repeat' (first | refine zP ?_ | refine zA ?_ | (refine zM ?_; intro _ _) | refine zX ?_ | (refine zC ?_; intro _ _ _ _) | (refine zS ?_; intro _ _) | refine zO ?_ | (apply Ws <;> intro hg))
  refine WR.call (by first | exact gN | exact gS rfl) rfl rfl (barred_fs hH ho hO) ?_
  rintro _ H2 ⟨rfl, i, j, k, f, hB, rfl⟩
  have hb := hB.asc hO
  repeat' (first | refine zP ?_ | refine zA ?_ | (refine zM ?_; intro _ _) | refine zX ?_ | (refine zC ?_; intro _ _ _ _) | (refine zS ?_; intro _ _) | refine zO ?_ | (apply Ws <;> intro hg))
  exact Ends.ret2 rfl rfl ⟨by rw [← hb], rfl⟩
theorem RWhy_fs (hH : hasH M n0 H) {o : List Nat} (hS : Sl M 1 v (nodes o)) (hO : OrdN o) :
    FS C 28 [v] H (fun r H' => H' = H ∧ ∃ (i j k : Nat) (e : Int), WhyR o i j k e ∧ r = .tuple #[.int .i64 (i : Int), .int .i64 (j : Int), .int .i64 (k : Int), .int .i64 e]) := by
  have hv := hS.one_
  refine FS.intro (pf := pf28) rfl rfl rfl ?_
  repeat' (first | refine zP ?_ | refine zA ?_ | (refine zM ?_; intro _ _) | refine zX ?_ | (refine zC ?_; intro _ _ _ _) | (refine zS ?_; intro _ _) | (apply Ws <;> intro hg))
  refine WR.call (by first | exact gN | exact gS rfl) rfl rfl (RCheckN_fs hH hS hO) ?_
  rintro _ H1 ⟨rfl, rfl⟩
  repeat' (first | refine zP ?_ | refine zA ?_ | (refine zM ?_; intro _ _) | refine zX ?_ | (refine zC ?_; intro _ _ _ _) | (refine zS ?_; intro _ _) | refine zO ?_ | (apply Ws <;> intro hg))
  refine WR.call (by first | exact gN | exact gS rfl) rfl rfl (barred_fs hH hS hO) ?_
  rintro _ H2 ⟨rfl, i, j, k, f, hB, rfl⟩
  rcases hB with ⟨rfl, h⟩ | ⟨rfl, rfl, rfl, rfl, h⟩
  · repeat' (first | refine zP ?_ | refine zA ?_ | (refine zM ?_; intro _ _) | refine zX ?_ | (refine zC ?_; intro _ _ _ _) | (refine zS ?_; intro _ _) | refine zO ?_ | (apply Ws <;> intro hg))
    exact Ends.ret4 rfl rfl rfl rfl ⟨rfl, i, j, k, 0, .inl ⟨rfl, h⟩, rfl⟩
  · repeat' (first | refine zP ?_ | refine zA ?_ | (refine zM ?_; intro _ _) | refine zX ?_ | (refine zC ?_; intro _ _ _ _) | (refine zS ?_; intro _ _) | refine zO ?_ | (apply Ws <;> intro hg))
    exact Ends.ret4 rfl rfl rfl rfl ⟨rfl, 0, 0, 0, 13, .inr ⟨rfl, rfl, rfl, rfl, h⟩, rfl⟩
theorem RPasses_fs (hH : hasH M n0 H) {o : List Nat} (ho : Sl M 1 v (nodes o)) (hO : OrdN o) :
    FS C 30 [v] H (fun e H' => ∃ (k : Nat) (n' : Nat), e = .tuple #[.int .i64 (k : Int), .int .i64 0] ∧ PassN o k ∧ n0 ≤ n' ∧ hasH M n' H') := by
  have hv := ho.one_
  refine FS.intro (pf := pf30) rfl rfl rfl ?_
  repeat' (first | refine zP ?_ | refine zA ?_ | (refine zM ?_; intro _ _) | refine zX ?_ | (refine zC ?_; intro _ _ _ _) | (refine zS ?_; intro _ _) | (apply Ws <;> intro hg))
  refine WR.call (by first | exact gN | exact gS rfl) rfl rfl (RCheckN_fs hH ho hO) ?_
  rintro _ H1 ⟨rfl, rfl⟩
  repeat' (first | refine zP ?_ | refine zA ?_ | (refine zM ?_; intro _ _) | refine zX ?_ | (refine zC ?_; intro _ _ _ _) | (refine zS ?_; intro _ _) | refine zO ?_ | (apply Ws <;> intro hg))
  refine WR.call (by first | exact gN | exact gS rfl) rfl rfl (rpasses_fs hH ho hO) ?_
  rintro _ H2 ⟨k, n2, rfl, hP, hn2, hH2⟩
  repeat' (first | refine zP ?_ | refine zA ?_ | (refine zM ?_; intro _ _) | refine zX ?_ | (refine zC ?_; intro _ _ _ _) | (refine zS ?_; intro _ _) | refine zO ?_ | (apply Ws <;> intro hg))
  exact Ends.ret2 rfl rfl ⟨k, n2, rfl, hP, hn2, hH2⟩
end
end Go.Proofs.Ytfnflkcjhefddaa.Lk

/- What both answer to what is no order; Proves with any places. -/
namespace Go.Proofs.Ytfnflkcjhefddaa.Lk
open Go Go.Abs Go.Mth
set_option linter.unusedVariables false
set_option linter.unusedSimpArgs false
attribute [local irreducible] gOK WS WC WR WD Ends FS YS OpV seqK blockK loopK midK retK rdK asgK rangeEnd sat Cell
section
variable {M : HL} {n0 : Nat} {H : Heap} {v w : Value}
theorem SortedE_fs (hH : hasH M n0 H) {xs : List Int} (hS : Sl M 1 v (ints xs)) (hx : xs.length ≤ 100000) (hE : errO xs ≠ 0) :
    FS C 25 [v] H (fun e H' => e = .tuple #[.bool false, .int .i64 (errO xs)] ∧ H' = H) := by
  have hv := hS.one_
  refine FS.intro (pf := pf25) rfl rfl rfl ?_
  repeat' (first | refine zP ?_ | refine zA ?_ | (refine zM ?_; intro _ _) | refine zX ?_ | (refine zC ?_; intro _ _ _ _) | (refine zS ?_; intro _ _) | (apply Ws <;> intro hg))
  refine WR.call (by first | exact gN | exact gS rfl) rfl rfl (Check_fs hH hS hx) ?_
  rintro _ H1 ⟨rfl, rfl⟩
  repeat' (first | refine zP ?_ | refine zA ?_ | (refine zM ?_; intro _ _) | refine zX ?_ | (refine zC ?_; intro _ _ _ _) | (refine zS ?_; intro _ _) | refine zO ?_ | (apply Ws <;> intro hg))
  exact Ends.ret2 rfl rfl ⟨rfl, rfl⟩
theorem RSortedE_fs (hH : hasH M n0 H) {xs : List Int} (hS : Sl M 1 v (ints xs)) (hx : xs.length ≤ 100000) (hE : errO xs ≠ 0) :
    FS C 26 [v] H (fun e H' => e = .tuple #[.bool false, .int .i64 (errO xs)] ∧ H' = H) := by
  have hv := hS.one_
  refine FS.intro (pf := pf26) rfl rfl rfl ?_
  repeat' (first | refine zP ?_ | refine zA ?_ | (refine zM ?_; intro _ _) | refine zX ?_ | (refine zC ?_; intro _ _ _ _) | (refine zS ?_; intro _ _) | (apply Ws <;> intro hg))
  refine WR.call (by first | exact gN | exact gS rfl) rfl rfl (RCheck_fs hH hS hx) ?_
  rintro _ H1 ⟨rfl, rfl⟩
  repeat' (first | refine zP ?_ | refine zA ?_ | (refine zM ?_; intro _ _) | refine zX ?_ | (refine zC ?_; intro _ _ _ _) | (refine zS ?_; intro _ _) | refine zO ?_ | (apply Ws <;> intro hg))
  exact Ends.ret2 rfl rfl ⟨rfl, rfl⟩
theorem WhyE_fs (hH : hasH M n0 H) {xs : List Int} (hS : Sl M 1 v (ints xs)) (hx : xs.length ≤ 100000) (hE : errO xs ≠ 0) :
    FS C 27 [v] H (fun e H' => e = .tuple #[.int .i64 0, .int .i64 0, .int .i64 0, .int .i64 (errO xs)] ∧ H' = H) := by
  have hv := hS.one_
  refine FS.intro (pf := pf27) rfl rfl rfl ?_
  repeat' (first | refine zP ?_ | refine zA ?_ | (refine zM ?_; intro _ _) | refine zX ?_ | (refine zC ?_; intro _ _ _ _) | (refine zS ?_; intro _ _) | (apply Ws <;> intro hg))
  refine WR.call (by first | exact gN | exact gS rfl) rfl rfl (Check_fs hH hS hx) ?_
  rintro _ H1 ⟨rfl, rfl⟩
  repeat' (first | refine zP ?_ | refine zA ?_ | (refine zM ?_; intro _ _) | refine zX ?_ | (refine zC ?_; intro _ _ _ _) | (refine zS ?_; intro _ _) | refine zO ?_ | (apply Ws <;> intro hg))
  exact Ends.ret4 rfl rfl rfl rfl ⟨rfl, rfl⟩
theorem RWhyE_fs (hH : hasH M n0 H) {xs : List Int} (hS : Sl M 1 v (ints xs)) (hx : xs.length ≤ 100000) (hE : errO xs ≠ 0) :
    FS C 28 [v] H (fun e H' => e = .tuple #[.int .i64 0, .int .i64 0, .int .i64 0, .int .i64 (errO xs)] ∧ H' = H) := by
  have hv := hS.one_
  refine FS.intro (pf := pf28) rfl rfl rfl ?_
  repeat' (first | refine zP ?_ | refine zA ?_ | (refine zM ?_; intro _ _) | refine zX ?_ | (refine zC ?_; intro _ _ _ _) | (refine zS ?_; intro _ _) | (apply Ws <;> intro hg))
  refine WR.call (by first | exact gN | exact gS rfl) rfl rfl (RCheck_fs hH hS hx) ?_
  rintro _ H1 ⟨rfl, rfl⟩
  repeat' (first | refine zP ?_ | refine zA ?_ | (refine zM ?_; intro _ _) | refine zX ?_ | (refine zC ?_; intro _ _ _ _) | (refine zS ?_; intro _ _) | refine zO ?_ | (apply Ws <;> intro hg))
  exact Ends.ret4 rfl rfl rfl rfl ⟨rfl, rfl⟩
theorem PassesE_fs (hH : hasH M n0 H) {xs : List Int} (hS : Sl M 1 v (ints xs)) (hx : xs.length ≤ 100000) (hE : errO xs ≠ 0) :
    FS C 29 [v] H (fun e H' => e = .tuple #[.int .i64 0, .int .i64 (errO xs)] ∧ H' = H) := by
  have hv := hS.one_
  refine FS.intro (pf := pf29) rfl rfl rfl ?_
  repeat' (first | refine zP ?_ | refine zA ?_ | (refine zM ?_; intro _ _) | refine zX ?_ | (refine zC ?_; intro _ _ _ _) | (refine zS ?_; intro _ _) | (apply Ws <;> intro hg))
  refine WR.call (by first | exact gN | exact gS rfl) rfl rfl (Check_fs hH hS hx) ?_
  rintro _ H1 ⟨rfl, rfl⟩
  repeat' (first | refine zP ?_ | refine zA ?_ | (refine zM ?_; intro _ _) | refine zX ?_ | (refine zC ?_; intro _ _ _ _) | (refine zS ?_; intro _ _) | refine zO ?_ | (apply Ws <;> intro hg))
  exact Ends.ret2 rfl rfl ⟨rfl, rfl⟩
theorem RPassesE_fs (hH : hasH M n0 H) {xs : List Int} (hS : Sl M 1 v (ints xs)) (hx : xs.length ≤ 100000) (hE : errO xs ≠ 0) :
    FS C 30 [v] H (fun e H' => e = .tuple #[.int .i64 0, .int .i64 (errO xs)] ∧ H' = H) := by
  have hv := hS.one_
  refine FS.intro (pf := pf30) rfl rfl rfl ?_
  repeat' (first | refine zP ?_ | refine zA ?_ | (refine zM ?_; intro _ _) | refine zX ?_ | (refine zC ?_; intro _ _ _ _) | (refine zS ?_; intro _ _) | (apply Ws <;> intro hg))
  refine WR.call (by first | exact gN | exact gS rfl) rfl rfl (RCheck_fs hH hS hx) ?_
  rintro _ H1 ⟨rfl, rfl⟩
  repeat' (first | refine zP ?_ | refine zA ?_ | (refine zM ?_; intro _ _) | refine zX ?_ | (refine zC ?_; intro _ _ _ _) | (refine zS ?_; intro _ _) | refine zO ?_ | (apply Ws <;> intro hg))
  exact Ends.ret2 rfl rfl ⟨rfl, rfl⟩
theorem ProvesE_fs (hH : hasH M n0 H) {xs : List Int} (hS : Sl M 1 v (ints xs)) (hx : xs.length ≤ 100000) (hE : errO xs ≠ 0) (i j k : Int) :
    FS C 31 [v, .int .i64 i, .int .i64 j, .int .i64 k] H (fun e H' => e = .int .i64 (errO xs) ∧ H' = H) := by
  have hv := hS.one_
  refine FS.intro (pf := pf31) rfl rfl rfl ?_
  repeat' (first | refine zP ?_ | refine zA ?_ | (refine zM ?_; intro _ _) | refine zX ?_ | (refine zC ?_; intro _ _ _ _) | (refine zS ?_; intro _ _) | (apply Ws <;> intro hg))
  refine WR.call (by first | exact gN | exact gS rfl) rfl rfl (Check_fs hH hS hx) ?_
  rintro _ H1 ⟨rfl, rfl⟩
  repeat' (first | refine zP ?_ | refine zA ?_ | (refine zM ?_; intro _ _) | refine zX ?_ | (refine zC ?_; intro _ _ _ _) | (refine zS ?_; intro _ _) | refine zO ?_ | (apply Ws <;> intro hg))
  exact Ends.ret1 rfl ⟨rfl, rfl⟩
theorem RProvesE_fs (hH : hasH M n0 H) {xs : List Int} (hS : Sl M 1 v (ints xs)) (hx : xs.length ≤ 100000) (hE : errO xs ≠ 0) (i j k : Int) :
    FS C 32 [v, .int .i64 i, .int .i64 j, .int .i64 k] H (fun e H' => e = .int .i64 (errO xs) ∧ H' = H) := by
  have hv := hS.one_
  refine FS.intro (pf := pf32) rfl rfl rfl ?_
  repeat' (first | refine zP ?_ | refine zA ?_ | (refine zM ?_; intro _ _) | refine zX ?_ | (refine zC ?_; intro _ _ _ _) | (refine zS ?_; intro _ _) | (apply Ws <;> intro hg))
  refine WR.call (by first | exact gN | exact gS rfl) rfl rfl (RCheck_fs hH hS hx) ?_
  rintro _ H1 ⟨rfl, rfl⟩
  repeat' (first | refine zP ?_ | refine zA ?_ | (refine zM ?_; intro _ _) | refine zX ?_ | (refine zC ?_; intro _ _ _ _) | (refine zS ?_; intro _ _) | refine zO ?_ | (apply Ws <;> intro hg))
  exact Ends.ret1 rfl ⟨rfl, rfl⟩
theorem inO.nat {o : List Nat} {a : Int} (h : inO o a) : ∃ m : Nat, a = m ∧ m < o.length := ⟨a.toNat, by unfold inO at h; omega, by unfold inO at h; omega⟩
theorem prvI_in {o : List Nat} {i j k : Nat} (hi : i < o.length) (hj : j < o.length) (hk : k < o.length) : prvI o i j k = prvE o i j k := by
  unfold prvI
  rw [if_pos (by unfold inO; omega)]
  rfl
theorem prvI_out {o : List Nat} {i j k : Int} (h : ¬ (inO o i ∧ inO o j ∧ inO o k)) : prvI o i j k = 2 := by unfold prvI; rw [if_neg h]
theorem ProvesI_fs (hH : hasH M n0 H) {o : List Nat} (hS : Sl M 1 v (nodes o)) (hO : OrdN o) (i j k : Int) :
    FS C 31 [v, .int .i64 i, .int .i64 j, .int .i64 k] H (fun e H' => H' = H ∧ e = .int .i64 (prvI o i j k)) := by
  by_cases hin : inO o i ∧ inO o j ∧ inO o k
  · obtain ⟨hi, hj, hk⟩ := hin
    obtain ⟨i, rfl, hi'⟩ := hi.nat
    obtain ⟨j, rfl, hj'⟩ := hj.nat
    obtain ⟨k, rfl, hk'⟩ := hk.nat
    rw [prvI_in hi' hj' hk']
    exact Proves_fs hH hS hO hi' hj' hk'
  · rw [prvI_out hin]
    have hv := hS.one_
    have hpl : ∀ {H : Heap} (a : Int), hasH M n0 H → FS C 67 [v, .int .i64 a] H (fun e H' => H' = H ∧ e = .bool (decide (inO o a))) := fun {H} a hH => (isPlace_fs hH (xs := IL o) (by rw [← nodes_IL]; exact hS) a).mono fun e H' h => ⟨h.1, by rw [h.2]; simp only [IL_len]; rfl⟩
    refine FS.intro (pf := pf31) rfl rfl rfl ?_
    repeat' (first | refine zP ?_ | refine zA ?_ | (refine zM ?_; intro _ _) | refine zX ?_ | (refine zC ?_; intro _ _ _ _) | (refine zS ?_; intro _ _) | (apply Ws <;> intro hg))
    refine WR.call (by first | exact gN | exact gS rfl) rfl rfl (CheckN_fs hH hS hO) ?_
    rintro _ H1 ⟨rfl, rfl⟩
    repeat' (first | refine zP ?_ | refine zA ?_ | (refine zM ?_; intro _ _) | refine zX ?_ | (refine zC ?_; intro _ _ _ _) | (refine zS ?_; intro _ _) | refine zO ?_ | (apply Ws <;> intro hg))
    refine WR.call (by first | exact gN | exact gS rfl) rfl rfl (hpl i hH) ?_
    rintro _ H2 ⟨rfl, rfl⟩
    by_cases hi : inO o i
    · rw [decide_eq_true hi]
      repeat' (first | refine zP ?_ | refine zA ?_ | (refine zM ?_; intro _ _) | refine zX ?_ | (refine zC ?_; intro _ _ _ _) | (refine zS ?_; intro _ _) | refine zO ?_ | (apply Ws <;> intro hg))
      refine WR.call (by first | exact gN | exact gS rfl) rfl rfl (hpl j hH) ?_
      rintro _ H3 ⟨rfl, rfl⟩
      by_cases hj : inO o j
      · rw [decide_eq_true hj]
        repeat' (first | refine zP ?_ | refine zA ?_ | (refine zM ?_; intro _ _) | refine zX ?_ | (refine zC ?_; intro _ _ _ _) | (refine zS ?_; intro _ _) | refine zO ?_ | (apply Ws <;> intro hg))
        refine WR.call (by first | exact gN | exact gS rfl) rfl rfl (hpl k hH) ?_
        rintro _ H4 ⟨rfl, rfl⟩
        rw [decide_eq_false fun hk => hin ⟨hi, hj, hk⟩]
        repeat' (first | refine zP ?_ | refine zA ?_ | (refine zM ?_; intro _ _) | refine zX ?_ | (refine zC ?_; intro _ _ _ _) | (refine zS ?_; intro _ _) | refine zO ?_ | (apply Ws <;> intro hg))
        exact Ends.ret1 rfl ⟨rfl, rfl⟩
      · rw [decide_eq_false hj]
        repeat' (first | refine zP ?_ | refine zA ?_ | (refine zM ?_; intro _ _) | refine zX ?_ | (refine zC ?_; intro _ _ _ _) | (refine zS ?_; intro _ _) | refine zO ?_ | (apply Ws <;> intro hg))
        exact Ends.ret1 rfl ⟨rfl, rfl⟩
    · rw [decide_eq_false hi]
      repeat' (first | refine zP ?_ | refine zA ?_ | (refine zM ?_; intro _ _) | refine zX ?_ | (refine zC ?_; intro _ _ _ _) | (refine zS ?_; intro _ _) | refine zO ?_ | (apply Ws <;> intro hg))
      exact Ends.ret1 rfl ⟨rfl, rfl⟩
set_option maxHeartbeats 1000000 in
theorem RProvesI_fs (hH : hasH M n0 H) {o : List Nat} (hS : Sl M 1 v (nodes o)) (hO : OrdN o) (i j k : Int) :
    FS C 32 [v, .int .i64 i, .int .i64 j, .int .i64 k] H (fun e H' => H' = H ∧ e = .int .i64 (prvI o i j k)) := by
  have hv := hS.one_
  have h7 := hO.most
  have h1 := hO.one
  have hpl : ∀ {H : Heap} (a : Int), FS C 69 [.int .i64 a, .int .i64 0, .int .i64 ((o.length : Int) - 1)] H (fun e H' => e = .bool (decide (inO o a)) ∧ H' = H) := fun {H} a => (rin_fs a 0 _ H).mono fun e H' h => ⟨by rw [h.1]; congr 1; rw [decide_eq_decide]; unfold inO; omega, h.2⟩
  refine FS.intro (pf := pf32) rfl rfl rfl ?_
  repeat' (first | refine zP ?_ | refine zA ?_ | (refine zM ?_; intro _ _) | refine zX ?_ | (refine zC ?_; intro _ _ _ _) | (refine zS ?_; intro _ _) | (apply Ws <;> intro hg))
  refine WR.call (by first | exact gN | exact gS rfl) rfl rfl (RCheckN_fs hH hS hO) ?_
  rintro _ H1 ⟨rfl, rfl⟩
  repeat' (first | refine zP ?_ | refine zA ?_ | (refine zM ?_; intro _ _) | refine zX ?_ | (refine zC ?_; intro _ _ _ _) | (refine zS ?_; intro _ _) | refine zO ?_ | (apply Ws <;> intro hg))
  refine WR.call (by first | exact gN | exact gS rfl) rfl rfl (hpl i) ?_
  rintro _ H2 ⟨rfl, rfl⟩
  by_cases hi : inO o i
  · rw [decide_eq_true hi]
    repeat' (first | refine zP ?_ | refine zA ?_ | (refine zM ?_; intro _ _) | refine zX ?_ | (refine zC ?_; intro _ _ _ _) | (refine zS ?_; intro _ _) | refine zO ?_ | (apply Ws <;> intro hg))
    refine WR.call (by first | exact gN | exact gS rfl) rfl rfl (hpl j) ?_
    rintro _ H3 ⟨rfl, rfl⟩
    by_cases hj : inO o j
    · rw [decide_eq_true hj]
      repeat' (first | refine zP ?_ | refine zA ?_ | (refine zM ?_; intro _ _) | refine zX ?_ | (refine zC ?_; intro _ _ _ _) | (refine zS ?_; intro _ _) | refine zO ?_ | (apply Ws <;> intro hg))
      refine WR.call (by first | exact gN | exact gS rfl) rfl rfl (hpl k) ?_
      rintro _ H4 ⟨rfl, rfl⟩
      by_cases hk : inO o k
      · rw [decide_eq_true hk]
        obtain ⟨i, rfl, hi'⟩ := hi.nat
        obtain ⟨j, rfl, hj'⟩ := hj.nat
        obtain ⟨k, rfl, hk'⟩ := hk.nat
        rw [prvI_in hi' hj' hk']
        by_cases g1 : i < j
        · by_cases g2 : j < k
          · repeat' (first | refine zP ?_ | refine zA ?_ | (refine zM ?_; intro _ _) | refine zX ?_ | (refine zC ?_; intro _ _ _ _) | (refine zS ?_; intro _ _) | refine zO ?_ | (apply Ws <;> intro hg))
            refine WR.call (by first | exact gN | exact gS rfl) rfl rfl (rbars_fs hH hS hi' hj' hk') ?_
            rintro _ H5 ⟨rfl, rfl⟩
            cases hb : barB o i j k with
            | true =>
              repeat' (first | refine zP ?_ | refine zA ?_ | (refine zM ?_; intro _ _) | refine zX ?_ | (refine zC ?_; intro _ _ _ _) | (refine zS ?_; intro _ _) | refine zO ?_ | (apply Ws <;> intro hg))
              exact Ends.ret1 rfl ⟨rfl, by rw [prvE, if_pos ⟨g1, g2⟩, if_pos hb]⟩
            | false =>
              repeat' (first | refine zP ?_ | refine zA ?_ | (refine zM ?_; intro _ _) | refine zX ?_ | (refine zC ?_; intro _ _ _ _) | (refine zS ?_; intro _ _) | refine zO ?_ | (apply Ws <;> intro hg))
              exact Ends.ret1 rfl ⟨rfl, by rw [prvE, if_pos ⟨g1, g2⟩, if_neg (by rw [hb]; decide)]⟩
          · repeat' (first | refine zP ?_ | refine zA ?_ | (refine zM ?_; intro _ _) | refine zX ?_ | (refine zC ?_; intro _ _ _ _) | (refine zS ?_; intro _ _) | refine zO ?_ | (apply Ws <;> intro hg))
            exact Ends.ret1 rfl ⟨rfl, by rw [prvE, if_neg fun h => g2 h.2]⟩
        · repeat' (first | refine zP ?_ | refine zA ?_ | (refine zM ?_; intro _ _) | refine zX ?_ | (refine zC ?_; intro _ _ _ _) | (refine zS ?_; intro _ _) | refine zO ?_ | (apply Ws <;> intro hg))
          exact Ends.ret1 rfl ⟨rfl, by rw [prvE, if_neg fun h => g1 h.1]⟩
      · rw [decide_eq_false hk, prvI_out fun h => hk h.2.2]
        repeat' (first | refine zP ?_ | refine zA ?_ | (refine zM ?_; intro _ _) | refine zX ?_ | (refine zC ?_; intro _ _ _ _) | (refine zS ?_; intro _ _) | refine zO ?_ | (apply Ws <;> intro hg))
        exact Ends.ret1 rfl ⟨rfl, rfl⟩
    · rw [decide_eq_false hj, prvI_out fun h => hj h.2.1]
      repeat' (first | refine zP ?_ | refine zA ?_ | (refine zM ?_; intro _ _) | refine zX ?_ | (refine zC ?_; intro _ _ _ _) | (refine zS ?_; intro _ _) | refine zO ?_ | (apply Ws <;> intro hg))
      exact Ends.ret1 rfl ⟨rfl, rfl⟩
  · rw [decide_eq_false hi, prvI_out fun h => hi h.1]
    repeat' (first | refine zP ?_ | refine zA ?_ | (refine zM ?_; intro _ _) | refine zX ?_ | (refine zC ?_; intro _ _ _ _) | (refine zS ?_; intro _ _) | refine zO ?_ | (apply Ws <;> intro hg))
    exact Ends.ret1 rfl ⟨rfl, rfl⟩
end
end Go.Proofs.Ytfnflkcjhefddaa.Lk

/- Pairs of numbers that are compared. -/
namespace Go.Abs
set_option linter.unusedSectionVars false
variable [Globs]
open Go
set_option linter.unusedSimpArgs false
structure Arr2 (P : Program) (t e : TypeId) : Prop where
  u : P.underlying e = some (.int .i64)
  a : P.underlying t = some (.array 2 e)
  s : pureRun P (sizeOf e) = some 1
  p : ∀ (x y : Int), pureRun P (part e #[.int .i64 x, .int .i64 y] (0 * 1)) = some (.int .i64 x) ∧ pureRun P (part e #[.int .i64 x, .int .i64 y] (1 * 1)) = some (.int .i64 y)
  g : ∀ (x y : Operand) (a b : Array Value), pureRun P (eqGuard .neq t x y (.agg a) (.agg b)) = some ()
section
variable {C : CW} {L : Env} {H : Heap}
end
section
variable {C : CW} {L : Env} {H : Heap}
theorem OpV.eqB {dst : Option Tmp} {x y : Operand} {ty ty2 ty3 : TypeId} {pos : String} {af : Array Edge} {g : Option (Nat × Bool)} {a b : Bool} (e2 : pureRun C.c.P (binOp .eql ty (.bool a) (.bool b)) = some (.bool (a == b))) (hx : ev L x = some (.bool a)) (hy : ev L y = some (.bool b)) :
    OpV C (.plain ⟨dst, .binOp .eql ty x y ty2, ty3, pos, af, g⟩) L H (.bool (a == b)) H := by
  refine OpV.plain (fun t ht => ?_) (fun t ht => by simp [Op.operands, ev_ok ht hx, ev_ok ht hy, plainV, plain1]) rfl
  have e1 : pureRun C.c.P (eqGuard .eql ty x y (.bool a) (.bool b)) = some () := rfl
  simp only [pureNext, execOp, ev_ok ht hx, ev_ok ht hy, pureRun_bind, e1, e2, Option.bind_some]
  rfl
end
end Go.Abs

/- The law LockSorts. -/
namespace Go.Proofs.Ytfnflkcjhefddaa.Lk
open Go Go.Abs Go.Mth
set_option linter.unusedVariables false
set_option linter.unusedSimpArgs false
theorem eqBs {a b : Bool} {L : Env} {H : Heap} {dst : Option Tmp} {x y : Operand} {ty2 : TypeId} {pos : String} {af : Array Edge} {g : Option (Nat × Bool)} (hx : ev L x = some (.bool a)) (hy : ev L y = some (.bool b)) :
    OpV C (.plain ⟨dst, .binOp .eql 4 x y 4, ty2, pos, af, g⟩) L H (.bool (a == b)) H := OpV.eqB (by cases a <;> cases b <;> kernel_rfl) hx hy
attribute [local irreducible] gOK WS WC WR WD Ends FS YS OpV seqK blockK loopK midK retK rdK asgK rangeEnd sat Cell
section
variable {M : HL} {n0 : Nat} {H : Heap} {v w : Value}
set_option maxHeartbeats 2000000 in
theorem LockSorts_fs (hH : hasH M n0 H) {xs : List Int} (hS : Sl M 1 v (ints xs)) (i j k : Int) :
    FS C 4 [v, .int .i64 i, .int .i64 j, .int .i64 k] H (fun e H' => e = .bool true) := by
  have hv := hS.one_
  have hfin : ∀ {H' : Heap}, FS C 15 [] H' (fun e H'' => e = .bool true ∧ H'' = H') := fun {H'} => FS.works ⟨rfl, rfl⟩
  refine FS.intro (pf := pf4) rfl rfl rfl ?_
  by_cases h60 : 60 < xs.length
  · repeat' (first | refine zP ?_ | refine zA ?_ | (refine zM ?_; intro _ _) | refine zX ?_ | (refine zC ?_; intro _ _ _ _) | (refine zS ?_; intro _ _) | refine zO ?_ | (apply Ws <;> intro hg))
    refine WR.call (by first | exact gN | exact gS rfl) rfl rfl hfin ?_
    rintro _ _ ⟨rfl, rfl⟩
    repeat' (first | refine zP ?_ | refine zA ?_ | (refine zM ?_; intro _ _) | refine zX ?_ | (refine zC ?_; intro _ _ _ _) | (refine zS ?_; intro _ _) | (apply Ws <;> intro hg))
    exact Ends.ret1 rfl rfl
  · have hx : xs.length ≤ 100000 := by omega
    by_cases hE : errO xs = 0
    · obtain ⟨o, rfl, hO⟩ := errO_zero hE
      rw [← nodes_IL] at hS
      rw [IL_len] at h60
      have hle : (IL o).length = o.length := IL_len o
      clear hE
      repeat' (first | refine zP ?_ | refine zA ?_ | (refine zM ?_; intro _ _) | refine zX ?_ | (refine zC ?_; intro _ _ _ _) | (refine zS ?_; intro _ _) | refine zO ?_ | (apply Ws <;> intro hg))
      refine WR.call (by first | exact gN | exact gS rfl) rfl rfl (Sorted_fs hH hS hO) ?_
      rintro _ H1 ⟨n1, rfl, hn1, hH1⟩
      repeat' (first | refine zP ?_ | refine zA ?_ | (refine zM ?_; intro _ _) | refine zX ?_ | (refine zC ?_; intro _ _ _ _) | (refine zS ?_; intro _ _) | refine zO ?_ | (apply Ws <;> intro hg))
      refine WR.call (by first | exact gN | exact gS rfl) rfl rfl (RSorted_fs hH1 hS hO) ?_
      rintro _ H2 ⟨rfl, rfl⟩
      generalize ascT o (List.replicate o.length 0) = b
      repeat' (first | refine zP ?_ | refine zA ?_ | (refine zM ?_; intro _ _) | refine zX ?_ | (refine zC ?_; intro _ _ _ _) | (refine zS ?_; intro _ _) | refine zO ?_ | (apply Ws <;> intro hg))
      refine WR.call (by first | exact gN | exact gS rfl) rfl rfl (Why_fs hH1 hS hO) ?_
      rintro _ H3 ⟨rfl, a1, a2, a3, a4, hW1, rfl⟩
      repeat' (first | refine zP ?_ | refine zA ?_ | (refine zM ?_; intro _ _) | refine zX ?_ | (refine zC ?_; intro _ _ _ _) | (refine zS ?_; intro _ _) | refine zO ?_ | (apply Ws <;> intro hg))
      refine WR.call (by first | exact gN | exact gS rfl) rfl rfl (RWhy_fs hH1 hS hO) ?_
      rintro _ H4 ⟨rfl, b1, b2, b3, b4, hW2, rfl⟩
      obtain ⟨rfl, rfl, rfl, rfl⟩ := hW1.uniq hW2
      clear hW1 hW2
      repeat' (first | refine zP ?_ | refine zA ?_ | (refine zM ?_; intro _ _) | refine zX ?_ | (refine zC ?_; intro _ _ _ _) | (refine zS ?_; intro _ _) | refine zO ?_ | (apply Ws <;> intro hg))
      refine WR.call (by first | exact gN | exact gS rfl) rfl rfl (Passes_fs hH1 hS hO) ?_
      rintro _ H5 ⟨p1, n5, rfl, hP1, hn5, hH5⟩
      repeat' (first | refine zP ?_ | refine zA ?_ | (refine zM ?_; intro _ _) | refine zX ?_ | (refine zC ?_; intro _ _ _ _) | (refine zS ?_; intro _ _) | refine zO ?_ | (apply Ws <;> intro hg))
      refine WR.call (by first | exact gN | exact gS rfl) rfl rfl (RPasses_fs hH5 hS hO) ?_
      rintro _ H6 ⟨p2, n6, rfl, hP2, hn6, hH6⟩
      obtain rfl := hP1.unique hP2
      repeat' (first | refine zP ?_ | refine zA ?_ | (refine zM ?_; intro _ _) | refine zX ?_ | (refine zC ?_; intro _ _ _ _) | (refine zS ?_; intro _ _) | (apply Ws <;> intro hg))
      refine WR.op (by first | exact gN | exact gS rfl) rfl (eqBs rfl rfl) ?_
      rw [beq_self_eq_true]
      repeat' (first | refine zP ?_ | refine zA ?_ | (refine zM ?_; intro _ _) | refine zX ?_ | (refine zC ?_; intro _ _ _ _) | (refine zS ?_; intro _ _) | refine zO ?_ | (apply Ws <;> intro hg))
      refine WR.call (by first | exact gN | exact gS rfl) rfl rfl (ProvesI_fs hH6 hS hO i j k) ?_
      rintro _ H7 ⟨rfl, rfl⟩
      repeat' (first | refine zP ?_ | refine zA ?_ | (refine zM ?_; intro _ _) | refine zX ?_ | (refine zC ?_; intro _ _ _ _) | (refine zS ?_; intro _ _) | refine zO ?_ | (apply Ws <;> intro hg))
      refine WR.call (by first | exact gN | exact gS rfl) rfl rfl (RProvesI_fs hH6 hS hO i j k) ?_
      rintro _ H8 ⟨rfl, rfl⟩
      generalize prvI o i j k = z
      repeat' (first | refine zP ?_ | refine zA ?_ | (refine zM ?_; intro _ _) | refine zX ?_ | (refine zC ?_; intro _ _ _ _) | (refine zS ?_; intro _ _) | refine zO ?_ | (apply Ws <;> intro hg))
      refine WR.call (by first | exact gN | exact gS rfl) rfl rfl hfin ?_
      rintro _ _ ⟨rfl, rfl⟩
      repeat' (first | refine zP ?_ | refine zA ?_ | (refine zM ?_; intro _ _) | refine zX ?_ | (refine zC ?_; intro _ _ _ _) | (refine zS ?_; intro _ _) | (apply Ws <;> intro hg))
      exact Ends.ret1 rfl rfl
    · repeat' (first | refine zP ?_ | refine zA ?_ | (refine zM ?_; intro _ _) | refine zX ?_ | (refine zC ?_; intro _ _ _ _) | (refine zS ?_; intro _ _) | refine zO ?_ | (apply Ws <;> intro hg))
      refine WR.call (by first | exact gN | exact gS rfl) rfl rfl (SortedE_fs hH hS hx hE) ?_
      rintro _ H1 ⟨rfl, rfl⟩
      repeat' (first | refine zP ?_ | refine zA ?_ | (refine zM ?_; intro _ _) | refine zX ?_ | (refine zC ?_; intro _ _ _ _) | (refine zS ?_; intro _ _) | refine zO ?_ | (apply Ws <;> intro hg))
      refine WR.call (by first | exact gN | exact gS rfl) rfl rfl (RSortedE_fs hH hS hx hE) ?_
      rintro _ H2 ⟨rfl, rfl⟩
      repeat' (first | refine zP ?_ | refine zA ?_ | (refine zM ?_; intro _ _) | refine zX ?_ | (refine zC ?_; intro _ _ _ _) | (refine zS ?_; intro _ _) | refine zO ?_ | (apply Ws <;> intro hg))
      refine WR.call (by first | exact gN | exact gS rfl) rfl rfl (WhyE_fs hH hS hx hE) ?_
      rintro _ H3 ⟨rfl, rfl⟩
      repeat' (first | refine zP ?_ | refine zA ?_ | (refine zM ?_; intro _ _) | refine zX ?_ | (refine zC ?_; intro _ _ _ _) | (refine zS ?_; intro _ _) | refine zO ?_ | (apply Ws <;> intro hg))
      refine WR.call (by first | exact gN | exact gS rfl) rfl rfl (RWhyE_fs hH hS hx hE) ?_
      rintro _ H4 ⟨rfl, rfl⟩
      repeat' (first | refine zP ?_ | refine zA ?_ | (refine zM ?_; intro _ _) | refine zX ?_ | (refine zC ?_; intro _ _ _ _) | (refine zS ?_; intro _ _) | refine zO ?_ | (apply Ws <;> intro hg))
      refine WR.call (by first | exact gN | exact gS rfl) rfl rfl (PassesE_fs hH hS hx hE) ?_
      rintro _ H5 ⟨rfl, rfl⟩
      repeat' (first | refine zP ?_ | refine zA ?_ | (refine zM ?_; intro _ _) | refine zX ?_ | (refine zC ?_; intro _ _ _ _) | (refine zS ?_; intro _ _) | refine zO ?_ | (apply Ws <;> intro hg))
      refine WR.call (by first | exact gN | exact gS rfl) rfl rfl (RPassesE_fs hH hS hx hE) ?_
      rintro _ H6 ⟨rfl, rfl⟩
      repeat' (first | refine zP ?_ | refine zA ?_ | (refine zM ?_; intro _ _) | refine zX ?_ | (refine zC ?_; intro _ _ _ _) | (refine zS ?_; intro _ _) | (apply Ws <;> intro hg))
      refine WR.op (by first | exact gN | exact gS rfl) rfl (eqBs rfl rfl) ?_
      rw [beq_self_eq_true]
      repeat' (first | refine zP ?_ | refine zA ?_ | (refine zM ?_; intro _ _) | refine zX ?_ | (refine zC ?_; intro _ _ _ _) | (refine zS ?_; intro _ _) | refine zO ?_ | (apply Ws <;> intro hg))
      refine WR.call (by first | exact gN | exact gS rfl) rfl rfl (ProvesE_fs hH hS hx hE i j k) ?_
      rintro _ H7 ⟨rfl, rfl⟩
      repeat' (first | refine zP ?_ | refine zA ?_ | (refine zM ?_; intro _ _) | refine zX ?_ | (refine zC ?_; intro _ _ _ _) | (refine zS ?_; intro _ _) | refine zO ?_ | (apply Ws <;> intro hg))
      refine WR.call (by first | exact gN | exact gS rfl) rfl rfl (RProvesE_fs hH hS hx hE i j k) ?_
      rintro _ H8 ⟨rfl, rfl⟩
      repeat' (first | refine zP ?_ | refine zA ?_ | (refine zM ?_; intro _ _) | refine zX ?_ | (refine zC ?_; intro _ _ _ _) | (refine zS ?_; intro _ _) | refine zO ?_ | (apply Ws <;> intro hg))
      refine WR.call (by first | exact gN | exact gS rfl) rfl rfl hfin ?_
      rintro _ _ ⟨rfl, rfl⟩
      repeat' (first | refine zP ?_ | refine zA ?_ | (refine zM ?_; intro _ _) | refine zX ?_ | (refine zC ?_; intro _ _ _ _) | (refine zS ?_; intro _ _) | (apply Ws <;> intro hg))
      exact Ends.ret1 rfl rfl
end
end Go.Proofs.Ytfnflkcjhefddaa.Lk
