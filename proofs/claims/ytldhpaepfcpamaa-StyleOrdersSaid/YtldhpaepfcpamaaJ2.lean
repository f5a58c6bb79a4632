/- Texts of the law, joined. -/
import Derived.Test.YtldhpaepfcpamaaJ1
namespace Go.Proofs.Ytldhpaepfcpamaa.St
open Go Go.Abs Go.Mth
set_option linter.unusedVariables false
set_option linter.unusedSimpArgs false
attribute [local irreducible] gOK WS WC WR WD Ends FS YS OpV seqK blockK loopK midK retK rdK asgK rangeEnd sat Cell

def bitF (l o : List Int) (i : Nat) : Bool := decide (o.getD i 0 ∈ l)

section
variable {M : HL} {n0 : Nat} {H : Heap} {v w : Value} {fs : List (List Int)} {l o : List Int} {n : Int}

theorem ordered_fs (hH : hasH M n0 H) (hR : RowsI M v fs) (hl : fs.length ≤ 1000) (hll : ∀ l ∈ fs, l.length ≤ 1000) (hO : Sl M 1 w (ints o)) (hol : o.length ≤ 1000) (n : Int) :
    FS C 63 [.agg #[.int .i64 n, v], w] H (fun e H' => e = .int .i64 (bothE n fs o) ∧ ∃ n', n0 ≤ n' ∧ hasH M n' H') := by
  have h1 := hR.one_
  refine FS.intro (pf := pf63) rfl rfl rfl ?_
  repeat' (first | refine zA ?_ | (refine zM ?_; intro _ _) | refine zX ?_ | (refine zC ?_; intro _ _ _ _) | (refine zS ?_; intro _ _))
  rename_i H1 hH1
  have hR1 : RowsI ((n0, .row 28 0 0 [.int .i64 n, v]) :: M) v fs := hR.cons
  have hO1 : Sl ((n0, .row 28 0 0 [.int .i64 n, v]) :: M) 1 w (ints o) := hO.cons
  have hm1 : (n0, Ch.row 28 0 0 [.int .i64 n, v]) ∈ (n0, Ch.row 28 0 0 [.int .i64 n, v]) :: M := .head _
  have hback : ∀ {n' : Nat} {H' : Heap}, hasH ((n0, Ch.row 28 0 0 [.int .i64 n, v]) :: M) n' H' → hasH M n' H' := fun h => h.tail
  generalize (n0, Ch.row 28 0 0 [.int .i64 n, v]) :: M = T at hH1 hR1 hO1 hm1 hback
  refine WR.call (by first | exact gN | exact gS rfl) rfl rfl (CheckR_fs hH1 hR1 hl hll n) ?_
  rintro _ H2 ⟨rfl, n2, hn2, hH2⟩
  clear hH1
  by_cases hc : findsE n fs = 0
  · by_cases hlen : (o.length : Int) = n
    · have hE : bothE n fs o = firstE (orderAt n o) o.length := by rw [bothE, if_neg (by omega), if_neg (by omega)]
      repeat' (first | refine zA ?_ | (refine zM ?_; intro _ _) | refine zX ?_ | (refine zC ?_; intro _ _ _ _) | (refine zS ?_; intro _ _) | refine zO ?_ | (apply Ws <;> intro hg))
      refine WC.loopX [(1, _), (2, _)] (fun k : Nat => [(6, .int .i64 (k : Int))]) [] (fun k H' => hasH T n2 H' ∧ k ≤ o.length ∧ firstE (orderAt n o) k = 0) (fun k => o.length - k) 0 (by repeat' (first | exact .nil | refine .cons rfl ?_)) rfl ⟨hH2, Nat.zero_le _, rfl⟩ ?_
      clear hH2
      rintro k H3 ⟨hH2, hk, hno⟩
      dsimp only [List.cons_append, List.nil_append]
      repeat' (first | refine zA ?_ | (refine zM ?_; intro _ _) | refine zX ?_ | (refine zC ?_; intro _ _ _ _) | (refine zS ?_; intro _ _) | (apply Ws <;> intro hg))
      refine WC.condP rfl (fun hlt => ?_) (fun hlt => ?_)
      · have hk' : k < o.length := by omega
        repeat' (first | refine zA ?_ | (refine zM ?_; intro _ _) | refine zX ?_ | (refine zC ?_; intro _ _ _ _) | (refine zS ?_; intro _ _) | (apply Ws <;> intro hg))
        refine WR.call (by first | exact gN | exact gS rfl) rfl rfl (in_fs _ _ _ _) ?_
        rintro _ _ ⟨rfl, rfl⟩
        by_cases h1 : 0 ≤ o.getD k 0 ∧ o.getD k 0 < n
        · rw [decide_eq_true (show 0 ≤ o.getD k 0 ∧ o.getD k 0 ≤ n - 1 by omega)]
          repeat' (first | refine zA ?_ | (refine zM ?_; intro _ _) | refine zX ?_ | (refine zC ?_; intro _ _ _ _) | (refine zS ?_; intro _ _) | refine zO ?_ | (apply Ws <;> intro hg))
          refine WR.cutHi (by first | exact gN | exact gS rfl) rfl rfl hO1 rfl hk fun v' hS' => ?_
          repeat' (first | refine zA ?_ | (refine zM ?_; intro _ _) | refine zX ?_ | (refine zC ?_; intro _ _ _ _) | (refine zS ?_; intro _ _) | refine zO ?_ | (apply Ws <;> intro hg))
          refine WR.call (by first | exact gN | exact gS rfl) rfl rfl (hasR_fs hH2 hS' (by simp; omega) _) ?_
          rintro _ H4 ⟨rfl, rfl⟩
          by_cases hin : o.getD k 0 ∈ o.take k
          · rw [decide_eq_true hin]
            repeat' (first | refine zA ?_ | (refine zM ?_; intro _ _) | refine zX ?_ | (refine zC ?_; intro _ _ _ _) | (refine zS ?_; intro _ _) | refine zO ?_ | (apply Ws <;> intro hg))
            have : orderAt n o k = 6 := by rw [orderAt, if_neg (by omega), if_pos hin]
            exact Ends.ret1 rfl ⟨by rw [hE, firstE_at hno (by rw [this]; decide) hk', this], n2, by omega, hback hH2⟩
          · rw [decide_eq_false hin]
            repeat' (first | refine zA ?_ | (refine zM ?_; intro _ _) | refine zX ?_ | (refine zC ?_; intro _ _ _ _) | (refine zS ?_; intro _ _) | refine zO ?_ | (apply Ws <;> intro hg))
            have : orderAt n o k = 0 := by rw [orderAt, if_neg (by omega), if_neg hin]
            exact Ends.loop (k + 1) (by omega) (by repeat' (first | exact .nil | refine .cons rfl ?_)) rfl ⟨hH2, hk', firstE_succ hno this⟩
        · have : orderAt n o k = 2 := by rw [orderAt, if_pos h1]
          rw [decide_eq_false (show ¬ (0 ≤ o.getD k 0 ∧ o.getD k 0 ≤ n - 1) by omega)]
          repeat' (first | refine zA ?_ | (refine zM ?_; intro _ _) | refine zX ?_ | (refine zC ?_; intro _ _ _ _) | (refine zS ?_; intro _ _) | refine zO ?_ | (apply Ws <;> intro hg))
          exact Ends.ret1 rfl ⟨by rw [hE, firstE_at hno (by rw [this]; decide) hk', this], n2, by omega, hback hH2⟩
      · have hkl : k = o.length := by omega
        subst hkl
        repeat' (first | refine zA ?_ | (refine zM ?_; intro _ _) | refine zX ?_ | (refine zC ?_; intro _ _ _ _) | (refine zS ?_; intro _ _) | (apply Ws <;> intro hg))
        exact Ends.ret1 rfl ⟨by rw [hE, hno], n2, by omega, hback hH2⟩
    · repeat' (first | refine zA ?_ | (refine zM ?_; intro _ _) | refine zX ?_ | (refine zC ?_; intro _ _ _ _) | (refine zS ?_; intro _ _) | refine zO ?_ | (apply Ws <;> intro hg))
      exact Ends.ret1 rfl ⟨by rw [bothE, if_neg (by omega), if_pos hlen], n2, by omega, hback hH2⟩
  · repeat' (first | refine zA ?_ | (refine zM ?_; intro _ _) | refine zX ?_ | (refine zC ?_; intro _ _ _ _) | (refine zS ?_; intro _ _) | refine zO ?_ | (apply Ws <;> intro hg))
    exact Ends.ret1 rfl ⟨by rw [bothE, if_pos hc], n2, by omega, hback hH2⟩

theorem runs_fs (hH : hasH M n0 H) (hS : Sl M 1 v (ints l)) (hl : l.length ≤ 1000) (hO : Sl M 1 w (ints o)) (hol : o.length ≤ 1000) :
    FS C 66 [v, w] H (fun e H' => e = .int .i64 (RN (bitF l o) o.length : Int) ∧ H' = H) := by
  refine FS.intro (pf := pf66) rfl rfl rfl ?_
  repeat' (first | refine zA ?_ | (refine zM ?_; intro _ _) | refine zX ?_ | (refine zC ?_; intro _ _ _ _) | (refine zS ?_; intro _ _) | (apply Ws <;> intro hg))
  refine WC.loopX [(0, _), (1, _)] (fun k : Nat => [(5, .int .i64 (RN (bitF l o) k : Int)), (6, .int .i64 (k : Int))]) [] (fun k H' => H' = H ∧ k ≤ o.length) (fun k => o.length - k) 0 (by repeat' (first | exact .nil | refine .cons rfl ?_)) rfl ⟨rfl, Nat.zero_le _⟩ ?_
  rintro k _ ⟨rfl, hk⟩
  dsimp only [List.cons_append, List.nil_append]
  repeat' (first | refine zA ?_ | (refine zM ?_; intro _ _) | refine zX ?_ | (refine zC ?_; intro _ _ _ _) | (refine zS ?_; intro _ _) | (apply Ws <;> intro hg))
  refine WC.condP rfl (fun hlt => ?_) (fun hlt => ?_)
  · have hk' : k < o.length := by omega
    have hrk := RN_le (bitF l o) k
    repeat' (first | refine zA ?_ | (refine zM ?_; intro _ _) | refine zX ?_ | (refine zC ?_; intro _ _ _ _) | (refine zS ?_; intro _ _) | (apply Ws <;> intro hg))
    refine WR.call (by first | exact gN | exact gS rfl) rfl rfl (hasR_fs hH hS (by omega) _) ?_
    rintro _ _ ⟨rfl, rfl⟩
    by_cases hb : o.getD k 0 ∈ l
    · have hbt : bitF l o k = true := decide_eq_true hb
      rw [decide_eq_true hb]
      by_cases h0 : k = 0
      · have hr : RN (bitF l o) (k + 1) = RN (bitF l o) k + 1 := by rw [RN, if_pos ⟨hbt, .inl h0⟩]
        repeat' (first | refine zA ?_ | (refine zM ?_; intro _ _) | refine zX ?_ | (refine zC ?_; intro _ _ _ _) | (refine zS ?_; intro _ _) | refine zO ?_ | (apply Ws <;> intro hg))
        have hr' : ((RN (bitF l o) k : Nat) : Int) + 1 = ((RN (bitF l o) (k + 1) : Nat) : Int) := by omega
        rw [hr']
        exact Ends.loop (k + 1) (by omega) (by repeat' (first | exact .nil | refine .cons rfl ?_)) rfl ⟨rfl, hk'⟩
      · repeat' (first | refine zA ?_ | (refine zM ?_; intro _ _) | refine zX ?_ | (refine zC ?_; intro _ _ _ _) | (refine zS ?_; intro _ _) | refine zO ?_ | (apply Ws <;> intro hg))
        refine WR.call (by first | exact gN | exact gS rfl) rfl rfl (hasR_fs hH hS (by omega) _) ?_
        rintro _ _ ⟨rfl, rfl⟩
        by_cases hp : o.getD (k - 1) 0 ∈ l
        · have hpt : bitF l o (k - 1) = true := decide_eq_true hp
          have hr : RN (bitF l o) (k + 1) = RN (bitF l o) k := by
            rw [RN, if_neg]
            · rfl
            · rintro ⟨_, h | h⟩
              · exact h0 h
              · rw [hpt] at h; cases h
          rw [decide_eq_true hp]
          repeat' (first | refine zA ?_ | (refine zM ?_; intro _ _) | refine zX ?_ | (refine zC ?_; intro _ _ _ _) | (refine zS ?_; intro _ _) | refine zO ?_ | (apply Ws <;> intro hg))
          rw [← hr]
          exact Ends.loop (k + 1) (by omega) (by repeat' (first | exact .nil | refine .cons rfl ?_)) rfl ⟨rfl, hk'⟩
        · have hpt : bitF l o (k - 1) = false := decide_eq_false hp
          have hr : RN (bitF l o) (k + 1) = RN (bitF l o) k + 1 := by rw [RN, if_pos ⟨hbt, .inr hpt⟩]
          rw [decide_eq_false hp]
          repeat' (first | refine zA ?_ | (refine zM ?_; intro _ _) | refine zX ?_ | (refine zC ?_; intro _ _ _ _) | (refine zS ?_; intro _ _) | refine zO ?_ | (apply Ws <;> intro hg))
          have hr' : ((RN (bitF l o) k : Nat) : Int) + 1 = ((RN (bitF l o) (k + 1) : Nat) : Int) := by omega
          rw [hr']
          exact Ends.loop (k + 1) (by omega) (by repeat' (first | exact .nil | refine .cons rfl ?_)) rfl ⟨rfl, hk'⟩
    · have hbt : bitF l o k = false := decide_eq_false hb
      have hr : RN (bitF l o) (k + 1) = RN (bitF l o) k := by rw [RN, hbt]; simp
      rw [decide_eq_false hb]
      repeat' (first | refine zA ?_ | (refine zM ?_; intro _ _) | refine zX ?_ | (refine zC ?_; intro _ _ _ _) | (refine zS ?_; intro _ _) | refine zO ?_ | (apply Ws <;> intro hg))
      rw [← hr]
      exact Ends.loop (k + 1) (by omega) (by repeat' (first | exact .nil | refine .cons rfl ?_)) rfl ⟨rfl, hk'⟩
  · have hkl : k = o.length := by omega
    subst hkl
    repeat' (first | refine zA ?_ | (refine zM ?_; intro _ _) | refine zX ?_ | (refine zC ?_; intro _ _ _ _) | (refine zS ?_; intro _ _) | (apply Ws <;> intro hg))
    exact Ends.ret1 rfl ⟨rfl, rfl⟩

theorem fits_fs (hH : hasH M n0 H) (hR : RowsI M v fs) (hl : fs.length ≤ 1000) (hll : ∀ l ∈ fs, l.length ≤ 1000) (hO : Sl M 1 w (ints o)) (hol : o.length ≤ 1000) :
    FS C 64 [v, w] H (fun e H' => ∃ b, e = .bool b ∧ H' = H ∧ (b = true ↔ ∀ i, i < fs.length → RN (bitF (fs.getD i []) o) o.length = 1)) := by
  obtain ⟨vs, hSv, hvl, hvs⟩ := hR
  refine FS.intro (pf := pf64) rfl rfl rfl ?_
  repeat' (first | refine zA ?_ | (refine zM ?_; intro _ _) | refine zX ?_ | (refine zC ?_; intro _ _ _ _) | (refine zS ?_; intro _ _) | (apply Ws <;> intro hg))
  refine WC.loopX [(0, _), (1, _)] (fun k : Nat => [(5, .int .i64 (k : Int))]) [] (fun k H' => H' = H ∧ k ≤ fs.length ∧ ∀ i, i < k → RN (bitF (fs.getD i []) o) o.length = 1) (fun k => fs.length - k) 0 (by repeat' (first | exact .nil | refine .cons rfl ?_)) rfl ⟨rfl, Nat.zero_le _, fun i hi => absurd hi (Nat.not_lt_zero _)⟩ ?_
  rintro k _ ⟨rfl, hk, hno⟩
  dsimp only [List.cons_append, List.nil_append]
  repeat' (first | refine zA ?_ | (refine zM ?_; intro _ _) | refine zX ?_ | (refine zC ?_; intro _ _ _ _) | (refine zS ?_; intro _ _) | (apply Ws <;> intro hg))
  refine WC.condP rfl (fun hlt => ?_) (fun hlt => ?_)
  · have hk' : k < fs.length := by omega
    have hSk := hvs k hk'
    repeat' (first | refine zA ?_ | (refine zM ?_; intro _ _) | refine zX ?_ | (refine zC ?_; intro _ _ _ _) | (refine zS ?_; intro _ _) | (apply Ws <;> intro hg))
    refine WR.call (by first | exact gN | exact gS rfl) rfl rfl (runs_fs hH hSk (hll _ (getD_mem hk')) hO hol) ?_
    rintro _ _ ⟨rfl, rfl⟩
    repeat' (first | refine zA ?_ | (refine zM ?_; intro _ _) | refine zX ?_ | (refine zC ?_; intro _ _ _ _) | (refine zS ?_; intro _ _) | (apply Ws <;> intro hg))
    refine WC.condP rfl (fun hne => ?_) (fun hne => ?_)
    · repeat' (first | refine zA ?_ | (refine zM ?_; intro _ _) | refine zX ?_ | (refine zC ?_; intro _ _ _ _) | (refine zS ?_; intro _ _) | (apply Ws <;> intro hg))
      exact Ends.ret1 rfl ⟨_, rfl, rfl, fun h => (by cases h), fun h => absurd (h k hk') (by omega)⟩
    · repeat' (first | refine zA ?_ | (refine zM ?_; intro _ _) | refine zX ?_ | (refine zC ?_; intro _ _ _ _) | (refine zS ?_; intro _ _) | (apply Ws <;> intro hg))
      exact Ends.loop (k + 1) (by omega) (by repeat' (first | exact .nil | refine .cons rfl ?_)) rfl ⟨rfl, hk', fun i hi => by
        rcases Nat.lt_or_ge i k with h1 | h1
        · exact hno i h1
        · have : i = k := by omega
          subst this; omega⟩
  · have hkl : k = fs.length := by omega
    subst hkl
    repeat' (first | refine zA ?_ | (refine zM ?_; intro _ _) | refine zX ?_ | (refine zC ?_; intro _ _ _ _) | (refine zS ?_; intro _ _) | (apply Ws <;> intro hg))
    exact Ends.ret1 rfl ⟨_, rfl, rfl, fun _ => hno, fun _ => rfl⟩

theorem WholeR_fs (hH : hasH M n0 H) (hR : RowsI M v fs) (hl : fs.length ≤ 1000) (hll : ∀ l ∈ fs, l.length ≤ 1000) (hO : Sl M 1 w (ints o)) (hol : o.length ≤ 1000) (n : Int) :
    FS C 17 [.agg #[.int .i64 n, v], w] H (fun e H' => ∃ b, e = .tuple #[.bool b, .int .i64 (bothE n fs o)] ∧ (∃ n', n0 ≤ n' ∧ hasH M n' H') ∧ (bothE n fs o ≠ 0 → b = false) ∧ (bothE n fs o = 0 → (b = true ↔ ∀ i, i < fs.length → RN (bitF (fs.getD i []) o) o.length = 1))) := by
  have h1 := hR.one_
  refine FS.intro (pf := pf17) rfl rfl rfl ?_
  repeat' (first | refine zA ?_ | (refine zM ?_; intro _ _) | refine zX ?_ | (refine zC ?_; intro _ _ _ _) | (refine zS ?_; intro _ _))
  rename_i H1 hH1
  have hR1 : RowsI ((n0, .row 28 0 0 [.int .i64 n, v]) :: M) v fs := hR.cons
  have hO1 : Sl ((n0, .row 28 0 0 [.int .i64 n, v]) :: M) 1 w (ints o) := hO.cons
  have hm1 : (n0, Ch.row 28 0 0 [.int .i64 n, v]) ∈ (n0, Ch.row 28 0 0 [.int .i64 n, v]) :: M := .head _
  have hback : ∀ {n' : Nat} {H' : Heap}, hasH ((n0, Ch.row 28 0 0 [.int .i64 n, v]) :: M) n' H' → hasH M n' H' := fun h => h.tail
  generalize (n0, Ch.row 28 0 0 [.int .i64 n, v]) :: M = T at hH1 hR1 hO1 hm1 hback
  refine WR.call (by first | exact gN | exact gS rfl) rfl rfl (ordered_fs hH1 hR1 hl hll hO1 hol n) ?_
  rintro _ H2 ⟨rfl, n2, hn2, hH2⟩
  clear hH1
  repeat' (first | refine zA ?_ | (refine zM ?_; intro _ _) | refine zX ?_ | (refine zC ?_; intro _ _ _ _) | (refine zS ?_; intro _ _) | (apply Ws <;> intro hg))
  refine WC.condP rfl (fun hne => ?_) (fun hne => ?_)
  · repeat' (first | refine zA ?_ | (refine zM ?_; intro _ _) | refine zX ?_ | (refine zC ?_; intro _ _ _ _) | (refine zS ?_; intro _ _) | (apply Ws <;> intro hg))
    exact Ends.ret2 rfl rfl ⟨_, rfl, ⟨n2, by omega, hback hH2⟩, fun _ => rfl, fun h => absurd h hne⟩
  have he0 : bothE n fs o = 0 := Decidable.not_not.1 hne
  repeat' (first | refine zA ?_ | (refine zM ?_; intro _ _) | refine zX ?_ | (refine zC ?_; intro _ _ _ _) | (refine zS ?_; intro _ _) | (apply Ws <;> intro hg))
  refine WR.call (by first | exact gN | exact gS rfl) rfl rfl (fits_fs hH2 hR1 hl hll hO1 hol) ?_
  rintro _ H3 ⟨b, rfl, rfl, hb⟩
  repeat' (first | refine zA ?_ | (refine zM ?_; intro _ _) | refine zX ?_ | (refine zC ?_; intro _ _ _ _) | (refine zS ?_; intro _ _) | (apply Ws <;> intro hg))
  exact Ends.ret2 rfl rfl ⟨b, by rw [he0], ⟨n2, by omega, hback hH2⟩, fun h => absurd he0 h, fun _ => hb⟩

def gsumF (fs : List (List Int)) (o : List Int) : Nat → Int
  | 0 => 0
  | k + 1 => gsumF fs o k + ((RN (bitF (fs.getD k []) o) o.length : Int) - 1)
theorem gsumF_bd {fs : List (List Int)} {o : List Int} (ho : o.length ≤ 1000) : ∀ k : Nat, -(k : Int) ≤ gsumF fs o k ∧ gsumF fs o k ≤ k * 1000
  | 0 => by simp [gsumF]
  | k + 1 => by
    have h1 := gsumF_bd (fs := fs) (o := o) ho k
    have h2 := RN_le (bitF (fs.getD k []) o) o.length
    rw [gsumF]
    omega

theorem GapsR_fs (hH : hasH M n0 H) (hR : RowsI M v fs) (hl : fs.length ≤ 1000) (hll : ∀ l ∈ fs, l.length ≤ 1000) (hO : Sl M 1 w (ints o)) (hol : o.length ≤ 1000) (n : Int) :
    FS C 19 [.agg #[.int .i64 n, v], w] H (fun e H' => e = .tuple #[.int .i64 (if bothE n fs o = 0 then gsumF fs o fs.length else 0), .int .i64 (bothE n fs o)] ∧ ∃ n', n0 ≤ n' ∧ hasH M n' H') := by
  have h1 := hR.one_
  refine FS.intro (pf := pf19) rfl rfl rfl ?_
  repeat' (first | refine zA ?_ | (refine zM ?_; intro _ _) | refine zX ?_ | (refine zC ?_; intro _ _ _ _) | (refine zS ?_; intro _ _))
  rename_i H1 hH1
  have hR1 : RowsI ((n0, .row 28 0 0 [.int .i64 n, v]) :: M) v fs := hR.cons
  have hO1 : Sl ((n0, .row 28 0 0 [.int .i64 n, v]) :: M) 1 w (ints o) := hO.cons
  have hm1 : (n0, Ch.row 28 0 0 [.int .i64 n, v]) ∈ (n0, Ch.row 28 0 0 [.int .i64 n, v]) :: M := .head _
  have hback : ∀ {n' : Nat} {H' : Heap}, hasH ((n0, Ch.row 28 0 0 [.int .i64 n, v]) :: M) n' H' → hasH M n' H' := fun h => h.tail
  generalize (n0, Ch.row 28 0 0 [.int .i64 n, v]) :: M = T at hH1 hR1 hO1 hm1 hback
  refine WR.call (by first | exact gN | exact gS rfl) rfl rfl (ordered_fs hH1 hR1 hl hll hO1 hol n) ?_
  rintro _ H2 ⟨rfl, n2, hn2, hH2⟩
  clear hH1
  repeat' (first | refine zA ?_ | (refine zM ?_; intro _ _) | refine zX ?_ | (refine zC ?_; intro _ _ _ _) | (refine zS ?_; intro _ _) | (apply Ws <;> intro hg))
  refine WC.condP rfl (fun hne => ?_) (fun hne => ?_)
  · repeat' (first | refine zA ?_ | (refine zM ?_; intro _ _) | refine zX ?_ | (refine zC ?_; intro _ _ _ _) | (refine zS ?_; intro _ _) | (apply Ws <;> intro hg))
    exact Ends.ret2 rfl rfl ⟨by rw [if_neg hne], n2, by omega, hback hH2⟩
  have he0 : bothE n fs o = 0 := Decidable.not_not.1 hne
  obtain ⟨vs, hSv, hvl, hvs⟩ := hR1
  repeat' (first | refine zA ?_ | (refine zM ?_; intro _ _) | refine zX ?_ | (refine zC ?_; intro _ _ _ _) | (refine zS ?_; intro _ _) | (apply Ws <;> intro hg))
  refine WC.loopX [(1, _), (2, _), (4, _), (5, _)] (fun k : Nat => [(7, .int .i64 (gsumF fs o k)), (8, .int .i64 (k : Int))]) [] (fun k H' => hasH T n2 H' ∧ k ≤ fs.length) (fun k => fs.length - k) 0 (by repeat' (first | exact .nil | refine .cons rfl ?_)) rfl ⟨hH2, Nat.zero_le _⟩ ?_
  clear hH2
  rintro k H3 ⟨hH2, hk⟩
  have hbd := gsumF_bd (fs := fs) hol k
  dsimp only [List.cons_append, List.nil_append]
  repeat' (first | refine zA ?_ | (refine zM ?_; intro _ _) | refine zX ?_ | (refine zC ?_; intro _ _ _ _) | (refine zS ?_; intro _ _) | (apply Ws <;> intro hg))
  refine WC.condP rfl (fun hlt => ?_) (fun hlt => ?_)
  · have hk' : k < fs.length := by omega
    have hSk := hvs k hk'
    have hrk := RN_le (bitF (fs.getD k []) o) o.length
    repeat' (first | refine zA ?_ | (refine zM ?_; intro _ _) | refine zX ?_ | (refine zC ?_; intro _ _ _ _) | (refine zS ?_; intro _ _) | (apply Ws <;> intro hg))
    refine WR.call (by first | exact gN | exact gS rfl) rfl rfl (runs_fs hH2 hSk (hll _ (getD_mem hk')) hO1 hol) ?_
    rintro _ _ ⟨rfl, rfl⟩
    repeat' (first | refine zA ?_ | (refine zM ?_; intro _ _) | refine zX ?_ | (refine zC ?_; intro _ _ _ _) | (refine zS ?_; intro _ _) | (apply Ws <;> intro hg))
    exact Ends.loop (k + 1) (by omega) (by repeat' (first | exact .nil | refine .cons rfl ?_)) rfl ⟨hH2, hk'⟩
  · have hkl : k = fs.length := by omega
    subst hkl
    repeat' (first | refine zA ?_ | (refine zM ?_; intro _ _) | refine zX ?_ | (refine zC ?_; intro _ _ _ _) | (refine zS ?_; intro _ _) | (apply Ws <;> intro hg))
    exact Ends.ret2 rfl rfl ⟨by rw [if_pos he0, he0], n2, by omega, hback hH2⟩

def DatesF (fs : List (List Int)) (o : List Int) (ps : List (Int × Int)) (k : Nat) : Prop :=
  ∀ i, i < k → ∃ a b : Nat, ps.getD i (0, 0) = ((a : Int), (b : Int)) ∧ ((∀ j, j < o.length → bitF (fs.getD i []) o j = false) ∨ Ends2 (bitF (fs.getD i []) o) o.length a b)

theorem pcells_app (ps : List (Int × Int)) (a b : Int) : pcells ps ++ [.int .i64 a, .int .i64 b] = pcells (ps ++ [(a, b)]) := by
  induction ps with
  | nil => rfl
  | cons p ps ih => simp only [pcells, List.cons_append, ih]

structure DV where
  k : Nat
  v : Value
  Mx : HL
  n : Nat
  ps : List (Int × Int)

theorem DatesR_fs (hH : hasH M n0 H) (hR : RowsI M v fs) (hl : fs.length ≤ 1000) (hll : ∀ l ∈ fs, l.length ≤ 1000) (hO : Sl M 1 w (ints o)) (hol : o.length ≤ 1000) (n : Int) :
    FS C 21 [.agg #[.int .i64 n, v], w] H (fun e H' => ∃ n' Mx v' ps, e = .tuple #[v', .int .i64 (bothE n fs o)] ∧ n0 ≤ n' ∧ Sl (Mx ++ M) 2 v' (pcells ps) ∧ hasH (Mx ++ M) n' H' ∧
      ((bothE n fs o ≠ 0 ∧ ps = []) ∨ (bothE n fs o = 0 ∧ ps.length = fs.length ∧ DatesF fs o ps fs.length))) := by
  have h1 := hR.one_
  refine FS.intro (pf := pf21) rfl rfl rfl ?_
  repeat' (first | refine zA ?_ | (refine zM ?_; intro _ _) | refine zX ?_ | (refine zC ?_; intro _ _ _ _) | (refine zS ?_; intro _ _))
  rename_i H1 hH1
  have hR1 : RowsI ((n0, .row 28 0 0 [.int .i64 n, v]) :: M) v fs := hR.cons
  have hO1 : Sl ((n0, .row 28 0 0 [.int .i64 n, v]) :: M) 1 w (ints o) := hO.cons
  have hm1 : (n0, Ch.row 28 0 0 [.int .i64 n, v]) ∈ (n0, Ch.row 28 0 0 [.int .i64 n, v]) :: M := .head _
  have hback : ∀ {Z : HL} {n' : Nat} {H' : Heap}, hasH (Z ++ ((n0, Ch.row 28 0 0 [.int .i64 n, v]) :: M)) n' H' → hasH (Z ++ M) n' H' := fun h => h.sub (.append (.refl _) (List.sublist_cons_self _ _))
  have hsub : ∀ p ∈ M, p ∈ (n0, Ch.row 28 0 0 [.int .i64 n, v]) :: M := fun p hp => List.mem_cons_of_mem _ hp
  generalize (n0, Ch.row 28 0 0 [.int .i64 n, v]) :: M = T at hH1 hR1 hO1 hm1 hback hsub
  refine WR.call (by first | exact gN | exact gS rfl) rfl rfl (ordered_fs hH1 hR1 hl hll hO1 hol n) ?_
  rintro _ H2 ⟨rfl, n2, hn2, hH2⟩
  clear hH1
  repeat' (first | refine zA ?_ | (refine zM ?_; intro _ _) | refine zX ?_ | (refine zC ?_; intro _ _ _ _) | (refine zS ?_; intro _ _) | (apply Ws <;> intro hg))
  refine WC.condP rfl (fun hne => ?_) (fun hne => ?_)
  · repeat' (first | refine zA ?_ | (refine zM ?_; intro _ _) | refine zX ?_ | (refine zC ?_; intro _ _ _ _) | (refine zS ?_; intro _ _) | (apply Ws <;> intro hg))
    exact Ends.ret2 rfl rfl ⟨n2, [], _, [], rfl, by omega, .nil 0, hback (Z := []) hH2, .inl ⟨hne, rfl⟩⟩
  have he0 : bothE n fs o = 0 := Decidable.not_not.1 hne
  have hon := (both_ok he0).2.1
  obtain ⟨vs, hSv, hvl, hvs⟩ := hR1
  repeat' (first | refine zA ?_ | (refine zM ?_; intro _ _) | refine zX ?_ | (refine zC ?_; intro _ _ _ _) | (refine zS ?_; intro _ _) | (apply Ws <;> intro hg))
  refine WC.loopX [(1, _), (2, _), (5, _)] (fun s : DV => [(7, s.v), (8, .int .i64 (s.k : Int))]) []
    (fun s H' => s.k ≤ fs.length ∧ n2 ≤ s.n ∧ Own 70 2 s.v (pcells s.ps) s.Mx ∧ hasH (s.Mx ++ T) s.n H' ∧ s.ps.length = s.k ∧ DatesF fs o s.ps s.k) (fun s => fs.length - s.k) ⟨0, .slice none 0 0, [], n2, []⟩ (by repeat' (first | exact .nil | refine .cons rfl ?_)) rfl ⟨Nat.zero_le _, Nat.le_refl _, .nil, hH2, rfl, fun i hi => absurd hi (Nat.not_lt_zero _)⟩ ?_
  clear hH2
  rintro ⟨k, vp, Mp, n3, ps⟩ H3 ⟨hk, hn3, hOp, hH3, hpl, hds⟩
  simp only at hk hn3 hOp hH3 hpl hds
  have hm3 := List.mem_append_right Mp hm1
  have hSv3 : Sl (Mp ++ T) 1 v vs := hSv.mono (fun q hq => List.mem_append_right _ hq)
  have hO3 : Sl (Mp ++ T) 1 w (ints o) := hO1.mono (fun q hq => List.mem_append_right _ hq)
  dsimp only [List.cons_append, List.nil_append]
  repeat' (first | refine zA ?_ | (refine zM ?_; intro _ _) | refine zX ?_ | (refine zC ?_; intro _ _ _ _) | (refine zS ?_; intro _ _) | (apply Ws <;> intro hg))
  refine WC.condP rfl (fun hlt => ?_) (fun hlt => ?_)
  · have hk' : k < fs.length := by omega
    have hSk3 : Sl (Mp ++ T) 1 (vs.getD k undef) (ints (fs.getD k [])) := (hvs k hk').mono (fun q hq => List.mem_append_right _ hq)
    have hlk := hll _ (getD_mem (a := []) hk')
    obtain ⟨l, hle⟩ : ∃ l, fs.getD k [] = l := ⟨_, rfl⟩
    rw [hle] at hSk3 hlk
    repeat' (first | refine zA ?_ | (refine zM ?_; intro _ _) | refine zX ?_ | (refine zC ?_; intro _ _ _ _) | (refine zS ?_; intro _ _) | (apply Ws <;> intro hg))
    refine WR.op (by first | exact gN | exact gS rfl) rfl (OpV.bldA (vs := [(0, .int .i64 n), (1, .int .i64 0)]) rfl (cs := #[.int .i64 n, .int .i64 0]) (by rfl)) ?_
    repeat' (first | refine zA ?_ | (refine zM ?_; intro _ _) | refine zX ?_ | (refine zC ?_; intro _ _ _ _) | (refine zS ?_; intro _ _) | (apply Ws <;> intro hg))
    rename_i H4 hH4
    refine WR.storeAll (by first | exact gN | exact gS rfl) hH4 rfl rfl (ls := [.int .i64 n, .int .i64 0]) rfl rfl .here rfl rfl fun H5 hH5 => ?_
    clear hH4
    repeat' (first | refine zA ?_ | (refine zM ?_; intro _ _) | refine zX ?_ | (refine zC ?_; intro _ _ _ _) | (refine zS ?_; intro _ _) | (apply Ws <;> intro hg))
    have hm5 : ∀ p : Nat × Ch, (n0, Ch.row 28 0 0 [.int .i64 n, v]) ∈ p :: (Mp ++ T) := fun p => List.mem_cons_of_mem _ hm3
    refine WC.loopX [(1, _), (2, _), (5, _), (7, _), (8, _), (9, _)] (fun s : Nat × Int × Int => [(10, .int .i64 (s.1 : Int))]) []
      (fun s H' => s.1 ≤ o.length ∧ hasH ((n3, .row 70 0 0 [.int .i64 s.2.1, .int .i64 s.2.2]) :: (Mp ++ T)) (n3 + 1) H' ∧ ((∀ j, j < s.1 → bitF l o j = false) ∧ s.2.1 = (o.length : Int) ∧ s.2.2 = 0 ∨ ∃ a b : Nat, s.2.1 = (a : Int) ∧ s.2.2 = (b : Int) ∧ Ends2 (bitF l o) s.1 a b)) (fun s => o.length - s.1) (0, n, 0) (by repeat' (first | exact .nil | refine .cons rfl ?_)) rfl
      ⟨Nat.zero_le _, hH5, .inl ⟨fun j hj => absurd hj (Nat.not_lt_zero _), hon.symm, rfl⟩⟩ ?_
    clear hH5
    rintro ⟨j, a, b⟩ H6 ⟨hj, hH6, hab⟩
    simp only at hj hH6 hab
    have hm6 := hm5 (n3, .row 70 0 0 [.int .i64 a, .int .i64 b])
    have hSv6 : Sl ((n3, .row 70 0 0 [.int .i64 a, .int .i64 b]) :: (Mp ++ T)) 1 v vs := hSv3.cons
    have hO6 : Sl ((n3, .row 70 0 0 [.int .i64 a, .int .i64 b]) :: (Mp ++ T)) 1 w (ints o) := hO3.cons
    have hSk6 : Sl ((n3, .row 70 0 0 [.int .i64 a, .int .i64 b]) :: (Mp ++ T)) 1 (vs.getD k undef) (ints l) := hSk3.cons
    dsimp only [List.cons_append, List.nil_append]
    repeat' (first | refine zA ?_ | (refine zM ?_; intro _ _) | refine zX ?_ | (refine zC ?_; intro _ _ _ _) | (refine zS ?_; intro _ _) | (apply Ws <;> intro hg))
    refine WC.condP rfl (fun hlt2 => ?_) (fun hlt2 => ?_)
    · have hj' : j < o.length := by omega
      repeat' (first | refine zA ?_ | (refine zM ?_; intro _ _) | refine zX ?_ | (refine zC ?_; intro _ _ _ _) | (refine zS ?_; intro _ _) | (apply Ws <;> intro hg))
      refine WR.call (by first | exact gN | exact gS rfl) rfl rfl (hasR_fs hH6 hSk6 (by omega) _) ?_
      rintro _ H7 ⟨rfl, rfl⟩
      by_cases hb : o.getD j 0 ∈ l
      · have hbt : bitF l o j = true := decide_eq_true hb
        rw [decide_eq_true hb]
        repeat' (first | refine zA ?_ | (refine zM ?_; intro _ _) | refine zX ?_ | (refine zC ?_; intro _ _ _ _) | (refine zS ?_; intro _ _) | (apply Ws <;> intro hg))
        refine WR.op (by first | exact gN | exact gS rfl) rfl (OpV.bldA (vs := [(0, .int .i64 (min a (j : Int))), (1, .int .i64 (max b (j : Int)))]) rfl (cs := #[.int .i64 (min a (j : Int)), .int .i64 (max b (j : Int))]) (by rfl)) ?_
        refine WR.storeAll (by first | exact gN | exact gS rfl) hH6 rfl rfl (ls := [.int .i64 (min a (j : Int)), .int .i64 (max b (j : Int))]) rfl rfl .here rfl rfl fun H8 hH8 => ?_
        repeat' (first | refine zA ?_ | (refine zM ?_; intro _ _) | refine zX ?_ | (refine zC ?_; intro _ _ _ _) | (refine zS ?_; intro _ _) | (apply Ws <;> intro hg))
        refine Ends.loop (j + 1, min a (j : Int), max b (j : Int)) (by simp only; omega) (by repeat' (first | exact .nil | refine .cons rfl ?_)) rfl ⟨hj', hH8, .inr ?_⟩
        rcases hab with ⟨h2, rfl, rfl⟩ | ⟨a', b', rfl, rfl, h2⟩
        · exact ⟨j, j, by simp only; omega, by simp only; omega, .first hbt h2⟩
        · have := h2.ak; have := h2.bk
          exact ⟨a', j, by simp only; omega, by simp only; omega, h2.next hbt⟩
      · have hbt : bitF l o j = false := decide_eq_false hb
        rw [decide_eq_false hb]
        repeat' (first | refine zA ?_ | (refine zM ?_; intro _ _) | refine zX ?_ | (refine zC ?_; intro _ _ _ _) | (refine zS ?_; intro _ _) | (apply Ws <;> intro hg))
        refine Ends.loop (j + 1, a, b) (by simp only; omega) (by repeat' (first | exact .nil | refine .cons rfl ?_)) rfl ⟨hj', hH6, ?_⟩
        rcases hab with ⟨h2, h3, h4⟩ | ⟨a', b', h3, h4, h2⟩
        · refine .inl ⟨fun i hi => ?_, h3, h4⟩
          rcases Nat.lt_or_ge i j with h5 | h5
          · exact h2 i h5
          · have : i = j := by simp only at hi; omega
            subst this; exact hbt
        · exact .inr ⟨a', b', h3, h4, h2.skip hbt⟩
    · have hjl : j = o.length := by omega
      subst hjl
      repeat' (first | refine zA ?_ | (refine zM ?_; intro _ _) | refine zX ?_ | (refine zC ?_; intro _ _ _ _) | (refine zS ?_; intro _ _) | (apply Ws <;> intro hg))
      refine WR.append1F [(n3, .row 70 0 0 [.int .i64 a, .int .i64 b])] Mp T rfl rfl rfl rfl hOp hH6 (new := [.int .i64 a, .int .i64 b]) (by rfl) rfl rfl (by decide) (by decide) (by rw [pcells_len]; simp; omega) fun v7 M7 n7 H7 hO7 hH7 hn7 => ?_
      rw [pcells_app] at hO7
      repeat' (first | refine zA ?_ | (refine zM ?_; intro _ _) | refine zX ?_ | (refine zC ?_; intro _ _ _ _) | (refine zS ?_; intro _ _) | (apply Ws <;> intro hg))
      refine Ends.loop ⟨k + 1, v7, M7, n7, ps ++ [(a, b)]⟩ (by simp only; omega) (by repeat' (first | exact .nil | refine .cons rfl ?_)) rfl ⟨hk', by simp only; omega, hO7, hH7.sub (.cons _ (.refl _)), by simp [hpl], fun i hi => ?_⟩
      simp only at hi ⊢
      rcases Nat.lt_or_ge i k with h5 | h5
      · rw [getD_app_l (by omega)]; exact hds i h5
      · have : i = k := by omega
        subst this
        rw [← hpl, getD_snoc, hpl, hle]
        rcases hab with ⟨h2, rfl, rfl⟩ | ⟨a', b', rfl, rfl, h2⟩
        · exact ⟨o.length, 0, rfl, .inl h2⟩
        · exact ⟨a', b', rfl, .inr h2⟩
  · have hkl : k = fs.length := by omega
    subst hkl
    repeat' (first | refine zA ?_ | (refine zM ?_; intro _ _) | refine zX ?_ | (refine zC ?_; intro _ _ _ _) | (refine zS ?_; intro _ _) | (apply Ws <;> intro hg))
    exact Ends.ret2 rfl rfl ⟨n3, Mp, vp, ps, by rw [he0], by omega, hOp.sl M, hback hH3, .inr ⟨he0, hpl, hds⟩⟩
end
end Go.Proofs.Ytldhpaepfcpamaa.St

namespace Go.Proofs.Ytldhpaepfcpamaa.St
open Go Go.Abs Go.Mth
set_option linter.unusedVariables false
set_option linter.unusedSimpArgs false
theorem arr2 : Arr2 C.c.P 70 3 := ⟨by kernel_rfl, by kernel_rfl, by kernel_rfl, fun x y => ⟨by kernel_rfl, by kernel_rfl⟩, fun x y a b => by kernel_rfl⟩
theorem eql4 : ∀ a b : Bool, pureRun C.c.P (binOp .eql 4 (.bool a) (.bool b)) = some (.bool (a == b)) := by
  intro a b
  cases a <;> cases b <;> kernel_rfl
attribute [local irreducible] gOK WS WC WR WD Ends FS YS OpV seqK blockK loopK midK retK rdK asgK rangeEnd sat Cell

/-! What both sides come to is the same. -/
section
variable {n : Int} {fs : List (List Int)} {o : List Int}
theorem bit_same (h : bothE n fs o = 0) {i : Nat} (hi : i < fs.length) {j : Nat} (hj : j < o.length) : bitP ((masksOf fs).getD i 0) o j = bitF (fs.getD i []) o j := by
  obtain ⟨hf0, hon, hob, hnd⟩ := both_ok h
  have hl := (finds_ok hf0).2.2.2 _ (getD_mem (a := []) hi)
  have hx := hob _ (getD_mem (a := 0) hj)
  rw [masksOf_get hi, bitP, bitF]
  have h1 := maskI_bit (l := fs.getD i []) (fun x hx => ((form_ok hl).2.1 x hx).1) (i := (o.getD j 0).toNat)
  rw [show (((o.getD j 0).toNat : Nat) : Int) = o.getD j 0 by omega] at h1
  by_cases h2 : o.getD j 0 ∈ fs.getD i []
  · rw [decide_eq_true h2, h1.2 h2]
  · rw [decide_eq_false h2]
    cases hb : (maskI (fs.getD i [])).testBit (o.getD j 0).toNat with
    | false => rfl
    | true => exact absurd (h1.1 hb) h2
theorem RN_congr {p q : Nat → Bool} : ∀ {k : Nat}, (∀ j, j < k → p j = q j) → RN p k = RN q k
  | 0, _ => rfl
  | k + 1, h => by
    rw [RN, RN, RN_congr (k := k) fun j hj => h j (by omega), h k (by omega)]
    rcases Nat.eq_zero_or_pos k with h0 | h0
    · subst h0; simp
    · rw [h (k - 1) (by omega)]
theorem gsum_same (h : bothE n fs o = 0) : ∀ k : Nat, k ≤ fs.length → gsum (masksOf fs) o k = gsumF fs o k
  | 0, _ => rfl
  | k + 1, hk => by rw [gsum, gsumF, gsum_same h k (by omega), RN_congr fun j hj => bit_same h (by omega) hj]
/-- Each form lies somewhere in the order. -/
theorem some_bit (h : bothE n fs o = 0) {i : Nat} (hi : i < fs.length) : ∃ j, j < o.length ∧ bitF (fs.getD i []) o j = true := by
  obtain ⟨hf0, hon, hob, hnd⟩ := both_ok h
  obtain ⟨h1, h2, _⟩ := form_ok ((finds_ok hf0).2.2.2 _ (getD_mem (a := []) hi))
  have hx := h2 _ (getD_mem (a := 0) (k := 0) (by omega))
  obtain ⟨j, hj, he⟩ := List.mem_iff_getElem.1 (nodup_allI hnd hob hon hx)
  refine ⟨j, hj, decide_eq_true ?_⟩
  rw [getD_eq hj, he]; exact getD_mem (by omega)
theorem runs_pos (h : bothE n fs o = 0) {i : Nat} (hi : i < fs.length) : 1 ≤ RN (bitF (fs.getD i []) o) o.length := by
  obtain ⟨j, hj, hb⟩ := some_bit h hi
  rcases runs_all (p := bitF (fs.getD i []) o) o.length with h1 | ⟨a, b, _, _, h2, _⟩
  · rw [h1 j hj] at hb; cases hb
  · exact h2
theorem gsumF_zero (h : bothE n fs o = 0) : ∀ k : Nat, k ≤ fs.length → 0 ≤ gsumF fs o k ∧ (gsumF fs o k = 0 ↔ ∀ i, i < k → RN (bitF (fs.getD i []) o) o.length = 1)
  | 0, _ => ⟨Int.le_refl _, ⟨fun _ i hi => absurd hi (Nat.not_lt_zero _), fun _ => rfl⟩⟩
  | k + 1, hk => by
    obtain ⟨h1, h2⟩ := gsumF_zero h k (by omega)
    have h3 := runs_pos h (i := k) (by omega)
    rw [gsumF]
    refine ⟨by omega, fun h4 i hi => ?_, fun h4 => ?_⟩
    · rcases Nat.lt_or_ge i k with h5 | h5
      · exact h2.1 (by omega) i h5
      · have : i = k := by omega
        subst this; omega
    · have := h4 k (by omega)
      have := h2.2 fun i hi => h4 i (by omega)
      omega
theorem dates_same (h : bothE n fs o = 0) {ps qs : List (Int × Int)} (hp : ps.length = fs.length) (hq : qs.length = fs.length) (h1 : DatesS (masksOf fs) o ps fs.length) (h2 : DatesF fs o qs fs.length) : ps = qs := by
  refine ext_getD (a := (0, 0)) (by omega) fun i hi => ?_
  have hi' : i < fs.length := by omega
  obtain ⟨j, hj, hb⟩ := some_bit h hi'
  obtain ⟨a, b, e1, k1⟩ := h1 i hi'
  obtain ⟨a', b', e2, k2⟩ := h2 i hi'
  have hs := fun j hj => bit_same h hi' (j := j) hj
  rcases k2 with k2 | k2
  · rw [k2 j hj] at hb; cases hb
  rcases k1 with k1 | k1
  · have := k1 j hj; rw [hs j hj, hb] at this; cases this
  have k1' : Ends2 (bitF (fs.getD i []) o) o.length a b :=
    ⟨by rw [← hs a k1.ak]; exact k1.pa, k1.ak, fun j hj => by rw [← hs j (by have := k1.ak; omega)]; exact k1.lo j hj, by rw [← hs b k1.bk]; exact k1.pb, k1.bk, fun j hj hk => by rw [← hs j hk]; exact k1.hi j hj hk⟩
  obtain ⟨rfl, rfl⟩ := k1'.unique k2
  rw [e1, e2]
end

section
variable {M : HL} {n0 : Nat} {H : Heap} {v w : Value} {fs : List (List Int)} {o : List Int} {n : Int}

theorem large_fs (hH : hasH M n0 H) (hR : RowsI M v fs) (n : Int) :
    FS C 14 [.agg #[.int .i64 n, v]] H (fun e H' => ∃ b, e = .bool b ∧ (∃ n', n0 ≤ n' ∧ hasH M n' H') ∧ (b = false → fs.length ≤ 30 ∧ ∀ l ∈ fs, l.length ≤ 30)) := by
  have h1 := hR.one_
  obtain ⟨vs, hSv, hvl, hvs⟩ := hR
  refine FS.intro (pf := pf14) rfl rfl rfl ?_
  repeat' (first | refine zA ?_ | (refine zM ?_; intro _ _) | refine zX ?_ | (refine zC ?_; intro _ _ _ _) | (refine zS ?_; intro _ _))
  rename_i H1 hH1
  refine WC.condP rfl (fun h0 => ?_) (fun h0 => ?_)
  · repeat' (first | refine zA ?_ | (refine zM ?_; intro _ _) | refine zX ?_ | (refine zC ?_; intro _ _ _ _) | (refine zS ?_; intro _ _) | (apply Ws <;> intro hg))
    exact Ends.ret1 rfl ⟨_, rfl, ⟨n0 + 1, by omega, hH1.tail⟩, fun h => by cases h⟩
  repeat' (first | refine zA ?_ | (refine zM ?_; intro _ _) | refine zX ?_ | (refine zC ?_; intro _ _ _ _) | (refine zS ?_; intro _ _) | (apply Ws <;> intro hg))
  refine WC.loopX [(1, _)] (fun k : Nat => [(3, .int .i64 (k : Int))]) [] (fun k H' => H' = H1 ∧ k ≤ fs.length ∧ ∀ i, i < k → (fs.getD i []).length ≤ 30) (fun k => fs.length - k) 0 (by repeat' (first | exact .nil | refine .cons rfl ?_)) rfl ⟨rfl, Nat.zero_le _, fun i hi => absurd hi (Nat.not_lt_zero _)⟩ ?_
  rintro k H' ⟨rfl, hk, hno⟩
  dsimp only [List.cons_append, List.nil_append]
  repeat' (first | refine zA ?_ | (refine zM ?_; intro _ _) | refine zX ?_ | (refine zC ?_; intro _ _ _ _) | (refine zS ?_; intro _ _) | (apply Ws <;> intro hg))
  refine WC.condP rfl (fun hlt => ?_) (fun hlt => ?_)
  · have hk' : k < fs.length := by omega
    have hSk := (hvs k hk').cons (p := (n0, .row 24 0 0 [.int .i64 n, v]))
    repeat' (first | refine zA ?_ | (refine zM ?_; intro _ _) | refine zX ?_ | (refine zC ?_; intro _ _ _ _) | (refine zS ?_; intro _ _) | (apply Ws <;> intro hg))
    refine WC.condP rfl (fun h2 => ?_) (fun h2 => ?_)
    · repeat' (first | refine zA ?_ | (refine zM ?_; intro _ _) | refine zX ?_ | (refine zC ?_; intro _ _ _ _) | (refine zS ?_; intro _ _) | (apply Ws <;> intro hg))
      exact Ends.ret1 rfl ⟨_, rfl, ⟨n0 + 1, by omega, hH1.tail⟩, fun h => by cases h⟩
    · repeat' (first | refine zA ?_ | (refine zM ?_; intro _ _) | refine zX ?_ | (refine zC ?_; intro _ _ _ _) | (refine zS ?_; intro _ _) | (apply Ws <;> intro hg))
      exact Ends.loop (k + 1) (by omega) (by repeat' (first | exact .nil | refine .cons rfl ?_)) rfl ⟨rfl, hk', fun i hi => by
        rcases Nat.lt_or_ge i k with h3 | h3
        · exact hno i h3
        · have : i = k := by omega
          subst this; omega⟩
  · have hkl : k = fs.length := by omega
    subst hkl
    repeat' (first | refine zA ?_ | (refine zM ?_; intro _ _) | refine zX ?_ | (refine zC ?_; intro _ _ _ _) | (refine zS ?_; intro _ _) | (apply Ws <;> intro hg))
    refine Ends.ret1 rfl ⟨_, rfl, ⟨n0 + 1, by omega, hH1.tail⟩, fun _ => ⟨by omega, fun l hl => ?_⟩⟩
    obtain ⟨i, hi, rfl⟩ := List.mem_iff_getElem.1 hl
    have := hno i hi
    rwa [getD_eq hi] at this

/-- Lists of pairs that are the same. -/
theorem pairs_fs (hH : hasH M n0 H) {ps : List (Int × Int)} (hp : ps.length ≤ 1000) (hS : Sl M 2 v (pcells ps)) (hU : Sl M 2 w (pcells ps)) :
    FS C 22 [v, w] H (fun e H' => e = .bool true ∧ H' = H) := by
  refine FS.intro (pf := pf22) rfl rfl rfl ?_
  repeat' (first | refine zA ?_ | (refine zM ?_; intro _ _) | refine zX ?_ | (refine zC ?_; intro _ _ _ _) | (refine zS ?_; intro _ _) | (apply Ws <;> intro hg))
  refine WR.op (by first | exact gN | exact gS rfl) rfl (OpV.len2 rfl hS) ?_
  repeat' (first | refine zA ?_ | (refine zM ?_; intro _ _) | refine zX ?_ | (refine zC ?_; intro _ _ _ _) | (refine zS ?_; intro _ _) | (apply Ws <;> intro hg))
  refine WR.op (by first | exact gN | exact gS rfl) rfl (OpV.len2 rfl hU) ?_
  repeat' (first | refine zA ?_ | (refine zM ?_; intro _ _) | refine zX ?_ | (refine zC ?_; intro _ _ _ _) | (refine zS ?_; intro _ _) | refine zO ?_ | (apply Ws <;> intro hg))
  refine WC.loopX [(0, _), (1, _)] (fun k : Nat => [(5, .int .i64 (k : Int))]) [] (fun k H' => H' = H ∧ k ≤ ps.length) (fun k => ps.length - k) 0 (by repeat' (first | exact .nil | refine .cons rfl ?_)) rfl ⟨rfl, Nat.zero_le _⟩ ?_
  rintro k _ ⟨rfl, hk⟩
  dsimp only [List.cons_append, List.nil_append]
  repeat' (first | refine zA ?_ | (refine zM ?_; intro _ _) | refine zX ?_ | (refine zC ?_; intro _ _ _ _) | (refine zS ?_; intro _ _) | (apply Ws <;> intro hg))
  refine WR.op (by first | exact gN | exact gS rfl) rfl (OpV.len2 rfl hS) ?_
  repeat' (first | refine zA ?_ | (refine zM ?_; intro _ _) | refine zX ?_ | (refine zC ?_; intro _ _ _ _) | (refine zS ?_; intro _ _) | (apply Ws <;> intro hg))
  refine WC.condP rfl (fun hlt => ?_) (fun hlt => ?_)
  · have hk' : k < ps.length := by omega
    repeat' (first | refine zA ?_ | (refine zM ?_; intro _ _) | refine zX ?_ | (refine zC ?_; intro _ _ _ _) | (refine zS ?_; intro _ _) | (apply Ws <;> intro hg))
    refine WR.idx2 (by first | exact gN | exact gS rfl) rfl rfl hS rfl hk' fun b1 o1' u1 hc1 => ?_
    refine WR.op (by first | exact gN | exact gS rfl) rfl (OpV.load2 rfl hc1 hH) ?_
    repeat' (first | refine zA ?_ | (refine zM ?_; intro _ _) | refine zX ?_ | (refine zC ?_; intro _ _ _ _) | (refine zS ?_; intro _ _) | (apply Ws <;> intro hg))
    refine WR.idx2 (by first | exact gN | exact gS rfl) rfl rfl hU rfl hk' fun b2 o2' u2 hc2 => ?_
    refine WR.op (by first | exact gN | exact gS rfl) rfl (OpV.load2 rfl hc2 hH) ?_
    refine WR.op (by first | exact gN | exact gS rfl) rfl (OpV.neA arr2 rfl rfl) ?_
    rw [decide_eq_false (by simp)]
    repeat' (first | refine zA ?_ | (refine zM ?_; intro _ _) | refine zX ?_ | (refine zC ?_; intro _ _ _ _) | (refine zS ?_; intro _ _) | (apply Ws <;> intro hg))
    exact Ends.loop (k + 1) (by omega) (by repeat' (first | exact .nil | refine .cons rfl ?_)) rfl ⟨rfl, hk'⟩
  · repeat' (first | refine zA ?_ | (refine zM ?_; intro _ _) | refine zX ?_ | (refine zC ?_; intro _ _ _ _) | (refine zS ?_; intro _ _) | (apply Ws <;> intro hg))
    exact Ends.ret1 rfl ⟨rfl, rfl⟩
end

set_option maxHeartbeats 1000000 in
theorem StyleOrders_fs {M : HL} {n0 : Nat} {H : Heap} (hH : hasH M n0 H) {v w : Value} {fs : List (List Int)} {o : List Int} {n : Int} (hR : RowsI M v fs) (hO : Sl M 1 w (ints o)) :
    FS C 3 [.agg #[.int .i64 n, v], w] H (fun e H' => e = .bool true) := by
  have h1 := hR.one_
  refine FS.intro (pf := pf3) rfl rfl rfl ?_
  repeat' (first | refine zA ?_ | (refine zM ?_; intro _ _) | refine zX ?_ | (refine zC ?_; intro _ _ _ _) | (refine zS ?_; intro _ _))
  rename_i H1 hH1
  have hR1 : RowsI ((n0, .row 24 0 0 [.int .i64 n, v]) :: M) v fs := hR.cons
  have hO1 : Sl ((n0, .row 24 0 0 [.int .i64 n, v]) :: M) 1 w (ints o) := hO.cons
  refine WR.call (by first | exact gN | exact gS rfl) rfl rfl (large_fs hH1 hR1 n) ?_
  rintro _ H2 ⟨b, rfl, ⟨n2, hn2, hH2⟩, hb⟩
  clear hH1
  cases b with
  | true =>
    repeat' (first | refine zA ?_ | (refine zM ?_; intro _ _) | refine zX ?_ | (refine zC ?_; intro _ _ _ _) | (refine zS ?_; intro _ _) | (apply Ws <;> intro hg))
    refine WR.call (by first | exact gN | exact gS rfl) rfl rfl (FS.works (C := C) (R := fun v H' => v = .bool true) rfl) ?_
    rintro _ _ rfl
    repeat' (first | refine zA ?_ | (refine zM ?_; intro _ _) | refine zX ?_ | (refine zC ?_; intro _ _ _ _) | (refine zS ?_; intro _ _) | (apply Ws <;> intro hg))
    exact Ends.ret1 rfl rfl
  | false =>
  obtain ⟨hl, hll⟩ := hb rfl
  repeat' (first | refine zA ?_ | (refine zM ?_; intro _ _) | refine zX ?_ | (refine zC ?_; intro _ _ _ _) | (refine zS ?_; intro _ _) | (apply Ws <;> intro hg))
  refine WC.condP rfl (fun hlo => ?_) (fun hlo => ?_)
  · repeat' (first | refine zA ?_ | (refine zM ?_; intro _ _) | refine zX ?_ | (refine zC ?_; intro _ _ _ _) | (refine zS ?_; intro _ _) | (apply Ws <;> intro hg))
    refine WR.call (by first | exact gN | exact gS rfl) rfl rfl (FS.works (C := C) (R := fun v H' => v = .bool true) rfl) ?_
    rintro _ _ rfl
    repeat' (first | refine zA ?_ | (refine zM ?_; intro _ _) | refine zX ?_ | (refine zC ?_; intro _ _ _ _) | (refine zS ?_; intro _ _) | (apply Ws <;> intro hg))
    exact Ends.ret1 rfl rfl
  have hol : o.length ≤ 1000 := by omega
  have hl1 : fs.length ≤ 1000 := by omega
  have hll1 : ∀ l ∈ fs, l.length ≤ 1000 := fun l h => by have := hll l h; omega
  repeat' (first | refine zA ?_ | (refine zM ?_; intro _ _) | refine zX ?_ | (refine zC ?_; intro _ _ _ _) | (refine zS ?_; intro _ _) | (apply Ws <;> intro hg))
  rename_i H3 hH3
  refine WR.storeAll (by first | exact gN | exact gS rfl) hH3 rfl rfl (ls := [.int .i64 n, v]) rfl rfl .here (by (repeat' (first | exact all_nil | refine all_cons (by first | rfl | assumption) ?_))) rfl fun H4 hH4 => ?_
  clear hH3 hH2
  have hm1 : (n0, Ch.row 24 0 0 [.int .i64 n, v]) ∈ (n2, Ch.row 28 0 0 [.int .i64 n, v]) :: (n0, Ch.row 24 0 0 [.int .i64 n, v]) :: M := by simp
  have hm2 : (n2, Ch.row 28 0 0 [.int .i64 n, v]) ∈ (n2, Ch.row 28 0 0 [.int .i64 n, v]) :: (n0, Ch.row 24 0 0 [.int .i64 n, v]) :: M := by simp
  have hR2 := hR1.cons (p := (n2, .row 28 0 0 [.int .i64 n, v]))
  have hO2 := hO1.cons (p := (n2, .row 28 0 0 [.int .i64 n, v]))
  generalize (n2, Ch.row 28 0 0 [.int .i64 n, v]) :: (n0, Ch.row 24 0 0 [.int .i64 n, v]) :: M = T at hH4 hm1 hm2 hR2 hO2
  clear hR1 hO1
  repeat' (first | refine zA ?_ | (refine zM ?_; intro _ _) | refine zX ?_ | (refine zC ?_; intro _ _ _ _) | (refine zS ?_; intro _ _) | (apply Ws <;> intro hg))
  refine WR.call (by first | exact gN | exact gS rfl) rfl rfl (Whole_fs hH4 hR2 hl1 hll1 hO2 hol n) ?_
  rintro _ H5 ⟨rfl, n5, hn5, hH5⟩
  clear hH4
  repeat' (first | refine zA ?_ | (refine zM ?_; intro _ _) | refine zX ?_ | (refine zC ?_; intro _ _ _ _) | (refine zS ?_; intro _ _) | (apply Ws <;> intro hg))
  refine WR.call (by first | exact gN | exact gS rfl) rfl rfl (WholeR_fs hH5 hR2 hl1 hll1 hO2 hol n) ?_
  rintro _ H6 ⟨b, rfl, ⟨n6, hn6, hH6⟩, hb1, hb2⟩
  clear hH5
  have hbe : (if bothE n fs o = 0 then decide (gsum (masksOf fs) o fs.length = 0) else false) = b := by
    by_cases h0 : bothE n fs o = 0
    · rw [if_pos h0]
      have h2 := (gsumF_zero h0 fs.length (Nat.le_refl _)).2
      rw [← gsum_same h0 _ (Nat.le_refl _)] at h2
      by_cases h3 : gsum (masksOf fs) o fs.length = 0
      · rw [decide_eq_true h3, (hb2 h0).2 (h2.1 h3)]
      · rw [decide_eq_false h3]
        cases hb : b with
        | false => rfl
        | true => exact absurd (h2.2 ((hb2 h0).1 hb)) h3
    · rw [if_neg h0, hb1 h0]
  rw [hbe]
  clear hbe hb1 hb2
  repeat' (first | refine zA ?_ | (refine zM ?_; intro _ _) | refine zX ?_ | (refine zC ?_; intro _ _ _ _) | (refine zS ?_; intro _ _) | (apply Ws <;> intro hg))
  refine WR.call (by first | exact gN | exact gS rfl) rfl rfl (Gaps_fs hH6 hR2 hl1 hll1 hO2 hol n) ?_
  rintro _ H7 ⟨rfl, n7, hn7, hH7⟩
  clear hH6
  repeat' (first | refine zA ?_ | (refine zM ?_; intro _ _) | refine zX ?_ | (refine zC ?_; intro _ _ _ _) | (refine zS ?_; intro _ _) | (apply Ws <;> intro hg))
  refine WR.call (by first | exact gN | exact gS rfl) rfl rfl (GapsR_fs hH7 hR2 hl1 hll1 hO2 hol n) ?_
  rintro _ H8 ⟨rfl, n8, hn8, hH8⟩
  clear hH7
  have hge : (if bothE n fs o = 0 then gsum (masksOf fs) o fs.length else 0) = (if bothE n fs o = 0 then gsumF fs o fs.length else 0) := by
    by_cases h0 : bothE n fs o = 0
    · rw [if_pos h0, if_pos h0, gsum_same h0 _ (Nat.le_refl _)]
    · rw [if_neg h0, if_neg h0]
  rw [hge]
  clear hge
  repeat' (first | refine zA ?_ | (refine zM ?_; intro _ _) | refine zX ?_ | (refine zC ?_; intro _ _ _ _) | (refine zS ?_; intro _ _) | (apply Ws <;> intro hg))
  refine WR.call (by first | exact gN | exact gS rfl) rfl rfl (Dates_fs hH8 hR2 hl1 hll1 hO2 hol n) ?_
  rintro _ H9 ⟨n9, M9, v9, ps, rfl, hn9, hS9, hH9, hp9⟩
  clear hH8
  replace hm1 := List.mem_append_right M9 hm1
  replace hm2 := List.mem_append_right M9 hm2
  replace hR2 : RowsI (M9 ++ T) v fs := hR2.mono fun q hq => List.mem_append_right _ hq
  replace hO2 : Sl (M9 ++ T) 1 w (ints o) := hO2.mono fun q hq => List.mem_append_right _ hq
  generalize M9 ++ T = T at hH9 hm1 hm2 hR2 hO2 hS9
  repeat' (first | refine zA ?_ | (refine zM ?_; intro _ _) | refine zX ?_ | (refine zC ?_; intro _ _ _ _) | (refine zS ?_; intro _ _) | (apply Ws <;> intro hg))
  refine WR.call (by first | exact gN | exact gS rfl) rfl rfl (DatesR_fs hH9 hR2 hl1 hll1 hO2 hol n) ?_
  rintro _ H10 ⟨n10, M10, v10, qs, rfl, hn10, hS10, hH10, hq10⟩
  clear hH9
  have hpq : ps = qs := by
    rcases hp9 with ⟨h2, rfl⟩ | ⟨h2, h3, h4⟩ <;> rcases hq10 with ⟨k2, rfl⟩ | ⟨k2, k3, k4⟩
    · rfl
    · exact absurd k2 h2
    · exact absurd h2 k2
    · exact dates_same h2 h3 k3 h4 k4
  subst hpq
  have hpl : ps.length ≤ 1000 := by
    rcases hp9 with ⟨h2, rfl⟩ | ⟨h2, h3, h4⟩
    · simp
    · omega
  clear hp9 hq10
  replace hm1 := List.mem_append_right M10 hm1
  replace hm2 := List.mem_append_right M10 hm2
  replace hR2 : RowsI (M10 ++ T) v fs := hR2.mono fun q hq => List.mem_append_right _ hq
  replace hS9 : Sl (M10 ++ T) 2 v9 (pcells ps) := hS9.mono fun q hq => List.mem_append_right _ hq
  generalize M10 ++ T = T at hH10 hm1 hm2 hR2 hS9 hS10
  generalize (if bothE n fs o = 0 then gsumF fs o fs.length else 0) = gg
  repeat' (first | refine zA ?_ | (refine zM ?_; intro _ _) | refine zX ?_ | (refine zC ?_; intro _ _ _ _) | (refine zS ?_; intro _ _) | (apply Ws <;> intro hg))
  refine WC.regionD ?_
  repeat' (first | refine zD ?_ | (refine zE ?_; intro _ _ _ _))
  refine WD.op (by first | exact gN | exact gS rfl) rfl (OpV.eqB (eql4 _ _) rfl rfl) rfl (stands_nil _ _) ?_
  rw [show (b == b) = true by simp]
  repeat' (first | refine zD ?_ | (refine zE ?_; intro _ _ _ _))
  rw [dec_refl]
  repeat' (first | refine zD ?_ | (refine zE ?_; intro _ _ _ _))
  rw [dec_refl]
  repeat' (first | refine zD ?_ | (refine zE ?_; intro _ _ _ _))
  rw [dec_refl]
  repeat' (first | refine zD ?_ | (refine zE ?_; intro _ _ _ _))
  refine WD.call (by first | exact gN | exact gS rfl) rfl rfl (pairs_fs hH10 hpl hS9 hS10) ?_
  rintro _ H11 ⟨rfl, rfl⟩
  refine ⟨stands_nil _ _, ?_⟩
  repeat' (first | refine zD ?_ | (refine zE ?_; intro _ _ _ _))
  rw [dec_refl]
  repeat' (first | refine zD ?_ | (refine zE ?_; intro _ _ _ _))
  refine WD.call (by first | exact gN | exact gS rfl) rfl rfl (Check_fs hH10 hR2 hl1 hll1 n) ?_
  rintro _ H12 ⟨rfl, n12, hn12, hH12⟩
  refine ⟨stands_cons (.inr (holdsN' (hH12.readN (k := 2) hm2 (.row _ _ _ _) (Nat.zero_le _) (by simp)) (by show sameL [Value.int .i64 n, v] [.int .i64 n, v] = true; obtain ⟨vs, hSv, _⟩ := hR2; simp [sameL, same_int, hSv.same]))) (stands_cons (.inl rfl) stands_nil'), ?_⟩
  refine WD.toWR rfl ?_
  refine WR.call (by first | exact gN | exact gS rfl) rfl rfl (CheckR_fs hH12 hR2 hl1 hll1 n) ?_
  rintro _ H13 ⟨rfl, n13, hn13, hH13⟩
  repeat' (first | refine zA ?_ | (refine zM ?_; intro _ _) | refine zX ?_ | (refine zC ?_; intro _ _ _ _) | (refine zS ?_; intro _ _))
  rw [dec_refl]
  repeat' (first | refine zA ?_ | (refine zM ?_; intro _ _) | refine zX ?_ | (refine zC ?_; intro _ _ _ _) | (refine zS ?_; intro _ _) | (apply Ws <;> intro hg))
  refine WR.call (by first | exact gN | exact gS rfl) rfl rfl (FS.works (C := C) (R := fun v H' => v = .bool true) rfl) ?_
  rintro _ _ rfl
  repeat' (first | refine zA ?_ | (refine zM ?_; intro _ _) | refine zX ?_ | (refine zC ?_; intro _ _ _ _) | (refine zS ?_; intro _ _) | (apply Ws <;> intro hg))
  exact Ends.ret1 rfl rfl
end Go.Proofs.Ytldhpaepfcpamaa.St
