/- Texts of the law, joined. -/
import Derived.Test.YtblopbimchkneaaJ1
namespace Go.Proofs.Ytblopbimchkneaa.Md
open Go Go.Abs Go.Mth
set_option linter.unusedVariables false
set_option linter.unusedSimpArgs false
theorem belowB2 (n a b : Int) : belowB n [a, b] = decide ((0 ≤ a ∧ a < n) ∧ (0 ≤ b ∧ b < n)) := by
  rw [Bool.eq_iff_iff]; simp [belowB]
theorem belowB3 (n a b c : Int) : belowB n [a, b, c] = decide ((0 ≤ a ∧ a < n) ∧ (0 ≤ b ∧ b < n) ∧ (0 ≤ c ∧ c < n)) := by
  rw [Bool.eq_iff_iff]; simp [belowB]
attribute [local irreducible] gOK WS WC WR WD Ends FS YS OpV seqK blockK loopK midK retK rdK asgK rangeEnd sat Cell
section
variable {M : HL} {n0 : Nat} {H : Heap} {v : Value} {xs : List Int} {m : Int}
set_option maxHeartbeats 1000000 in
theorem Proves_fs (hH : hasH M n0 H) (hS : Sl M 1 v (ints xs)) (hl : xs.length ≤ 1000) (one two both first second : Int) :
    FS C 21 [.int .i64 m, v, .int .i64 one, .int .i64 two, .int .i64 both, .int .i64 first, .int .i64 second] H (fun e H' => e = .int .i64 (provE m xs one two both first second) ∧ ∃ n', n0 ≤ n' ∧ hasH M n' H') := by
  refine FS.intro (pf := pf21) rfl rfl rfl ?_
  repeat' (first | refine zP ?_ | refine zA ?_ | (refine zM ?_; intro _ _) | refine zX ?_ | (refine zC ?_; intro _ _ _ _) | (refine zS ?_; intro _ _) | (apply Ws <;> intro hg))
  refine WR.call (by first | exact gN | exact gS rfl) rfl rfl (Check_fs hH hS hl m) ?_
  rintro _ H1 ⟨rfl, rfl⟩
  by_cases h0 : castsE m xs = 0
  · rw [h0]
    obtain ⟨N, ns, rfl, h1, h2, rfl, h3, h4⟩ := casts_ok h0
    rw [← nodesI] at hS
    have hb := lt_62 h2 h4
    have hE : ∀ {e}, (if ¬ ((0 ≤ one ∧ one < (N : Int)) ∧ (0 ≤ two ∧ two < (N : Int)) ∧ (0 ≤ both ∧ both < ns.length) ∧ (0 ≤ first ∧ first < ns.length) ∧ (0 ≤ second ∧ second < ns.length)) then 2 else if provB ns one.toNat two.toNat both.toNat first.toNat second.toNat = true then 0 else 14) = e →
        provE (N : Int) (ns.map fun (x : Nat) => (x : Int)) one two both first second = e := fun h => by
      rw [provE, if_neg (by omega), cast_toNat, List.length_map]; exact h
    repeat' (first | refine zP ?_ | refine zA ?_ | (refine zM ?_; intro _ _) | refine zX ?_ | (refine zC ?_; intro _ _ _ _) | (refine zS ?_; intro _ _) | refine zO ?_ | (apply Ws <;> intro hg))
    refine WR.bldS (by first | exact gN | exact gS rfl) rfl hH (vs := [(0, .int .i64 one), (1, .int .i64 two)]) rfl (cs := ints [one, two]) (by rfl) rfl fun H2 hH2 => ?_
    have hS2 : Sl ((n0, .row 3 0 0 (ints [one, two])) :: M) 1 (.slice (some ⟨n0, 0, some 0⟩) 2 (2 * 2 + 1)) (ints [one, two]) := .row (lo := 0) (.head _) (.row _ _ _ _) (Nat.le_refl _) rfl (by simp) (by simp) (.inr ⟨2, rfl, Nat.le_refl _⟩)
    repeat' (first | refine zP ?_ | refine zA ?_ | (refine zM ?_; intro _ _) | refine zX ?_ | (refine zC ?_; intro _ _ _ _) | (refine zS ?_; intro _ _) | (apply Ws <;> intro hg))
    refine WR.call (by first | exact gN | exact gS rfl) rfl rfl (below_fs hH2 hS2 (by simp) _) ?_
    rintro _ H3 ⟨rfl, rfl⟩
    rw [belowB2]
    by_cases hA : (0 ≤ one ∧ one < (N : Int)) ∧ (0 ≤ two ∧ two < (N : Int))
    · rw [decide_eq_true hA]
      have hS3 := hS.cons (p := (n0, Ch.row 3 0 0 (ints [one, two])))
      repeat' (first | refine zP ?_ | refine zA ?_ | (refine zM ?_; intro _ _) | refine zX ?_ | (refine zC ?_; intro _ _ _ _) | (refine zS ?_; intro _ _) | (apply Ws <;> intro hg))
      refine WR.bldS (by first | exact gN | exact gS rfl) rfl hH2 (vs := [(0, .int .i64 both), (1, .int .i64 first), (2, .int .i64 second)]) rfl (cs := ints [both, first, second]) (by rfl) rfl fun H4 hH4 => ?_
      have hS4 : Sl ((n0 + 1, .row 3 0 0 (ints [both, first, second])) :: (n0, .row 3 0 0 (ints [one, two])) :: M) 1 (.slice (some ⟨n0 + 1, 0, some 0⟩) 3 (2 * 3 + 1)) (ints [both, first, second]) := .row (lo := 0) (.head _) (.row _ _ _ _) (Nat.le_refl _) rfl (by simp) (by simp) (.inr ⟨3, rfl, Nat.le_refl _⟩)
      repeat' (first | refine zP ?_ | refine zA ?_ | (refine zM ?_; intro _ _) | refine zX ?_ | (refine zC ?_; intro _ _ _ _) | (refine zS ?_; intro _ _) | (apply Ws <;> intro hg))
      refine WR.call (by first | exact gN | exact gS rfl) rfl rfl (below_fs hH4 hS4 (by simp) _) ?_
      rintro _ H5 ⟨rfl, rfl⟩
      rw [belowB3]
      have hM := hH4.tail.tail
      clear hH2 hH hS2 hS4 hS3 hH4
      by_cases hB : (0 ≤ both ∧ both < (ns.length : Int)) ∧ (0 ≤ first ∧ first < (ns.length : Int)) ∧ (0 ≤ second ∧ second < (ns.length : Int))
      · rw [decide_eq_true hB]
        rw [if_neg (show ¬ ¬ _ from not_not_intro ⟨hA.1, hA.2, hB⟩)] at hE
        obtain ⟨a, rfl⟩ : ∃ a : Nat, one = (a : Int) := ⟨one.toNat, by omega⟩
        obtain ⟨b, rfl⟩ : ∃ a : Nat, two = (a : Int) := ⟨two.toNat, by omega⟩
        obtain ⟨i, rfl⟩ : ∃ a : Nat, both = (a : Int) := ⟨both.toNat, by omega⟩
        obtain ⟨j, rfl⟩ : ∃ a : Nat, first = (a : Int) := ⟨first.toNat, by omega⟩
        obtain ⟨k, rfl⟩ : ∃ a : Nat, second = (a : Int) := ⟨second.toNat, by omega⟩
        simp only [Int.toNat_natCast, provB] at hE
        have hi := hb _ (getD_mem (a := 0) (show i < ns.length by omega))
        have hj := hb _ (getD_mem (a := 0) (show j < ns.length by omega))
        have hk := hb _ (getD_mem (a := 0) (show k < ns.length by omega))
        repeat' (first | refine zP ?_ | refine zA ?_ | (refine zM ?_; intro _ _) | refine zX ?_ | (refine zC ?_; intro _ _ _ _) | (refine zS ?_; intro _ _) | (apply Ws <;> intro hg))
        refine WR.call (by first | exact gN | exact gS rfl) rfl rfl (has_fs hi (by omega) _) ?_
        rintro _ H6 ⟨rfl, rfl⟩
        cases e1 : (ns.getD i 0).testBit a with
        | false =>
          repeat' (first | refine zP ?_ | refine zA ?_ | (refine zM ?_; intro _ _) | refine zX ?_ | (refine zC ?_; intro _ _ _ _) | (refine zS ?_; intro _ _) | (apply Ws <;> intro hg))
          exact Ends.ret1 rfl ⟨by rw [hE rfl]; simp only [e1]; simp, _, by omega, hM⟩
        | true =>
        repeat' (first | refine zP ?_ | refine zA ?_ | (refine zM ?_; intro _ _) | refine zX ?_ | (refine zC ?_; intro _ _ _ _) | (refine zS ?_; intro _ _) | (apply Ws <;> intro hg))
        refine WR.call (by first | exact gN | exact gS rfl) rfl rfl (has_fs hi (by omega) _) ?_
        rintro _ H6 ⟨rfl, rfl⟩
        cases e2 : (ns.getD i 0).testBit b with
        | false =>
          repeat' (first | refine zP ?_ | refine zA ?_ | (refine zM ?_; intro _ _) | refine zX ?_ | (refine zC ?_; intro _ _ _ _) | (refine zS ?_; intro _ _) | (apply Ws <;> intro hg))
          exact Ends.ret1 rfl ⟨by rw [hE rfl]; simp only [e1, e2]; simp, _, by omega, hM⟩
        | true =>
        repeat' (first | refine zP ?_ | refine zA ?_ | (refine zM ?_; intro _ _) | refine zX ?_ | (refine zC ?_; intro _ _ _ _) | (refine zS ?_; intro _ _) | (apply Ws <;> intro hg))
        refine WR.call (by first | exact gN | exact gS rfl) rfl rfl (has_fs hj (by omega) _) ?_
        rintro _ H6 ⟨rfl, rfl⟩
        cases e3 : (ns.getD j 0).testBit a with
        | false =>
          repeat' (first | refine zP ?_ | refine zA ?_ | (refine zM ?_; intro _ _) | refine zX ?_ | (refine zC ?_; intro _ _ _ _) | (refine zS ?_; intro _ _) | (apply Ws <;> intro hg))
          exact Ends.ret1 rfl ⟨by rw [hE rfl]; simp only [e1, e2, e3]; simp, _, by omega, hM⟩
        | true =>
        repeat' (first | refine zP ?_ | refine zA ?_ | (refine zM ?_; intro _ _) | refine zX ?_ | (refine zC ?_; intro _ _ _ _) | (refine zS ?_; intro _ _) | (apply Ws <;> intro hg))
        refine WR.call (by first | exact gN | exact gS rfl) rfl rfl (has_fs hj (by omega) _) ?_
        rintro _ H6 ⟨rfl, rfl⟩
        cases e4 : (ns.getD j 0).testBit b with
        | true =>
          repeat' (first | refine zP ?_ | refine zA ?_ | (refine zM ?_; intro _ _) | refine zX ?_ | (refine zC ?_; intro _ _ _ _) | (refine zS ?_; intro _ _) | (apply Ws <;> intro hg))
          exact Ends.ret1 rfl ⟨by rw [hE rfl]; simp only [e1, e2, e3, e4]; simp, _, by omega, hM⟩
        | false =>
        repeat' (first | refine zP ?_ | refine zA ?_ | (refine zM ?_; intro _ _) | refine zX ?_ | (refine zC ?_; intro _ _ _ _) | (refine zS ?_; intro _ _) | (apply Ws <;> intro hg))
        refine WR.call (by first | exact gN | exact gS rfl) rfl rfl (has_fs hk (by omega) _) ?_
        rintro _ H6 ⟨rfl, rfl⟩
        cases e5 : (ns.getD k 0).testBit b with
        | false =>
          repeat' (first | refine zP ?_ | refine zA ?_ | (refine zM ?_; intro _ _) | refine zX ?_ | (refine zC ?_; intro _ _ _ _) | (refine zS ?_; intro _ _) | (apply Ws <;> intro hg))
          exact Ends.ret1 rfl ⟨by rw [hE rfl]; simp only [e1, e2, e3, e4, e5]; simp, _, by omega, hM⟩
        | true =>
        repeat' (first | refine zP ?_ | refine zA ?_ | (refine zM ?_; intro _ _) | refine zX ?_ | (refine zC ?_; intro _ _ _ _) | (refine zS ?_; intro _ _) | (apply Ws <;> intro hg))
        refine WR.call (by first | exact gN | exact gS rfl) rfl rfl (has_fs hk (by omega) _) ?_
        rintro _ H6 ⟨rfl, rfl⟩
        cases e6 : (ns.getD k 0).testBit a with
        | true =>
          repeat' (first | refine zP ?_ | refine zA ?_ | (refine zM ?_; intro _ _) | refine zX ?_ | (refine zC ?_; intro _ _ _ _) | (refine zS ?_; intro _ _) | (apply Ws <;> intro hg))
          exact Ends.ret1 rfl ⟨by rw [hE rfl]; simp only [e1, e2, e3, e4, e5, e6]; simp, _, by omega, hM⟩
        | false =>
          repeat' (first | refine zP ?_ | refine zA ?_ | (refine zM ?_; intro _ _) | refine zX ?_ | (refine zC ?_; intro _ _ _ _) | (refine zS ?_; intro _ _) | (apply Ws <;> intro hg))
          exact Ends.ret1 rfl ⟨by rw [hE rfl]; simp only [e1, e2, e3, e4, e5, e6]; simp, _, by omega, hM⟩
      · rw [decide_eq_false hB]
        repeat' (first | refine zP ?_ | refine zA ?_ | (refine zM ?_; intro _ _) | refine zX ?_ | (refine zC ?_; intro _ _ _ _) | (refine zS ?_; intro _ _) | (apply Ws <;> intro hg))
        exact Ends.ret1 rfl ⟨by rw [hE (by rw [if_pos (fun h => hB h.2.2)])], _, by omega, hM⟩
    · rw [decide_eq_false hA]
      repeat' (first | refine zP ?_ | refine zA ?_ | (refine zM ?_; intro _ _) | refine zX ?_ | (refine zC ?_; intro _ _ _ _) | (refine zS ?_; intro _ _) | (apply Ws <;> intro hg))
      exact Ends.ret1 rfl ⟨by rw [hE (by rw [if_pos (fun h => hA ⟨h.1, h.2.1⟩)])], _, by omega, hH2.tail⟩
  · repeat' (first | refine zP ?_ | refine zA ?_ | (refine zM ?_; intro _ _) | refine zX ?_ | (refine zC ?_; intro _ _ _ _) | (refine zS ?_; intro _ _) | refine zO ?_ | (apply Ws <;> intro hg))
    exact Ends.ret1 rfl ⟨by rw [provE, if_pos h0], n0, Nat.le_refl _, hH⟩

set_option maxHeartbeats 1000000 in
theorem rProves_fs (hH : hasH M n0 H) (hS : Sl M 1 v (ints xs)) (hl : xs.length ≤ 1000) (one two both first second : Int) :
    FS C 22 [.int .i64 m, v, .int .i64 one, .int .i64 two, .int .i64 both, .int .i64 first, .int .i64 second] H (fun e H' => e = .int .i64 (provE m xs one two both first second) ∧ H' = H) := by
  refine FS.intro (pf := pf22) rfl rfl rfl ?_
  repeat' (first | refine zP ?_ | refine zA ?_ | (refine zM ?_; intro _ _) | refine zX ?_ | (refine zC ?_; intro _ _ _ _) | (refine zS ?_; intro _ _) | (apply Ws <;> intro hg))
  refine WR.call (by first | exact gN | exact gS rfl) rfl rfl (rCheck_fs hH hS hl m) ?_
  rintro _ H1 ⟨rfl, rfl⟩
  by_cases h0 : castsE m xs = 0
  · rw [h0]
    obtain ⟨N, ns, rfl, h1, h2, rfl, h3, h4⟩ := casts_ok h0
    rw [← nodesI] at hS
    have hb := lt_62 h2 h4
    have hE : ∀ {e}, (if ¬ ((0 ≤ one ∧ one < (N : Int)) ∧ (0 ≤ two ∧ two < (N : Int)) ∧ (0 ≤ both ∧ both < ns.length) ∧ (0 ≤ first ∧ first < ns.length) ∧ (0 ≤ second ∧ second < ns.length)) then 2 else if provB ns one.toNat two.toNat both.toNat first.toNat second.toNat = true then 0 else 14) = e →
        provE (N : Int) (ns.map fun (x : Nat) => (x : Int)) one two both first second = e := fun h => by
      rw [provE, if_neg (by omega), cast_toNat, List.length_map]; exact h
    repeat' (first | refine zP ?_ | refine zA ?_ | (refine zM ?_; intro _ _) | refine zX ?_ | (refine zC ?_; intro _ _ _ _) | (refine zS ?_; intro _ _) | refine zO ?_ | (apply Ws <;> intro hg))
    refine WR.call (by first | exact gN | exact gS rfl) rfl rfl (in_fs _ _ _ _) ?_
    rintro _ H6 ⟨rfl, rfl⟩
    by_cases c1 : 0 ≤ one ∧ one ≤ (N : Int) - 1
    all_goals first | rw [decide_eq_true c1] | rw [decide_eq_false c1]
    rotate_left
    · repeat' (first | refine zP ?_ | refine zA ?_ | (refine zM ?_; intro _ _) | refine zX ?_ | (refine zC ?_; intro _ _ _ _) | (refine zS ?_; intro _ _) | refine zO ?_ | (apply Ws <;> intro hg))
      exact Ends.ret1 rfl ⟨by rw [hE (by rw [if_pos (fun h => c1 (by omega))])], rfl⟩
    repeat' (first | refine zP ?_ | refine zA ?_ | (refine zM ?_; intro _ _) | refine zX ?_ | (refine zC ?_; intro _ _ _ _) | (refine zS ?_; intro _ _) | refine zO ?_ | (apply Ws <;> intro hg))
    refine WR.call (by first | exact gN | exact gS rfl) rfl rfl (in_fs _ _ _ _) ?_
    rintro _ H6 ⟨rfl, rfl⟩
    by_cases c2 : 0 ≤ two ∧ two ≤ (N : Int) - 1
    all_goals first | rw [decide_eq_true c2] | rw [decide_eq_false c2]
    rotate_left
    · repeat' (first | refine zP ?_ | refine zA ?_ | (refine zM ?_; intro _ _) | refine zX ?_ | (refine zC ?_; intro _ _ _ _) | (refine zS ?_; intro _ _) | refine zO ?_ | (apply Ws <;> intro hg))
      exact Ends.ret1 rfl ⟨by rw [hE (by rw [if_pos (fun h => c2 (by omega))])], rfl⟩
    repeat' (first | refine zP ?_ | refine zA ?_ | (refine zM ?_; intro _ _) | refine zX ?_ | (refine zC ?_; intro _ _ _ _) | (refine zS ?_; intro _ _) | refine zO ?_ | (apply Ws <;> intro hg))
    refine WR.call (by first | exact gN | exact gS rfl) rfl rfl (in_fs _ _ _ _) ?_
    rintro _ H6 ⟨rfl, rfl⟩
    by_cases c3 : 0 ≤ both ∧ both ≤ (ns.length : Int) - 1
    all_goals first | rw [decide_eq_true c3] | rw [decide_eq_false c3]
    rotate_left
    · repeat' (first | refine zP ?_ | refine zA ?_ | (refine zM ?_; intro _ _) | refine zX ?_ | (refine zC ?_; intro _ _ _ _) | (refine zS ?_; intro _ _) | refine zO ?_ | (apply Ws <;> intro hg))
      exact Ends.ret1 rfl ⟨by rw [hE (by rw [if_pos (fun h => c3 (by omega))])], rfl⟩
    repeat' (first | refine zP ?_ | refine zA ?_ | (refine zM ?_; intro _ _) | refine zX ?_ | (refine zC ?_; intro _ _ _ _) | (refine zS ?_; intro _ _) | refine zO ?_ | (apply Ws <;> intro hg))
    refine WR.call (by first | exact gN | exact gS rfl) rfl rfl (in_fs _ _ _ _) ?_
    rintro _ H6 ⟨rfl, rfl⟩
    by_cases c4 : 0 ≤ first ∧ first ≤ (ns.length : Int) - 1
    all_goals first | rw [decide_eq_true c4] | rw [decide_eq_false c4]
    rotate_left
    · repeat' (first | refine zP ?_ | refine zA ?_ | (refine zM ?_; intro _ _) | refine zX ?_ | (refine zC ?_; intro _ _ _ _) | (refine zS ?_; intro _ _) | refine zO ?_ | (apply Ws <;> intro hg))
      exact Ends.ret1 rfl ⟨by rw [hE (by rw [if_pos (fun h => c4 (by omega))])], rfl⟩
    repeat' (first | refine zP ?_ | refine zA ?_ | (refine zM ?_; intro _ _) | refine zX ?_ | (refine zC ?_; intro _ _ _ _) | (refine zS ?_; intro _ _) | refine zO ?_ | (apply Ws <;> intro hg))
    refine WR.call (by first | exact gN | exact gS rfl) rfl rfl (in_fs _ _ _ _) ?_
    rintro _ H6 ⟨rfl, rfl⟩
    by_cases c5 : 0 ≤ second ∧ second ≤ (ns.length : Int) - 1
    all_goals first | rw [decide_eq_true c5] | rw [decide_eq_false c5]
    rotate_left
    · repeat' (first | refine zP ?_ | refine zA ?_ | (refine zM ?_; intro _ _) | refine zX ?_ | (refine zC ?_; intro _ _ _ _) | (refine zS ?_; intro _ _) | refine zO ?_ | (apply Ws <;> intro hg))
      exact Ends.ret1 rfl ⟨by rw [hE (by rw [if_pos (fun h => c5 (by omega))])], rfl⟩
    rw [if_neg (show ¬ ¬ _ from not_not_intro ⟨⟨c1.1, by omega⟩, ⟨c2.1, by omega⟩, ⟨c3.1, by omega⟩, ⟨c4.1, by omega⟩, ⟨c5.1, by omega⟩⟩)] at hE
    obtain ⟨a, rfl⟩ : ∃ a : Nat, one = (a : Int) := ⟨one.toNat, by omega⟩
    obtain ⟨b, rfl⟩ : ∃ a : Nat, two = (a : Int) := ⟨two.toNat, by omega⟩
    obtain ⟨i, rfl⟩ : ∃ a : Nat, both = (a : Int) := ⟨both.toNat, by omega⟩
    obtain ⟨j, rfl⟩ : ∃ a : Nat, first = (a : Int) := ⟨first.toNat, by omega⟩
    obtain ⟨k, rfl⟩ : ∃ a : Nat, second = (a : Int) := ⟨second.toNat, by omega⟩
    simp only [Int.toNat_natCast, provB] at hE
    have hi := hb _ (getD_mem (a := 0) (show i < ns.length by omega))
    have hj := hb _ (getD_mem (a := 0) (show j < ns.length by omega))
    have hk := hb _ (getD_mem (a := 0) (show k < ns.length by omega))
    repeat' (first | refine zP ?_ | refine zA ?_ | (refine zM ?_; intro _ _) | refine zX ?_ | (refine zC ?_; intro _ _ _ _) | (refine zS ?_; intro _ _) | refine zO ?_ | (apply Ws <;> intro hg))
    refine WR.call (by first | exact gN | exact gS rfl) rfl rfl (rhas_fs hi (by omega) _) ?_
    rintro _ H6 ⟨rfl, rfl⟩
    cases e1 : (ns.getD i 0).testBit a with
    | false =>
      repeat' (first | refine zP ?_ | refine zA ?_ | (refine zM ?_; intro _ _) | refine zX ?_ | (refine zC ?_; intro _ _ _ _) | (refine zS ?_; intro _ _) | (apply Ws <;> intro hg))
      exact Ends.ret1 rfl ⟨by rw [hE rfl]; simp only [e1]; simp, rfl⟩
    | true =>
    repeat' (first | refine zP ?_ | refine zA ?_ | (refine zM ?_; intro _ _) | refine zX ?_ | (refine zC ?_; intro _ _ _ _) | (refine zS ?_; intro _ _) | (apply Ws <;> intro hg))
    refine WR.call (by first | exact gN | exact gS rfl) rfl rfl (rhas_fs hi (by omega) _) ?_
    rintro _ H6 ⟨rfl, rfl⟩
    cases e2 : (ns.getD i 0).testBit b with
    | false =>
      repeat' (first | refine zP ?_ | refine zA ?_ | (refine zM ?_; intro _ _) | refine zX ?_ | (refine zC ?_; intro _ _ _ _) | (refine zS ?_; intro _ _) | (apply Ws <;> intro hg))
      exact Ends.ret1 rfl ⟨by rw [hE rfl]; simp only [e1, e2]; simp, rfl⟩
    | true =>
    repeat' (first | refine zP ?_ | refine zA ?_ | (refine zM ?_; intro _ _) | refine zX ?_ | (refine zC ?_; intro _ _ _ _) | (refine zS ?_; intro _ _) | (apply Ws <;> intro hg))
    refine WR.call (by first | exact gN | exact gS rfl) rfl rfl (rhas_fs hj (by omega) _) ?_
    rintro _ H6 ⟨rfl, rfl⟩
    cases e3 : (ns.getD j 0).testBit a with
    | false =>
      repeat' (first | refine zP ?_ | refine zA ?_ | (refine zM ?_; intro _ _) | refine zX ?_ | (refine zC ?_; intro _ _ _ _) | (refine zS ?_; intro _ _) | (apply Ws <;> intro hg))
      exact Ends.ret1 rfl ⟨by rw [hE rfl]; simp only [e1, e2, e3]; simp, rfl⟩
    | true =>
    repeat' (first | refine zP ?_ | refine zA ?_ | (refine zM ?_; intro _ _) | refine zX ?_ | (refine zC ?_; intro _ _ _ _) | (refine zS ?_; intro _ _) | (apply Ws <;> intro hg))
    refine WR.call (by first | exact gN | exact gS rfl) rfl rfl (rhas_fs hj (by omega) _) ?_
    rintro _ H6 ⟨rfl, rfl⟩
    cases e4 : (ns.getD j 0).testBit b with
    | true =>
      repeat' (first | refine zP ?_ | refine zA ?_ | (refine zM ?_; intro _ _) | refine zX ?_ | (refine zC ?_; intro _ _ _ _) | (refine zS ?_; intro _ _) | (apply Ws <;> intro hg))
      exact Ends.ret1 rfl ⟨by rw [hE rfl]; simp only [e1, e2, e3, e4]; simp, rfl⟩
    | false =>
    repeat' (first | refine zP ?_ | refine zA ?_ | (refine zM ?_; intro _ _) | refine zX ?_ | (refine zC ?_; intro _ _ _ _) | (refine zS ?_; intro _ _) | (apply Ws <;> intro hg))
    refine WR.call (by first | exact gN | exact gS rfl) rfl rfl (rhas_fs hk (by omega) _) ?_
    rintro _ H6 ⟨rfl, rfl⟩
    cases e5 : (ns.getD k 0).testBit b with
    | false =>
      repeat' (first | refine zP ?_ | refine zA ?_ | (refine zM ?_; intro _ _) | refine zX ?_ | (refine zC ?_; intro _ _ _ _) | (refine zS ?_; intro _ _) | (apply Ws <;> intro hg))
      exact Ends.ret1 rfl ⟨by rw [hE rfl]; simp only [e1, e2, e3, e4, e5]; simp, rfl⟩
    | true =>
    repeat' (first | refine zP ?_ | refine zA ?_ | (refine zM ?_; intro _ _) | refine zX ?_ | (refine zC ?_; intro _ _ _ _) | (refine zS ?_; intro _ _) | (apply Ws <;> intro hg))
    refine WR.call (by first | exact gN | exact gS rfl) rfl rfl (rhas_fs hk (by omega) _) ?_
    rintro _ H6 ⟨rfl, rfl⟩
    cases e6 : (ns.getD k 0).testBit a with
    | true =>
      repeat' (first | refine zP ?_ | refine zA ?_ | (refine zM ?_; intro _ _) | refine zX ?_ | (refine zC ?_; intro _ _ _ _) | (refine zS ?_; intro _ _) | (apply Ws <;> intro hg))
      exact Ends.ret1 rfl ⟨by rw [hE rfl]; simp only [e1, e2, e3, e4, e5, e6]; simp, rfl⟩
    | false =>
      repeat' (first | refine zP ?_ | refine zA ?_ | (refine zM ?_; intro _ _) | refine zX ?_ | (refine zC ?_; intro _ _ _ _) | (refine zS ?_; intro _ _) | (apply Ws <;> intro hg))
      exact Ends.ret1 rfl ⟨by rw [hE rfl]; simp only [e1, e2, e3, e4, e5, e6]; simp, rfl⟩
  · repeat' (first | refine zP ?_ | refine zA ?_ | (refine zM ?_; intro _ _) | refine zX ?_ | (refine zC ?_; intro _ _ _ _) | (refine zS ?_; intro _ _) | refine zO ?_ | (apply Ws <;> intro hg))
    exact Ends.ret1 rfl ⟨by rw [provE, if_pos h0], rfl⟩
end
end Go.Proofs.Ytblopbimchkneaa.Md

namespace Go.Proofs.Ytblopbimchkneaa.Md
open Go Go.Abs Go.Mth
set_option linter.unusedVariables false
set_option linter.unusedSimpArgs false
attribute [local irreducible] gOK WS WC WR WD Ends FS YS OpV seqK blockK loopK midK retK rdK asgK rangeEnd sat Cell
section
variable {M : HL} {n0 : Nat} {H : Heap} {v : Value} {xs : List Int} {m : Int}
set_option maxHeartbeats 1000000 in
theorem MouldHonest_fs (hH : hasH M n0 H) (hS : Sl M 1 v (ints xs)) (one two both first second : Int) :
    FS C 3 [.int .i64 m, v, .int .i64 one, .int .i64 two, .int .i64 both, .int .i64 first, .int .i64 second] H (fun e H' => e = .bool true) := by
  refine FS.intro (pf := pf3) rfl rfl rfl ?_
  repeat' (first | refine zP ?_ | refine zA ?_ | (refine zM ?_; intro _ _) | refine zX ?_ | (refine zC ?_; intro _ _ _ _) | (refine zS ?_; intro _ _) | (apply Ws <;> intro hg))
  refine WC.condP rfl (fun hlen => ?_) (fun hlen => ?_)
  · repeat' (first | refine zP ?_ | refine zA ?_ | (refine zM ?_; intro _ _) | refine zX ?_ | (refine zC ?_; intro _ _ _ _) | (refine zS ?_; intro _ _) | (apply Ws <;> intro hg))
    refine WR.call (by first | exact gN | exact gS rfl) rfl rfl (FS.works (C := C) (R := fun v H' => v = .bool true) rfl) ?_
    rintro _ _ rfl
    repeat' (first | refine zP ?_ | refine zA ?_ | (refine zM ?_; intro _ _) | refine zX ?_ | (refine zC ?_; intro _ _ _ _) | (refine zS ?_; intro _ _) | (apply Ws <;> intro hg))
    exact Ends.ret1 rfl rfl
  have hl : xs.length ≤ 1000 := by omega
  repeat' (first | refine zP ?_ | refine zA ?_ | (refine zM ?_; intro _ _) | refine zX ?_ | (refine zC ?_; intro _ _ _ _) | (refine zS ?_; intro _ _) | (apply Ws <;> intro hg))
  refine WR.call (by first | exact gN | exact gS rfl) rfl rfl (Honest_fs hH hS hl) ?_
  rintro _ H1 ⟨rfl, n1, hn1, hH1⟩
  clear hH
  repeat' (first | refine zP ?_ | refine zA ?_ | (refine zM ?_; intro _ _) | refine zX ?_ | (refine zC ?_; intro _ _ _ _) | (refine zS ?_; intro _ _) | (apply Ws <;> intro hg))
  refine WR.call (by first | exact gN | exact gS rfl) rfl rfl (rHonest_fs hH1 hS hl) ?_
  rintro _ H2 ⟨rfl, rfl⟩
  repeat' (first | refine zP ?_ | refine zA ?_ | (refine zM ?_; intro _ _) | refine zX ?_ | (refine zC ?_; intro _ _ _ _) | (refine zS ?_; intro _ _) | (apply Ws <;> intro hg))
  refine WR.call (by first | exact gN | exact gS rfl) rfl rfl (Why_fs hH1 hS hl) ?_
  rintro _ H3 ⟨⟨a, b, f, rfl, hW1⟩, n3, hn3, hH3⟩
  clear hH1
  repeat' (first | refine zP ?_ | refine zA ?_ | (refine zM ?_; intro _ _) | refine zX ?_ | (refine zC ?_; intro _ _ _ _) | (refine zS ?_; intro _ _) | (apply Ws <;> intro hg))
  refine WR.call (by first | exact gN | exact gS rfl) rfl rfl (rWhy_fs hH3 hS hl) ?_
  rintro _ H4 ⟨⟨a', b', f', rfl, hW2⟩, rfl⟩
  obtain ⟨rfl, rfl, rfl⟩ := hW1.unique hW2
  repeat' (first | refine zP ?_ | refine zA ?_ | (refine zM ?_; intro _ _) | refine zX ?_ | (refine zC ?_; intro _ _ _ _) | (refine zS ?_; intro _ _) | (apply Ws <;> intro hg))
  refine WR.op (by first | exact gN | exact gS rfl) rfl (OpV.eqB (eqlB _ _) rfl rfl) ?_
  rw [beq_self_eq_true]
  repeat' (first | refine zP ?_ | refine zA ?_ | (refine zM ?_; intro _ _) | refine zX ?_ | (refine zC ?_; intro _ _ _ _) | (refine zS ?_; intro _ _) | refine zO ?_ | (apply Ws <;> intro hg))
  refine WR.call (by first | exact gN | exact gS rfl) rfl rfl (Check_fs hH3 hS hl m) ?_
  rintro _ H5 ⟨rfl, rfl⟩
  repeat' (first | refine zP ?_ | refine zA ?_ | (refine zM ?_; intro _ _) | refine zX ?_ | (refine zC ?_; intro _ _ _ _) | (refine zS ?_; intro _ _) | refine zO ?_ | (apply Ws <;> intro hg))
  refine WR.call (by first | exact gN | exact gS rfl) rfl rfl (rCheck_fs hH3 hS hl m) ?_
  rintro _ H6 ⟨rfl, rfl⟩
  repeat' (first | refine zP ?_ | refine zA ?_ | (refine zM ?_; intro _ _) | refine zX ?_ | (refine zC ?_; intro _ _ _ _) | (refine zS ?_; intro _ _) | refine zO ?_ | (apply Ws <;> intro hg))
  refine WR.call (by first | exact gN | exact gS rfl) rfl rfl (Proves_fs hH3 hS hl _ _ _ _ _) ?_
  rintro _ H7 ⟨rfl, n7, hn7, hH7⟩
  repeat' (first | refine zP ?_ | refine zA ?_ | (refine zM ?_; intro _ _) | refine zX ?_ | (refine zC ?_; intro _ _ _ _) | (refine zS ?_; intro _ _) | refine zO ?_ | (apply Ws <;> intro hg))
  refine WR.call (by first | exact gN | exact gS rfl) rfl rfl (rProves_fs hH7 hS hl _ _ _ _ _) ?_
  rintro _ H8 ⟨rfl, rfl⟩
  repeat' (first | refine zP ?_ | refine zA ?_ | (refine zM ?_; intro _ _) | refine zX ?_ | (refine zC ?_; intro _ _ _ _) | (refine zS ?_; intro _ _) | refine zO ?_ | (apply Ws <;> intro hg))
  refine WR.call (by first | exact gN | exact gS rfl) rfl rfl (FS.works (C := C) (R := fun v H' => v = .bool true) rfl) ?_
  rintro _ _ rfl
  repeat' (first | refine zP ?_ | refine zA ?_ | (refine zM ?_; intro _ _) | refine zX ?_ | (refine zC ?_; intro _ _ _ _) | (refine zS ?_; intro _ _) | (apply Ws <;> intro hg))
  exact Ends.ret1 rfl rfl
end
end Go.Proofs.Ytblopbimchkneaa.Md
