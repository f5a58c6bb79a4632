/- Texts of the law, joined. -/
import Derived.Test.YtcfffhkabhmkmaaJ2
import Derived.Test.YtcfffhkabhmkmaaSymS
import Derived.Test.YtcfffhkabhmkmaaSymG
/- Functions of the library; a shore's check, and that of places. -/
namespace Go.Proofs.Ytcfffhkabhmkmaa.Ps
open Go Go.Abs Go.Mth
set_option linter.unusedVariables false
set_option linter.unusedSimpArgs false
theorem nodes_IL (l : List Nat) : nodes l = ints (IL l) := by simp [nodes, ints, IL]
def errP (n : Nat) (o : List Int) (k : Nat) : Int := if o.getD k 0 < 0 ∨ (n : Int) ≤ o.getD k 0 then 2 else if 0 < k ∧ o.getD k 0 ≤ o.getD (k - 1) 0 then 7 else 0
def errL (xs o : List Int) : Int := if errS xs ≠ 0 then errS xs else firstE (errP xs.length o) o.length
theorem errL_zero {xs o : List Int} : errL xs o = 0 ↔ OKS xs ∧ ∃ l : List Nat, o = IL l ∧ AscN xs.length l := by
  unfold errL
  by_cases h0 : errS xs = 0
  · rw [if_neg (by omega), firstE_zero]
    have hok := errS_zero.1 h0
    constructor
    · intro h
      have key : ∀ i, i < o.length → (0 ≤ o.getD i 0 ∧ o.getD i 0 < xs.length) ∧ (0 < i → o.getD (i - 1) 0 < o.getD i 0) := by
        intro i hi
        have := h i hi
        unfold errP at this
        split at this
        · cases this
        · split at this
          · cases this
          · exact ⟨by omega, by omega⟩
      refine ⟨hok, o.map Int.toNat, ?_, ?_, ?_⟩
      · refine List.ext_getElem (by simp [IL]) fun i hi h2 => ?_
        have := (key i hi).1
        rw [getD_eq hi] at this
        simp [IL]; omega
      · have mono : ∀ d i, i + d + 1 < o.length → o.getD i 0 < o.getD (i + d + 1) 0 := by
          intro d
          induction d with
          | zero => intro i hi; have := (key (i + 1) hi).2 (by omega); simpa using this
          | succ d ih => intro i hi; have := (key (i + (d + 1) + 1) hi).2 (by omega); have := ih i (by omega); simp only [Nat.add_sub_cancel] at *; rw [show i + (d + 1) = i + d + 1 by omega] at *; omega
        rw [List.pairwise_iff_getElem]
        intro i j hi hj hij
        simp only [List.length_map] at hi hj
        simp only [List.getElem_map]
        have h1 := mono (j - i - 1) i (by omega)
        rw [show i + (j - i - 1) + 1 = j by omega, getD_eq hi, getD_eq hj] at h1
        have h2 := (key i hi).1
        rw [getD_eq hi] at h2
        omega
      · intro x hx
        obtain ⟨y, hy, rfl⟩ := List.mem_map.1 hx
        obtain ⟨i, hi, rfl⟩ := List.mem_iff_getElem.1 hy
        have := (key i hi).1
        rw [getD_eq hi] at this
        omega
    · rintro ⟨_, l, rfl, hl⟩ i hi
      rw [IL_len] at hi
      have h1 := hl.lt _ (getD_mem (a := 0) hi)
      unfold errP
      rw [IL_get hi, if_neg (by omega), if_neg]
      rintro ⟨hp, hle⟩
      rw [IL_get (by omega)] at hle
      have := List.pairwise_iff_getElem.1 hl.asc (i - 1) i (by omega) hi (by omega)
      rw [getD_eq hi, getD_eq (by omega)] at hle
      omega
  · rw [if_pos h0]
    exact ⟨fun h => absurd h h0, fun h => absurd (errS_zero.2 h.1) h0⟩
attribute [local irreducible] gOK WS WC WR WD Ends FS YS OpV seqK blockK loopK midK retK rdK asgK rangeEnd sat Cell
section
variable {M : HL} {n0 : Nat} {H : Heap} {v w : Value}
theorem isPlace_fs (hH : hasH M n0 H) {xs : List Int} (hS : Sl M 1 v (ints xs)) (a : Int) :
    FS C 39 [v, .int .i64 a] H (fun e H' => H' = H ∧ e = .bool (decide (0 ≤ a ∧ a < xs.length))) := by
  refine FS.intro (pf := pf39) rfl rfl rfl ?_
  repeat' (first | refine zP ?_ | refine zA ?_ | (refine zM ?_; intro _ _) | refine zX ?_ | (refine zC ?_; intro _ _ _ _) | (refine zS ?_; intro _ _) | (apply Ws <;> intro hg))
  · exact Ends.ret1 rfl ⟨rfl, by congr 1; rw [decide_eq_decide]; omega⟩
  · exact Ends.ret1 rfl ⟨rfl, by rw [decide_eq_false (by omega)]⟩
theorem isBehind_fs (a : Int) (k : Nat) (H : Heap) :
    FS C 44 [.int .i64 a, .int .i64 (k : Int)] H (fun e H' => H' = H ∧ e = .bool (decide ((k = 0 ∧ a = -1) ∨ (k ≠ 0 ∧ 0 ≤ a ∧ a < k)))) := by
  refine FS.intro (pf := pf44) rfl rfl rfl ?_
  repeat' (first | refine zP ?_ | refine zA ?_ | (refine zM ?_; intro _ _) | refine zX ?_ | (refine zC ?_; intro _ _ _ _) | (refine zS ?_; intro _ _) | (apply Ws <;> intro hg))
  refine WC.condP rfl (fun h0 => ?_) (fun h0 => ?_)
  · repeat' (first | refine zP ?_ | refine zA ?_ | (refine zM ?_; intro _ _) | refine zX ?_ | (refine zC ?_; intro _ _ _ _) | (refine zS ?_; intro _ _) | (apply Ws <;> intro hg))
    exact Ends.ret1 rfl ⟨rfl, by congr 1; rw [decide_eq_decide]; omega⟩
  · repeat' (first | refine zP ?_ | refine zA ?_ | (refine zM ?_; intro _ _) | refine zX ?_ | (refine zC ?_; intro _ _ _ _) | (refine zS ?_; intro _ _) | (apply Ws <;> intro hg))
    · exact Ends.ret1 rfl ⟨rfl, by congr 1; rw [decide_eq_decide]; omega⟩
    · exact Ends.ret1 rfl ⟨rfl, by rw [decide_eq_false (by omega)]⟩
theorem Check_fs (hH : hasH M n0 H) {xs : List Int} (hS : Sl M 1 v (ints xs)) (hx : xs.length ≤ 100000) :
    FS C 12 [v] H (fun e H' => H' = H ∧ e = .int .i64 (errS xs)) := by
  have hv := hS.one_
  refine FS.intro (pf := pf12) rfl rfl rfl ?_
  repeat' (first | refine zP ?_ | refine zA ?_ | (refine zM ?_; intro _ _) | refine zX ?_ | (refine zC ?_; intro _ _ _ _) | (refine zS ?_; intro _ _) | (apply Ws <;> intro hg))
  refine WC.condP rfl (fun h0 => ?_) (fun h0 => ?_)
  · repeat' (first | refine zP ?_ | refine zA ?_ | (refine zM ?_; intro _ _) | refine zX ?_ | (refine zC ?_; intro _ _ _ _) | (refine zS ?_; intro _ _) | (apply Ws <;> intro hg))
    refine Ends.ret1 rfl ⟨rfl, ?_⟩
    unfold errS; rw [if_pos (by omega)]
  · repeat' (first | refine zP ?_ | refine zA ?_ | (refine zM ?_; intro _ _) | refine zX ?_ | (refine zC ?_; intro _ _ _ _) | (refine zS ?_; intro _ _) | (apply Ws <;> intro hg))
    refine WC.condP rfl (fun h7 => ?_) (fun h7 => ?_)
    · repeat' (first | refine zP ?_ | refine zA ?_ | (refine zM ?_; intro _ _) | refine zX ?_ | (refine zC ?_; intro _ _ _ _) | (refine zS ?_; intro _ _) | (apply Ws <;> intro hg))
      refine Ends.ret1 rfl ⟨rfl, ?_⟩
      unfold errS; rw [if_neg (by omega), if_pos (by omega)]
    · repeat' (first | refine zP ?_ | refine zA ?_ | (refine zM ?_; intro _ _) | refine zX ?_ | (refine zC ?_; intro _ _ _ _) | (refine zS ?_; intro _ _) | (apply Ws <;> intro hg))
      refine WC.loopX [(0, v), (10, v), (11, .int .i64 (xs.length : Int))] (fun k : Nat => [(12, .int .i64 (k : Int))]) [] (fun k H' => H' = H ∧ k ≤ xs.length ∧ firstE (errB xs) k = 0) (fun k => xs.length - k) 0 (by repeat' (first | exact .nil | refine .cons rfl ?_)) rfl ⟨rfl, Nat.zero_le _, rfl⟩ ?_
      rintro k H' ⟨rfl, hk, hz⟩
      dsimp only [List.cons_append, List.nil_append]
      repeat' (first | refine zP ?_ | refine zA ?_ | (refine zM ?_; intro _ _) | refine zX ?_ | (refine zC ?_; intro _ _ _ _) | (refine zS ?_; intro _ _) | (apply Ws <;> intro hg))
      refine WC.condP rfl (fun hlt => ?_) (fun hlt => ?_)
      · have hk' : k < xs.length := by omega
        repeat' (first | refine zP ?_ | refine zA ?_ | (refine zM ?_; intro _ _) | refine zX ?_ | (refine zC ?_; intro _ _ _ _) | (refine zS ?_; intro _ _) | (apply Ws <;> intro hg))
        refine WR.call (by first | exact gN | exact gS rfl) rfl rfl (isBehind_fs _ _ _) ?_
        rintro _ _ ⟨rfl, rfl⟩
        repeat' (first | refine zP ?_ | refine zA ?_ | (refine zM ?_; intro _ _) | refine zX ?_ | (refine zC ?_; intro _ _ _ _) | (refine zS ?_; intro _ _) | (apply Ws <;> intro hg))
        refine WC.condP rfl (fun hp => ?_) (fun hp => ?_)
        · repeat' (first | refine zP ?_ | refine zA ?_ | (refine zM ?_; intro _ _) | refine zX ?_ | (refine zC ?_; intro _ _ _ _) | (refine zS ?_; intro _ _) | (apply Ws <;> intro hg))
          refine Ends.ret1 rfl ⟨rfl, ?_⟩
          have h1 : errB xs k = 2 := by
            unfold errB
            by_cases e : k = 0
            · subst e; rw [if_pos rfl, if_neg (by omega)]
            · rw [if_neg e, if_neg (by omega)]
          unfold errS; rw [if_neg (by omega), if_neg (by omega), firstE_at hz (by rw [h1]; decide) hk', h1]
        · repeat' (first | refine zP ?_ | refine zA ?_ | (refine zM ?_; intro _ _) | refine zX ?_ | (refine zC ?_; intro _ _ _ _) | (refine zS ?_; intro _ _) | (apply Ws <;> intro hg))
          refine Ends.loop (k + 1) (by omega) (by repeat' (first | exact .nil | refine .cons rfl ?_)) rfl ⟨rfl, hk', firstE_succ hz ?_⟩
          unfold errB
          by_cases e : k = 0
          · subst e; rw [if_pos rfl, if_pos (by omega)]
          · rw [if_neg e, if_pos (by omega)]
      · have hkn : k = xs.length := by omega
        subst hkn
        repeat' (first | refine zP ?_ | refine zA ?_ | (refine zM ?_; intro _ _) | refine zX ?_ | (refine zC ?_; intro _ _ _ _) | (refine zS ?_; intro _ _) | (apply Ws <;> intro hg))
        refine Ends.ret1 rfl ⟨rfl, ?_⟩
        unfold errS; rw [if_neg (by omega), if_neg (by omega), hz]
theorem checkPlaces_fs (hH : hasH M n0 H) {xs o : List Int} (hS : Sl M 1 v (ints xs)) (hx : xs.length ≤ 100000) (hU : Sl M 1 w (ints o)) (ho : o.length ≤ 100000) :
    FS C 45 [v, w] H (fun e H' => H' = H ∧ e = .int .i64 (errL xs o)) := by
  have hv := hS.one_
  have hw := hU.one_
  refine FS.intro (pf := pf45) rfl rfl rfl ?_
  repeat' (first | refine zP ?_ | refine zA ?_ | (refine zM ?_; intro _ _) | refine zX ?_ | (refine zC ?_; intro _ _ _ _) | (refine zS ?_; intro _ _) | (apply Ws <;> intro hg))
  refine WR.call (by first | exact gN | exact gS rfl) rfl rfl (Check_fs hH hS hx) ?_
  rintro _ H1 ⟨rfl, rfl⟩
  repeat' (first | refine zP ?_ | refine zA ?_ | (refine zM ?_; intro _ _) | refine zX ?_ | (refine zC ?_; intro _ _ _ _) | (refine zS ?_; intro _ _) | (apply Ws <;> intro hg))
  refine WC.condP rfl (fun h0 => ?_) (fun h0 => ?_)
  · repeat' (first | refine zP ?_ | refine zA ?_ | (refine zM ?_; intro _ _) | refine zX ?_ | (refine zC ?_; intro _ _ _ _) | (refine zS ?_; intro _ _) | (apply Ws <;> intro hg))
    refine Ends.ret1 rfl ⟨rfl, ?_⟩
    unfold errL; rw [if_pos h0]
  · repeat' (first | refine zP ?_ | refine zA ?_ | (refine zM ?_; intro _ _) | refine zX ?_ | (refine zC ?_; intro _ _ _ _) | (refine zS ?_; intro _ _) | (apply Ws <;> intro hg))
    refine WC.loopX [(0, v), (1, w), (13, w), (14, .int .i64 (o.length : Int))] (fun k : Nat => [(15, .int .i64 (k : Int))]) [] (fun k H' => H' = H1 ∧ k ≤ o.length ∧ firstE (errP xs.length o) k = 0) (fun k => o.length - k) 0 (by repeat' (first | exact .nil | refine .cons rfl ?_)) rfl ⟨rfl, Nat.zero_le _, rfl⟩ ?_
    rintro k H' ⟨rfl, hk, hz⟩
    dsimp only [List.cons_append, List.nil_append]
    repeat' (first | refine zP ?_ | refine zA ?_ | (refine zM ?_; intro _ _) | refine zX ?_ | (refine zC ?_; intro _ _ _ _) | (refine zS ?_; intro _ _) | (apply Ws <;> intro hg))
    refine WC.condP rfl (fun hlt => ?_) (fun hlt => ?_)
    · have hk' : k < o.length := by omega
      repeat' (first | refine zP ?_ | refine zA ?_ | (refine zM ?_; intro _ _) | refine zX ?_ | (refine zC ?_; intro _ _ _ _) | (refine zS ?_; intro _ _) | (apply Ws <;> intro hg))
      refine WR.call (by first | exact gN | exact gS rfl) rfl rfl (isPlace_fs hH hS _) ?_
      rintro _ _ ⟨rfl, rfl⟩
      repeat' (first | refine zP ?_ | refine zA ?_ | (refine zM ?_; intro _ _) | refine zX ?_ | (refine zC ?_; intro _ _ _ _) | (refine zS ?_; intro _ _) | (apply Ws <;> intro hg))
      refine WC.condP rfl (fun hp => ?_) (fun hp => ?_)
      · repeat' (first | refine zP ?_ | refine zA ?_ | (refine zM ?_; intro _ _) | refine zX ?_ | (refine zC ?_; intro _ _ _ _) | (refine zS ?_; intro _ _) | (apply Ws <;> intro hg))
        refine Ends.ret1 rfl ⟨rfl, ?_⟩
        have h1 : errP xs.length o k = 2 := by unfold errP; rw [if_pos (by omega)]
        unfold errL; rw [if_neg h0, firstE_at hz (by rw [h1]; decide) hk', h1]
      · have hpl : ¬ (o.getD k 0 < 0 ∨ (xs.length : Int) ≤ o.getD k 0) := by omega
        rcases Nat.eq_zero_or_pos k with rfl | hk0
        · repeat' (first | refine zP ?_ | refine zA ?_ | (refine zM ?_; intro _ _) | refine zX ?_ | (refine zC ?_; intro _ _ _ _) | (refine zS ?_; intro _ _) | refine zO ?_ | (apply Ws <;> intro hg))
          refine Ends.loop 1 (by omega) (by repeat' (first | exact .nil | refine .cons rfl ?_)) rfl ⟨rfl, by omega, firstE_succ hz ?_⟩
          unfold errP; rw [if_neg hpl, if_neg (by omega)]
        · obtain ⟨j, rfl⟩ : ∃ j, k = j + 1 := ⟨k - 1, by omega⟩
          repeat' (first | refine zP ?_ | refine zA ?_ | (refine zM ?_; intro _ _) | refine zX ?_ | (refine zC ?_; intro _ _ _ _) | (refine zS ?_; intro _ _) | refine zO ?_ | (apply Ws <;> intro hg))
          have e1 : j + 1 - 1 = j := by omega
          refine WC.condP rfl (fun hle => ?_) (fun hle => ?_)
          · repeat' (first | refine zP ?_ | refine zA ?_ | (refine zM ?_; intro _ _) | refine zX ?_ | (refine zC ?_; intro _ _ _ _) | (refine zS ?_; intro _ _) | (apply Ws <;> intro hg))
            refine Ends.ret1 rfl ⟨rfl, ?_⟩
            have h1 : errP xs.length o (j + 1) = 7 := by unfold errP; rw [if_neg hpl, if_pos (by omega)]
            unfold errL; rw [if_neg h0, firstE_at hz (by rw [h1]; decide) hk', h1]
          · repeat' (first | refine zP ?_ | refine zA ?_ | (refine zM ?_; intro _ _) | refine zX ?_ | (refine zC ?_; intro _ _ _ _) | (refine zS ?_; intro _ _) | (apply Ws <;> intro hg))
            refine Ends.loop (j + 1 + 1) (by omega) (by repeat' (first | exact .nil | refine .cons rfl ?_)) rfl ⟨rfl, hk', firstE_succ hz ?_⟩
            unfold errP; rw [if_neg hpl, if_neg (by omega)]
    · have hkn : k = o.length := by omega
      subst hkn
      repeat' (first | refine zP ?_ | refine zA ?_ | (refine zM ?_; intro _ _) | refine zX ?_ | (refine zC ?_; intro _ _ _ _) | (refine zS ?_; intro _ _) | (apply Ws <;> intro hg))
      refine Ends.ret1 rfl ⟨rfl, ?_⟩
      unfold errL; rw [if_neg h0, hz]
end
end Go.Proofs.Ytcfffhkabhmkmaa.Ps

/- What is at hand of each place; what guards, what is apart. -/
namespace Go.Proofs.Ytcfffhkabhmkmaa.Ps
open Go Go.Abs Go.Mth
set_option linter.unusedVariables false
set_option linter.unusedSimpArgs false
theorem lt16 {a : Nat} (h : a < 1024) : a < capK .u16 := Nat.lt_of_lt_of_le h (by decide)
theorem rep16 (m : Nat) : (List.replicate m [Value.int .u16 0]).flatten = numsK .u16 (List.replicate m 0) := by
  induction m with
  | zero => rfl
  | succ m ih => simp only [List.replicate_succ, List.flatten_cons, ih, numsK, List.map_cons]; rfl
def HndV (M : HL) (xs : List Int) (v : Value) : Prop := Sl M 1 v (numsK .u16 (hsL xs))
attribute [local irreducible] gOK WS WC WR WD Ends FS YS OpV seqK blockK loopK midK retK rdK asgK rangeEnd sat Cell
section
variable {M : HL} {n0 : Nat} {H : Heap} {v w : Value}
theorem only_fs (x : Nat) (hx : x < 16) (H : Heap) : FS C 62 [.int .i64 (x : Int)] H (fun e H' => e = .int .u16 ((2 ^ x : Nat) : Int) ∧ H' = H) := by
  refine FS.intro (pf := pf62) rfl rfl rfl ?_
  repeat' (first | refine zP ?_ | refine zA ?_ | (refine zM ?_; intro _ _) | refine zX ?_ | (refine zC ?_; intro _ _ _ _) | (refine zS ?_; intro _ _) | (apply Ws <;> intro hg))
  refine WR.op (by first | exact gN | exact gS rfl) rfl (OpV.shl1 rfl rfl (by show x ≤ 16; omega) (by show 2 ^ x < 2 ^ 16; exact Nat.pow_lt_pow_right (by omega) hx)) ?_
  repeat' (first | refine zP ?_ | refine zA ?_ | (refine zM ?_; intro _ _) | refine zX ?_ | (refine zC ?_; intro _ _ _ _) | (refine zS ?_; intro _ _) | (apply Ws <;> intro hg))
  exact Ends.ret1 rfl ⟨rfl, rfl⟩
theorem firsts_fs (x : Nat) (hx : x < 16) (H : Heap) : FS C 63 [.int .i64 (x : Int)] H (fun e H' => e = .int .u16 ((2 ^ x - 1 : Nat) : Int) ∧ H' = H) := by
  refine FS.intro (pf := pf63) rfl rfl rfl ?_
  repeat' (first | refine zP ?_ | refine zA ?_ | (refine zM ?_; intro _ _) | refine zX ?_ | (refine zC ?_; intro _ _ _ _) | (refine zS ?_; intro _ _) | (apply Ws <;> intro hg))
  refine WR.call (by first | exact gN | exact gS rfl) rfl rfl (only_fs x hx _) ?_
  rintro _ _ ⟨rfl, rfl⟩
  repeat' (first | refine zP ?_ | refine zA ?_ | (refine zM ?_; intro _ _) | refine zX ?_ | (refine zC ?_; intro _ _ _ _) | (refine zS ?_; intro _ _) | (apply Ws <;> intro hg))
  have hp := Nat.pow_lt_pow_right (show 1 < 2 by omega) hx
  have hp0 : 0 < 2 ^ x := Nat.pow_pos (by omega)
  refine WR.op (by first | exact gN | exact gS rfl) rfl (OpV.subK rfl rfl (c := ((2 ^ x - 1 : Nat) : Int)) (by
    have h1 := wrap_cap (k := .u16) (r := 2 ^ x - 1) (by show 2 ^ x - 1 < 2 ^ 16; omega)
    have h2 : ((2 ^ x : Nat) : Int) - 1 = ((2 ^ x - 1 : Nat) : Int) := by omega
    rw [h2]; exact h1)) ?_
  repeat' (first | refine zP ?_ | refine zA ?_ | (refine zM ?_; intro _ _) | refine zX ?_ | (refine zC ?_; intro _ _ _ _) | (refine zS ?_; intro _ _) | (apply Ws <;> intro hg))
  exact Ends.ret1 rfl ⟨rfl, rfl⟩
set_option maxHeartbeats 2000000 in
theorem handsOf_fs (hH : hasH M n0 H) {xs : List Int} (hS : Sl M 1 v (ints xs)) (hx : OKS xs) :
    FS C 40 [v] H (fun e H' => e = .slice (some ⟨n0, 0, some 0⟩) xs.length (2 * xs.length + 1) ∧ hasH ((n0, .row 49 0 0 (numsK .u16 (hsL xs))) :: M) (n0 + 1) H') := by
  have h1 := hx.one
  have h10 := hx.most
  have hv := hS.one_
  refine FS.intro (pf := pf40) rfl rfl rfl ?_
  repeat' (first | refine zP ?_ | refine zA ?_ | (refine zM ?_; intro _ _) | refine zX ?_ | (refine zC ?_; intro _ _ _ _) | (refine zS ?_; intro _ _) | (apply Ws <;> intro hg))
  refine WR.mkSL (by first | exact gN | exact gS rfl) rfl hH rfl rfl (by omega) rfl fun H2 hH2 => ?_
  rw [rep16] at hH2
  repeat' (first | refine zP ?_ | refine zA ?_ | (refine zM ?_; intro _ _) | refine zX ?_ | (refine zC ?_; intro _ _ _ _) | (refine zS ?_; intro _ _) | (apply Ws <;> intro hg))
  have hSl : ∀ l : List Nat, Sl ((n0, .row 49 0 0 (numsK .u16 l)) :: M) 1 v (ints xs) := fun l => hS.cons
  refine WC.loopX [(0, _), (3, _), (9, _), (10, _)] (fun s : Nat × List Nat => [(11, .int .i64 (s.1 : Int))]) []
    (fun s H => s.1 ≤ xs.length ∧ s.2.length = xs.length ∧ hasH ((n0, .row 49 0 0 (numsK .u16 s.2)) :: M) (n0 + 1) H ∧ ∀ i, i < xs.length → s.2.getD i 0 = hmTo xs s.1 i)
    (fun s => xs.length - s.1) (0, List.replicate xs.length 0) (by repeat' (first | exact .nil | refine .cons rfl ?_)) rfl ⟨Nat.zero_le _, by simp, hH2, fun i hi => by rw [hm_zero (Nat.zero_le _)]; simp [List.getD_eq_getElem?_getD, hi]⟩ ?_
  clear hH2 hH
  rintro ⟨k, ms⟩ H3 ⟨hk, hml, hH, hms⟩
  simp only at hk hml hH hms
  have hS3 := hSl ms
  dsimp only [List.cons_append, List.nil_append]
  repeat' (first | refine zP ?_ | refine zA ?_ | (refine zM ?_; intro _ _) | refine zX ?_ | (refine zC ?_; intro _ _ _ _) | (refine zS ?_; intro _ _) | (apply Ws <;> intro hg))
  refine WC.condP rfl (fun hlt => ?_) (fun hlt => ?_)
  · have hk' : k < xs.length := by omega
    have hb1 : ms.getD k 0 < 1024 := by rw [hms k hk']; exact hmTo_lt k (by omega)
    repeat' (first | refine zP ?_ | refine zA ?_ | (refine zM ?_; intro _ _) | refine zX ?_ | (refine zC ?_; intro _ _ _ _) | (refine zS ?_; intro _ _) | (apply Ws <;> intro hg))
    refine WC.regionD ?_
    repeat' (first | refine zD ?_ | (refine zE ?_; intro _ _ _ _))
    refine WD.call (by first | exact gN | exact gS rfl) rfl rfl (only_fs k (by omega) _) ?_
    rintro _ H5 ⟨rfl, rfl⟩
    refine ⟨zSt, ?_⟩
    have hp16 : 2 ^ k < 1024 := by show 2 ^ k < 2 ^ 10; exact Nat.pow_lt_pow_right (by omega) (by omega)
    refine WD.op (by first | exact gN | exact gS rfl) rfl (OpV.orN rfl rfl (lt16 hb1) (lt16 hp16)) rfl (stands_nil _ _) ?_
    refine WD.toWR rfl ?_
    repeat' (first | refine zP ?_ | refine zA ?_ | (refine zM ?_; intro _ _) | refine zX ?_ | (refine zC ?_; intro _ _ _ _) | (refine zS ?_; intro _ _) | (apply Ws <;> intro hg))
    rename_i H6 hH6
    clear hH
    rcases Nat.eq_zero_or_pos k with rfl | hk0
    · repeat' (first | refine zP ?_ | refine zA ?_ | (refine zM ?_; intro _ _) | refine zX ?_ | (refine zC ?_; intro _ _ _ _) | (refine zS ?_; intro _ _) | refine zO ?_ | (apply Ws <;> intro hg))
      exact Ends.loop (1, ms.set 0 (ms.getD 0 0 ||| 2 ^ 0)) (by simp only; omega) (by repeat' (first | exact .nil | refine .cons rfl ?_)) rfl ⟨by simp only; omega, by simpa using hml, hH6, hm_root hx hml hms⟩
    · obtain ⟨hpar0, hpark⟩ := hx.par k (by omega) hk'
      obtain ⟨p, hp⟩ : ∃ p : Nat, xs.getD k 0 = (p : Int) := ⟨(xs.getD k 0).toNat, by omega⟩
      have hpk : p < k := by omega
      have hstep := hm_step hx hk' hp hpk hml hms
      have n1 : (ms.set k (ms.getD k 0 ||| 2 ^ k)).length = xs.length := by simp [hml]
      have hb2 : (ms.set k (ms.getD k 0 ||| 2 ^ k)).getD k 0 < 1024 := by
        rw [getD_set' (by omega), if_pos rfl]
        exact Nat.or_lt_two_pow (n := 10) hb1 hp16
      have hbp : ms.getD p 0 < 1024 := by rw [hms p (by omega)]; exact hmTo_lt p (by omega)
      have hb3 : (ms.set k (ms.getD k 0 ||| 2 ^ k)).getD p 0 < 1024 := by
        rw [getD_set' (by omega), if_neg (by omega)]; exact hbp
      have hS4 := hSl (ms.set k (ms.getD k 0 ||| 2 ^ k))
      generalize ms.set k (ms.getD k 0 ||| 2 ^ k) = l1 at hH6 hstep n1 hb2 hb3 hS4
      have hpp16 : 2 ^ p < 1024 := by show 2 ^ p < 2 ^ 10; exact Nat.pow_lt_pow_right (by omega) (by omega)
      repeat' (first | refine zP ?_ | refine zA ?_ | (refine zM ?_; intro _ _) | refine zX ?_ | (refine zC ?_; intro _ _ _ _) | (refine zS ?_; intro _ _) | refine zO ?_ | (apply Ws <;> intro hg))
      rw [hp]
      refine WC.regionD ?_
      repeat' (first | refine zD ?_ | (refine zE ?_; intro _ _ _ _))
      refine WD.call (by first | exact gN | exact gS rfl) rfl rfl (only_fs p (by omega) _) ?_
      rintro _ H7 ⟨rfl, rfl⟩
      refine ⟨zSt, ?_⟩
      refine WD.op (by first | exact gN | exact gS rfl) rfl (OpV.orN rfl rfl (lt16 hb2) (lt16 hpp16)) rfl (stands_nil _ _) ?_
      refine WD.toWR rfl ?_
      repeat' (first | refine zP ?_ | refine zA ?_ | (refine zM ?_; intro _ _) | refine zX ?_ | (refine zC ?_; intro _ _ _ _) | (refine zS ?_; intro _ _) | (apply Ws <;> intro hg))
      rename_i H8 hH8
      clear hH6
      have n2 : (l1.set k (l1.getD k 0 ||| 2 ^ p)).length = xs.length := by simp [n1]
      have hb4 : (l1.set k (l1.getD k 0 ||| 2 ^ p)).getD p 0 < 1024 := by rw [getD_set' (by omega), if_neg (by omega)]; exact hb3
      generalize l1.set k (l1.getD k 0 ||| 2 ^ p) = l2 at hH8 hstep n2 hb4
      refine WC.regionD ?_
      repeat' (first | refine zD ?_ | (refine zE ?_; intro _ _ _ _))
      refine WD.call (by first | exact gN | exact gS rfl) rfl rfl (only_fs k (by omega) _) ?_
      rintro _ H9 ⟨rfl, rfl⟩
      refine ⟨zSt, ?_⟩
      refine WD.op (by first | exact gN | exact gS rfl) rfl (OpV.orN rfl rfl (lt16 hb4) (lt16 hp16)) rfl (stands_nil _ _) ?_
      refine WD.toWR rfl ?_
      repeat' (first | refine zP ?_ | refine zA ?_ | (refine zM ?_; intro _ _) | refine zX ?_ | (refine zC ?_; intro _ _ _ _) | (refine zS ?_; intro _ _) | (apply Ws <;> intro hg))
      rename_i H10 hH10
      exact Ends.loop (k + 1, l2.set p (l2.getD p 0 ||| 2 ^ k)) (by simp only; omega) (by repeat' (first | exact .nil | refine .cons rfl ?_)) rfl ⟨hk', by simpa using n2, hH10, hstep⟩
  · have hkn : k = xs.length := by omega
    subst hkn
    have hme : ms = hsL xs := by
      refine ext_getD (a := 0) (by rw [hsL_len, hml]) fun i hi => ?_
      rw [hms i (by omega), hsL_get (by omega), hmTo_all (by omega)]
    subst hme
    repeat' (first | refine zP ?_ | refine zA ?_ | (refine zM ?_; intro _ _) | refine zX ?_ | (refine zC ?_; intro _ _ _ _) | (refine zS ?_; intro _ _) | (apply Ws <;> intro hg))
    exact Ends.ret1 rfl ⟨rfl, hH⟩
theorem guarded_fs (hH : hasH M n0 H) {xs : List Int} (hx : OKS xs) (hV : HndV M xs v) {l : List Nat} (hS : Sl M 1 w (nodes l)) (hl : ∀ x ∈ l, x < xs.length) (hll : l.length ≤ 1000) :
    FS C 46 [v, w] H (fun e H' => e = .bool (grd xs l) ∧ H' = H) := by
  unfold HndV at hV
  have h10 := hx.most
  have hv := hV.one_
  have hw := hS.one_
  have hlen := hsL_len xs
  refine FS.intro (pf := pf46) rfl rfl rfl ?_
  repeat' (first | refine zP ?_ | refine zA ?_ | (refine zM ?_; intro _ _) | refine zX ?_ | (refine zC ?_; intro _ _ _ _) | (refine zS ?_; intro _ _) | (apply Ws <;> intro hg))
  refine WC.loopX [(0, v), (1, w), (8, w), (9, _)] (fun k : Nat => [(10, .int .i64 (k : Int)), (5, .int .u16 (orM xs (l.take k) : Nat))]) [] (fun k H' => H' = H ∧ k ≤ l.length) (fun k => l.length - k) 0 (by repeat' (first | exact .nil | refine .cons rfl ?_)) rfl ⟨rfl, Nat.zero_le _⟩ ?_
  rintro k H' ⟨rfl, hk⟩
  have hor := orM_lt (xs := xs) h10 (l.take k)
  dsimp only [List.cons_append, List.nil_append]
  repeat' (first | refine zP ?_ | refine zA ?_ | (refine zM ?_; intro _ _) | refine zX ?_ | (refine zC ?_; intro _ _ _ _) | (refine zS ?_; intro _ _) | (apply Ws <;> intro hg))
  refine WC.condP rfl (fun hlt => ?_) (fun hlt => ?_)
  · have hk' : k < l.length := by omega
    have hmx := hl _ (getD_mem (a := 0) hk')
    have hg : (hsL xs).getD (l.getD k 0) 0 = hm xs (l.getD k 0) := hsL_get hmx
    have hb := hm_lt10 h10 (l.getD k 0)
    repeat' (first | refine zP ?_ | refine zA ?_ | (refine zM ?_; intro _ _) | refine zX ?_ | (refine zC ?_; intro _ _ _ _) | (refine zS ?_; intro _ _) | (apply Ws <;> intro hg))
    rw [hg]
    refine WR.op (by first | exact gN | exact gS rfl) rfl (OpV.orN rfl rfl (lt16 hor) (lt16 hb)) ?_
    repeat' (first | refine zP ?_ | refine zA ?_ | (refine zM ?_; intro _ _) | refine zX ?_ | (refine zC ?_; intro _ _ _ _) | (refine zS ?_; intro _ _) | (apply Ws <;> intro hg))
    refine Ends.loop (k + 1) (by omega) (by rw [List.take_succ_eq_append_getElem hk', orM_snoc, ← getD_eq (a := 0)]; exact (by repeat' (first | exact .nil | refine .cons rfl ?_))) rfl ⟨rfl, hk'⟩
  · have hkl : k = l.length := by omega
    subst hkl
    rw [List.take_length]
    rw [List.take_length] at hor
    repeat' (first | refine zP ?_ | refine zA ?_ | (refine zM ?_; intro _ _) | refine zX ?_ | (refine zC ?_; intro _ _ _ _) | (refine zS ?_; intro _ _) | (apply Ws <;> intro hg))
    rw [hlen]
    refine WR.call (by first | exact gN | exact gS rfl) rfl rfl (firsts_fs xs.length (by omega) _) ?_
    rintro _ _ ⟨rfl, rfl⟩
    repeat' (first | refine zP ?_ | refine zA ?_ | (refine zM ?_; intro _ _) | refine zX ?_ | (refine zC ?_; intro _ _ _ _) | (refine zS ?_; intro _ _) | (apply Ws <;> intro hg))
    refine Ends.ret1 rfl ⟨?_, rfl⟩
    congr 1
    rw [Bool.eq_iff_iff, ← orM_full, decide_eq_true_eq]
    omega
theorem apart_fs (hH : hasH M n0 H) {xs : List Int} (hx : OKS xs) (hV : HndV M xs v) {l : List Nat} (hS : Sl M 1 w (nodes l)) (hl : ∀ x ∈ l, x < xs.length) (hll : l.length ≤ 1000) :
    FS C 49 [v, w] H (fun e H' => e = .bool (apt xs l) ∧ H' = H) := by
  unfold HndV at hV
  have h10 := hx.most
  have hv := hV.one_
  have hw := hS.one_
  have hlen := hsL_len xs
  refine FS.intro (pf := pf49) rfl rfl rfl ?_
  repeat' (first | refine zP ?_ | refine zA ?_ | (refine zM ?_; intro _ _) | refine zX ?_ | (refine zC ?_; intro _ _ _ _) | (refine zS ?_; intro _ _) | (apply Ws <;> intro hg))
  refine WC.loopX [(0, v), (1, w), (8, w), (9, _)] (fun k : Nat => [(10, .int .i64 (k : Int)), (5, .int .u16 (orM xs (l.take k) : Nat))]) [] (fun k H' => H' = H ∧ k ≤ l.length ∧ (l.take k).Pairwise (fun a b => hm xs a &&& hm xs b = 0)) (fun k => l.length - k) 0 (by repeat' (first | exact .nil | refine .cons rfl ?_)) rfl ⟨rfl, Nat.zero_le _, by simp⟩ ?_
  rintro k H' ⟨rfl, hk, hpw⟩
  have hor := orM_lt (xs := xs) h10 (l.take k)
  dsimp only [List.cons_append, List.nil_append]
  repeat' (first | refine zP ?_ | refine zA ?_ | (refine zM ?_; intro _ _) | refine zX ?_ | (refine zC ?_; intro _ _ _ _) | (refine zS ?_; intro _ _) | (apply Ws <;> intro hg))
  refine WC.condP rfl (fun hlt => ?_) (fun hlt => ?_)
  · have hk' : k < l.length := by omega
    have hmx := hl _ (getD_mem (a := 0) hk')
    have hg : (hsL xs).getD (l.getD k 0) 0 = hm xs (l.getD k 0) := hsL_get hmx
    have hb := hm_lt10 h10 (l.getD k 0)
    have htk : l.take (k + 1) = l.take k ++ [l.getD k 0] := by rw [List.take_succ_eq_append_getElem hk', ← getD_eq (a := 0)]
    have hsn := apt_snoc (xs := xs) (l := l.take k) (x := l.getD k 0)
    rw [← htk] at hsn
    repeat' (first | refine zP ?_ | refine zA ?_ | (refine zM ?_; intro _ _) | refine zX ?_ | (refine zC ?_; intro _ _ _ _) | (refine zS ?_; intro _ _) | (apply Ws <;> intro hg))
    rw [hg]
    refine WR.op (by first | exact gN | exact gS rfl) rfl (OpV.andN rfl rfl (lt16 hor) (lt16 hb)) ?_
    repeat' (first | refine zP ?_ | refine zA ?_ | (refine zM ?_; intro _ _) | refine zX ?_ | (refine zC ?_; intro _ _ _ _) | (refine zS ?_; intro _ _) | (apply Ws <;> intro hg))
    refine WC.condP rfl (fun hne => ?_) (fun hne => ?_)
    · repeat' (first | refine zP ?_ | refine zA ?_ | (refine zM ?_; intro _ _) | refine zX ?_ | (refine zC ?_; intro _ _ _ _) | (refine zS ?_; intro _ _) | (apply Ws <;> intro hg))
      refine Ends.ret1 rfl ⟨?_, rfl⟩
      congr 1
      refine (decide_eq_false fun hc => ?_).symm
      have h2 : (l.take (k + 1)).Pairwise (fun a b => hm xs a &&& hm xs b = 0) := hc.sublist (List.take_sublist _ _)
      have := (hsn.1 h2).2
      omega
    · repeat' (first | refine zP ?_ | refine zA ?_ | (refine zM ?_; intro _ _) | refine zX ?_ | (refine zC ?_; intro _ _ _ _) | (refine zS ?_; intro _ _) | (apply Ws <;> intro hg))
      rw [hg]
      refine WR.op (by first | exact gN | exact gS rfl) rfl (OpV.orN rfl rfl (lt16 hor) (lt16 hb)) ?_
      repeat' (first | refine zP ?_ | refine zA ?_ | (refine zM ?_; intro _ _) | refine zX ?_ | (refine zC ?_; intro _ _ _ _) | (refine zS ?_; intro _ _) | (apply Ws <;> intro hg))
      refine Ends.loop (k + 1) (by omega) (by rw [htk, orM_snoc]; exact (by repeat' (first | exact .nil | refine .cons rfl ?_))) rfl ⟨rfl, hk', hsn.2 ⟨hpw, by omega⟩⟩
  · have hkl : k = l.length := by omega
    subst hkl
    rw [List.take_length] at hpw
    repeat' (first | refine zP ?_ | refine zA ?_ | (refine zM ?_; intro _ _) | refine zX ?_ | (refine zC ?_; intro _ _ _ _) | (refine zS ?_; intro _ _) | (apply Ws <;> intro hg))
    refine Ends.ret1 rfl ⟨?_, rfl⟩
    congr 1
    exact (decide_eq_true hpw).symm
end
end Go.Proofs.Ytcfffhkabhmkmaa.Ps
