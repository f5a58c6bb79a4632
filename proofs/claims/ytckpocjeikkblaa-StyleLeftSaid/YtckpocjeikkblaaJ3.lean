/- Texts of the law, joined. -/
import Derived.Test.YtckpocjeikkblaaJ2
namespace Go.Proofs.Ytckpocjeikkblaa.St
open Go Go.Abs Go.Mth
set_option linter.unusedVariables false
set_option linter.unusedSimpArgs false

def cmpI (a b : Int) : Int := if a < b then -1 else if b < a then 1 else 0
def lexC : List Int → List Int → Int
  | [], [] => 0
  | [], _ :: _ => -1
  | _ :: _, [] => 1
  | a :: l, b :: m => if cmpI a b ≠ 0 then cmpI a b else lexC l m
/-- The shorter one first; of those that are as long, the smaller one. -/
def ordC (a b : List Int) : Int := if cmpI a.length b.length ≠ 0 then cmpI a.length b.length else lexC a b
def brokenL (ms : List Nat) (o : List Int) : Nat → List Int
  | 0 => []
  | k + 1 => brokenL ms o k ++ if 1 < RN (bitP (ms.getD k 0) o) o.length then [(k : Int)] else []
theorem broken_len (ms : List Nat) (o : List Int) : ∀ k, (brokenL ms o k).length ≤ k
  | 0 => Nat.le_refl _
  | k + 1 => by have := broken_len ms o k; rw [brokenL, List.length_append]; split <;> simp <;> omega

theorem cmp_neg {a b : Int} : cmpI b a = - cmpI a b := by unfold cmpI; split <;> split <;> (try split) <;> omega
theorem cmp_zero {a b : Int} : cmpI a b = 0 ↔ a = b := by unfold cmpI; split <;> (try split) <;> omega
theorem cmp_lt {a b : Int} : cmpI a b < 0 ↔ a < b := by unfold cmpI; split <;> (try split) <;> omega
theorem lex_neg : ∀ a b : List Int, lexC b a = - lexC a b
  | [], [] => rfl
  | [], _ :: _ => rfl
  | _ :: _, [] => rfl
  | a :: l, b :: m => by
    have h1 := cmp_neg (a := a) (b := b)
    have h2 := lex_neg l m
    simp only [lexC, h2]
    split <;> split <;> omega
theorem lex_zero : ∀ a b : List Int, lexC a b = 0 ↔ a = b
  | [], [] => by simp [lexC]
  | [], _ :: _ => by simp [lexC]
  | _ :: _, [] => by simp [lexC]
  | a :: l, b :: m => by
    have h1 := cmp_zero (a := a) (b := b)
    have h2 := lex_zero l m
    rw [lexC, List.cons.injEq]
    by_cases h : cmpI a b = 0
    · rw [if_neg (by simp [h]), h2, ← h1]; simp [h]
    · rw [if_pos h]; simp [h, ← h1]
theorem lex_trans : ∀ a b c : List Int, lexC a b < 0 → lexC b c < 0 → lexC a c < 0
  | [], [], _, h, _ => by simp [lexC] at h
  | [], _ :: _, [], _, h => by simp [lexC] at h
  | [], _ :: _, _ :: _, _, _ => by simp [lexC]
  | _ :: _, [], _, h, _ => by simp [lexC] at h
  | _ :: _, _ :: _, [], _, h => by simp [lexC] at h
  | a :: l, b :: m, c :: k, h1, h2 => by
    have e1 := cmp_zero (a := a) (b := b)
    have e2 := cmp_zero (a := b) (b := c)
    have e3 := cmp_zero (a := a) (b := c)
    have f1 := cmp_lt (a := a) (b := b)
    have f2 := cmp_lt (a := b) (b := c)
    have f3 := cmp_lt (a := a) (b := c)
    have h3 := lex_trans l m k
    simp only [lexC] at h1 h2 ⊢
    split at h1 <;> split at h2 <;> split <;> first | omega | exact h3 (by omega) (by omega)
theorem ord_neg (a b : List Int) : ordC b a = - ordC a b := by
  have h1 := cmp_neg (a := (a.length : Int)) (b := b.length)
  have h2 := lex_neg a b
  unfold ordC
  split <;> split <;> omega
theorem ord_zero (a b : List Int) : ordC a b = 0 ↔ a = b := by
  have h1 := cmp_zero (a := (a.length : Int)) (b := b.length)
  have h2 := lex_zero a b
  unfold ordC
  by_cases h : cmpI a.length b.length = 0
  · rw [if_neg (by simp [h]), h2]
  · rw [if_pos h]
    refine ⟨fun h3 => absurd h3 h, fun h3 => absurd (h1.2 (by rw [h3])) h⟩
theorem ord_trans {a b c : List Int} (h1 : ordC a b < 0) (h2 : ordC b c < 0) : ordC a c < 0 := by
  have e1 := cmp_zero (a := (a.length : Int)) (b := b.length)
  have e2 := cmp_zero (a := (b.length : Int)) (b := c.length)
  have e3 := cmp_zero (a := (a.length : Int)) (b := c.length)
  have f1 := cmp_lt (a := (a.length : Int)) (b := b.length)
  have f2 := cmp_lt (a := (b.length : Int)) (b := c.length)
  have f3 := cmp_lt (a := (a.length : Int)) (b := c.length)
  have h3 := lex_trans a b c
  unfold ordC at h1 h2 ⊢
  split at h1 <;> split at h2 <;> split <;> first | omega | exact h3 (by omega) (by omega)
attribute [local irreducible] gOK WS WC WR WD Ends FS YS OpV seqK blockK loopK midK retK rdK asgK rangeEnd sat Cell

section
variable {M : HL} {n0 : Nat} {H : Heap} {v w : Value}

theorem isNaN_fs (a : Int) (H : Heap) : FS C 101 [.int .i64 a] H (fun e H' => e = .bool false ∧ H' = H) := by
  refine FS.intro (pf := pf101) rfl rfl rfl ?_
  repeat' (first | refine zP ?_ | refine zA ?_ | (refine zM ?_; intro _ _) | refine zX ?_ | (refine zC ?_; intro _ _ _ _) | (refine zS ?_; intro _ _) | (apply Ws <;> intro hg))
  exact Ends.ret1 rfl ⟨by rw [decide_eq_false (by simp)], rfl⟩
theorem cmpI_fs (a b : Int) (H : Heap) : FS C 83 [.int .i64 a, .int .i64 b] H (fun e H' => e = .int .i64 (cmpI a b) ∧ H' = H) := by
  refine FS.intro (pf := pf83) rfl rfl rfl ?_
  repeat' (first | refine zP ?_ | refine zA ?_ | (refine zM ?_; intro _ _) | refine zX ?_ | (refine zC ?_; intro _ _ _ _) | (refine zS ?_; intro _ _) | (apply Ws <;> intro hg))
  refine WR.call (by first | exact gN | exact gS rfl) rfl rfl (isNaN_fs _ _) ?_
  rintro _ _ ⟨rfl, rfl⟩
  repeat' (first | refine zP ?_ | refine zA ?_ | (refine zM ?_; intro _ _) | refine zX ?_ | (refine zC ?_; intro _ _ _ _) | (refine zS ?_; intro _ _) | (apply Ws <;> intro hg))
  refine WR.call (by first | exact gN | exact gS rfl) rfl rfl (isNaN_fs _ _) ?_
  rintro _ _ ⟨rfl, rfl⟩
  repeat' (first | refine zP ?_ | refine zA ?_ | (refine zM ?_; intro _ _) | refine zX ?_ | (refine zC ?_; intro _ _ _ _) | (refine zS ?_; intro _ _) | (apply Ws <;> intro hg))
  refine WC.condP rfl (fun h1 => ?_) (fun h1 => ?_)
  · repeat' (first | refine zP ?_ | refine zA ?_ | (refine zM ?_; intro _ _) | refine zX ?_ | (refine zC ?_; intro _ _ _ _) | (refine zS ?_; intro _ _) | (apply Ws <;> intro hg))
    exact Ends.ret1 rfl ⟨by rw [cmpI, if_pos h1], rfl⟩
  · repeat' (first | refine zP ?_ | refine zA ?_ | (refine zM ?_; intro _ _) | refine zX ?_ | (refine zC ?_; intro _ _ _ _) | (refine zS ?_; intro _ _) | (apply Ws <;> intro hg))
    refine WC.condP rfl (fun h2 => ?_) (fun h2 => ?_)
    · repeat' (first | refine zP ?_ | refine zA ?_ | (refine zM ?_; intro _ _) | refine zX ?_ | (refine zC ?_; intro _ _ _ _) | (refine zS ?_; intro _ _) | (apply Ws <;> intro hg))
      exact Ends.ret1 rfl ⟨by rw [cmpI, if_neg h1, if_pos h2], rfl⟩
    · repeat' (first | refine zP ?_ | refine zA ?_ | (refine zM ?_; intro _ _) | refine zX ?_ | (refine zC ?_; intro _ _ _ _) | (refine zS ?_; intro _ _) | (apply Ws <;> intro hg))
      exact Ends.ret1 rfl ⟨by rw [cmpI, if_neg h1, if_neg h2], rfl⟩
theorem Or_fs (hH : hasH M n0 H) {x y : Int} (hS : Sl M 1 v (ints [x, y])) : FS C 98 [v] H (fun e H' => e = .int .i64 (if x ≠ 0 then x else y) ∧ H' = H) := by
  refine FS.intro (pf := pf98) rfl rfl rfl ?_
  repeat' (first | refine zP ?_ | refine zA ?_ | (refine zM ?_; intro _ _) | refine zX ?_ | (refine zC ?_; intro _ _ _ _) | (refine zS ?_; intro _ _) | (apply Ws <;> intro hg))
  have h2 : [x, y].length = 2 := rfl
  refine WC.loopX [(3, .int .i64 0), (6, _), (7, _)] (fun k : Nat => [(8, .int .i64 (k : Int))]) [] (fun k H' => H' = H ∧ k ≤ 2 ∧ (1 ≤ k → x = 0) ∧ (2 ≤ k → y = 0)) (fun k => 2 - k) 0 (by repeat' (first | exact .nil | refine .cons rfl ?_)) rfl ⟨rfl, by omega, fun h => by omega, fun h => by omega⟩ ?_
  rintro k _ ⟨rfl, hk, hx, hy⟩
  dsimp only [List.cons_append, List.nil_append]
  repeat' (first | refine zP ?_ | refine zA ?_ | (refine zM ?_; intro _ _) | refine zX ?_ | (refine zC ?_; intro _ _ _ _) | (refine zS ?_; intro _ _) | (apply Ws <;> intro hg))
  refine WC.condP rfl (fun hlt => ?_) (fun hlt => ?_)
  · have hk' : k < 2 := by omega
    repeat' (first | refine zP ?_ | refine zA ?_ | (refine zM ?_; intro _ _) | refine zX ?_ | (refine zC ?_; intro _ _ _ _) | (refine zS ?_; intro _ _) | (apply Ws <;> intro hg))
    have hq : [x, y].getD k 0 = if k = 0 then x else y := by
      rcases (show k = 0 ∨ k = 1 by omega) with rfl | rfl <;> rfl
    rw [hq]
    refine WC.condP rfl (fun hne => ?_) (fun hne => ?_)
    · repeat' (first | refine zP ?_ | refine zA ?_ | (refine zM ?_; intro _ _) | refine zX ?_ | (refine zC ?_; intro _ _ _ _) | (refine zS ?_; intro _ _) | (apply Ws <;> intro hg))
      refine Ends.ret1 rfl ⟨?_, rfl⟩
      by_cases h : k = 0
      · rw [if_pos h] at hne ⊢; rw [if_pos hne]
      · rw [if_neg h, hx (by omega)]; simp
    · repeat' (first | refine zP ?_ | refine zA ?_ | (refine zM ?_; intro _ _) | refine zX ?_ | (refine zC ?_; intro _ _ _ _) | (refine zS ?_; intro _ _) | (apply Ws <;> intro hg))
      refine Ends.loop (k + 1) (by omega) (by repeat' (first | exact .nil | refine .cons rfl ?_)) rfl ⟨rfl, by omega, fun h => ?_, fun h => ?_⟩
      · by_cases h : k = 0
        · rw [if_pos h] at hne; exact Decidable.not_not.1 hne
        · exact hx (by omega)
      · rw [if_neg (by omega)] at hne; exact Decidable.not_not.1 hne
  · have hk2 : k = 2 := by omega
    subst hk2
    repeat' (first | refine zP ?_ | refine zA ?_ | (refine zM ?_; intro _ _) | refine zX ?_ | (refine zC ?_; intro _ _ _ _) | (refine zS ?_; intro _ _) | (apply Ws <;> intro hg))
    exact Ends.ret1 rfl ⟨by rw [hx (by omega), hy (by omega)]; rfl, rfl⟩

theorem Compare_fs (hH : hasH M n0 H) {xs ys : List Int} (hS : Sl M 1 v (ints xs)) (hU : Sl M 1 w (ints ys)) (hx : xs.length ≤ 1000) (hy : ys.length ≤ 1000) :
    FS C 47 [v, w] H (fun e H' => e = .int .i64 (lexC xs ys) ∧ H' = H) := by
  refine FS.intro (pf := pf47) rfl rfl rfl ?_
  repeat' (first | refine zP ?_ | refine zA ?_ | (refine zM ?_; intro _ _) | refine zX ?_ | (refine zC ?_; intro _ _ _ _) | (refine zS ?_; intro _ _) | (apply Ws <;> intro hg))
  refine WC.loopX [(0, _), (1, _), (9, _), (10, _)] (fun k : Nat => [(11, .int .i64 (k : Int))]) [] (fun k H' => H' = H ∧ k ≤ xs.length ∧ k ≤ ys.length ∧ lexC xs ys = lexC (xs.drop k) (ys.drop k)) (fun k => xs.length - k) 0 (by repeat' (first | exact .nil | refine .cons rfl ?_)) rfl ⟨rfl, Nat.zero_le _, Nat.zero_le _, rfl⟩ ?_
  rintro k _ ⟨rfl, hk, hk2, hL⟩
  dsimp only [List.cons_append, List.nil_append]
  repeat' (first | refine zP ?_ | refine zA ?_ | (refine zM ?_; intro _ _) | refine zX ?_ | (refine zC ?_; intro _ _ _ _) | (refine zS ?_; intro _ _) | (apply Ws <;> intro hg))
  refine WC.condP rfl (fun hlt => ?_) (fun hlt => ?_)
  · have hk' : k < xs.length := by omega
    rw [List.drop_eq_getElem_cons hk'] at hL
    repeat' (first | refine zP ?_ | refine zA ?_ | (refine zM ?_; intro _ _) | refine zX ?_ | (refine zC ?_; intro _ _ _ _) | (refine zS ?_; intro _ _) | (apply Ws <;> intro hg))
    refine WC.condP rfl (fun hge => ?_) (fun hge => ?_)
    · have hke : k = ys.length := by omega
      repeat' (first | refine zP ?_ | refine zA ?_ | (refine zM ?_; intro _ _) | refine zX ?_ | (refine zC ?_; intro _ _ _ _) | (refine zS ?_; intro _ _) | (apply Ws <;> intro hg))
      refine Ends.ret1 rfl ⟨?_, rfl⟩
      rw [hL, show ys.drop k = [] from List.drop_eq_nil_of_le (by omega)]; rfl
    · have hk3 : k < ys.length := by omega
      rw [List.drop_eq_getElem_cons hk3, lexC, ← getD_eq (a := 0) hk', ← getD_eq (a := 0) hk3] at hL
      repeat' (first | refine zP ?_ | refine zA ?_ | (refine zM ?_; intro _ _) | refine zX ?_ | (refine zC ?_; intro _ _ _ _) | (refine zS ?_; intro _ _) | (apply Ws <;> intro hg))
      refine WR.call (by first | exact gN | exact gS rfl) rfl rfl (cmpI_fs _ _ _) ?_
      rintro _ _ ⟨rfl, rfl⟩
      repeat' (first | refine zP ?_ | refine zA ?_ | (refine zM ?_; intro _ _) | refine zX ?_ | (refine zC ?_; intro _ _ _ _) | (refine zS ?_; intro _ _) | (apply Ws <;> intro hg))
      refine WC.condP rfl (fun hne => ?_) (fun hne => ?_)
      · repeat' (first | refine zP ?_ | refine zA ?_ | (refine zM ?_; intro _ _) | refine zX ?_ | (refine zC ?_; intro _ _ _ _) | (refine zS ?_; intro _ _) | (apply Ws <;> intro hg))
        exact Ends.ret1 rfl ⟨by rw [hL, if_pos hne], rfl⟩
      · repeat' (first | refine zP ?_ | refine zA ?_ | (refine zM ?_; intro _ _) | refine zX ?_ | (refine zC ?_; intro _ _ _ _) | (refine zS ?_; intro _ _) | (apply Ws <;> intro hg))
        exact Ends.loop (k + 1) (by omega) (by repeat' (first | exact .nil | refine .cons rfl ?_)) rfl ⟨rfl, by omega, by omega, by rw [hL, if_neg hne]⟩
  · have hkl : k = xs.length := by omega
    rw [show xs.drop k = [] from List.drop_eq_nil_of_le (by omega)] at hL
    repeat' (first | refine zP ?_ | refine zA ?_ | (refine zM ?_; intro _ _) | refine zX ?_ | (refine zC ?_; intro _ _ _ _) | (refine zS ?_; intro _ _) | (apply Ws <;> intro hg))
    refine WC.condP rfl (fun h3 => ?_) (fun h3 => ?_)
    · rw [List.drop_eq_getElem_cons (show k < ys.length by omega)] at hL
      repeat' (first | refine zP ?_ | refine zA ?_ | (refine zM ?_; intro _ _) | refine zX ?_ | (refine zC ?_; intro _ _ _ _) | (refine zS ?_; intro _ _) | (apply Ws <;> intro hg))
      exact Ends.ret1 rfl ⟨by rw [hL]; rfl, rfl⟩
    · rw [show ys.drop k = [] from List.drop_eq_nil_of_le (by omega)] at hL
      repeat' (first | refine zP ?_ | refine zA ?_ | (refine zM ?_; intro _ _) | refine zX ?_ | (refine zC ?_; intro _ _ _ _) | (refine zS ?_; intro _ _) | (apply Ws <;> intro hg))
      exact Ends.ret1 rfl ⟨by rw [hL]; rfl, rfl⟩

theorem ordC_fs (hH : hasH M n0 H) {xs ys : List Int} (hS : Sl M 1 v (ints xs)) (hU : Sl M 1 w (ints ys)) (hx : xs.length ≤ 1000) (hy : ys.length ≤ 1000) :
    FS C 97 [v, w] H (fun e H' => e = .int .i64 (ordC xs ys) ∧ ∃ n', n0 ≤ n' ∧ hasH M n' H') := by
  refine FS.intro (pf := pf97) rfl rfl rfl ?_
  repeat' (first | refine zP ?_ | refine zA ?_ | (refine zM ?_; intro _ _) | refine zX ?_ | (refine zC ?_; intro _ _ _ _) | (refine zS ?_; intro _ _) | (apply Ws <;> intro hg))
  refine WR.call (by first | exact gN | exact gS rfl) rfl rfl (cmpI_fs _ _ _) ?_
  rintro _ _ ⟨rfl, rfl⟩
  repeat' (first | refine zP ?_ | refine zA ?_ | (refine zM ?_; intro _ _) | refine zX ?_ | (refine zC ?_; intro _ _ _ _) | (refine zS ?_; intro _ _) | (apply Ws <;> intro hg))
  refine WR.call (by first | exact gN | exact gS rfl) rfl rfl (Compare_fs hH hS hU hx hy) ?_
  rintro _ _ ⟨rfl, rfl⟩
  refine WR.bldS (by first | exact gN | exact gS rfl) rfl hH (vs := [(0, .int .i64 (cmpI xs.length ys.length)), (1, .int .i64 (lexC xs ys))]) rfl (cs := [.int .i64 (cmpI xs.length ys.length), .int .i64 (lexC xs ys)]) (by rfl) rfl fun H3 hH3 => ?_
  refine WR.call (by first | exact gN | exact gS rfl) rfl rfl (Or_fs hH3 (x := cmpI xs.length ys.length) (y := lexC xs ys) (.row (lo := 0) (cs := [.int .i64 (cmpI xs.length ys.length), .int .i64 (lexC xs ys)]) (.head _) (.row _ _ _ _) (Nat.zero_le _) rfl rfl (by simp) (.inr ⟨2, rfl, Nat.le_refl _⟩))) ?_
  rintro _ _ ⟨rfl, rfl⟩
  repeat' (first | refine zP ?_ | refine zA ?_ | (refine zM ?_; intro _ _) | refine zX ?_ | (refine zC ?_; intro _ _ _ _) | (refine zS ?_; intro _ _) | (apply Ws <;> intro hg))
  exact Ends.ret1 rfl ⟨by rw [ordC], n0 + 1, by omega, hH3.tail⟩

theorem broken_fs {ms : List Nat} {o : List Int} (hH : hasH M n0 H) (hV : Sl M 1 v (numsK .u8 ms)) (hml : ms.length ≤ 10) (hmb : ∀ m ∈ ms, m < 128) (hS : Sl M 1 w (ints o)) (hol : o.length ≤ 7) (hob : ∀ x ∈ o, 0 ≤ x ∧ x < 7) :
    FS C 80 [v, w] H (fun e H' => ∃ Mx n', Own 3 1 e (ints (brokenL ms o ms.length)) Mx ∧ n0 ≤ n' ∧ hasH (Mx ++ M) n' H') := by
  refine FS.intro (pf := pf80) rfl rfl rfl ?_
  repeat' (first | refine zP ?_ | refine zA ?_ | (refine zM ?_; intro _ _) | refine zX ?_ | (refine zC ?_; intro _ _ _ _) | (refine zS ?_; intro _ _) | (apply Ws <;> intro hg))
  refine WC.loopX [(1, _), (8, _), (9, _)] (fun s : OV => [(5, s.v), (10, .int .i64 (s.k : Int))]) [] (fun s H' => s.k ≤ ms.length ∧ n0 ≤ s.n ∧ Own 3 1 s.v (ints (brokenL ms o s.k)) s.Mx ∧ hasH (s.Mx ++ M) s.n H') (fun s => ms.length - s.k) ⟨0, .slice none 0 0, [], n0⟩ (by repeat' (first | exact .nil | refine .cons rfl ?_)) rfl ⟨Nat.zero_le _, Nat.le_refl _, .nil, hH⟩ ?_
  rintro ⟨k, u, Mx, n1⟩ H1 ⟨hk, hn1, hO, hH1⟩
  simp only at hk hn1 hO hH1
  have hV1 : Sl (Mx ++ M) 1 v (numsK .u8 ms) := hV.mono fun q hq => List.mem_append_right _ hq
  have hS1 : Sl (Mx ++ M) 1 w (ints o) := hS.mono fun q hq => List.mem_append_right _ hq
  dsimp only [List.cons_append, List.nil_append]
  repeat' (first | refine zP ?_ | refine zA ?_ | (refine zM ?_; intro _ _) | refine zX ?_ | (refine zC ?_; intro _ _ _ _) | (refine zS ?_; intro _ _) | (apply Ws <;> intro hg))
  refine WC.condP rfl (fun hlt => ?_) (fun hlt => ?_)
  · have hk' : k < ms.length := by omega
    have hr := RN_le (bitP (ms.getD k 0) o) o.length
    have hbl := broken_len ms o k
    repeat' (first | refine zP ?_ | refine zA ?_ | (refine zM ?_; intro _ _) | refine zX ?_ | (refine zC ?_; intro _ _ _ _) | (refine zS ?_; intro _ _) | (apply Ws <;> intro hg))
    refine WR.call (by first | exact gN | exact gS rfl) rfl rfl (formGaps_fs hH1 (hmb _ (getD_mem hk')) hS1 (by omega) hob) ?_
    rintro _ _ ⟨rfl, rfl⟩
    repeat' (first | refine zP ?_ | refine zA ?_ | (refine zM ?_; intro _ _) | refine zX ?_ | (refine zC ?_; intro _ _ _ _) | (refine zS ?_; intro _ _) | (apply Ws <;> intro hg))
    refine WC.condP rfl (fun hgt => ?_) (fun hgt => ?_)
    · repeat' (first | refine zP ?_ | refine zA ?_ | (refine zM ?_; intro _ _) | refine zX ?_ | (refine zC ?_; intro _ _ _ _) | (refine zS ?_; intro _ _) | (apply Ws <;> intro hg))
      refine WR.append1R rfl rfl rfl rfl hO hH1 (new := [.int .i64 (k : Int)]) (by rfl) rfl rfl (Nat.le_refl _) (by omega) (by simp; omega) fun v3 M3 n3 H3 hO3 hH3 hn3 => ?_
      repeat' (first | refine zP ?_ | refine zA ?_ | (refine zM ?_; intro _ _) | refine zX ?_ | (refine zC ?_; intro _ _ _ _) | (refine zS ?_; intro _ _) | (apply Ws <;> intro hg))
      refine Ends.loop ⟨k + 1, v3, M3, n3⟩ (by simp only; omega) (by repeat' (first | exact .nil | refine .cons rfl ?_)) rfl ⟨hk', by simp only; omega, ?_, hH3⟩
      simp only
      rw [brokenL, if_pos (by omega)]
      simpa using hO3.own
    · repeat' (first | refine zP ?_ | refine zA ?_ | (refine zM ?_; intro _ _) | refine zX ?_ | (refine zC ?_; intro _ _ _ _) | (refine zS ?_; intro _ _) | (apply Ws <;> intro hg))
      refine Ends.loop ⟨k + 1, u, Mx, n1⟩ (by simp only; omega) (by repeat' (first | exact .nil | refine .cons rfl ?_)) rfl ⟨hk', hn1, ?_, hH1⟩
      simp only
      rw [brokenL, if_neg (by omega), List.append_nil]
      exact hO
  · have hkl : k = ms.length := by omega
    subst hkl
    repeat' (first | refine zP ?_ | refine zA ?_ | (refine zM ?_; intro _ _) | refine zX ?_ | (refine zC ?_; intro _ _ _ _) | (refine zS ?_; intro _ _) | (apply Ws <;> intro hg))
    exact Ends.ret1 rfl ⟨Mx, n1, hO, hn1, hH1⟩
end
end Go.Proofs.Ytckpocjeikkblaa.St

namespace Go.Proofs.Ytckpocjeikkblaa.St
open Go Go.Abs Go.Mth
set_option linter.unusedVariables false
set_option linter.unusedSimpArgs false
section
variable {nt : Nat} {L : Env} {D : List Nat} {H : Heap} {K : St → Prop} {i d : Nat} {gd : Option (Tmp × Bool)} {lo : List Nat} {l : List POp} {rs : List Rd}
theorem WD.callV {f : Operand} {g : FuncId} {va vb : List Value} {xs : List Operand} {vs : List Value} (hg : gOK L gd) (hd : Nat.blt d nt = true) (hf : ev L f = some (.func (.func g) va.toArray vb.toArray)) (hx : evs L xs = some vs) {R : Value → Heap → Prop} (hc : FS C g (va ++ vs ++ vb) H R)
    (k : ∀ v H', R v H' → stands H' lo rs = true ∧ WD C nt l rs ((d, v) :: L) D H' K) : WD C nt (⟨i, some d, .callV f xs, gd, lo⟩ :: l) rs L D H K := by
  obtain ⟨v, H1, ⟨m1, h1⟩, h2⟩ := hc
  intro t ht
  obtain ⟨ks, kk⟩ := k v H1 h2
  obtain ⟨m2, s', h3, h4⟩ := kk _ (ht.put d v)
  refine ⟨max m1 m2, s', ?_, h4⟩
  have hv : opA C.c.P (.callV f xs) (evalO t) H = .call g (va ++ vs ++ vb) := by simp only [opA, ev_ok ht hf, evs_ok ht hx, callVA]
  have hn : ∀ s s', noteRd ⟨i, some d, .callV f xs, gd, lo⟩ s s' rs = rs := by
    intro s s'; simp only [noteRd]; cases wantedA s.t ⟨i, some d, .callV f xs, gd, lo⟩ <;> rfl
  simp only [stepOpsD, doOp, hg.wanted ht, cond_true, hv, ans, run_mono (Nat.le_max_left m1 m2) _ _ h1, afterOp, putT, hd, stOf, ks, hn]
  exact stepOpsD_mono' (run_mono (Nat.le_max_right m1 m2)) h3
end
attribute [local irreducible] gOK WS WC WR WD Ends FS YS OpV seqK blockK loopK midK retK rdK asgK rangeEnd sat Cell

section
variable {M : HL} {n0 : Nat} {H : Heap} {v w : Value}

/-- The first of the least. -/
theorem MinFunc_fs {T : HL} {vs : List Value} (hH : hasH M n0 H) {qs : List (List Int)} (hSv : Sl M 1 v vs) (hvl : vs.length = qs.length) (hvt : ∀ i, i < qs.length → Sl T 1 (vs.getD i undef) (ints (qs.getD i []))) (hT : ∀ q ∈ T, q ∈ M) (h1 : 1 ≤ qs.length) (hl : qs.length ≤ 10000) (hll : ∀ a ∈ qs, a.length ≤ 1000) :
    FS C 96 [v, .func (.func 97) #[] #[]] H (fun e H' => ∃ a n', a ∈ qs ∧ Sl T 1 e (ints a) ∧ (∀ b ∈ qs, ¬ ordC b a < 0) ∧ n0 ≤ n' ∧ hasH M n' H') := by
  have hvs := fun i hi => (hvt i hi).mono hT
  have hs0 := hvs 0 (by omega)
  have hz : ordC (qs.getD 0 []) (qs.getD 0 []) = 0 := (ord_zero _ _).2 rfl
  have h00 : ∀ i, i < 1 → ¬ ordC (qs.getD i []) (qs.getD 0 []) < 0 := fun i hi => by
    have : i = 0 := by omega
    subst this
    omega
  refine FS.intro (pf := pf96) rfl rfl rfl ?_
  repeat' (first | refine zP ?_ | refine zA ?_ | (refine zM ?_; intro _ _) | refine zX ?_ | (refine zC ?_; intro _ _ _ _) | (refine zS ?_; intro _ _) | refine zO ?_ | (apply Ws <;> intro hg))
  refine WR.idxSl (by first | exact gN | exact gS rfl) rfl rfl hSv rfl (m := 0) (by omega) (by rw [List.getElem?_eq_getElem (by omega), ← getD_eq (a := undef)]) fun b0 o0 u0 hc0 => ?_
  repeat' (first | refine zP ?_ | refine zA ?_ | (refine zM ?_; intro _ _) | refine zX ?_ | (refine zC ?_; intro _ _ _ _) | (refine zS ?_; intro _ _) | refine zO ?_ | (apply Ws <;> intro hg))
  refine WC.loopX [(0, _), (1, _)] (fun s : Nat × Nat × Nat => [(5, vs.getD s.2.1 undef), (6, .int .i64 (s.1 : Int))]) [] (fun s H' => 1 ≤ s.1 ∧ s.1 ≤ qs.length ∧ s.2.1 < s.1 ∧ n0 ≤ s.2.2 ∧ (∀ i, i < s.1 → ¬ ordC (qs.getD i []) (qs.getD s.2.1 []) < 0) ∧ hasH M s.2.2 H') (fun s => qs.length - s.1) (1, 0, n0) (by repeat' (first | exact .nil | refine .cons rfl ?_)) rfl
    ⟨Nat.le_refl _, h1, Nat.zero_lt_one, Nat.le_refl _, h00, hH⟩ ?_
  clear hH
  rintro ⟨k, j, n1⟩ H1 ⟨hk1, hk, hj, hn1, hno, hH1⟩
  simp only at hk1 hk hj hn1 hno hH1
  have hsj := hvs j (by omega)
  dsimp only [List.cons_append, List.nil_append]
  repeat' (first | refine zP ?_ | refine zA ?_ | (refine zM ?_; intro _ _) | refine zX ?_ | (refine zC ?_; intro _ _ _ _) | (refine zS ?_; intro _ _) | (apply Ws <;> intro hg))
  refine WC.condP rfl (fun hlt => ?_) (fun hlt => ?_)
  · have hk' : k < qs.length := by omega
    have hsk := hvs k hk'
    repeat' (first | refine zP ?_ | refine zA ?_ | (refine zM ?_; intro _ _) | refine zX ?_ | (refine zC ?_; intro _ _ _ _) | (refine zS ?_; intro _ _) | (apply Ws <;> intro hg))
    refine WR.callV (va := []) (vb := []) (by first | exact gN | exact gS rfl) rfl rfl rfl (ordC_fs hH1 hsk hsj (hll _ (getD_mem hk')) (hll _ (getD_mem (by omega)))) ?_
    rintro _ H2 ⟨rfl, n2, hn2, hH2⟩
    repeat' (first | refine zP ?_ | refine zA ?_ | (refine zM ?_; intro _ _) | refine zX ?_ | (refine zC ?_; intro _ _ _ _) | (refine zS ?_; intro _ _) | (apply Ws <;> intro hg))
    refine WC.condP rfl (fun hneg => ?_) (fun hneg => ?_)
    · repeat' (first | refine zP ?_ | refine zA ?_ | (refine zM ?_; intro _ _) | refine zX ?_ | (refine zC ?_; intro _ _ _ _) | (refine zS ?_; intro _ _) | (apply Ws <;> intro hg))
      refine Ends.loop (k + 1, k, n2) (by simp only; omega) (by repeat' (first | exact .nil | refine .cons rfl ?_)) rfl ⟨by simp only; omega, hk', by simp only; omega, by simp only; omega, fun i hi => ?_, hH2⟩
      simp only at hi ⊢
      rcases Nat.lt_or_ge i k with h | h
      · exact fun h2 => hno i h (ord_trans h2 hneg)
      · have : i = k := by omega
        subst this
        have := (ord_zero (qs.getD i []) (qs.getD i [])).2 rfl
        omega
    · repeat' (first | refine zP ?_ | refine zA ?_ | (refine zM ?_; intro _ _) | refine zX ?_ | (refine zC ?_; intro _ _ _ _) | (refine zS ?_; intro _ _) | (apply Ws <;> intro hg))
      refine Ends.loop (k + 1, j, n2) (by simp only; omega) (by repeat' (first | exact .nil | refine .cons rfl ?_)) rfl ⟨by simp only; omega, hk', by simp only; omega, by simp only; omega, fun i hi => ?_, hH2⟩
      simp only at hi ⊢
      rcases Nat.lt_or_ge i k with h | h
      · exact hno i h
      · have : i = k := by omega
        subst this
        exact hneg
  · have hkl : k = qs.length := by omega
    subst hkl
    repeat' (first | refine zP ?_ | refine zA ?_ | (refine zM ?_; intro _ _) | refine zX ?_ | (refine zC ?_; intro _ _ _ _) | (refine zS ?_; intro _ _) | (apply Ws <;> intro hg))
    refine Ends.ret1 rfl ⟨qs.getD j [], n1, getD_mem (by omega), hvt j (by omega), fun b hb => ?_, hn1, hH1⟩
    obtain ⟨i, hi, rfl⟩ := List.mem_iff_getElem.1 hb
    have := hno i hi
    rwa [getD_eq hi] at this
end
end Go.Proofs.Ytckpocjeikkblaa.St

namespace Go.Proofs.Ytckpocjeikkblaa.St
open Go Go.Abs Go.Mth
set_option linter.unusedVariables false
set_option linter.unusedSimpArgs false
attribute [local irreducible] gOK WS WC WR WD Ends FS YS OpV seqK blockK loopK midK retK rdK asgK rangeEnd sat Cell

theorem factN_pos : ∀ N, 1 ≤ factN N
  | 0 => Nat.le_refl _
  | N + 1 => by rw [factN]; exact Nat.mul_pos (Nat.succ_pos _) (factN_pos N)
theorem at5 {M : HL} {H : Heap} {a b c d e : Nat × Ch} {n : Nat} (h : hasH (a :: b :: c :: d :: e :: M) n H) : e ∈ a :: b :: c :: d :: e :: M :=
  .tail _ (.tail _ (.tail _ (.tail _ (.head _))))
theorem pull6 {Mb Mx Me M : HL} {H : Heap} {a b c d e f : Nat × Ch} {n : Nat} (h : hasH (Mb ++ (a :: b :: c :: d :: e :: f :: (Mx ++ (Me ++ M)))) n H) : hasH (a :: b :: c :: d :: e :: f :: (Mx ++ ((Mb ++ Me) ++ M))) n H := by
  refine h.perm ((List.perm_append_comm_assoc Mb [a, b, c, d, e, f] (Mx ++ (Me ++ M))).trans (List.Perm.append_left [a, b, c, d, e, f] ?_))
  rw [List.append_assoc Mb]
  exact List.perm_append_comm_assoc Mb Mx (Me ++ M)
section
variable {M : HL} {n0 : Nat} {H : Heap} {v w : Value}

/-- The least of the lists of broken forms. -/
theorem shortest_fs {N : Nat} {ms : List Nat} (hH : hasH M n0 H) (hN : 1 ≤ N ∧ N ≤ 7) (hV : Sl M 1 v (numsK .u8 ms)) (hml : ms.length ≤ 10) (hmb : ∀ m ∈ ms, m < 128) :
    FS C 79 [.int .i64 (N : Int), .func (.func 80) #[v] #[]] H (fun e H' => ∃ z Mx n', z ∈ permsL N (List.range N) ∧ Sl (Mx ++ M) 1 e (ints (brokenL ms (castI z) ms.length)) ∧
      (∀ y ∈ permsL N (List.range N), ¬ ordC (brokenL ms (castI y) ms.length) (brokenL ms (castI z) ms.length) < 0) ∧ n0 ≤ n' ∧ hasH (Mx ++ M) n' H') := by
  have hv1 := hV.one_
  refine FS.intro (pf := pf79) rfl rfl rfl ?_
  repeat' (first | refine zP ?_ | refine zA ?_ | (refine zM ?_; intro _ _) | refine zX ?_ | (refine zC ?_; intro _ _ _ _) | (refine zS ?_; intro _ _) | (apply Ws <;> intro hg))
  rename_i H1 hH1 H2 hH2
  refine WR.call (by first | exact gN | exact gS rfl) rfl rfl (allOrders_fs hH2 N) ?_
  clear hH hH1 hH2
  rintro _ H3 ⟨rfl, hH3⟩
  repeat' (first | refine zP ?_ | refine zA ?_ | (refine zM ?_; intro _ _) | refine zX ?_ | (refine zC ?_; intro _ _ _ _) | (refine zS ?_; intro _ _) | (apply Ws <;> intro hg))
  refine WC.range0 (va := []) (vb := [.pointer (some ⟨n0 + 1 + 1, 0, some 0⟩)]) rfl hH3 fun t ht H4 hH4 => ?_
  generalize hR : ({ state := .ready, pending := none, fn := 79, tmps := t, params := [9], assign := _, body := _, nt := _ } : LoopE) = R at hH4
  refine FS.mono (all_fs (l := n0 + 1 + 1 + 1 + 1) (N := N) (e := 3) (J := fun zs M' n' => n0 ≤ n' ∧ ∃ (dn : List (List Nat)) (vs : List Value) (u : Value) (Mx Me : HL), permsL N (List.range N) = dn ++ zs ∧
      M' = (n0 + 1 + 1 + 1 + 1, .loop R) :: (n0 + 1 + 1 + 1, .defd false) :: (n0 + 1 + 1, .row 3 0 0 [.int .i64 N]) :: (n0 + 1, .row 22 0 0 [u]) :: (n0, .row 76 0 0 [.func (.func 80) #[v] #[]]) :: (Mx ++ (Me ++ M)) ∧
      Own 25 1 u vs Mx ∧ vs.length = dn.length ∧ ∀ i, i < dn.length → Sl (Me ++ M) 1 (vs.getD i undef) (ints (brokenL ms (castI (dn.getD i [])) ms.length)))
    (S := fun _ _ => False) hH4 (.tail _ (.tail _ (.head _))) (by omega) ⟨by omega, [], [], .slice none 0 0, [], [], rfl, rfl, .nil, rfl, fun i hi => absurd hi (Nat.not_lt_zero _)⟩ ?_) ?_
  · rintro z zs _ n' H5 ⟨hn', dn, vs, u, Mx, Me, hP, rfl, hO, hvl, hvs⟩ hz hH5
    have hzp : z ∈ permsL N (List.range N) := by rw [hP]; simp
    have hdl := perms_fact N (List.range N) (by simp)
    have hfa := factN_le (N := N) (by omega)
    rw [hP, List.length_append, List.length_cons] at hdl
    refine YS.intro hH5 (.tail _ (.head _)) (by rw [← hR]) (by rw [← hR]) (by rw [← hR]; rfl) (by rw [← hR]; exact ht) ?_
    subst hR
    dsimp only
    repeat' (first | refine zA ?_ | (refine zM ?_; intro _ _) | (apply Ws <;> intro hg))
    refine Ends.asg hH5 (.there .here) fun H6 hH6 => ?_
    dsimp only
    have m5 := at5 hH6
    have m3 := at6 hH6
    have hSu : Sl Mx 1 u vs := by have := hO.sl []; rwa [List.append_nil] at this
    refine WC.block ?_
    refine WC.regionD ?_
    repeat' (first | refine zD ?_ | (refine zE ?_; intro _ _ _ _))
    have hcz := perm_castI hzp (by omega)
    refine WD.callV (va := [v]) (vb := []) (by first | exact gN | exact gS rfl) rfl rfl rfl (broken_fs hH6 (hV.mono fun q hq => .tail _ (.tail _ (.tail _ (.tail _ (.tail _ (.tail _ (List.mem_append_right _ (List.mem_append_right _ hq)))))))) hml hmb (own_order (.head _) hz) (by omega) hcz.2) ?_
    rintro vb H7 ⟨Mb, n7, hOb, hn7, hH7⟩
    have hH8 := pull6 hH7
    have m7 := at5 hH8
    have hbl := broken_len ms (castI z) ms.length
    refine ⟨zSt, ?_⟩
    have hSb := hOb.sl (Me ++ M)
    obtain ⟨ab, cb, rfl⟩ := hSb.len
    have hvb1 := hSb.one_
    obtain ⟨qb, hqb⟩ : ∃ qb, (ints (brokenL ms (castI z) ms.length)).length = qb := ⟨_, rfl⟩
    rw [hqb] at hSb hvb1 ⊢
    refine WD.bldS (by first | exact gN | exact gS rfl) rfl hH8 (vs := [(0, .slice ab qb cb)]) rfl (cs := [.slice ab qb cb]) (by rfl) (by simp [hvb1]) (fun H9 hH9 => zSt) fun H9 hH9 => ?_
    refine WD.append (Mx := Mx) (k := 1) (new := [.slice ab qb cb]) (by first | exact gN | exact gS rfl) rfl rfl rfl hO hH9 (.cons _ (List.Sublist.refl _)) (List.perm_append_comm_assoc [_, _, _, _, _, _] Mx ((Mb ++ Me) ++ M)) rfl (by
      have := hH9.readN (b := n7) (u := 0) (lo := 0) (o := 0) (k := 1 * 1) (.head _) (.row _ _ _ _) (Nat.le_refl _) (by simp)
      simpa [srcCells] using this) rfl (by omega) (by simp [hvb1]) (Nat.le_refl _) (by omega) (by simp; omega) fun u' Mx' n9 H10 hO9 hH10 hn9 => ?_
    have hH11 := hH10.perm (List.perm_append_comm_assoc Mx' [_, _, _, _, _, _] ((Mb ++ Me) ++ M))
    refine ⟨zSt, ?_⟩
    refine WD.toWR rfl ?_
    simp only [List.cons_append, List.nil_append] at hH11
    refine WR.storeBox (by first | exact gN | exact gS rfl) hH11 rfl rfl (hO9.sl M).one_ (.there (.there (.there (.there .here)))) fun H12 hH12 => ?_
    repeat' (first | refine zP ?_ | refine zA ?_ | (refine zM ?_; intro _ _) | refine zX ?_ | (refine zC ?_; intro _ _ _ _) | (refine zS ?_; intro _ _) | (apply Ws <;> intro hg))
    refine Ends.rd rfl rfl rfl hH12 (.there .here) fun H' h' => ⟨_, n9, h', .inl ⟨rfl, by omega, dn ++ [z], vs ++ [.slice ab qb cb], u', Mx', Mb ++ Me, by rw [hP]; simp, rfl, hO9, by simp [hvl], fun i hi => ?_⟩⟩
    rcases Nat.lt_or_ge i dn.length with h | h
    · rw [getD_app_l (by omega), getD_app_l h]
      exact (hvs i h).mono fun q hq => by
        rw [List.append_assoc]
        exact List.mem_append_right _ hq
    · have h2 : i = dn.length := by simp at hi; omega
      subst h2
      rw [← hvl, getD_snoc, hvl, getD_snoc, List.append_assoc]
      exact hSb
  · rintro _ H7 ⟨M7, n7, z7, hH7, ⟨hn7, dn, vs, u, Mx, Me, hP, rfl, hO, hvl, hvs⟩ | hS⟩
    · refine rangeEnd_of hH7 (.there .here) (by rw [← hR]; simp) (by rw [← hR]; rfl) fun H8 hH8 => ?_
      rw [List.append_nil] at hP
      have m5 := at5 hH8
      have hdl := perms_num N (List.range N) (by simp)
      have hfa := factN_le (N := N) (by omega)
      have hfp := factN_pos N
      rw [hP] at hdl
      repeat' (first | refine zP ?_ | refine zA ?_ | (refine zM ?_; intro _ _) | refine zX ?_ | (refine zC ?_; intro _ _ _ _) | (refine zS ?_; intro _ _) | (apply Ws <;> intro hg))
      refine WR.call (by first | exact gN | exact gS rfl) rfl rfl (MinFunc_fs (T := Me ++ M) (vs := vs) (qs := dn.map fun z => brokenL ms (castI z) ms.length) hH8 ((hO.sl (Me ++ M)).mono fun q hq => .tail _ (.tail _ (.tail _ (.tail _ (.tail _ (.tail _ hq)))))) (by simp [hvl])
        (fun i hi => by
          rw [List.length_map] at hi
          rw [getD_eq (l := dn.map _) (by rw [List.length_map]; exact hi), List.getElem_map, ← getD_eq (a := []) hi]
          exact hvs i hi) (fun q hq => .tail _ (.tail _ (.tail _ (.tail _ (.tail _ (.tail _ (List.mem_append_right _ hq)))))))
        (by rw [List.length_map]; omega) (by rw [List.length_map]; omega) (fun a ha => by
          obtain ⟨z, _, rfl⟩ := List.mem_map.1 ha
          have := broken_len ms (castI z) ms.length
          omega)) ?_
      rintro e H9 ⟨a, n9, ha, hSe, hmin, hn9, hH9⟩
      obtain ⟨z, hz, rfl⟩ := List.mem_map.1 ha
      repeat' (first | refine zP ?_ | refine zA ?_ | (refine zM ?_; intro _ _) | refine zX ?_ | (refine zC ?_; intro _ _ _ _) | (refine zS ?_; intro _ _) | (apply Ws <;> intro hg))
      exact Ends.ret1D rfl hH9 (.cons _ (.cons _ (.cons_cons _ (.cons _ (.cons _ (.cons _ (List.sublist_append_right _ _))))))) (List.Perm.refl _) fun H' h' => ⟨z, Me, n9, by rw [hP]; exact hz, hSe, fun y hy => hmin _ (List.mem_map.2 ⟨y, by rw [← hP]; exact hy, rfl⟩), by omega, h'⟩
    · exact hS.elim
end
end Go.Proofs.Ytckpocjeikkblaa.St

namespace Go.Proofs.Ytckpocjeikkblaa.St
open Go Go.Abs Go.Mth
set_option linter.unusedVariables false
set_option linter.unusedSimpArgs false
attribute [local irreducible] gOK WS WC WR WD Ends FS YS OpV seqK blockK loopK midK retK rdK asgK rangeEnd sat Cell

/-- The forms that are not whole in an order. -/
abbrev brokL (fs : List (List Int)) (z : List Nat) : List Int := brokenL (masksOf fs) (castI z) (masksOf fs).length

section
variable {M : HL} {n0 : Nat} {H : Heap} {v w : Value} {fs : List (List Int)}

theorem Fewest_fs {N : Nat} (hf0 : findsE (N : Int) fs = 0) (hH : hasH M n0 H) (hR : RowsI M v fs) (hl : fs.length ≤ 1000) (hll : ∀ l ∈ fs, l.length ≤ 1000) :
    FS C 36 [.agg #[.int .i64 (N : Int), v]] H (fun e H' => ∃ z l Mx n', e = .tuple #[l, .int .i64 0] ∧ z ∈ permsL N (List.range N) ∧ Sl (Mx ++ M) 1 l (ints (brokL fs z)) ∧
      (∀ y ∈ permsL N (List.range N), ¬ ordC (brokL fs y) (brokL fs z) < 0) ∧ n0 ≤ n' ∧ hasH (Mx ++ M) n' H') := by
  have h1 := hR.one_
  obtain ⟨hn1, hn7, hl10, hfo⟩ := finds_ok hf0
  refine FS.intro (pf := pf36) rfl rfl rfl ?_
  repeat' (first | refine zP ?_ | refine zA ?_ | (refine zM ?_; intro _ _) | refine zX ?_ | (refine zC ?_; intro _ _ _ _) | (refine zS ?_; intro _ _))
  rename_i H1 hH1
  have hR1 : RowsI ((n0, .row 24 0 0 [.int .i64 (N : Int), v]) :: M) v fs := hR.cons
  have hm1 : (n0, Ch.row 24 0 0 [.int .i64 (N : Int), v]) ∈ (n0, Ch.row 24 0 0 [.int .i64 (N : Int), v]) :: M := .head _
  refine WR.call (by first | exact gN | exact gS rfl) rfl rfl (Check_fs hH1 hR1 hl hll (N : Int)) ?_
  rintro _ H2 ⟨rfl, n2, hn2, hH2⟩
  clear hH1
  rw [hf0]
  repeat' (first | refine zP ?_ | refine zA ?_ | (refine zM ?_; intro _ _) | refine zX ?_ | (refine zC ?_; intro _ _ _ _) | (refine zS ?_; intro _ _) | refine zO ?_ | (apply Ws <;> intro hg))
  refine WC.regionD ?_
  repeat' (first | refine zD ?_ | (refine zE ?_; intro _ _ _ _))
  refine WD.call (by first | exact gN | exact gS rfl) rfl rfl (formsOf_fs hH2 hR1 hf0) ?_
  rintro _ H4 ⟨bf, n4, rfl, hn4, hH4⟩
  refine ⟨zSt, ?_⟩
  refine WD.toWR rfl ?_
  repeat' (first | refine zP ?_ | refine zA ?_ | (refine zM ?_; intro _ _) | refine zX ?_ | (refine zC ?_; intro _ _ _ _) | (refine zS ?_; intro _ _) | (apply Ws <;> intro hg))
  obtain ⟨hml, hm10, hmb⟩ := masks_ok hf0
  have hV : Sl ((bf, .row 117 0 0 (numsK .u8 (masksOf fs))) :: (n0, .row 24 0 0 [.int .i64 (N : Int), v]) :: M) 1 (.slice (some ⟨bf, 0, some 0⟩) (masksOf fs).length (2 * (masksOf fs).length + 1)) (numsK .u8 (masksOf fs)) :=
    .row (lo := 0) (cs := numsK .u8 (masksOf fs)) (.head _) (.row _ _ _ _) (Nat.zero_le _) (by simp) (by simp [List.take_of_length_le]) (by simp) (.inr ⟨(masksOf fs).length, rfl, Nat.le_refl _⟩)
  rw [hml] at hV
  refine WR.call (by first | exact gN | exact gS rfl) rfl rfl (shortest_fs (N := N) (ms := masksOf fs) hH4 (by omega) hV hm10 hmb) ?_
  rintro e H5 ⟨z, Mx, n5, hz, hSe, hmin, hn5, hH5⟩
  repeat' (first | refine zP ?_ | refine zA ?_ | (refine zM ?_; intro _ _) | refine zX ?_ | (refine zC ?_; intro _ _ _ _) | (refine zS ?_; intro _ _) | (apply Ws <;> intro hg))
  refine Ends.ret2 rfl rfl ⟨z, e, Mx ++ [(bf, .row 117 0 0 (numsK .u8 (masksOf fs))), (n0, .row 24 0 0 [.int .i64 (N : Int), v])], n5, rfl, hz, by simpa using hSe, hmin, by omega, by simpa using hH5⟩
end
end Go.Proofs.Ytckpocjeikkblaa.St

namespace Go.Proofs.Ytckpocjeikkblaa.St
open Go Go.Abs Go.Mth
set_option linter.unusedVariables false
set_option linter.unusedSimpArgs false

/-- A form has gaps in an order. -/
def gapB (z : List Nat) (l : List Int) : Bool := decide (1 < RN (bitF l (castI z)) z.length)
def idxL (k : Nat) (q : Nat → Bool) : List Int := ((List.range k).filter q).map fun (i : Nat) => (i : Int)
theorem idx_succ (k : Nat) (q : Nat → Bool) : idxL (k + 1) q = idxL k q ++ if q k = true then [(k : Int)] else [] := by
  unfold idxL
  rw [List.range_succ, List.filter_append, List.map_append]
  congr 1
  cases h : q k <;> simp [h]
theorem broken_idx {N : Nat} {fs : List (List Int)} {z : List Nat} (hf0 : findsE (N : Int) fs = 0) (hz : z ∈ permsL N (List.range N)) : brokL fs z = idxL fs.length fun i => gapB z (fs.getD i []) := by
  have hB := both_perm hf0 rfl hz
  have hml : (masksOf fs).length = fs.length := by simp [masksOf]
  have h : ∀ k, k ≤ fs.length → brokenL (masksOf fs) (castI z) k = idxL k fun i => gapB z (fs.getD i []) := by
    intro k
    induction k with
    | zero => exact fun _ => rfl
    | succ k ih =>
      intro hk
      rw [brokenL, idx_succ, ih (by omega), RN_congr fun j hj => bit_same hB (i := k) (by omega) hj, castI_len]
      congr 1
      unfold gapB
      simp only [decide_eq_true_eq]
  rw [brokL, hml]
  exact h _ (Nat.le_refl _)
theorem filter_sub {q r : Nat → Bool} : ∀ l : List Nat, (∀ i ∈ l, q i = true → r i = true) → (l.filter q).Sublist (l.filter r)
  | [], _ => .slnil
  | x :: l, h => by
    have ih := filter_sub l fun i hi => h i (.tail _ hi)
    have h1 := h x (.head _)
    simp only [List.filter_cons]
    cases hq : q x
    · cases hr : r x
      · simpa using ih
      · simpa using ih.cons x
    · rw [h1 hq]
      simpa using ih.cons_cons x
theorem idx_sub {k : Nat} {q r : Nat → Bool} (h : ∀ i, i < k → q i = true → r i = true) : (idxL k q).Sublist (idxL k r) :=
  (filter_sub _ fun i hi => h i (List.mem_range.1 hi)).map _
/-- Of two lists that lie in one another the shorter one comes first. -/
theorem ord_sub {a b : List Int} (h : a.Sublist b) : ordC a b ≤ 0 := by
  have hl := h.length_le
  rcases Nat.lt_or_ge a.length b.length with h1 | h1
  · have h2 := cmp_lt (a := (a.length : Int)) (b := b.length)
    unfold ordC
    rw [if_pos (by omega)]
    omega
  · rw [h.eq_of_length_le h1]
    exact Int.le_of_eq ((ord_zero _ _).2 rfl)
theorem ord_len {a b : List Int} (h : ¬ ordC b a < 0) : a.length ≤ b.length := by
  have h2 := cmp_lt (a := (b.length : Int)) (b := a.length)
  refine Nat.le_of_not_lt fun h3 => h ?_
  unfold ordC
  rw [if_pos (by omega)]
  omega
theorem ord_le_trans {a b c : List Int} (h1 : ordC a b ≤ 0) (h2 : ordC b c ≤ 0) : ordC a c ≤ 0 := by
  rcases Int.lt_or_eq_of_le h1 with h3 | h3
  · rcases Int.lt_or_eq_of_le h2 with h4 | h4
    · exact Int.le_of_lt (ord_trans h3 h4)
    · rw [← (ord_zero b c).1 h4]; exact h1
  · rw [(ord_zero a b).1 h3]; exact h2
theorem some_bits (q : Nat → Bool) : ∀ k, ∃ s, s < 2 ^ k ∧ ∀ i, i < k → s.testBit i = q i
  | 0 => ⟨0, by simp, fun i hi => absurd hi (Nat.not_lt_zero _)⟩
  | k + 1 => by
    obtain ⟨s, h1, h2⟩ := some_bits q k
    refine ⟨if q k = true then s ||| 2 ^ k else s, ?_, fun i hi => ?_⟩
    · split
      · exact Nat.or_lt_two_pow (Nat.lt_of_lt_of_le h1 (Nat.pow_le_pow_right (by omega) (by omega))) (Nat.pow_lt_pow_right (by omega) (by omega))
      · rw [Nat.pow_succ]; omega
    · rcases Nat.lt_or_ge i k with h | h
      · split
        · rw [Nat.testBit_or, Nat.testBit_two_pow, h2 i h]; simp; omega
        · exact h2 i h
      · have : i = k := by omega
        subst this
        have h3 : s.testBit i = false := Nat.testBit_lt_two_pow h1
        split
        · rename_i hq; rw [Nat.testBit_or, Nat.testBit_two_pow, hq]; simp
        · rename_i hq; rw [h3]; simp at hq; rw [hq]
/-- The forms that a set leaves. -/
def restF (fs : List (List Int)) (s : Nat) : Nat → List (List Int)
  | 0 => []
  | k + 1 => restF fs s k ++ if s.testBit k = true then [] else [fs.getD k []]
theorem rest_len (fs : List (List Int)) (s : Nat) : ∀ k, (restF fs s k).length ≤ k
  | 0 => Nat.le_refl _
  | k + 1 => by have := rest_len fs s k; rw [restF, List.length_append]; split <;> simp <;> omega
theorem rest_mem {fs : List (List Int)} {s : Nat} {l : List Int} : ∀ k, l ∈ restF fs s k ↔ ∃ i, i < k ∧ s.testBit i = false ∧ fs.getD i [] = l
  | 0 => by simp [restF]
  | k + 1 => by
    rw [restF, List.mem_append, rest_mem k]
    constructor
    · rintro (⟨i, h1, h2⟩ | h)
      · exact ⟨i, by omega, h2⟩
      · by_cases hb : s.testBit k = true
        · rw [if_pos hb] at h; cases h
        · rw [if_neg hb] at h
          exact ⟨k, by omega, by simpa using hb, (List.mem_singleton.1 h).symm⟩
    · rintro ⟨i, h1, h2, h3⟩
      rcases Nat.lt_or_ge i k with h | h
      · exact .inl ⟨i, h, h2, h3⟩
      · have : i = k := by omega
        subst this
        right; rw [if_neg (by simp [h2])]; exact List.mem_singleton.2 h3.symm
theorem rest_ok {N : Nat} {fs : List (List Int)} (s : Nat) (hf : findsE (N : Int) fs = 0) : findsE (N : Int) (restF fs s fs.length) = 0 :=
  less_ok hf (fun l hl => by
    obtain ⟨i, h1, h2, rfl⟩ := (rest_mem _).1 hl
    exact getD_mem h1) (rest_len _ _ _)
/-- An order that the forms that are left fit. -/
def someB (N : Nat) (fs : List (List Int)) (s : Nat) : Prop := ∃ z ∈ permsL N (List.range N), ∀ i, i < fs.length → gapB z (fs.getD i []) = true → s.testBit i = true
def cntI (k : Nat) (q : Nat → Bool) : Nat := ((List.range k).filter q).length
theorem cnt_succ (k : Nat) (q : Nat → Bool) : cntI (k + 1) q = cntI k q + if q k = true then 1 else 0 := by
  unfold cntI
  rw [List.range_succ, List.filter_append, List.length_append]
  congr 1
  cases h : q k <;> simp [h]
theorem cnt_but (q : Nat → Bool) (i : Nat) : ∀ k, cntI k (fun j => !decide (i = j) && q j) ≤ cntI k q ∧ cntI k q ≤ cntI k (fun j => !decide (i = j) && q j) + (if i < k then 1 else 0)
  | 0 => by simp [cntI]
  | k + 1 => by
    obtain ⟨h1, h2⟩ := cnt_but q i k
    rw [cnt_succ, cnt_succ]
    rcases Nat.decEq i k with h | h
    · have e : (!decide (i = k) && q k) = q k := by simp [h]
      rw [e]
      split at h2 <;> split <;> (try split) <;> omega
    · subst h
      rw [if_neg (by omega)] at h2
      simp
      split <;> omega
theorem idx_rest {fs : List (List Int)} {s : Nat} (p : List Int → Bool) : ∀ k, ((restF fs s k).filter p).length = cntI k fun i => !(s.testBit i) && p (fs.getD i [])
  | 0 => rfl
  | k + 1 => by
    rw [restF, List.filter_append, List.length_append, idx_rest p k, cnt_succ]
    congr 1
    generalize fs.getD k [] = l
    cases hb : s.testBit k <;> cases hp : p l <;> simp [hp]
theorem idx_fil {p : List Int → Bool} : ∀ (fs : List (List Int)), cntI fs.length (fun i => p (fs.getD i [])) = (fs.filter p).length := by
  intro fs
  have h : ∀ k, k ≤ fs.length → cntI k (fun i => p (fs.getD i [])) = ((fs.take k).filter p).length := by
    intro k
    induction k with
    | zero => intro _; rfl
    | succ k ih =>
      intro hk
      rw [cnt_succ, ih (by omega), List.take_add_one, List.getElem?_eq_getElem (show k < fs.length by omega), Option.toList_some, List.filter_append, List.length_append, getD_eq (show k < fs.length by omega)]
      congr 1
      cases hp : p fs[k] <;> simp [hp]
  have := h fs.length (Nat.le_refl _)
  rwa [List.take_length] at this
theorem brok_num {N : Nat} {fs : List (List Int)} {z : List Nat} (hf0 : findsE (N : Int) fs = 0) (hz : z ∈ permsL N (List.range N)) : (brokL fs z).length = (fs.filter (gapB z)).length := by
  rw [broken_idx hf0 hz, idxL, List.length_map, ← idx_fil]; rfl
/-- With a form less, one fewer is left out at most. -/
theorem left_one {N i : Nat} {fs : List (List Int)} {z y : List Nat} (hf0 : findsE (N : Int) fs = 0) (hi : i < fs.length) (hz : z ∈ permsL N (List.range N)) (hy : y ∈ permsL N (List.range N))
    (h1 : ∀ x ∈ permsL N (List.range N), ¬ ordC (brokL fs x) (brokL fs z) < 0) (h2 : ∀ x ∈ permsL N (List.range N), ¬ ordC (brokL (restF fs (2 ^ i) fs.length) x) (brokL (restF fs (2 ^ i) fs.length) y) < 0) :
    (brokL (restF fs (2 ^ i) fs.length) y).length ≤ (brokL fs z).length ∧ (brokL fs z).length ≤ (brokL (restF fs (2 ^ i) fs.length) y).length + 1 := by
  have hr := rest_ok (2 ^ i) hf0
  have hb : ∀ x, ((restF fs (2 ^ i) fs.length).filter (gapB x)).length ≤ (fs.filter (gapB x)).length ∧ (fs.filter (gapB x)).length ≤ ((restF fs (2 ^ i) fs.length).filter (gapB x)).length + 1 := fun x => by
    have h := cnt_but (fun j => gapB x (fs.getD j [])) i fs.length
    rw [idx_rest, ← idx_fil fs]
    have e : (fun j => !((2 ^ i).testBit j) && gapB x (fs.getD j [])) = fun j => !decide (i = j) && gapB x (fs.getD j []) := by
      funext j; rw [Nat.testBit_two_pow]
    rw [e]
    rw [if_pos hi] at h
    exact h
  have e1 := ord_len (h1 y hy)
  have e2 := ord_len (h2 z hz)
  have e3 := hb z
  have e4 := hb y
  rw [brok_num hf0 hz, brok_num hf0 hy] at e1
  rw [brok_num hr hz, brok_num hr hy] at e2
  rw [brok_num hf0 hz, brok_num hr hy]
  omega
/-- The first of the least sets that leave an order is that of the least broken forms. -/
theorem least_same {N : Nat} {fs : List (List Int)} {z : List Nat} {t : Nat} (hf0 : findsE (N : Int) fs = 0) (hz : z ∈ permsL N (List.range N)) (hmin : ∀ y ∈ permsL N (List.range N), ¬ ordC (brokL fs y) (brokL fs z) < 0)
    (ht : someB N fs t) (hmt : ∀ s, s < 2 ^ fs.length → someB N fs s → ¬ ordC (idxL fs.length s.testBit) (idxL fs.length t.testBit) < 0) : idxL fs.length t.testBit = brokL fs z := by
  obtain ⟨s, hs, hsb⟩ := some_bits (fun i => gapB z (fs.getD i [])) fs.length
  have h1 := hmt s hs ⟨z, hz, fun i hi hg => by rw [hsb i hi]; exact hg⟩
  have e : idxL fs.length s.testBit = brokL fs z := by
    rw [broken_idx hf0 hz]
    unfold idxL
    rw [List.filter_congr fun i hi => hsb i (List.mem_range.1 hi)]
  rw [e] at h1
  obtain ⟨y, hy, hyg⟩ := ht
  have h2 : ordC (brokL fs y) (idxL fs.length t.testBit) ≤ 0 := by
    rw [broken_idx hf0 hy]
    exact ord_sub (idx_sub fun i hi h => hyg i hi h)
  have h3 := hmin y hy
  have h4 := ord_neg (brokL fs y) (brokL fs z)
  have h5 := ord_le_trans (show ordC (brokL fs z) (brokL fs y) ≤ 0 by omega) h2
  exact ((ord_zero _ _).1 (by omega : ordC (brokL fs z) (idxL fs.length t.testBit) = 0)).symm
theorem all_some {N : Nat} {fs : List (List Int)} (hN : 1 ≤ N) : ∃ s, s < 2 ^ fs.length ∧ someB N fs s := by
  obtain ⟨s, hs, hsb⟩ := some_bits (fun _ => true) fs.length
  have hp := perms_num N (List.range N) (by simp)
  have hf := factN_pos N
  obtain ⟨z, hz⟩ : ∃ z, z ∈ permsL N (List.range N) := List.exists_mem_of_length_pos (by omega)
  exact ⟨s, hs, z, hz, fun i hi _ => hsb i hi⟩
end Go.Proofs.Ytckpocjeikkblaa.St

namespace Go.Proofs.Ytckpocjeikkblaa.St
open Go Go.Abs Go.Mth
set_option linter.unusedVariables false
set_option linter.unusedSimpArgs false
theorem cap8 {x : Nat} (h : x < 256) : x < capK .i64 := Nat.lt_of_lt_of_le h (by decide)
theorem shr0 {s k : Nat} : ((s >>> k &&& 1 : Nat) : Int) = 0 ↔ s.testBit k = false := by
  rw [← Bool.not_eq_true, ← shr_and_one]
  have h := Nat.and_one_is_mod (s >>> k)
  generalize s >>> k &&& 1 = q at *
  omega
attribute [local irreducible] gOK WS WC WR WD Ends FS YS OpV seqK blockK loopK midK retK rdK asgK rangeEnd sat Cell
structure LV where
  k : Nat
  u : Value
  us : List Value
  Mo : HL
  n : Nat

section
variable {U : HL} {n0 : Nat} {H : Heap} {v w : Value} {fs : List (List Int)}

theorem rest_fs {T0 : HL} {bF N s : Nat} (hT0 : ∀ q ∈ T0, q ∈ U) (hH : hasH U n0 H) (hmF : (bF, Ch.row 24 0 0 [.int .i64 (N : Int), v]) ∈ U) (hR : RowsI T0 v fs) (hl : fs.length ≤ 8) (hs : s < 256) :
    FS C 46 [.int .i64 (s : Int), .pointer (some ⟨bF, 0, some 0⟩)] H (fun e H' => ∃ u Mx n', e = .agg #[.int .i64 (N : Int), u] ∧ n0 ≤ n' ∧ RowsI (Mx ++ T0) u (restF fs s fs.length) ∧ hasH (Mx ++ U) n' H') := by
  obtain ⟨vs, hSv0, hvl, hvs⟩ := hR
  have hSv := hSv0.mono hT0
  have hone := hSv.one_
  refine FS.intro (pf := pf46) rfl rfl rfl ?_
  repeat' (first | refine zP ?_ | refine zA ?_ | (refine zM ?_; intro _ _) | refine zX ?_ | (refine zC ?_; intro _ _ _ _) | (refine zS ?_; intro _ _) | (apply Ws <;> intro hg))
  rename_i H1 hH1
  have mF1 : (bF, Ch.row 24 0 0 [.int .i64 (N : Int), v]) ∈ (n0, Ch.row 24 0 0 [.int .i64 0, .slice none 0 0]) :: U := .tail _ hmF
  repeat' (first | refine zP ?_ | refine zA ?_ | (refine zM ?_; intro _ _) | refine zX ?_ | (refine zC ?_; intro _ _ _ _) | (refine zS ?_; intro _ _) | (apply Ws <;> intro hg))
  refine WR.op (by first | exact gN | exact gS rfl) rfl (OpV.bldT (vs := [(0, .int .i64 (N : Int))]) rfl (cs := #[.int .i64 (N : Int), .slice none 0 0]) (by rfl)) ?_
  repeat' (first | refine zP ?_ | refine zA ?_ | (refine zM ?_; intro _ _) | refine zX ?_ | (refine zC ?_; intro _ _ _ _) | (refine zS ?_; intro _ _) | (apply Ws <;> intro hg))
  rename_i H2 hH2
  refine WR.storeAll (by first | exact gN | exact gS rfl) hH2 rfl rfl (ls := [.int .i64 (N : Int), .slice none 0 0]) rfl rfl .here rfl rfl fun H3 hH3 => ?_
  clear hH2 hH1
  have mF2 : (bF, Ch.row 24 0 0 [.int .i64 (N : Int), v]) ∈ (n0 + 1, Ch.row 24 0 0 [.int .i64 (N : Int), .slice none 0 0]) :: (n0, Ch.row 24 0 0 [.int .i64 0, .slice none 0 0]) :: U := .tail _ (.tail _ hmF)
  obtain ⟨av, cv, rfl⟩ := hSv.len
  repeat' (first | refine zP ?_ | refine zA ?_ | (refine zM ?_; intro _ _) | refine zX ?_ | (refine zC ?_; intro _ _ _ _) | (refine zS ?_; intro _ _) | (apply Ws <;> intro hg))
  have hro := rest_len fs s
  refine WC.loopX [(0, _), (1, _), (3, _), (4, _), (11, _), (12, _)] (fun q : LV => [(13, .int .i64 (q.k : Int))]) []
    (fun q H' => q.k ≤ fs.length ∧ n0 ≤ q.n ∧ Own 25 1 q.u q.us q.Mo ∧ q.us.length = (restF fs s q.k).length ∧ hasH ((n0 + 1, .row 24 0 0 [.int .i64 (N : Int), q.u]) :: (n0, .row 24 0 0 [.int .i64 0, .slice none 0 0]) :: (q.Mo ++ U)) q.n H' ∧
      ∀ i, i < (restF fs s q.k).length → Sl T0 1 (q.us.getD i undef) (ints ((restF fs s q.k).getD i []))) (fun q => fs.length - q.k) ⟨0, .slice none 0 0, [], [], n0 + 1 + 1⟩ (by repeat' (first | exact .nil | refine .cons rfl ?_)) rfl ⟨Nat.zero_le _, by simp only; omega, .nil, rfl, hH3, fun i hi => absurd hi (Nat.not_lt_zero _)⟩ ?_
  clear hH3 mF1 mF2
  rintro ⟨k, u, us, Mo, n1⟩ H4 ⟨hk, hn1, hO, hul, hH4, hus⟩
  simp only at hk hn1 hO hul hH4 hus
  have hSv4 : Sl ((n0 + 1, Ch.row 24 0 0 [.int .i64 (N : Int), u]) :: (n0, .row 24 0 0 [.int .i64 0, .slice none 0 0]) :: (Mo ++ U)) 1 (.slice av vs.length cv) vs := hSv.mono fun q hq => .tail _ (.tail _ (List.mem_append_right _ hq))
  have hrk := hro k
  dsimp only [List.cons_append, List.nil_append]
  repeat' (first | refine zP ?_ | refine zA ?_ | (refine zM ?_; intro _ _) | refine zX ?_ | (refine zC ?_; intro _ _ _ _) | (refine zS ?_; intro _ _) | (apply Ws <;> intro hg))
  refine WC.condP rfl (fun hlt => ?_) (fun hlt => ?_)
  · have hk' : k < fs.length := by omega
    have hsk := hvs k hk'
    obtain ⟨ak, ck, hek⟩ := hsk.len
    have hone := hsk.one_
    have hsh : s >>> k < 256 := Nat.lt_of_le_of_lt (Nat.shiftRight_le s k) hs
    repeat' (first | refine zP ?_ | refine zA ?_ | (refine zM ?_; intro _ _) | refine zX ?_ | (refine zC ?_; intro _ _ _ _) | (refine zS ?_; intro _ _) | (apply Ws <;> intro hg))
    repeat' (first | refine zP ?_ | refine zA ?_ | (refine zM ?_; intro _ _) | refine zX ?_ | (refine zC ?_; intro _ _ _ _) | (refine zS ?_; intro _ _) | (apply Ws <;> intro hg))
    refine WR.op (by first | exact gN | exact gS rfl) rfl (OpV.shrN rfl rfl (by show k ≤ 64; omega)) ?_
    refine WR.op (by first | exact gN | exact gS rfl) rfl (OpV.andN (b := 1) rfl rfl (cap8 hsh) (by decide)) ?_
    repeat' (first | refine zP ?_ | refine zA ?_ | (refine zM ?_; intro _ _) | refine zX ?_ | (refine zC ?_; intro _ _ _ _) | (refine zS ?_; intro _ _) | (apply Ws <;> intro hg))
    rw [hek] at hsk hone ⊢
    refine WC.condP rfl (fun hb => ?_) (fun hb => ?_)
    · have hb0 := shr0.1 hb
      repeat' (first | refine zP ?_ | refine zA ?_ | (refine zM ?_; intro _ _) | refine zX ?_ | (refine zC ?_; intro _ _ _ _) | (refine zS ?_; intro _ _) | (apply Ws <;> intro hg))
      refine WR.append1F [(n0 + 1, .row 24 0 0 [.int .i64 (N : Int), u]), (n0, .row 24 0 0 [.int .i64 0, .slice none 0 0])] Mo U rfl rfl rfl rfl hO hH4 (new := [.slice ak (ints (fs.getD k [])).length ck]) (by rfl) (by rw [List.all_cons, hone]; rfl) rfl (Nat.le_refl _) (by omega) (by simp [hul]; omega) fun v10 M10 n10 H10 hO10 hH11 hn10 => ?_
      have hone10 := (hO10.sl U).one_
      repeat' (first | refine zP ?_ | refine zA ?_ | (refine zM ?_; intro _ _) | refine zX ?_ | (refine zC ?_; intro _ _ _ _) | (refine zS ?_; intro _ _) | (apply Ws <;> intro hg))
      refine WR.store1 (by first | exact gN | exact gS rfl) hH11 rfl rfl hone10 (cs' := [.int .i64 (N : Int), v10]) .here (Nat.zero_le _) (by simp) rfl fun H12 hH12 => ?_
      repeat' (first | refine zP ?_ | refine zA ?_ | (refine zM ?_; intro _ _) | refine zX ?_ | (refine zC ?_; intro _ _ _ _) | (refine zS ?_; intro _ _) | (apply Ws <;> intro hg))
      have hrs : restF fs s (k + 1) = restF fs s k ++ [fs.getD k []] := by rw [restF, if_neg (by simp [hb0])]
      refine Ends.loop ⟨k + 1, v10, us ++ [.slice ak (ints (fs.getD k [])).length ck], M10, n10⟩ (by simp only; omega) (by repeat' (first | exact .nil | refine .cons rfl ?_)) rfl ⟨hk', by simp only; omega, hO10, by simp only; rw [hrs]; simp [hul], hH12, fun i hi => ?_⟩
      simp only [hrs] at hi ⊢
      rcases Nat.lt_or_ge i us.length with h | h
      · rw [getD_app_l h, getD_app_l (by omega)]
        exact hus i (by omega)
      · have h2 : i = us.length := by simp at hi; omega
        subst h2
        rw [getD_snoc, hul, getD_snoc]
        exact hsk
    · have hb1 : s.testBit k = true := by
        cases h : s.testBit k
        · exact absurd (shr0.2 h) hb
        · rfl
      have hrs : restF fs s (k + 1) = restF fs s k := by rw [restF, if_pos hb1, List.append_nil]
      repeat' (first | refine zP ?_ | refine zA ?_ | (refine zM ?_; intro _ _) | refine zX ?_ | (refine zC ?_; intro _ _ _ _) | (refine zS ?_; intro _ _) | (apply Ws <;> intro hg))
      exact Ends.loop ⟨k + 1, u, us, Mo, n1⟩ (by simp only; omega) (by repeat' (first | exact .nil | refine .cons rfl ?_)) rfl ⟨hk', hn1, hO, by simp only; rw [hrs]; exact hul, hH4, by simp only; rw [hrs]; exact hus⟩
  have hkl : k = fs.length := by omega
  subst hkl
  repeat' (first | refine zP ?_ | refine zA ?_ | (refine zM ?_; intro _ _) | refine zX ?_ | (refine zC ?_; intro _ _ _ _) | (refine zS ?_; intro _ _) | (apply Ws <;> intro hg))
  have hone1 := (hO.sl U).one_
  refine WR.storeAll (by first | exact gN | exact gS rfl) hH4 rfl rfl (ls := [.int .i64 (N : Int), u]) rfl rfl (.there .here) (by (repeat' (first | exact all_nil | refine all_cons (by first | rfl | assumption) ?_))) rfl fun H5 hH5 => ?_
  repeat' (first | refine zP ?_ | refine zA ?_ | (refine zM ?_; intro _ _) | refine zX ?_ | (refine zC ?_; intro _ _ _ _) | (refine zS ?_; intro _ _) | (apply Ws <;> intro hg))
  refine Ends.retCN rfl (l := [.int .i64 (N : Int), u]) ?_ ⟨u, Mo, n1, rfl, by omega, ⟨us, hO.sl T0, hul, fun i hi => (hus i hi).mono fun q hq => List.mem_append_right _ hq⟩, hH5.sub (.cons _ (.cons _ (.refl _)))⟩
  have := hH5.readN (b := n0) (u := 0) (lo := 0) (o := 0) (k := 2) (.tail _ (.head _)) (.row _ _ _ _) (Nat.le_refl _) (by simp)
  simpa using this
end
end Go.Proofs.Ytckpocjeikkblaa.St

namespace Go.Proofs.Ytckpocjeikkblaa.St
open Go Go.Abs Go.Mth
set_option linter.unusedVariables false
set_option linter.unusedSimpArgs false

def fitsB (gs : List (List Int)) (z : List Nat) : Bool := gs.all fun l => !gapB z l
theorem fitsB_iff {gs : List (List Int)} {z : List Nat} : fitsB gs z = true ↔ ∀ i, i < gs.length → RN (bitF (gs.getD i []) (castI z)) (castI z).length ≤ 1 := by
  unfold fitsB gapB
  rw [List.all_eq_true, castI_len]
  simp only [Bool.not_eq_true', decide_eq_false_iff_not]
  constructor
  · intro h i hi
    have := h _ (getD_mem (a := []) hi)
    omega
  · intro h l hl
    obtain ⟨i, hi, rfl⟩ := List.mem_iff_getElem.1 hl
    have := h i hi
    rw [getD_eq hi] at this
    omega
theorem someB_iff {N : Nat} {fs : List (List Int)} {s : Nat} : (permsL N (List.range N)).any (fitsB (restF fs s fs.length)) = true ↔ someB N fs s := by
  rw [List.any_eq_true]
  constructor
  · rintro ⟨z, hz, h⟩
    refine ⟨z, hz, fun i hi hg => ?_⟩
    unfold fitsB at h
    rw [List.all_eq_true] at h
    cases hb : s.testBit i
    · have := h _ ((rest_mem _).2 ⟨i, hi, hb, rfl⟩)
      rw [hg] at this; cases this
    · rfl
  · rintro ⟨z, hz, h⟩
    refine ⟨z, hz, ?_⟩
    unfold fitsB
    rw [List.all_eq_true]
    intro l hl
    obtain ⟨i, hi, hb, rfl⟩ := (rest_mem _).1 hl
    cases hg : gapB z (fs.getD i [])
    · rfl
    · have := h i hi hg
      rw [hb] at this; cases this
attribute [local irreducible] gOK WS WC WR WD Ends FS YS OpV seqK blockK loopK midK retK rdK asgK rangeEnd sat Cell

section
variable {U : HL} {n0 : Nat} {H : Heap} {v w : Value} {gs : List (List Int)}
theorem is_fs {bI bR N : Nat} {b : Bool} {z : List Nat} (hN : 1 ≤ N ∧ N ≤ 7) (hz : z ∈ permsL N (List.range N)) (hH : hasH ((bI, Ch.row 4 0 0 [.bool b]) :: U) n0 H) (hmR : (bR, Ch.row 24 0 0 [.int .i64 (N : Int), v]) ∈ U)
    (hR : RowsI U v gs) (hl : gs.length ≤ 1000) (hll : ∀ l ∈ gs, l.length ≤ 1000) (hS : Sl U 1 w (ints (castI z))) :
    FS C 48 [w, .pointer (some ⟨bI, 0, some 0⟩), .pointer (some ⟨bR, 0, some 0⟩)] H (fun _ H' => ∃ n', n0 ≤ n' ∧ hasH ((bI, Ch.row 4 0 0 [.bool (b || fitsB gs z)]) :: U) n' H') := by
  have hzl := (perm_inj hz).1
  have hcl : (castI z).length = N := by rw [castI_len, hzl]
  have hone := hR.one_
  have hmR2 : (bR, Ch.row 24 0 0 [.int .i64 (N : Int), v]) ∈ (bI, Ch.row 4 0 0 [.bool b]) :: U := .tail _ hmR
  refine FS.intro (pf := pf48) rfl rfl rfl ?_
  cases b with
  | true =>
    repeat' (first | refine zP ?_ | refine zA ?_ | (refine zM ?_; intro _ _) | refine zX ?_ | (refine zC ?_; intro _ _ _ _) | (refine zS ?_; intro _ _) | (apply Ws <;> intro hg))
    rename_i H2 hH2
    exact Ends.end0 ⟨n0, Nat.le_refl _, hH2⟩
  | false =>
    repeat' (first | refine zP ?_ | refine zA ?_ | (refine zM ?_; intro _ _) | refine zX ?_ | (refine zC ?_; intro _ _ _ _) | (refine zS ?_; intro _ _) | (apply Ws <;> intro hg))
    refine WR.call (by first | exact gN | exact gS rfl) rfl rfl (lfits_fs hH hR.cons hl hll hS.cons (by omega) (N : Int)) ?_
    rintro _ H2 ⟨b, n2, rfl, hn2, hH2, hb⟩
    have hbf : b = fitsB gs z := by rw [Bool.eq_iff_iff, hb, fitsB_iff]
    subst hbf
    repeat' (first | refine zP ?_ | refine zA ?_ | (refine zM ?_; intro _ _) | refine zX ?_ | (refine zC ?_; intro _ _ _ _) | (refine zS ?_; intro _ _) | (apply Ws <;> intro hg))
    rename_i H3 hH3
    exact Ends.end0 ⟨n2, hn2, by simpa using hH3⟩
end
end Go.Proofs.Ytckpocjeikkblaa.St

namespace Go.Proofs.Ytckpocjeikkblaa.St
open Go Go.Abs Go.Mth
set_option linter.unusedVariables false
set_option linter.unusedSimpArgs false
attribute [local irreducible] gOK WS WC WR WD Ends FS YS OpV seqK blockK loopK midK retK rdK asgK rangeEnd sat Cell

theorem idx_len (k : Nat) (q : Nat → Bool) : (idxL k q).length ≤ k := by
  unfold idxL; rw [List.length_map]; exact Nat.le_trans (List.length_filter_le _ _) (by simp)
theorem ord_gt {a b : List Int} (h : b.length < a.length) : 0 < ordC a b := by
  have h1 := ord_neg b a
  have h2 : ordC b a < 0 := Decidable.not_not.1 fun h3 => by have := ord_len h3; omega
  omega
theorem ord_lex {a b : List Int} (h : a.length = b.length) : ordC a b = lexC a b := by
  unfold ordC
  rw [if_neg]
  rw [h]
  exact fun h2 => h2 (cmp_zero.2 rfl)
theorem ord_lt_le {a b c : List Int} (h1 : ordC a b < 0) (h2 : ordC b c ≤ 0) : ordC a c < 0 := by
  rcases Int.lt_or_eq_of_le h2 with h3 | h3
  · exact ord_trans h1 h3
  · rw [← (ord_zero b c).1 h3]; exact h1
structure SV where
  s : Nat
  f : Bool
  t : Nat
  u : Value
  Mx : HL
  n : Nat

set_option maxHeartbeats 4000000 in
theorem StyleLeft_fs {M : HL} {n0 : Nat} {H : Heap} (hH : hasH M n0 H) {a b : Int} {hs : List Int} (ha : 0 ≤ a ∧ a ≤ 255) (hb : 0 ≤ b ∧ b ≤ 255) (hl : hs.length = 10) (hu : ∀ x ∈ hs, 0 ≤ x ∧ x ≤ 255) :
    FS C 9 [.agg (trays a b hs).toArray] H (fun e H' => e = .bool true) := by
  have hone := trays_one a b hs
  refine FS.intro (pf := pf9) rfl rfl rfl ?_
  repeat' (first | refine zP ?_ | refine zA ?_ | (refine zM ?_; intro _ _) | refine zX ?_ | (refine zC ?_; intro _ _ _ _) | (refine zS ?_; intro _ _))
  rename_i H1 hH1
  refine WR.op (by first | exact gN | exact gS rfl) rfl (OpV.loadAll (k := 12) rfl hH1 (.head _) (.row _ _ _ _) (by simp [trays, hl])) ?_
  generalize (n0, Ch.row 60 0 0 (trays a b hs)) :: M = T at hH1
  refine WR.call (by first | exact gN | exact gS rfl) rfl rfl (made_fs hH1 ha hb hl hu (ly := 5) (fm := 6) (by omega) (by omega)) ?_
  rintro _ H2 ⟨v, M2, n2, rfl, hn2, hR, hH2, hv0⟩
  obtain ⟨N, hN⟩ : ∃ N, 1 + a.toNat % 5 = N := ⟨_, rfl⟩
  obtain ⟨m, hm⟩ : ∃ m, b.toNat % (6 + 1) = m := ⟨_, rfl⟩
  rw [hN, hm] at hR hv0
  rw [hN]
  have hN5 : 1 ≤ N ∧ N ≤ 5 := by omega
  have hm8 : m ≤ 6 := by omega
  have hf0 := trays_ok (n := N) (m := m) (hs := hs) (by omega) (by omega)
  have hl8 : (traysF N m hs).length ≤ 6 := by simp [traysF]; omega
  generalize traysF N m hs = fs at hR hf0 hv0 hl8
  have h1 := hR.one_
  clear hH1 hN hm
  generalize M2 ++ T = T at hH2 hR
  repeat' (first | refine zP ?_ | refine zA ?_ | (refine zM ?_; intro _ _) | refine zX ?_ | (refine zC ?_; intro _ _ _ _) | (refine zS ?_; intro _ _) | (apply Ws <;> intro hg))
  rename_i H3 hH3
  refine WR.storeAll (by first | exact gN | exact gS rfl) hH3 rfl rfl (ls := [.int .i64 (N : Int), v]) rfl rfl .here (by (repeat' (first | exact all_nil | refine all_cons (by first | rfl | assumption) ?_))) rfl fun H4 hH4 => ?_
  clear hH3 hH2
  have hmF : (n2, Ch.row 24 0 0 [.int .i64 (N : Int), v]) ∈ (n2, Ch.row 24 0 0 [.int .i64 (N : Int), v]) :: T := .head _
  replace hR := hR.cons (p := (n2, .row 24 0 0 [.int .i64 (N : Int), v]))
  generalize (n2, Ch.row 24 0 0 [.int .i64 (N : Int), v]) :: T = T at hH4 hR hmF
  obtain ⟨hn1, hn7, hl10, hfo⟩ := finds_ok hf0
  have hl1 : fs.length ≤ 1000 := by omega
  have hll1 : ∀ l ∈ fs, l.length ≤ 1000 := fun l hl => form_len hn7 (hfo l hl)
  have h2k : 2 ^ fs.length ≤ 64 := Nat.le_trans (Nat.pow_le_pow_right (by omega) hl8) (by decide)
  obtain ⟨vs, hSv, hvl, hvs⟩ := id hR
  repeat' (first | refine zP ?_ | refine zA ?_ | (refine zM ?_; intro _ _) | refine zX ?_ | (refine zC ?_; intro _ _ _ _) | (refine zS ?_; intro _ _) | (apply Ws <;> intro hg))
  refine WR.op (by first | exact gN | exact gS rfl) rfl (OpV.shl1 (m := fs.length) rfl (by rw [hvl]; rfl) (by show fs.length ≤ 64; omega) (cap8 (by omega))) ?_
  obtain ⟨B, hB⟩ : ∃ B, 2 ^ fs.length = B := ⟨_, rfl⟩
  rw [hB] at h2k ⊢
  obtain ⟨kk, hkk⟩ : ∃ kk, fs.length = kk := ⟨_, rfl⟩
  rw [hvl, hkk]
  repeat' (first | refine zP ?_ | refine zA ?_ | (refine zM ?_; intro _ _) | refine zX ?_ | (refine zC ?_; intro _ _ _ _) | (refine zS ?_; intro _ _) | (apply Ws <;> intro hg))
  obtain ⟨n3, hn3⟩ : ∃ n3, n2 + 1 = n3 := ⟨_, rfl⟩
  rw [hn3] at hH4
  refine WC.loopX [(3, _), (4, .int .i64 (kk : Int)), (5, .func (.func 46) [].toArray [.pointer (some ⟨n2, 0, some 0⟩)].toArray), (25, .int .i64 (B : Int))] (fun s : SV => [(26, .int .i64 (s.s : Int)), (6, s.u), (7, .bool s.f)]) []
    (fun s H' => s.s ≤ B ∧ n3 ≤ s.n ∧ Sl (s.Mx ++ T) 1 s.u (ints (if s.f = true then idxL kk s.t.testBit else [])) ∧ hasH (s.Mx ++ T) s.n H' ∧ (s.f = true → someB N fs s.t ∧ ∀ r, r < s.s → someB N fs r → ¬ ordC (idxL kk r.testBit) (idxL kk s.t.testBit) < 0) ∧ (s.f = false → ∀ r, r < s.s → ¬ someB N fs r))
    (fun s => B - s.s) ⟨0, false, 0, .slice none 0 0, [], n3⟩ (by repeat' (first | exact .nil | refine .cons rfl ?_)) rfl ⟨Nat.zero_le _, Nat.le_refl _, (.nil 0 : Sl T 1 (.slice none 0 0) []), hH4, fun h => Bool.noConfusion h, fun _ r hr => absurd hr (Nat.not_lt_zero _)⟩ ?_
  clear hH4
  rintro ⟨s, f, t, u, Mx, n4⟩ H4 ⟨hsB, hn4, hSu, hH4, hft, hff⟩
  simp only at hsB hn4 hSu hH4 hft hff
  dsimp only [List.cons_append, List.nil_append]
  repeat' (first | refine zP ?_ | refine zA ?_ | (refine zM ?_; intro _ _) | refine zX ?_ | (refine zC ?_; intro _ _ _ _) | (refine zS ?_; intro _ _) | (apply Ws <;> intro hg))
  refine WC.condP rfl (fun hlt => ?_) (fun hlt => ?_)
  · have hs' : s < B := by omega
    repeat' (first | refine zP ?_ | refine zA ?_ | (refine zM ?_; intro _ _) | refine zX ?_ | (refine zC ?_; intro _ _ _ _) | (refine zS ?_; intro _ _) | (apply Ws <;> intro hg))
    obtain ⟨W, hW⟩ : ∃ W, Mx ++ T = W := ⟨_, rfl⟩
    rw [hW] at hSu hH4
    have hTW : ∀ q ∈ T, q ∈ W := fun q hq => by rw [← hW]; exact List.mem_append_right _ hq
    refine WC.loopX [(3, _), (4, _), (5, _), (6, _), (7, _), (8, .int .i64 (s : Int)), (25, _), (26, .int .i64 (s : Int)), (29, .int .i64 (kk : Int))] (fun q : OV => [(9, q.v), (30, .int .i64 (q.k : Int))]) []
      (fun q H' => q.k ≤ kk ∧ n4 ≤ q.n ∧ Own 3 1 q.v (ints (idxL q.k s.testBit)) q.Mx ∧ hasH (q.Mx ++ W) q.n H') (fun q => kk - q.k) ⟨0, .slice none 0 0, [], n4⟩ (by repeat' (first | exact .nil | refine .cons rfl ?_)) rfl ⟨Nat.zero_le _, Nat.le_refl _, .nil, hH4⟩ ?_
    clear hH4
    rintro ⟨i, l, Mo, n5⟩ H5 ⟨hi, hn5, hO, hH5⟩
    simp only at hi hn5 hO hH5
    dsimp only [List.cons_append, List.nil_append]
    repeat' (first | refine zP ?_ | refine zA ?_ | (refine zM ?_; intro _ _) | refine zX ?_ | (refine zC ?_; intro _ _ _ _) | (refine zS ?_; intro _ _) | (apply Ws <;> intro hg))
    refine WC.condP rfl (fun hlt2 => ?_) (fun hlt2 => ?_)
    · have hi' : i < kk := by omega
      have hsh : s >>> i < 256 := Nat.lt_of_le_of_lt (Nat.shiftRight_le s i) (by omega)
      have hil : (idxL i s.testBit).length ≤ i := by
        unfold idxL; rw [List.length_map]; exact Nat.le_trans (List.length_filter_le _ _) (by simp)
      repeat' (first | refine zP ?_ | refine zA ?_ | (refine zM ?_; intro _ _) | refine zX ?_ | (refine zC ?_; intro _ _ _ _) | (refine zS ?_; intro _ _) | (apply Ws <;> intro hg))
      refine WR.op (by first | exact gN | exact gS rfl) rfl (OpV.shrN rfl rfl (by show i ≤ 64; omega)) ?_
      refine WR.op (by first | exact gN | exact gS rfl) rfl (OpV.andN (b := 1) rfl rfl (cap8 hsh) (by decide)) ?_
      repeat' (first | refine zP ?_ | refine zA ?_ | (refine zM ?_; intro _ _) | refine zX ?_ | (refine zC ?_; intro _ _ _ _) | (refine zS ?_; intro _ _) | (apply Ws <;> intro hg))
      refine WC.condP rfl (fun hbit => ?_) (fun hbit => ?_)
      · have hb1 := shr_and_one.1 hbit
        repeat' (first | refine zP ?_ | refine zA ?_ | (refine zM ?_; intro _ _) | refine zX ?_ | (refine zC ?_; intro _ _ _ _) | (refine zS ?_; intro _ _) | (apply Ws <;> intro hg))
        refine WR.append1R rfl rfl rfl rfl hO hH5 (new := [.int .i64 (i : Int)]) (by rfl) rfl rfl (Nat.le_refl _) (by omega) (by simp; omega) fun v6 M6 n6 H6 hO6 hH6 hn6 => ?_
        repeat' (first | refine zP ?_ | refine zA ?_ | (refine zM ?_; intro _ _) | refine zX ?_ | (refine zC ?_; intro _ _ _ _) | (refine zS ?_; intro _ _) | (apply Ws <;> intro hg))
        refine Ends.loop ⟨i + 1, v6, M6, n6⟩ (by simp only; omega) (by repeat' (first | exact .nil | refine .cons rfl ?_)) rfl ⟨hi', by simp only; omega, ?_, hH6⟩
        simp only
        rw [idx_succ, if_pos hb1]
        simpa using hO6.own
      · have hb1 : ¬ s.testBit i = true := fun h => hbit (shr_and_one.2 h)
        repeat' (first | refine zP ?_ | refine zA ?_ | (refine zM ?_; intro _ _) | refine zX ?_ | (refine zC ?_; intro _ _ _ _) | (refine zS ?_; intro _ _) | (apply Ws <;> intro hg))
        refine Ends.loop ⟨i + 1, l, Mo, n5⟩ (by simp only; omega) (by repeat' (first | exact .nil | refine .cons rfl ?_)) rfl ⟨hi', hn5, ?_, hH5⟩
        simp only
        rw [idx_succ, if_neg hb1, List.append_nil]
        exact hO
    have hik : kk = i := by omega
    subst hik
    have hSl := hO.sl W
    replace hSu : Sl (Mo ++ W) 1 u _ := hSu.mono fun q hq => List.mem_append_right _ hq
    (first | refine zA ?_ | (refine zM ?_; intro _ _) | (apply Ws <;> intro hg))
    (first | refine zA ?_ | (refine zM ?_; intro _ _) | (apply Ws <;> intro hg))
    (first | refine zA ?_ | (refine zM ?_; intro _ _) | (apply Ws <;> intro hg))
    (first | refine zA ?_ | (refine zM ?_; intro _ _) | (apply Ws <;> intro hg))
    (first | refine zA ?_ | (refine zM ?_; intro _ _) | (apply Ws <;> intro hg))
    refine WC.seq ?_
    refine WC.joinX [(3, _), (4, _), (5, _), (6, _), (7, _), (8, _), (9, _), (25, _), (26, _)] (by repeat' (first | exact .nil | refine .cons rfl ?_)) (fun _ : Unit => []) (fun _ H' => H' = H5 ∧ (f = true → ordC (idxL kk s.testBit) (idxL kk t.testBit) ≤ 0)) ?_ ?_
    have hli := idx_len kk s.testBit
    have hlt' := idx_len kk t.testBit
    · cases f with
      | false =>
        repeat' (first | refine zP ?_ | refine zA ?_ | (refine zM ?_; intro _ _) | refine zX ?_ | (refine zC ?_; intro _ _ _ _) | (refine zS ?_; intro _ _) | refine zO ?_ | (apply Ws <;> intro hg))
        exact Ends.midX () (by repeat' (first | exact .nil | refine .cons rfl ?_)) ⟨rfl, fun h => Bool.noConfusion h⟩
      | true =>
        have hno : 0 < ordC (idxL kk s.testBit) (idxL kk t.testBit) → ∀ r, r < s + 1 → someB N fs r → ¬ ordC (idxL kk r.testBit) (idxL kk t.testBit) < 0 := fun h0 r hr hrs => by
          rcases Nat.lt_or_ge r s with h | h
          · exact (hft rfl).2 r h hrs
          · have : r = s := by omega
            subst this; omega
        rw [if_pos rfl] at hSu
        repeat' (first | refine zP ?_ | refine zA ?_ | (refine zM ?_; intro _ _) | refine zX ?_ | (refine zC ?_; intro _ _ _ _) | (refine zS ?_; intro _ _) | (apply Ws <;> intro hg))
        · exact Ends.loop ⟨s + 1, true, t, u, Mo ++ Mx, n5⟩ (by simp only; omega) (by repeat' (first | exact .nil | refine .cons rfl ?_)) rfl ⟨hs', by simp only; omega, (by simp only [if_true]; rw [List.append_assoc, hW]; exact hSu), (by rw [List.append_assoc, hW]; exact hH5), fun _ => ⟨(hft rfl).1, hno (ord_gt (by omega))⟩, fun h => Bool.noConfusion h⟩
        · refine WR.call (by first | exact gN | exact gS rfl) rfl rfl (Compare_fs hH5 hSl hSu (by omega) (by omega)) ?_
          rintro _ _ ⟨rfl, rfl⟩
          rw [← ord_lex (by omega)]
          repeat' (first | refine zP ?_ | refine zA ?_ | (refine zM ?_; intro _ _) | refine zX ?_ | (refine zC ?_; intro _ _ _ _) | (refine zS ?_; intro _ _) | (apply Ws <;> intro hg))
          refine WC.condP rfl (fun hgt => ?_) (fun hgt => ?_)
          · repeat' (first | refine zP ?_ | refine zA ?_ | (refine zM ?_; intro _ _) | refine zX ?_ | (refine zC ?_; intro _ _ _ _) | (refine zS ?_; intro _ _) | (apply Ws <;> intro hg))
            exact Ends.loop ⟨s + 1, true, t, u, Mo ++ Mx, n5⟩ (by simp only; omega) (by repeat' (first | exact .nil | refine .cons rfl ?_)) rfl ⟨hs', by simp only; omega, (by simp only [if_true]; rw [List.append_assoc, hW]; exact hSu), (by rw [List.append_assoc, hW]; exact hH5), fun _ => ⟨(hft rfl).1, hno hgt⟩, fun h => Bool.noConfusion h⟩
          · repeat' (first | refine zP ?_ | refine zA ?_ | (refine zM ?_; intro _ _) | refine zX ?_ | (refine zC ?_; intro _ _ _ _) | (refine zS ?_; intro _ _) | (apply Ws <;> intro hg))
            exact Ends.midX () (by repeat' (first | exact .nil | refine .cons rfl ?_)) ⟨rfl, fun _ => by omega⟩
        · exact Ends.midX () (by repeat' (first | exact .nil | refine .cons rfl ?_)) ⟨rfl, fun _ => by have := @ord_gt (idxL kk t.testBit) (idxL kk s.testBit) (by omega); have := ord_neg (idxL kk s.testBit) (idxL kk t.testBit); omega⟩
    clear hlt hlt2 hO
    rintro _ H6 ⟨rfl, hle⟩
    dsimp only [List.cons_append, List.nil_append]
    repeat' (first | refine zP ?_ | refine zA ?_ | (refine zM ?_; intro _ _) | refine zX ?_ | (refine zC ?_; intro _ _ _ _) | (refine zS ?_; intro _ _) | (apply Ws <;> intro hg))
    rename_i H7 hH7 H8 hH8
    clear hH7 hH5
    obtain ⟨V, hV⟩ : ∃ V, Mo ++ W = V := ⟨_, rfl⟩
    rw [hV] at hSl hSu hH8
    have hTV : ∀ q ∈ T, q ∈ V := fun q hq => by rw [← hV]; exact List.mem_append_right _ (hTW q hq)
    refine WR.callV (va := []) (vb := [.pointer (some ⟨n2, 0, some 0⟩)]) (by first | exact gN | exact gS rfl) rfl rfl rfl (rest_fs (T0 := V) (s := s) (fun q hq => .tail _ hq) hH8 (.tail _ (hTV _ hmF)) (hR.mono hTV) (by omega) (by omega)) ?_
    rintro _ H9 ⟨w, Mr, n9, rfl, hn9, hRr, hH9⟩
    have honer := hRr.one_
    clear hH8
    repeat' (first | refine zP ?_ | refine zA ?_ | (refine zM ?_; intro _ _) | refine zX ?_ | (refine zC ?_; intro _ _ _ _) | (refine zS ?_; intro _ _) | (apply Ws <;> intro hg))
    rename_i H10 hH10
    refine WR.storeAll (by first | exact gN | exact gS rfl) hH10 rfl rfl (ls := [.int .i64 (N : Int), w]) rfl rfl .here (by (repeat' (first | exact all_nil | refine all_cons (by first | rfl | assumption) ?_))) rfl fun H11 hH11 => ?_
    clear hH10 hH9
    have hH12 := hH11.perm (M' := (n5, Ch.row 4 0 0 [.bool false]) :: (n9, .row 24 0 0 [.int .i64 (N : Int), w]) :: (Mr ++ V)) ((List.Perm.cons _ List.perm_middle).trans (List.Perm.swap _ _ _))
    clear hH11
    have hRy : RowsI ((n9, .row 24 0 0 [.int .i64 (N : Int), w]) :: (Mr ++ V)) w (restF fs s fs.length) := hRr.cons
    have hmR : (n9, Ch.row 24 0 0 [.int .i64 (N : Int), w]) ∈ (n9, Ch.row 24 0 0 [.int .i64 (N : Int), w]) :: (Mr ++ V) := .head _
    have hmF12 : (n2, Ch.row 24 0 0 [.int .i64 (N : Int), v]) ∈ (n5, Ch.row 4 0 0 [.bool false]) :: (n9, .row 24 0 0 [.int .i64 (N : Int), w]) :: (Mr ++ V) := .tail _ (.tail _ (List.mem_append_right _ (hTV _ hmF)))
    have hrl := rest_len fs s fs.length
    have hrok := rest_ok s hf0
    repeat' (first | refine zP ?_ | refine zA ?_ | (refine zM ?_; intro _ _) | refine zX ?_ | (refine zC ?_; intro _ _ _ _) | (refine zS ?_; intro _ _) | (apply Ws <;> intro hg))
    refine WR.call (by first | exact gN | exact gS rfl) rfl rfl (orders_fs (N := N) (J := fun zs M' n' => ∃ (dn : List (List Nat)), permsL N (List.range N) = dn ++ zs ∧ M' = (n5, Ch.row 4 0 0 [.bool (dn.any (fitsB (restF fs s fs.length)))]) :: (n9, Ch.row 24 0 0 [.int .i64 (N : Int), w]) :: (Mr ++ V))
      (by omega) hH12 ⟨[], rfl, rfl⟩ (fun zs M' n' n'' h _ => h) ?_) ?_
    · rintro z zs F _ n' H' q ⟨dn, hP, rfl⟩ hz hS hH'
      have hH13 := hH'.perm (M' := (n5, Ch.row 4 0 0 [.bool (dn.any (fitsB (restF fs s fs.length)))]) :: (F ++ ((n9, Ch.row 24 0 0 [.int .i64 (N : Int), w]) :: (Mr ++ V)))) List.perm_middle
      refine (is_fs (by omega) hz hH13 (List.mem_append_right _ hmR) (hRy.mono fun q hq => List.mem_append_right _ hq) (by omega) (fun l hl => form_len hn7 ((finds_ok hrok).2.2.2 l hl)) (hS.mono fun q hq => List.mem_append_left _ hq)).mono fun e H14 ⟨n14, h1, h2⟩ =>
        ⟨_, n14, h1, ⟨dn ++ [z], by rw [hP]; simp, rfl⟩, ?_⟩
      rw [List.any_append]
      simp only [List.any_cons, List.any_nil, Bool.or_false]
      exact h2.perm List.perm_middle.symm
    rintro _ H13 ⟨_, n13, hn13, ⟨dn, hP, rfl⟩, hH13⟩
    rw [List.append_nil] at hP
    subst hP
    clear hH12
    have hiff := someB_iff (N := N) (fs := fs) (s := s)
    have hVe : ((n5, Ch.row 4 0 0 [Value.bool ((permsL N (List.range N)).any (fitsB (restF fs s fs.length)))]) :: (n9, Ch.row 24 0 0 [.int .i64 (N : Int), w]) :: (Mr ++ V)) = ((n5, Ch.row 4 0 0 [Value.bool ((permsL N (List.range N)).any (fitsB (restF fs s fs.length)))]) :: (n9, Ch.row 24 0 0 [.int .i64 (N : Int), w]) :: (Mr ++ (Mo ++ Mx))) ++ T := by
      rw [← hV, ← hW]; simp [List.append_assoc]
    have hVs : ∀ q ∈ V, q ∈ ((n5, Ch.row 4 0 0 [Value.bool ((permsL N (List.range N)).any (fitsB (restF fs s fs.length)))]) :: (n9, Ch.row 24 0 0 [.int .i64 (N : Int), w]) :: (Mr ++ (Mo ++ Mx))) ++ T := fun q hq => by
      rw [← hVe]; exact .tail _ (.tail _ (List.mem_append_right _ hq))
    rw [hVe] at hH13
    cases hany : (permsL N (List.range N)).any (fitsB (restF fs s fs.length)) with
    | true =>
      rw [hany] at hH13 hVs
      have hsome := hiff.1 hany
      repeat' (first | refine zP ?_ | refine zA ?_ | (refine zM ?_; intro _ _) | refine zX ?_ | (refine zC ?_; intro _ _ _ _) | (refine zS ?_; intro _ _) | (apply Ws <;> intro hg))
      refine Ends.loop ⟨s + 1, true, s, l, (n5, Ch.row 4 0 0 [Value.bool true]) :: (n9, Ch.row 24 0 0 [.int .i64 (N : Int), w]) :: (Mr ++ (Mo ++ Mx)), n13⟩ (by simp only; omega) (by repeat' (first | exact .nil | refine .cons rfl ?_)) rfl ⟨hs', by simp only; omega, by simp only [if_true]; exact hSl.mono hVs, hH13, fun _ => ⟨hsome, fun r hr hrs => ?_⟩, fun h => Bool.noConfusion h⟩
      simp only at hr ⊢
      rcases Nat.lt_or_ge r s with h | h
      · cases f with
        | true => exact fun h2 => (hft rfl).2 r h hrs (ord_lt_le h2 (hle rfl))
        | false => exact absurd hrs (hff rfl r h)
      · have : r = s := by omega
        subst this
        have := (ord_zero (idxL kk r.testBit) (idxL kk r.testBit)).2 rfl
        omega
    | false =>
      rw [hany] at hH13 hVs
      have hsome : ¬ someB N fs s := fun h => by rw [hiff.2 h] at hany; cases hany
      repeat' (first | refine zP ?_ | refine zA ?_ | (refine zM ?_; intro _ _) | refine zX ?_ | (refine zC ?_; intro _ _ _ _) | (refine zS ?_; intro _ _) | (apply Ws <;> intro hg))
      refine Ends.loop ⟨s + 1, f, t, u, (n5, Ch.row 4 0 0 [Value.bool false]) :: (n9, Ch.row 24 0 0 [.int .i64 (N : Int), w]) :: (Mr ++ (Mo ++ Mx)), n13⟩ (by simp only; omega) (by repeat' (first | exact .nil | refine .cons rfl ?_)) rfl ⟨hs', by simp only; omega, hSu.mono hVs, hH13, fun h => ⟨(hft h).1, fun r hr hrs => ?_⟩, fun h r hr hrs => ?_⟩
      · simp only at hr ⊢
        rcases Nat.lt_or_ge r s with h2 | h2
        · exact (hft h).2 r h2 hrs
        · have : r = s := by omega
          subst this
          exact absurd hrs hsome
      · simp only at hr
        rcases Nat.lt_or_ge r s with h2 | h2
        · exact hff h r h2 hrs
        · have : r = s := by omega
          subst this
          exact hsome hrs
  · have hsB2 : s = B := by omega
    obtain ⟨r, hr, hrs⟩ := all_some (N := N) (fs := fs) hN5.1
    cases f with
    | false => exact absurd hrs (hff rfl r (by omega))
    | true =>
    obtain ⟨ht, hmin⟩ := hft rfl
    rw [if_pos rfl] at hSu
    subst hkk
    subst hB
    subst hsB2
    replace hmF := List.mem_append_right Mx hmF
    replace hR : RowsI (Mx ++ T) v fs := hR.mono fun q hq => List.mem_append_right _ hq
    clear hvs hSv hft hff hlt
    generalize Mx ++ T = T at hSu hH4 hmF hR
    repeat' (first | refine zP ?_ | refine zA ?_ | (refine zM ?_; intro _ _) | refine zX ?_ | (refine zC ?_; intro _ _ _ _) | (refine zS ?_; intro _ _) | (apply Ws <;> intro hg))
    refine WR.call (by first | exact gN | exact gS rfl) rfl rfl (Fewest_fs hf0 hH4 hR hl1 hll1) ?_
    rintro _ H5 ⟨z, l, M5, n5, rfl, hz, hSl, hminz, hn5, hH5⟩
    rw [least_same hf0 hz hminz ht fun r hr hrs => hmin r hr hrs] at hSu
    replace hSu := hSu.mono fun q hq => List.mem_append_right M5 hq
    replace hmF := List.mem_append_right M5 hmF
    replace hR : RowsI (M5 ++ T) v fs := hR.mono fun q hq => List.mem_append_right _ hq
    clear hH4
    generalize M5 ++ T = T at hSl hSu hH5 hmF hR
    have hbn : (brokL fs z).length ≤ 6 := by
      have := broken_len (masksOf fs) (castI z) (masksOf fs).length
      have h3 : (masksOf fs).length = fs.length := by simp [masksOf]
      simp only [brokL]
      omega
    repeat' (first | refine zP ?_ | refine zA ?_ | (refine zM ?_; intro _ _) | refine zX ?_ | (refine zC ?_; intro _ _ _ _) | (refine zS ?_; intro _ _) | refine zO ?_ | (apply Ws <;> intro hg))
    refine WR.call (by first | exact gN | exact gS rfl) rfl rfl (same_fs hH5 (by omega) hSl hSu) ?_
    rintro _ _ ⟨rfl, rfl⟩
    repeat' (first | refine zP ?_ | refine zA ?_ | (refine zM ?_; intro _ _) | refine zX ?_ | (refine zC ?_; intro _ _ _ _) | (refine zS ?_; intro _ _) | refine zO ?_ | (apply Ws <;> intro hg))
    refine WC.loopX [(3, _), (4, _), (5, _), (13, l), (87, .int .i64 (fs.length : Int))] (fun q : Nat × HL × Nat => [(88, .int .i64 (q.1 : Int))]) [] (fun q H' => q.1 ≤ fs.length ∧ n5 ≤ q.2.2 ∧ hasH (q.2.1 ++ T) q.2.2 H') (fun q => fs.length - q.1) (0, [], n5) (by repeat' (first | exact .nil | refine .cons rfl ?_)) rfl ⟨Nat.zero_le _, Nat.le_refl _, hH5⟩ ?_
    clear hH5 hSu
    rintro ⟨i, Mx, n6⟩ H6 ⟨hi, hn6, hH6⟩
    simp only at hi hn6 hH6
    replace hSl : Sl (Mx ++ T) 1 l (ints (brokL fs z)) := hSl.mono fun q hq => List.mem_append_right _ hq
    replace hmF := List.mem_append_right Mx hmF
    replace hR : RowsI (Mx ++ T) v fs := hR.mono fun q hq => List.mem_append_right _ hq
    dsimp only [List.cons_append, List.nil_append]
    repeat' (first | refine zP ?_ | refine zA ?_ | (refine zM ?_; intro _ _) | refine zX ?_ | (refine zC ?_; intro _ _ _ _) | (refine zS ?_; intro _ _) | (apply Ws <;> intro hg))
    refine WC.condP rfl (fun hlt => ?_) (fun hlt => ?_)
    · have hi' : i < fs.length := by omega
      have h2i : 2 ^ i ≤ 64 := Nat.le_trans (Nat.pow_le_pow_right (by omega) (by omega : i ≤ 6)) (by decide)
      repeat' (first | refine zP ?_ | refine zA ?_ | (refine zM ?_; intro _ _) | refine zX ?_ | (refine zC ?_; intro _ _ _ _) | (refine zS ?_; intro _ _) | (apply Ws <;> intro hg))
      refine WR.op (by first | exact gN | exact gS rfl) rfl (OpV.shl1 (m := i) rfl rfl (by show i ≤ 64; omega) (cap8 (by omega))) ?_
      refine WR.callV (va := []) (vb := [.pointer (some ⟨n2, 0, some 0⟩)]) (by first | exact gN | exact gS rfl) rfl rfl rfl (rest_fs (T0 := Mx ++ T) (s := 2 ^ i) (fun q hq => hq) hH6 hmF hR (by omega) (by omega)) ?_
      rintro _ H7 ⟨w, Mr, n7, rfl, hn7', hRr, hH7⟩
      have hrok := rest_ok (2 ^ i) hf0
      have hrl := rest_len fs (2 ^ i) fs.length
      repeat' (first | refine zP ?_ | refine zA ?_ | (refine zM ?_; intro _ _) | refine zX ?_ | (refine zC ?_; intro _ _ _ _) | (refine zS ?_; intro _ _) | (apply Ws <;> intro hg))
      refine WR.call (by first | exact gN | exact gS rfl) rfl rfl (Fewest_fs hrok hH7 hRr (by omega) (fun l hl => form_len hn7 ((finds_ok hrok).2.2.2 l hl))) ?_
      rintro _ H8 ⟨y, l2, M8, n8, rfl, hy, hSl2, hminy, hn8, hH8⟩
      obtain ⟨hle1, hle2⟩ := left_one hf0 hi' hz hy hminz hminy
      replace hSl : Sl (M8 ++ (Mr ++ (Mx ++ T))) 1 l (ints (brokL fs z)) := hSl.mono fun q hq => List.mem_append_right _ (List.mem_append_right _ hq)
      have hmlr : (masksOf fs).length = fs.length := by simp [masksOf]
      generalize brokL fs z = bz at hSl hbn hle1 hle2
      generalize brokL (restF fs (2 ^ i) fs.length) y = byy at hSl2 hle1 hle2
      clear hH6 hH7 hRr
      repeat' (first | refine zP ?_ | refine zA ?_ | (refine zM ?_; intro _ _) | refine zX ?_ | (refine zC ?_; intro _ _ _ _) | (refine zS ?_; intro _ _) | refine zO ?_ | (apply Ws <;> intro hg))
      exact Ends.loop (i + 1, M8 ++ (Mr ++ Mx), n8) (by simp only; omega) (by repeat' (first | exact .nil | refine .cons rfl ?_)) rfl ⟨hi', by simp only; omega, by simpa [List.append_assoc] using hH8⟩
    · have hik : i = fs.length := by omega
      repeat' (first | refine zP ?_ | refine zA ?_ | (refine zM ?_; intro _ _) | refine zX ?_ | (refine zC ?_; intro _ _ _ _) | (refine zS ?_; intro _ _) | (apply Ws <;> intro hg))
      refine WR.call (by first | exact gN | exact gS rfl) rfl rfl (FS.works (C := C) (R := fun v H' => v = .bool true) rfl) ?_
      rintro _ _ rfl
      repeat' (first | refine zP ?_ | refine zA ?_ | (refine zM ?_; intro _ _) | refine zX ?_ | (refine zC ?_; intro _ _ _ _) | (refine zS ?_; intro _ _) | (apply Ws <;> intro hg))
      exact Ends.ret1 rfl rfl
end Go.Proofs.Ytckpocjeikkblaa.St
