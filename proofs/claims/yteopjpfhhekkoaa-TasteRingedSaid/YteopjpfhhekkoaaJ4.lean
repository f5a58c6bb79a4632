/- Texts of the law, joined. -/
import Derived.Test.YteopjpfhhekkoaaJ3
import Derived.Test.YteopjpfhhekkoaaJ1
/- lead; ringed. -/
namespace Go.Proofs.Yteopjpfhhekkoaa.Tt
open Go Go.Abs Go.Mth
set_option linter.unusedVariables false
set_option linter.unusedSimpArgs false
theorem DP_cs {S : List Sal} {a b : Nat} (ha : a < S.length) (hb : b < S.length) : DP (matS S) a b = cs S a a - cs S a b := by
  unfold DP; rw [matS_get ha, rowS_get ha, rowS_get hb]
/-- A step, or none, more. -/
def StK (g : Nat → Nat → Bool) (n : Nat) : Nat → Nat → Nat → Prop
  | 0, a, b => a = b ∧ a < n
  | r + 1, a, c => ∃ b, StK g n r a b ∧ c < n ∧ g b c = true
theorem StK.rt {g : Nat → Nat → Bool} {n : Nat} : ∀ {r a b : Nat}, StK g n r a b → RT g n a b
  | 0, a, b, ⟨h1, h2⟩ => by rw [← h1]; exact .refl h2
  | r + 1, a, c, ⟨b, h1, h2, h3⟩ => .step h1.rt h3 h2
theorem StK.lt {g : Nat → Nat → Bool} {n r a b : Nat} (h : StK g n r a b) : a < n ∧ b < n := h.rt.lt
theorem StK.up {g : Nat → Nat → Bool} {n r a b : Nat} (hg : ∀ x, g x x = true) (h : StK g n r a b) : ∀ k, StK g n (r + k) a b
  | 0 => h
  | k + 1 => ⟨b, h.up hg k, h.lt.2, hg b⟩
theorem StK.of {g : Nat → Nat → Bool} {n : Nat} (hg : ∀ x, g x x = true) {a b : Nat} (h : RT g n a b) : StK g n n a b := by
  obtain ⟨l, h1, h2, h3⟩ := h.chain
  have hl := h1.len
  have key : ∀ j, j < l.length → StK g n j (l.getD 0 0) (l.getD j 0) := by
    intro j
    induction j with
    | zero => intro hj; exact ⟨rfl, h1.lt hj⟩
    | succ j ih => intro hj; exact ⟨_, ih (by omega), h1.lt hj, h1.2.2.2 j hj⟩
  have := (key (l.length - 1) (by omega)).up hg (n - (l.length - 1))
  rw [h2, h3, show l.length - 1 + (n - (l.length - 1)) = n by omega] at this
  exact this
def tg (T : List Bool) (a b : Nat) : Bool := T.getD (a * 6 + b) false
theorem tg_set {T : List Bool} {a b p q : Nat} {x : Bool} (hT : T.length = 36) (ha : a < 6) (hb : b < 6) (hp : p < 6) (hq : q < 6) : tg (T.set (a * 6 + b) x) p q = if p = a ∧ q = b then x else tg T p q := by
  unfold tg
  rw [getD_set' (by omega)]
  by_cases e : p * 6 + q = a * 6 + b
  · rw [if_pos e, if_pos (by omega)]
  · rw [if_neg e, if_neg (by omega)]
/-- A pass under way. -/
structure Pass (g : Nat → Nat → Bool) (n r : Nat) (T : List Bool) (a b c : Nat) : Prop where
  len : T.length = 36
  snd : ∀ p q, p < n → q < n → tg T p q = true → RT g n p q
  old : ∀ p q, StK g n (r + 1) p q → tg T p q = true
  new : ∀ p q s, p < n → q < n → s < n → (p < a ∨ (p = a ∧ (q < b ∨ (q = b ∧ s < c)))) → StK g n (r + 1) p q → g q s = true → tg T p s = true
theorem Pass.set {g : Nat → Nat → Bool} {n r a b c : Nat} {T : List Bool} (hg : ∀ x, g x x = true) (hn : n ≤ 6) (h : Pass g n r T a b c) (ha : a < n) (hb : b < n) (hc : c < n) :
    Pass g n r (T.set (a * 6 + c) (tg T a c || (tg T a b && tg T b c))) a b (c + 1) := by
  have hx : ∀ p q, p < n → q < n → tg (T.set (a * 6 + c) (tg T a c || (tg T a b && tg T b c))) p q = if p = a ∧ q = c then (tg T a c || (tg T a b && tg T b c)) else tg T p q := fun p q hp hq => tg_set h.len (by omega) (by omega) (by omega) (by omega)
  have hmono : ∀ p q, p < n → q < n → tg T p q = true → tg (T.set (a * 6 + c) (tg T a c || (tg T a b && tg T b c))) p q = true := fun p q hp hq ht => by
    rw [hx p q hp hq]
    by_cases e : p = a ∧ q = c
    · rw [if_pos e, ← e.1, ← e.2, ht, Bool.true_or]
    · rw [if_neg e]; exact ht
  refine ⟨by rw [List.length_set]; exact h.len, fun p q hp hq ht => ?_, fun p q hr => hmono p q hr.lt.1 hr.lt.2 (h.old p q hr), fun p q s hp hq hs hlt hr hgq => ?_⟩
  · rw [hx p q hp hq] at ht
    by_cases e : p = a ∧ q = c
    · rw [if_pos e, Bool.or_eq_true, Bool.and_eq_true] at ht
      rw [e.1, e.2]
      rcases ht with ht | ⟨k1, k2⟩
      · exact h.snd a c ha hc ht
      · exact (h.snd a b ha hb k1).trans (h.snd b c hb hc k2)
    · rw [if_neg e] at ht; exact h.snd p q hp hq ht
  · by_cases e : p = a ∧ q = b ∧ s = c
    · obtain ⟨rfl, rfl, rfl⟩ := e
      rw [hx p s hp hs, if_pos ⟨rfl, rfl⟩, h.old p q hr, h.old q s ((show StK g n 1 q s from ⟨q, ⟨rfl, hq⟩, hs, hgq⟩).up hg r |> fun k => by rwa [Nat.add_comm] at k)]
      simp
    · exact hmono p s hp hs (h.new p q s hp hq hs (by omega) hr hgq)
theorem Pass.next {g : Nat → Nat → Bool} {n r : Nat} {T : List Bool} (h : Pass g n r T n 0 0) : Pass g n (r + 1) T 0 0 0 :=
  ⟨h.len, h.snd, fun p q ⟨b, h1, h2, h3⟩ => h.new p b q h1.lt.1 h1.lt.2 h2 (.inl h1.lt.1) h1 h3, fun p q s _ _ _ hlt => by omega⟩
theorem Pass.all {g : Nat → Nat → Bool} {n : Nat} {T : List Bool} (hg : ∀ x, g x x = true) (h : Pass g n n T 0 0 0) {p q : Nat} (hp : p < n) (hq : q < n) : tg T p q = true ↔ RT g n p q :=
  ⟨h.snd p q hp hq, fun k => h.old p q ((StK.of hg k).up hg 1)⟩
theorem Pass.zero {g : Nat → Nat → Bool} {n : Nat} {T : List Bool} (hg : ∀ x, g x x = true) (hl : T.length = 36) (h : ∀ p q, p < n → q < n → tg T p q = g p q) : Pass g n 0 T 0 0 0 := by
  refine ⟨hl, fun p q hp hq ht => ?_, fun p q ⟨b, ⟨k1, k2⟩, k3, k4⟩ => ?_, fun p q s _ _ _ hlt => by omega⟩
  · rw [h p q hp hq] at ht; exact .step (.refl hp) ht hq
  · subst k1
    rw [h p q k2 k3]; exact k4
/-- The table's first filling. -/
def Fill (g : Nat → Nat → Bool) (n : Nat) (T : List Bool) (a b : Nat) : Prop := T.length = 36 ∧ ∀ p q, p < n → q < n → (p < a ∨ (p = a ∧ q < b)) → tg T p q = g p q
theorem Fill.set {g : Nat → Nat → Bool} {n a b : Nat} {T : List Bool} (hn : n ≤ 6) (h : Fill g n T a b) (ha : a < n) (hb : b < n) : Fill g n (T.set (a * 6 + b) (g a b)) a (b + 1) := by
  refine ⟨by rw [List.length_set]; exact h.1, fun p q hp hq hlt => ?_⟩
  rw [tg_set h.1 (by omega) (by omega) (by omega) (by omega)]
  by_cases e : p = a ∧ q = b
  · rw [if_pos e, e.1, e.2]
  · rw [if_neg e]; exact h.2 p q hp hq (by omega)
structure TB where
  k : Nat
  T : List Bool
  n : Nat
attribute [local irreducible] gOK WS WC WR WD Ends FS YS OpV seqK blockK loopK midK retK rdK asgK rangeEnd sat Cell
section
variable {M : HL} {n0 : Nat} {H : Heap} {v w : Value}
set_option maxHeartbeats 1000000 in
theorem lead_fs (hH : hasH M n0 H) {g : Nat} {S : List Sal} (hok : OKS g S) {a b : Nat} (ha : a < S.length) (hb : b < S.length) {p1 t1 p2 t2 : Value} (hp1 : Sl M 1 p1 (ints (S.getD a noSal).1)) (ht1 : Sl M 1 t1 (ints (S.getD a noSal).2)) (hp2 : one p2 = true) (ht2 : Sl M 1 t2 (ints (S.getD b noSal).2)) :
    FS C 50 [.agg [p1, t1].toArray, .agg [p2, t2].toArray] H (fun e H' => ∃ n', n0 ≤ n' ∧ hasH M n' H' ∧ e = .int .i64 (DP (matS S) a b)) := by
  have hd := DP_cs ha hb
  have hda : cs S a a = dotI (S.getD a noSal).1 (S.getD a noSal).2 (S.getD a noSal).1.length := rfl
  have hdb : cs S a b = dotI (S.getD a noSal).1 (S.getD b noSal).2 (S.getD a noSal).1.length := rfl
  have hg3 := hok.g3
  have hlp := hok.lp a ha
  have hlt := hok.lt a ha
  have hlt2 := hok.lt b hb
  have hbp := hok.bp a ha
  have hbt := hok.bt a ha
  have hbt2 := hok.bt b hb
  rw [hda, hdb] at hd
  rw [hd]
  clear hda hdb hd
  generalize (S.getD a noSal).1 = pa at *
  generalize (S.getD a noSal).2 = ta at *
  generalize (S.getD b noSal).2 = tb at *
  have ho1 := hp1.one_
  have ho2 := ht1.one_
  have ho3 := ht2.one_
  refine FS.intro (pf := pf50) rfl rfl rfl ?_
  repeat' (first | refine zP ?_ | refine zA ?_ | (refine zM ?_; intro _ _) | refine zX ?_ | (refine zC ?_; intro _ _ _ _) | (refine zS ?_; intro _ _) | (apply Ws <;> intro hg))
  rename_i H1 hH1 H2 hH2
  replace hp1 := (hp1.cons (p := (n0, Ch.row 74 0 0 [p1, t1]))).cons (p := (n0 + 1, Ch.row 74 0 0 [p2, t2]))
  replace ht1 := (ht1.cons (p := (n0, Ch.row 74 0 0 [p1, t1]))).cons (p := (n0 + 1, Ch.row 74 0 0 [p2, t2]))
  replace ht2 := (ht2.cons (p := (n0, Ch.row 74 0 0 [p1, t1]))).cons (p := (n0 + 1, Ch.row 74 0 0 [p2, t2]))
  repeat' (first | refine zP ?_ | refine zA ?_ | (refine zM ?_; intro _ _) | refine zX ?_ | (refine zC ?_; intro _ _ _ _) | (refine zS ?_; intro _ _) | (apply Ws <;> intro hg))
  refine WC.loopX [(2, _), (3, _), (9, _), (10, _)] (fun k : Nat => [(5, .int .i64 (dotI pa ta k - dotI pa tb k)), (11, .int .i64 (k : Int))]) [] (fun k H' => H' = H2 ∧ k ≤ pa.length) (fun k => pa.length - k) 0 (by repeat' (first | exact .nil | refine .cons rfl ?_)) rfl ⟨rfl, Nat.zero_le _⟩ ?_
  rintro k H3 ⟨rfl, hk⟩
  dsimp only [List.cons_append, List.nil_append]
  repeat' (first | refine zP ?_ | refine zA ?_ | (refine zM ?_; intro _ _) | refine zX ?_ | (refine zC ?_; intro _ _ _ _) | (refine zS ?_; intro _ _) | (apply Ws <;> intro hg))
  refine WC.condP rfl (fun hltk => ?_) (fun hltk => ?_)
  · have hk' : k < pa.length := by omega
    have hqa := dot_bd hbp hbt k (by omega) (by omega)
    have hqb := dot_bd hbp hbt2 k (by omega) (by omega)
    have hqc := hbp _ (getD_mem (a := 0) hk')
    have hqd := hbt _ (getD_mem (a := 0) (show k < ta.length by omega))
    have hqe := hbt2 _ (getD_mem (a := 0) (show k < tb.length by omega))
    have hqf : 0 ≤ pa.getD k 0 * ta.getD k 0 := Int.mul_nonneg (by omega) hqd.1
    have hqg : pa.getD k 0 * ta.getD k 0 ≤ 9 * 9 := Int.mul_le_mul hqc.2 hqd.2 hqd.1 (by decide)
    have hqh : 0 ≤ pa.getD k 0 * tb.getD k 0 := Int.mul_nonneg (by omega) hqe.1
    have hqi : pa.getD k 0 * tb.getD k 0 ≤ 9 * 9 := Int.mul_le_mul hqc.2 hqe.2 hqe.1 (by decide)
    have hqj : pa.getD k 0 * (ta.getD k 0 - tb.getD k 0) = pa.getD k 0 * ta.getD k 0 - pa.getD k 0 * tb.getD k 0 := Int.mul_sub _ _ _
    have hqk : dotI pa ta (k + 1) = dotI pa ta k + pa.getD k 0 * ta.getD k 0 := rfl
    have hql : dotI pa tb (k + 1) = dotI pa tb k + pa.getD k 0 * tb.getD k 0 := rfl
    repeat' (first | refine zP ?_ | refine zA ?_ | (refine zM ?_; intro _ _) | refine zX ?_ | (refine zC ?_; intro _ _ _ _) | (refine zS ?_; intro _ _) | (apply Ws <;> intro hg))
    rw [show dotI pa ta k - dotI pa tb k + pa.getD k 0 * (ta.getD k 0 - tb.getD k 0) = dotI pa ta (k + 1) - dotI pa tb (k + 1) by omega]
    exact Ends.loop (k + 1) (by omega) (by repeat' (first | exact .nil | refine .cons rfl ?_)) rfl ⟨rfl, hk'⟩
  · have hkl : k = pa.length := by omega
    subst hkl
    repeat' (first | refine zP ?_ | refine zA ?_ | (refine zM ?_; intro _ _) | refine zX ?_ | (refine zC ?_; intro _ _ _ _) | (refine zS ?_; intro _ _) | (apply Ws <;> intro hg))
    exact Ends.ret1 rfl ⟨n0 + 2, by omega, hH2.tail.tail, rfl⟩
end
end Go.Proofs.Yteopjpfhhekkoaa.Tt

/- ringed. -/
namespace Go.Proofs.Yteopjpfhhekkoaa.Tt
open Go Go.Abs Go.Mth
set_option linter.unusedVariables false
set_option linter.unusedSimpArgs false
theorem SalesI.at {M : HL} {v : Value} {S : List Sal} (h : SalesI M v S) : ∃ ws : List (Value × Value), Sl M 2 v (cellsF pairV ws) ∧ ws.length = S.length ∧ (∀ i, i < S.length → Sl M 1 (ws.getD i noVal).1 (ints (S.getD i noSal).1) ∧ Sl M 1 (ws.getD i noVal).2 (ints (S.getD i noSal).2)) := h
attribute [local irreducible] gOK WS WC WR WD Ends FS YS OpV seqK blockK loopK midK retK rdK asgK rangeEnd sat Cell
section
variable {M : HL} {n0 : Nat} {H : Heap} {v w : Value}
end
end Go.Proofs.Yteopjpfhhekkoaa.Tt

/- same, closes; numbers are judged. -/
namespace Go.Proofs.Yteopjpfhhekkoaa.Tt
open Go Go.Abs Go.Mth
set_option linter.unusedVariables false
set_option linter.unusedSimpArgs false
theorem mul_bd {V D B : Int} (h0 : 0 ≤ V) (hB : V ≤ B) (hl : -243 ≤ D) (hu : D ≤ 243) : -(243 * B) ≤ V * D ∧ V * D ≤ 243 * B := by
  have k1 : V * D ≤ V * 243 := Int.mul_le_mul_of_nonneg_left hu h0
  have k2 : V * (-243) ≤ V * D := Int.mul_le_mul_of_nonneg_left hl h0
  omega
def NumP (P : List (List Int)) (W V : List Int) : Prop := numOK (DP P) P.length (fun a => W.getD a 0) (fun a => V.getD a 0)
def RngP (n : Nat) (W V : List Int) : Prop := W.length = n ∧ V.length = n ∧ (∀ a, a < n → 0 ≤ W.getD a 0 ∧ W.getD a 0 ≤ 1000000000000) ∧ ∀ a, a < n → 1 ≤ V.getD a 0 ∧ V.getD a 0 ≤ 1000000000000
def closL (D : Nat → Nat → Int) (l : List Nat) : Prop := l.Nodup ∧ closB D l = true
theorem nodup_at {l : List Nat} : l.Nodup ↔ ∀ j, j < l.length → l.getD j 0 ∉ l.take j := by
  constructor
  · intro h j hj hm
    obtain ⟨i, hi, he⟩ := List.mem_iff_getElem.1 hm
    rw [List.getElem_take] at he
    rw [List.length_take] at hi
    rw [getD_eq hj] at he
    exact (List.pairwise_iff_getElem.1 h) i j (by omega) hj (by omega) he
  · intro h
    refine List.pairwise_iff_getElem.2 fun i j hi hj hij he => h j hj ?_
    rw [getD_eq hj, ← he]
    exact List.mem_iff_getElem.2 ⟨i, by simp; omega, by rw [List.getElem_take]⟩
attribute [local irreducible] gOK WS WC WR WD Ends FS YS OpV seqK blockK loopK midK retK rdK asgK rangeEnd sat Cell
section
variable {M : HL} {n0 : Nat} {H : Heap} {v w u : Value}
theorem same_fs (hH : hasH M n0 H) {a b : List Int} (hS : Sl M 1 v (ints a)) (hT : Sl M 1 w (ints b)) (ha : a.length ≤ 100000) :
    FS C 33 [v, w] H (fun e H' => H' = H ∧ e = .bool (decide (a = b))) := by
  refine FS.intro (pf := pf33) rfl rfl rfl ?_
  repeat' (first | refine zP ?_ | refine zA ?_ | (refine zM ?_; intro _ _) | refine zX ?_ | (refine zC ?_; intro _ _ _ _) | (refine zS ?_; intro _ _) | (apply Ws <;> intro hg))
  refine WC.condP rfl (fun hne => ?_) (fun hne => ?_)
  · repeat' (first | refine zP ?_ | refine zA ?_ | (refine zM ?_; intro _ _) | refine zX ?_ | (refine zC ?_; intro _ _ _ _) | (refine zS ?_; intro _ _) | (apply Ws <;> intro hg))
    refine Ends.ret1 rfl ⟨rfl, ?_⟩
    rw [decide_eq_false fun e => by subst e; exact hne rfl]
  · have hab : a.length = b.length := by omega
    repeat' (first | refine zP ?_ | refine zA ?_ | (refine zM ?_; intro _ _) | refine zX ?_ | (refine zC ?_; intro _ _ _ _) | (refine zS ?_; intro _ _) | (apply Ws <;> intro hg))
    refine WC.loopX [(0, v), (1, w)] (fun k : Nat => [(5, .int .i64 (k : Int))]) [] (fun k H' => H' = H ∧ k ≤ a.length ∧ ∀ j, j < k → a.getD j 0 = b.getD j 0) (fun k => a.length - k) 0 (by repeat' (first | exact .nil | refine .cons rfl ?_)) rfl ⟨rfl, Nat.zero_le _, fun j h => absurd h (Nat.not_lt_zero _)⟩ ?_
    rintro k H' ⟨rfl, hk, hs⟩
    dsimp only [List.cons_append, List.nil_append]
    repeat' (first | refine zP ?_ | refine zA ?_ | (refine zM ?_; intro _ _) | refine zX ?_ | (refine zC ?_; intro _ _ _ _) | (refine zS ?_; intro _ _) | (apply Ws <;> intro hg))
    refine WC.condP rfl (fun hlt => ?_) (fun hlt => ?_)
    · have hk' : k < a.length := by omega
      repeat' (first | refine zP ?_ | refine zA ?_ | (refine zM ?_; intro _ _) | refine zX ?_ | (refine zC ?_; intro _ _ _ _) | (refine zS ?_; intro _ _) | (apply Ws <;> intro hg))
      refine WC.condP rfl (fun hd => ?_) (fun hd => ?_)
      · repeat' (first | refine zP ?_ | refine zA ?_ | (refine zM ?_; intro _ _) | refine zX ?_ | (refine zC ?_; intro _ _ _ _) | (refine zS ?_; intro _ _) | (apply Ws <;> intro hg))
        refine Ends.ret1 rfl ⟨rfl, ?_⟩
        rw [decide_eq_false fun e => by subst e; exact hd rfl]
      · repeat' (first | refine zP ?_ | refine zA ?_ | (refine zM ?_; intro _ _) | refine zX ?_ | (refine zC ?_; intro _ _ _ _) | (refine zS ?_; intro _ _) | (apply Ws <;> intro hg))
        refine Ends.loop (k + 1) (by omega) (by repeat' (first | exact .nil | refine .cons rfl ?_)) rfl ⟨rfl, hk', fun j hj => ?_⟩
        by_cases e : j = k
        · subst e; exact Decidable.not_not.1 hd
        · exact hs j (by omega)
    · repeat' (first | refine zP ?_ | refine zA ?_ | (refine zM ?_; intro _ _) | refine zX ?_ | (refine zC ?_; intro _ _ _ _) | (refine zS ?_; intro _ _) | (apply Ws <;> intro hg))
      refine Ends.ret1 rfl ⟨rfl, ?_⟩
      rw [decide_eq_true (ext_getD (a := 0) hab fun i hi => hs i (by omega))]
theorem IL_inj {a b : List Nat} : IL a = IL b ↔ a = b := by
  constructor
  · intro h
    refine ext_getD (a := 0) (by rw [← IL_len a, ← IL_len b, h]) fun i hi => ?_
    have h2 : i < b.length := by rw [← IL_len b, ← h, IL_len]; exact hi
    have := congrArg (fun l : List Int => l.getD i 0) h
    simp only [IL] at this
    rw [getD_eq (by simpa using hi), getD_eq (by simpa using h2), List.getElem_map, List.getElem_map] at this
    rw [getD_eq hi, getD_eq h2]; omega
  · exact fun h => by rw [h]
theorem sameN_fs (hH : hasH M n0 H) {a b : List Nat} (hS : Sl M 1 v (nodes a)) (hT : Sl M 1 w (nodes b)) (ha : a.length ≤ 100000) :
    FS C 33 [v, w] H (fun e H' => H' = H ∧ e = .bool (decide (a = b))) := by
  refine FS.mono (same_fs hH (a := IL a) (b := IL b) (by rw [← nodes_IL]; exact hS) (by rw [← nodes_IL]; exact hT) (by rw [IL_len]; exact ha)) ?_
  rintro _ _ ⟨rfl, rfl⟩
  refine ⟨rfl, ?_⟩
  congr 1
  exact decide_eq_decide.2 IL_inj
set_option maxHeartbeats 2000000 in
theorem closes_fs (hH : hasH M n0 H) {g : Nat} {S : List Sal} (hok : OKS g S) (hS : SalesI M v S) {l : List Nat} (hL : Sl M 1 w (nodes l)) (hl : l.length ≤ 1000) (hlt : ∀ x ∈ l, x < S.length) :
    FS C 46 [v, w] H (fun e H' => ∃ n' bb, n0 ≤ n' ∧ hasH M n' H' ∧ (bb = true ↔ closL (DP (matS S)) l) ∧ e = .bool bb) := by
  obtain ⟨ws, hV, hwl, hrow⟩ := hS.at
  refine FS.intro (pf := pf46) rfl rfl rfl ?_
  repeat' (first | refine zP ?_ | refine zA ?_ | (refine zM ?_; intro _ _) | refine zX ?_ | (refine zC ?_; intro _ _ _ _) | (refine zS ?_; intro _ _) | (apply Ws <;> intro hg))
  refine WC.loopX [(0, _), (1, _), (9, _), (10, _)] (fun s : Nat × Nat => [(5, .bool (strK (DP (matS S)) l s.1)), (11, .int .i64 (s.1 : Int))]) [] (fun s H' => s.1 ≤ l.length ∧ n0 ≤ s.2 ∧ (∀ j, j < s.1 → 0 ≤ DP (matS S) (l.getD j 0) (nxtE l j) ∧ l.getD 0 0 ≤ l.getD j 0 ∧ l.getD j 0 ∉ l.take j) ∧ hasH M s.2 H') (fun s => l.length - s.1) (0, n0) (by repeat' (first | exact .nil | refine .cons rfl ?_)) rfl ⟨Nat.zero_le _, Nat.le_refl _, fun j h => absurd h (Nat.not_lt_zero _), hH⟩ ?_
  clear hH
  rintro ⟨k, n1⟩ H1 ⟨hk, hn1, hno, hH1⟩
  simp only at hk hn1 hno hH1
  dsimp only [List.cons_append, List.nil_append]
  repeat' (first | refine zP ?_ | refine zA ?_ | (refine zM ?_; intro _ _) | refine zX ?_ | (refine zC ?_; intro _ _ _ _) | (refine zS ?_; intro _ _) | (apply Ws <;> intro hg))
  refine WC.condP rfl (fun hltk => ?_) (fun hltk => ?_)
  · have hk' : k < l.length := by omega
    have ha := hlt _ (getD_mem (a := 0) hk')
    have hb := hlt _ (nxtE_mem (i := k) (by omega))
    have hmod : (k + 1) % l.length < l.length := Nat.mod_lt _ (by omega)
    have hsu := strK_succ (DP (matS S)) l k
    have hbad : ¬ (0 ≤ DP (matS S) (l.getD k 0) (nxtE l k) ∧ l.getD 0 0 ≤ l.getD k 0 ∧ l.getD k 0 ∉ l.take k) → ((false : Bool) = true ↔ closL (DP (matS S)) l) := fun hn => ⟨fun h => (by cases h), fun ⟨k1, k2⟩ => by
      have k3 := cycB_iff.1 (Bool.and_eq_true_iff.1 k2).1 k hk'
      exact absurd ⟨k3.2, k3.1, nodup_at.1 k1 k hk'⟩ hn⟩
    obtain ⟨hpa, hta⟩ := hrow _ ha
    obtain ⟨hpb, htb⟩ := hrow _ hb
    have hwa : ws[l.getD k 0] = ws.getD (l.getD k 0) noVal := (getD_eq (by omega)).symm
    have hwb : ws[nxtE l k] = ws.getD (nxtE l k) noVal := (getD_eq (by omega)).symm
    repeat' (first | refine zP ?_ | refine zA ?_ | (refine zM ?_; intro _ _) | refine zX ?_ | (refine zC ?_; intro _ _ _ _) | (refine zS ?_; intro _ _) | (apply Ws <;> intro hg))
    refine WR.idxK pairV_len (by decide) (by first | exact gN | exact gS rfl) rfl rfl hV rfl (by omega) fun b1 o1' u1' hC1 => ?_
    rw [hwa] at hC1
    refine WR.op (by first | exact gN | exact gS rfl) rfl (OpV.loadK rfl hC1 hH1 rfl) ?_
    repeat' (first | refine zP ?_ | refine zA ?_ | (refine zM ?_; intro _ _) | refine zX ?_ | (refine zC ?_; intro _ _ _ _) | (refine zS ?_; intro _ _) | (apply Ws <;> intro hg))
    rw [show ((k : Int) + 1) % (l.length : Int) = (((k + 1) % l.length : Nat) : Int) by simp]
    repeat' (first | refine zP ?_ | refine zA ?_ | (refine zM ?_; intro _ _) | refine zX ?_ | (refine zC ?_; intro _ _ _ _) | (refine zS ?_; intro _ _) | (apply Ws <;> intro hg))
    rw [show l.getD ((k + 1) % l.length) 0 = nxtE l k from rfl]
    refine WR.idxK pairV_len (by decide) (by first | exact gN | exact gS rfl) rfl rfl hV rfl (by omega) fun b2 o2' u2' hC2 => ?_
    rw [hwb] at hC2
    refine WR.op (by first | exact gN | exact gS rfl) rfl (OpV.loadK rfl hC2 hH1 rfl) ?_
    repeat' (first | refine zP ?_ | refine zA ?_ | (refine zM ?_; intro _ _) | refine zX ?_ | (refine zC ?_; intro _ _ _ _) | (refine zS ?_; intro _ _) | (apply Ws <;> intro hg))
    refine WR.call (by first | exact gN | exact gS rfl) rfl rfl (lead_fs hH1 hok ha hb hpa hta hpb.one_ htb) ?_
    rintro _ H2 ⟨n2, hn2, hH2, rfl⟩
    by_cases hd : DP (matS S) (l.getD k 0) (nxtE l k) < 0
    · repeat' (first | refine zP ?_ | refine zA ?_ | (refine zM ?_; intro _ _) | refine zX ?_ | (refine zC ?_; intro _ _ _ _) | (refine zS ?_; intro _ _) | refine zO ?_ | (apply Ws <;> intro hg))
      exact Ends.ret1 rfl ⟨n2, false, by omega, hH2, hbad (by omega), rfl⟩
    · by_cases hm : l.getD k 0 < l.getD 0 0
      · repeat' (first | refine zP ?_ | refine zA ?_ | (refine zM ?_; intro _ _) | refine zX ?_ | (refine zC ?_; intro _ _ _ _) | (refine zS ?_; intro _ _) | refine zO ?_ | (apply Ws <;> intro hg))
        exact Ends.ret1 rfl ⟨n2, false, by omega, hH2, hbad (by omega), rfl⟩
      · repeat' (first | refine zP ?_ | refine zA ?_ | (refine zM ?_; intro _ _) | refine zX ?_ | (refine zC ?_; intro _ _ _ _) | (refine zS ?_; intro _ _) | refine zO ?_ | (apply Ws <;> intro hg))
        refine WR.cutHiN (m := k) (by first | exact gN | exact gS rfl) rfl rfl hL rfl (by omega) fun w5 hW => ?_
        repeat' (first | refine zP ?_ | refine zA ?_ | (refine zM ?_; intro _ _) | refine zX ?_ | (refine zC ?_; intro _ _ _ _) | (refine zS ?_; intro _ _) | (apply Ws <;> intro hg))
        refine WR.call (by first | exact gN | exact gS rfl) rfl rfl (Contains_fs hH2 hW (by rw [List.length_take]; omega) _) ?_
        rintro _ H3 ⟨rfl, rfl⟩
        by_cases hin : l.getD k 0 ∈ l.take k
        · rw [decide_eq_true hin]
          repeat' (first | refine zP ?_ | refine zA ?_ | (refine zM ?_; intro _ _) | refine zX ?_ | (refine zC ?_; intro _ _ _ _) | (refine zS ?_; intro _ _) | (apply Ws <;> intro hg))
          exact Ends.ret1 rfl ⟨n2, false, by omega, hH2, hbad (fun h => h.2.2 hin), rfl⟩
        · rw [decide_eq_false hin]
          have hno2 : ∀ j, j < k + 1 → 0 ≤ DP (matS S) (l.getD j 0) (nxtE l j) ∧ l.getD 0 0 ≤ l.getD j 0 ∧ l.getD j 0 ∉ l.take j := fun j hj => by
            by_cases he : j = k
            · rw [he]; exact ⟨by omega, by omega, hin⟩
            · exact hno j (by omega)
          cases hst : strK (DP (matS S)) l k with
          | true =>
            rw [hst, Bool.true_or] at hsu
            repeat' (first | refine zP ?_ | refine zA ?_ | (refine zM ?_; intro _ _) | refine zX ?_ | (refine zC ?_; intro _ _ _ _) | (refine zS ?_; intro _ _) | (apply Ws <;> intro hg))
            exact Ends.loop (k + 1, n2) (by simp only; omega) (by simp only [hsu]; exact (by repeat' (first | exact .nil | refine .cons rfl ?_))) rfl ⟨hk', by simp only; omega, hno2, hH2⟩
          | false =>
            rw [hst, Bool.false_or] at hsu
            repeat' (first | refine zP ?_ | refine zA ?_ | (refine zM ?_; intro _ _) | refine zX ?_ | (refine zC ?_; intro _ _ _ _) | (refine zS ?_; intro _ _) | (apply Ws <;> intro hg))
            exact Ends.loop (k + 1, n2) (by simp only; omega) (by simp only [hsu]; exact (by repeat' (first | exact .nil | refine .cons rfl ?_))) rfl ⟨hk', by simp only; omega, hno2, hH2⟩
  · have hkl : k = l.length := by omega
    subst hkl
    repeat' (first | refine zP ?_ | refine zA ?_ | (refine zM ?_; intro _ _) | refine zX ?_ | (refine zC ?_; intro _ _ _ _) | (refine zS ?_; intro _ _) | (apply Ws <;> intro hg))
    refine Ends.ret1 rfl ⟨n1, strK (DP (matS S)) l l.length, hn1, hH1, ?_, rfl⟩
    rw [← closB_all (fun j hj => (hno j hj).2.1) (fun j hj => (hno j hj).1)]
    exact ⟨fun h => ⟨nodup_at.2 fun j hj => (hno j hj).2.2, h⟩, fun h => h.2⟩
end
end Go.Proofs.Yteopjpfhhekkoaa.Tt

/- Numbers by ranks. -/
namespace Go.Proofs.Yteopjpfhhekkoaa.Tt
open Go Go.Abs Go.Mth
set_option linter.unusedVariables false
set_option linter.unusedSimpArgs false
def bdN : Nat → Int
  | 0 => 0
  | 1 => 0
  | m + 2 => bdN (m + 1) + 243 * max (bdN (m + 1)) 1
theorem bdN_le {m : Nat} (h : m ≤ 6) : 0 ≤ bdN m ∧ bdN m ≤ 861322076928 := by
  rcases (show m = 0 ∨ m = 1 ∨ m = 2 ∨ m = 3 ∨ m = 4 ∨ m = 5 ∨ m = 6 by omega) with rfl | rfl | rfl | rfl | rfl | rfl | rfl <;> decide
theorem bdN_le5 {m : Nat} (h : m ≤ 5) : bdN m ≤ 4000000000 := by
  rcases (show m = 0 ∨ m = 1 ∨ m = 2 ∨ m = 3 ∨ m = 4 ∨ m = 5 by omega) with rfl | rfl | rfl | rfl | rfl | rfl <;> decide
theorem bdN_mono (m : Nat) : bdN m ≤ bdN (m + 1) := by
  cases m with
  | zero => decide
  | succ m => simp only [bdN]; omega
/-- Ranks that go with what is shown. -/
structure RkOK (D : Nat → Nat → Int) (n : Nat) (R : Nat → Nat) : Prop where
  lt : ∀ a, a < n → R a < n
  le : ∀ a b, a < n → b < n → 0 ≤ D a b → R b ≤ R a
  st : ∀ a b, a < n → b < n → 0 < D a b → R b < R a
structure NInv (D : Nat → Nat → Int) (n : Nat) (R : Nat → Nat) (m : Nat) (dp : Int) (B W : List Int) : Prop where
  lb : B.length = n
  lw : W.length = n
  dp0 : 0 ≤ dp
  dp1 : dp ≤ bdN m
  bb : ∀ a, a < n → n ≤ R a + m → 0 ≤ B.getD a 0 ∧ B.getD a 0 ≤ dp ∧ W.getD a 0 = max (B.getD a 0) 1
  ok : ∀ a b, a < n → b < n → n ≤ R a + m → n ≤ R b + m → B.getD a 0 + W.getD a 0 * D a b ≤ B.getD b 0
/-- How far below the highest rank the sales of a rank lie. -/
def DepR (D : Nat → Nat → Int) (n : Nat) (R : Nat → Nat) (rank : Int) (B W : List Int) (dep : Int) : Prop := 0 ≤ dep ∧
  (∀ a b, a < n → b < n → rank < R a → (R b : Int) = rank → B.getD a 0 + W.getD a 0 * D a b ≤ dep) ∧
  (dep = 0 ∨ ∃ a b, a < n ∧ b < n ∧ rank < R a ∧ (R b : Int) = rank ∧ dep = B.getD a 0 + W.getD a 0 * D a b)
/-- Numbers of one rank, of the first so many. -/
def UpdR (n : Nat) (R : Nat → Nat) (rank : Int) (x : Int) (B B' : List Int) (k : Nat) : Prop := B'.length = n ∧ ∀ j, j < n → B'.getD j 0 = if j < k ∧ (R j : Int) = rank then x else B.getD j 0
theorem UpdR.zero {n : Nat} {R : Nat → Nat} {rank x : Int} {B : List Int} (h : B.length = n) : UpdR n R rank x B B 0 := ⟨h, fun j _ => by rw [if_neg (by omega)]⟩
theorem UpdR.set {n k : Nat} {R : Nat → Nat} {rank x : Int} {B B' : List Int} (h : UpdR n R rank x B B' k) (hk : k < n) (hr : (R k : Int) = rank) : UpdR n R rank x B (B'.set k x) (k + 1) := by
  refine ⟨by rw [List.length_set]; exact h.1, fun j hj => ?_⟩
  rw [getD_set' (by rw [h.1]; exact hk)]
  by_cases e : j = k
  · subst e; rw [if_pos rfl, if_pos ⟨by omega, hr⟩]
  · rw [if_neg e, h.2 j hj]
    by_cases e2 : j < k ∧ (R j : Int) = rank
    · rw [if_pos e2, if_pos ⟨by omega, e2.2⟩]
    · rw [if_neg e2, if_neg fun q => e2 ⟨by omega, q.2⟩]
theorem UpdR.skip {n k : Nat} {R : Nat → Nat} {rank x : Int} {B B' : List Int} (h : UpdR n R rank x B B' k) (hr : (R k : Int) ≠ rank) : UpdR n R rank x B B' (k + 1) := by
  refine ⟨h.1, fun j hj => ?_⟩
  rw [h.2 j hj]
  by_cases e2 : j < k ∧ (R j : Int) = rank
  · rw [if_pos e2, if_pos ⟨by omega, e2.2⟩]
  · rw [if_neg e2, if_neg fun q => e2 ⟨by
      rcases Nat.lt_or_ge j k with h1 | h1
      · exact h1
      · have : j = k := by omega
        rw [this] at q; exact absurd q.2 hr, q.2⟩]
theorem UpdR.all {n : Nat} {R : Nat → Nat} {rank x : Int} {B B' : List Int} (h : UpdR n R rank x B B' n) : ∀ j, j < n → B'.getD j 0 = if (R j : Int) = rank then x else B.getD j 0 := fun j hj => by
  rw [h.2 j hj]
  by_cases e : (R j : Int) = rank
  · rw [if_pos ⟨hj, e⟩, if_pos e]
  · rw [if_neg fun q => e q.2, if_neg e]
theorem NInv.zero {D : Nat → Nat → Int} {n : Nat} {R : Nat → Nat} (hr : RkOK D n R) {B W : List Int} (h1 : B.length = n) (h2 : W.length = n) : NInv D n R 0 0 B W :=
  ⟨h1, h2, Int.le_refl _, Int.le_refl _, fun a ha h => by have := hr.lt a ha; omega, fun a b ha _ h => by have := hr.lt a ha; omega⟩
theorem NInv.step {D : Nat → Nat → Int} {n : Nat} {R : Nat → Nat} (hD : ∀ a b, -243 ≤ D a b ∧ D a b ≤ 243) (hn : n ≤ 6) (hr : RkOK D n R) {m : Nat} (hm : m < n) {dp dep : Int} {B W B' W' : List Int} (h : NInv D n R m dp B W)
    (hd : DepR D n R ((n : Int) - 1 - m) B W dep) (hB : UpdR n R ((n : Int) - 1 - m) (max dp dep) B B' n) (hW : UpdR n R ((n : Int) - 1 - m) (max (max dp dep) 1) W W' n) : NInv D n R (m + 1) (max dp dep) B' W' := by
  have hBa := hB.all
  have hWa := hW.all
  have hdp := h.dp0
  have hdp1 := h.dp1
  have hb5 := bdN_le5 (m := m) (by omega)
  obtain ⟨hd0, hd1, hd2⟩ := hd
  have hbound : max dp dep ≤ bdN (m + 1) := by
    have h1 := bdN_mono m
    rcases hd2 with rfl | ⟨a, b, ha, hb, hra, hrb, rfl⟩
    · omega
    · have hpa : n ≤ R a + m := by omega
      obtain ⟨q1, q2, q3⟩ := h.bb a ha hpa
      have hmm : 1 ≤ m := by
        have := hr.lt a ha
        omega
      obtain ⟨m, rfl⟩ : ∃ m', m = m' + 1 := ⟨m - 1, by omega⟩
      have q4 := mul_bd (V := W.getD a 0) (D := D a b) (B := max (bdN (m + 1)) 1) (by omega) (by omega) (hD a b).1 (hD a b).2
      simp only [bdN]
      omega
  refine ⟨hB.1, hW.1, by omega, hbound, fun a ha hp => ?_, fun a b ha hb hpa hpb => ?_⟩
  · rw [hBa a ha, hWa a ha]
    by_cases e : (R a : Int) = (n : Int) - 1 - m
    · rw [if_pos e, if_pos e]; omega
    · rw [if_neg e, if_neg e]
      obtain ⟨q1, q2, q3⟩ := h.bb a ha (by omega)
      omega
  · rw [hBa a ha, hWa a ha, hBa b hb]
    by_cases e : (R a : Int) = (n : Int) - 1 - m
    · rw [if_pos e, if_pos e]
      by_cases e2 : (R b : Int) = (n : Int) - 1 - m
      · rw [if_pos e2]
        have hle : D a b ≤ 0 := by
          rcases Int.lt_or_le 0 (D a b) with hlt | hge
          · have := hr.st a b ha hb hlt; omega
          · exact hge
        have := Int.mul_nonneg (show 0 ≤ max (max dp dep) 1 by omega) (show 0 ≤ - D a b by omega)
        rw [Int.mul_neg] at this
        omega
      · rw [if_neg e2]
        have hlt : D a b ≤ -1 := by
          rcases Int.lt_or_le (D a b) 0 with hlt | hge
          · omega
          · have := hr.le a b ha hb hge; omega
        have := Int.mul_nonneg (show 0 ≤ max (max dp dep) 1 by omega) (show 0 ≤ -1 - D a b by omega)
        rw [Int.mul_sub, Int.mul_neg, Int.mul_one] at this
        have q1 := (h.bb b hb (by omega)).1
        omega
    · rw [if_neg e, if_neg e]
      by_cases e2 : (R b : Int) = (n : Int) - 1 - m
      · rw [if_pos e2]
        have := hd1 a b ha hb (by omega) e2
        omega
      · rw [if_neg e2]
        exact h.ok a b ha hb (by omega) (by omega)
/-- What is returned. -/
def worL (dp : Int) (B : List Int) : List Int := B.map fun x => dp - x
theorem worL_len (dp : Int) (B : List Int) : (worL dp B).length = B.length := by simp [worL]
theorem worL_get {dp : Int} {B : List Int} {a : Nat} (h : a < B.length) : (worL dp B).getD a 0 = dp - B.getD a 0 := by
  rw [getD_eq (by rw [worL_len]; exact h), getD_eq h]; simp [worL]
theorem NInv.fin {P : List (List Int)} {R : Nat → Nat} {dp : Int} {B W : List Int} (hn : P.length ≤ 6) (h : NInv (DP P) P.length R P.length dp B W) : RngP P.length (worL dp B) W ∧ NumP P (worL dp B) W := by
  have hb := bdN_le hn
  have hdp := h.dp1
  have hdp0 := h.dp0
  have hlb := h.lb
  refine ⟨⟨by rw [worL_len]; exact h.lb, h.lw, fun a ha => ?_, fun a ha => ?_⟩, fun a b ha hb => ?_⟩
  · obtain ⟨q1, q2, q3⟩ := h.bb a ha (by omega)
    rw [worL_get (by omega)]; omega
  · obtain ⟨q1, q2, q3⟩ := h.bb a ha (by omega)
    omega
  · have := h.ok a b ha hb (by omega) (by omega)
    show (worL dp B).getD b 0 ≤ (worL dp B).getD a 0 - W.getD a 0 * DP P a b
    rw [worL_get (by omega), worL_get (by omega)]; omega
structure DZ where
  k : Nat
  d : Int
structure NZ where
  m : Nat
  d : Int
  B : List Int
  W : List Int
structure NK where
  k : Nat
  B : List Int
  W : List Int
end Go.Proofs.Yteopjpfhhekkoaa.Tt

/- Numbers by ranks: the walks. -/
namespace Go.Proofs.Yteopjpfhhekkoaa.Tt
open Go Go.Abs Go.Mth
set_option linter.unusedVariables false
set_option linter.unusedSimpArgs false
attribute [local irreducible] gOK WS WC WR WD Ends FS YS OpV seqK blockK loopK midK retK rdK asgK rangeEnd sat Cell
section
variable {M : HL} {n0 : Nat} {H : Heap} {v w u x y : Value}
end
end Go.Proofs.Yteopjpfhhekkoaa.Tt

/- Numbers, Agrees; numbered. -/
namespace Go.Abs
set_option linter.unusedSectionVars false
variable [Globs]
open Go
section
theorem KCell.readN' {M : HL} {n : Nat} {H : Heap} {b o u k : Nat} {vs : List Value} (h : KCell M b o u vs) (hH : hasH M n H) (hk : vs.length = k) : H.readN ⟨b, o, some u⟩ k = some vs := by
  obtain ⟨ch, lo, cs, q1, q2, q3, q4, q5⟩ := h
  subst hk
  rw [hH.readN q1 q2 q3 q4, q5]
end
end Go.Abs
namespace Go.Proofs.Yteopjpfhhekkoaa.Tt
open Go Go.Abs Go.Mth
set_option linter.unusedVariables false
set_option linter.unusedSimpArgs false
/-- What Numbers returns. -/
def NumOut (M : HL) (g : Int) (S : List Sal) (e : Value) : Prop := ∃ a b, e = .tuple #[a, b, .int .i64 (if errS g S ≠ 0 then errS g S else if tasteB (matS S) = true then 0 else 13)] ∧ one a = true ∧ one b = true ∧
  ((errS g S = 0 ∧ tasteB (matS S) = true ∧ ∃ W V, RngP S.length W V ∧ NumP (matS S) W V ∧ Sl M 1 a (ints W) ∧ Sl M 1 b (ints V)) ∨ ((errS g S ≠ 0 ∨ tasteB (matS S) = false) ∧ a = .slice none 0 0 ∧ b = .slice none 0 0))
/-- What Agrees returns. -/
def AgrOut (g : Int) (S : List Sal) (W V : List Int) (c : Int) : Prop := (errS g S ≠ 0 ∧ c = errS g S) ∨ (errS g S = 0 ∧ ((¬ (W.length = S.length ∧ V.length = S.length) ∧ c = 5) ∨ ((W.length = S.length ∧ V.length = S.length) ∧
  ((¬ (withB 0 1000000000000 W = true ∧ withB 1 1000000000000 V = true) ∧ c = 1) ∨ ((withB 0 1000000000000 W = true ∧ withB 1 1000000000000 V = true) ∧ ((¬ NumP (matS S) W V ∧ c = 14) ∨ (NumP (matS S) W V ∧ c = 0)))))))
theorem AgrOut.unique {g : Int} {S : List Sal} {W V : List Int} {c c' : Int} (h : AgrOut g S W V c) (k : AgrOut g S W V c') : c = c' := by
  rcases h with ⟨q1, rfl⟩ | ⟨q1, ⟨q2, rfl⟩ | ⟨q2, ⟨q3, rfl⟩ | ⟨q3, ⟨q4, rfl⟩ | ⟨q4, rfl⟩⟩⟩⟩ <;>
  rcases k with ⟨p1, rfl⟩ | ⟨p1, ⟨p2, rfl⟩ | ⟨p2, ⟨p3, rfl⟩ | ⟨p3, ⟨p4, rfl⟩ | ⟨p4, rfl⟩⟩⟩⟩ <;> first | rfl | contradiction
attribute [local irreducible] gOK WS WC WR WD Ends FS YS OpV seqK blockK loopK midK retK rdK asgK rangeEnd sat Cell
section
variable {M : HL} {n0 : Nat} {H : Heap} {v w u : Value}
end
end Go.Proofs.Yteopjpfhhekkoaa.Tt

/- Pairs of numbers that are compared. -/
namespace Go.Abs
set_option linter.unusedSectionVars false
variable [Globs]
open Go
set_option linter.unusedSimpArgs false
structure Arr2 (P : Program) (t e : TypeId) : Prop where
  u : P.underlying e = some (.int .i64)
  a : P.underlying t = some (.array 2 e)
  s : pureRun P (sizeOf e) = some 1
  p : ∀ (x y : Int), pureRun P (part e #[.int .i64 x, .int .i64 y] (0 * 1)) = some (.int .i64 x) ∧ pureRun P (part e #[.int .i64 x, .int .i64 y] (1 * 1)) = some (.int .i64 y)
  g : ∀ (x y : Operand) (a b : Array Value), pureRun P (eqGuard .neq t x y (.agg a) (.agg b)) = some ()
section
variable {C : CW} {L : Env} {H : Heap}
end
section
variable {C : CW} {L : Env} {H : Heap}
end
end Go.Abs

/- What the laws share. -/
namespace Go.Abs
set_option linter.unusedSectionVars false
open Go
section
variable [Globs] {C : CW} {nt : Nat} {L : Env} {D : List Nat} {H H' : Heap} {K : St → Prop} {M M' : HL} {n i d : Nat} {gd : Option (Tmp × Bool)} {lo : List Nat} {l : List POp} {rs : List Rd}
theorem WD.append {e sz : Nat} {s x : Operand} {v y : Value} {cs : List Value} {Mx M0 : HL} {k : Nat} {new : List Value} (hg : gOK L gd) (hd : Nat.blt d nt = true) (hs : ev L s = some v) (hy : ev L x = some y)
    (hO : Own e sz v cs Mx) (hH : hasH M n H) (hM : M'.Sublist M) (hp : M'.Perm (Mx ++ M0)) (hk : srcLen y = some k) (hx : srcCells H sz k y = some new) (hl : new.length = k * sz) (h1 : 1 ≤ k) (hone : new.all one = true) (hs1 : 1 ≤ sz) (hs2 : sz ≤ 1000)
    (hsm : cs.length + new.length ≤ 100000) (kk : ∀ v' Mx' n' H', OwnR e sz v' (cs ++ new) Mx' → hasH (Mx' ++ M0) n' H' → n ≤ n' → stands H' lo rs = true ∧ WD C nt l rs ((d, v') :: L) D H' K) :
    WD C nt (⟨i, some d, .append e sz s x, gd, lo⟩ :: l) rs L D H K := by
  obtain ⟨v', Mx', n', H', q1, q2, q3, q4⟩ := append_ownR (P := C.c.P) hO ((hH.sub hM).perm hp) hk hx hl h1 hone hs1 hs2 hsm
  obtain ⟨k1, k2⟩ := kk v' Mx' n' H' q2 q3 q4
  refine WD.op hg hd (H' := H') (v := v') (fun t ht => ?_) rfl k1 k2
  simp only [opA, ev_ok ht hs, ev_ok ht hy, q1]
/-- One element more, what was read before may be read after. -/
theorem WD.append1F {j d2 : Nat} {e : Nat} {z : List Value} {s x : Operand} {lo2 : List Nat} {v y : Value} {cs : List Value} {new : Value} (F Mx T : HL) (hd : Nat.blt d nt = true) (hd2 : Nat.blt d2 nt = true)
    (hx : ev L x = some y) (hs : ev ((d, .slice (some ⟨n, 0, some 0⟩) 1 (2 * 1 + 1)) :: L) s = some v) (hO : Own e 1 v cs Mx) (hH : hasH (F ++ (Mx ++ T)) n H)
    (hc : Instr.fill (fun j => some (j * 1, 1)) z.toArray [(0, y)] = some [new].toArray) (hone : one new = true) (hsm : cs.length + 1 ≤ 100000)
    (hst : ∀ H', hasH ((n, .row e 0 0 [new]) :: (F ++ (Mx ++ T))) (n + 1) H' → stands H' lo rs = true)
    (kk : ∀ v' Mx' n' H', OwnR e 1 v' (cs ++ [new]) Mx' → hasH (F ++ (Mx' ++ T)) n' H' → n ≤ n' → stands H' lo2 rs = true ∧ WD C nt l rs ((d2, v') :: (d, .slice (some ⟨n, 0, some 0⟩) 1 (2 * 1 + 1)) :: L) D H' K) :
    WD C nt (⟨i, some d, .bldS e 1 z 1 [(0, x)], none, lo⟩ :: ⟨j, some d2, .append e 1 s (.tmp d), none, lo2⟩ :: l) rs L D H K := by
  refine WD.bldS True.intro hd hH (vs := [(0, y)]) (by simp only [evp, hx]) hc (by simp [hone]) hst fun H1 hH1 => ?_
  have hx2 : srcCells H1 1 1 (.slice (some ⟨n, 0, some 0⟩) 1 (2 * 1 + 1)) = some [new] := by
    have := hH1.readN (b := n) (u := 0) (lo := 0) (o := 0) (k := 1 * 1) (ch := .row e 0 0 [new]) (cs := [new]) (by simp) (.row _ _ _ _) (Nat.le_refl _) (by simp)
    simpa [srcCells] using this
  have hy : ev ((d, .slice (some ⟨n, 0, some 0⟩) 1 (2 * 1 + 1)) :: L) (.tmp d) = some (.slice (some ⟨n, 0, some 0⟩) 1 (2 * 1 + 1)) := by simp [ev, Env.get]
  refine WD.append True.intro hd2 hs hy hO hH1 (M' := F ++ (Mx ++ T)) (List.sublist_cons_self _ _) (M0 := F ++ T) (List.perm_append_comm_assoc F Mx T) rfl hx2 (by simp) (Nat.le_refl _) (by simp [hone]) (Nat.le_refl _) (by omega) (by simpa using hsm) fun v' Mx' n' H' q1 q2 q3 => ?_
  exact kk v' Mx' n' H' q1 (q2.perm (List.perm_append_comm_assoc Mx' F T)) (by omega)
end
end Go.Abs
namespace Go.Proofs.Yteopjpfhhekkoaa.Tt
open Go Go.Abs Go.Mth
set_option linter.unusedVariables false
set_option linter.unusedSimpArgs false
theorem numsK_one (kk : IntKind) (l : List Nat) : (numsK kk l).all one = true := by
  rw [List.all_eq_true]; intro q hq; obtain ⟨z, _, rfl⟩ := List.mem_map.1 hq; rfl
theorem err0 {g : Nat} {S : List Sal} (h : OKS g S) : errS (g : Int) S = 0 := errS_zero.2 ⟨g, rfl, h⟩
theorem NumOut.ok {M : HL} {g : Nat} {S : List Sal} {e : Value} (hok : OKS g S) (h : NumOut M g S e) : ∃ a b, one a = true ∧ one b = true ∧ ((tasteB (matS S) = true ∧ e = .tuple #[a, b, .int .i64 0] ∧ ∃ W V, RngP S.length W V ∧ NumP (matS S) W V ∧ Sl M 1 a (ints W) ∧ Sl M 1 b (ints V)) ∨
    (tasteB (matS S) = false ∧ a = .slice none 0 0 ∧ b = .slice none 0 0 ∧ e = .tuple #[a, b, .int .i64 13])) := by
  obtain ⟨a, b, he, ha, hb, hc⟩ := h
  rw [if_neg (not_not_intro (err0 hok))] at he
  refine ⟨a, b, ha, hb, ?_⟩
  rcases hc with ⟨_, h2, h3⟩ | ⟨h1, h2, h3⟩
  · rw [if_pos h2] at he; exact .inl ⟨h2, he, h3⟩
  · rcases h1 with h1 | h1
    · exact absurd (err0 hok) h1
    · rw [h1, if_neg (by decide)] at he; exact .inr ⟨h1, h2, h3, he⟩
theorem RingOut.ok {M : HL} {g : Nat} {S : List Sal} {e : Value} (hok : OKS g S) (h : RingOut M g S e) : ∃ u, one u = true ∧ ((tasteB (matS S) = true ∧ u = .slice none 0 0 ∧ e = .tuple #[u, .int .i64 13]) ∨ (tasteB (matS S) = false ∧ e = .tuple #[u, .int .i64 0] ∧ ∃ z, firstRing (matS S) = some z ∧ Sl M 1 u (nodes z))) := by
  obtain ⟨u, he, hu, hc⟩ := h
  rw [if_neg (not_not_intro (err0 hok))] at he
  refine ⟨u, hu, ?_⟩
  rcases hc with ⟨_, z, h2, h3⟩ | ⟨h1, h2⟩
  · have htb : tasteB (matS S) = false := by rw [tasteB, h2]; rfl
    rw [htb, if_neg (by decide)] at he
    exact .inr ⟨htb, he, z, h2, h3⟩
  · rcases h1 with h1 | h1
    · exact absurd (err0 hok) h1
    · rw [if_pos h1] at he; exact .inl ⟨h1, h2, he⟩
theorem RanksOut.ok {M : HL} {g : Nat} {S : List Sal} {e : Value} (hok : OKS g S) (h : RanksOut M g S e) : ∃ u, one u = true ∧ ((tasteB (matS S) = false ∧ u = .slice none 0 0 ∧ e = .tuple #[u, .int .i64 13]) ∨ (tasteB (matS S) = true ∧ e = .tuple #[u, .int .i64 0] ∧ Sl M 1 u (nodes (rkL (DP (matS S)) S.length)))) := by
  obtain ⟨u, he, hu, hc⟩ := h
  rw [if_neg (not_not_intro (err0 hok))] at he
  refine ⟨u, hu, ?_⟩
  rcases hc with ⟨_, h2, h3⟩ | ⟨h1, h2⟩
  · rw [if_pos h2] at he
    rw [matS_len] at h3
    exact .inr ⟨h2, he, h3⟩
  · rcases h1 with h1 | h1
    · exact absurd (err0 hok) h1
    · rw [h1, if_neg (by decide)] at he; exact .inl ⟨h1, h2, he⟩
/-- A ring that was found first. -/
theorem ring_facts {S : List Sal} {z : List Nat} (h : firstRing (matS S) = some z) : 1 ≤ z.length ∧ z.length ≤ S.length ∧ (∀ x ∈ z, x < S.length) ∧ closL (DP (matS S)) z := by
  have hk := firstRing_least h
  have hl := hk.1.1.len
  rw [matS_len] at hl
  refine ⟨hl.1, hl.2, fun x hx => ?_, hk.1.1.2.2.1, hk.1.2⟩
  have := hk.1.1.2.1 x hx
  rwa [matS_len] at this
end Go.Proofs.Yteopjpfhhekkoaa.Tt

/- All lists of different numbers, one after the other. -/
namespace Go.Abs
set_option linter.unusedSectionVars false
set_option linter.unusedSimpArgs false
variable [Globs]
open Go
section
variable {C : CW} {nt : Nat} {L : Env} {D : List Nat} {H : Heap} {K : St → Prop} {M M' : HL} {n i d : Nat} {gd : Option (Tmp × Bool)} {lo : List Nat} {l : List POp} {rs : List Rd}
/-- A list: nothing, or a row that may be open or full. -/
def LstV (M : HL) (v : Value) (cs : List Value) : Prop := (cs = [] ∧ v = .slice none 0 0) ∨ (cs ≠ [] ∧ ∃ b o u cap, v = .slice (some ⟨b, o, some u⟩) cs.length cap ∧ KCell M b o u cs ∧ (cap = 2 * 1 ∨ cap = 2 * cs.length + 1))
/-- One that is full. -/
def ClipV (M : HL) (v : Value) (cs : List Value) : Prop := (cs = [] ∧ v = .slice none 0 0) ∨ (cs ≠ [] ∧ ∃ b o u, v = .slice (some ⟨b, o, some u⟩) cs.length (2 * cs.length + 1) ∧ KCell M b o u cs)
theorem LstV.mono {v : Value} {cs : List Value} (h : LstV M v cs) (k : ∀ q ∈ M, q ∈ M') : LstV M' v cs := by
  rcases h with h | ⟨h0, b, o, u, cap, h1, h2, h3⟩
  · exact .inl h
  · exact .inr ⟨h0, b, o, u, cap, h1, h2.mono k, h3⟩
theorem LstV.sl {v : Value} {cs : List Value} (h : LstV M v cs) : Sl M 1 v cs := by
  rcases h with ⟨rfl, rfl⟩ | ⟨h0, b, o, u, cap, rfl, ⟨ch, lo, cells, h1, h2, h3, h4, h5⟩, h6⟩
  · exact .nil 0
  · refine .row h1 h2 h3 (by simp) h5 h4 ?_
    rcases h6 with rfl | rfl
    · exact .inl (.inl rfl)
    · exact .inr ⟨_, rfl, Nat.le_refl _⟩
theorem LstV.one_ {v : Value} {cs : List Value} (h : LstV M v cs) : one v = true := h.sl.one_
theorem OpV.clip {x hi mx : Operand} {v : Value} {cs : List Value} {kb kc : IntKind} (hx : ev L x = some v) (hS : LstV M v cs) (h2 : ev L hi = some (.int kb (cs.length : Int))) (h3 : ev L mx = some (.int kc (cs.length : Int))) :
    ∃ v', OpV C (.slS x 1 none (some hi) (some mx)) L H v' H ∧ ClipV M v' cs := by
  rcases hS with ⟨rfl, rfl⟩ | ⟨h0, b, o, u, cap, rfl, h1, h6⟩
  · refine ⟨.slice none 0 0, fun t ht => ?_, .inl ⟨rfl, rfl⟩⟩
    simp only [opA, ev_ok ht hx, Option.map_some, Option.map_none, ev_ok ht h2, ev_ok ht h3, oSlS, sliceA, loOf, hiOf, nat_of, Option.isSome_some, Option.isNone_some, Bool.and_false, cond_false, capOf, sliceTo]
    rfl
  · obtain ⟨len, hlen⟩ : ∃ len, cs.length = len := ⟨_, rfl⟩
    have hl0 : 1 ≤ len := by have := List.length_pos_iff.2 h0; omega
    have hb0 : Nat.beq len 0 = false := by cases hb : Nat.beq len 0 with | false => rfl | true => have := Nat.eq_of_beq_eq_true hb; omega
    have hk : cutKnown 1 (some ⟨b, o, some u⟩) 0 len len = some (.slice (some ⟨b, o, some u⟩) len (2 * len + 1)) := by
      have : (bif Nat.beq len 0 then (⟨b, o, some u⟩ : Addr) else Addr.plus ⟨b, o, some u⟩ (0 * 1)) = ⟨b, o, some u⟩ := by
        cases Nat.beq len 0 <;> rfl
      simp only [cutKnown, this, Nat.sub_zero]
    refine ⟨.slice (some ⟨b, o, some u⟩) len (2 * len + 1), fun t ht => ?_, .inr ⟨h0, b, o, u, by rw [hlen], h1⟩⟩
    rw [hlen] at hx h2 h3 h6
    rcases h6 with rfl | rfl
    · simp only [opA, ev_ok ht hx, Option.map_some, Option.map_none, ev_ok ht h2, ev_ok ht h3, oSlS, sliceA, loOf, hiOf, nat_of, Option.isSome_some, Option.isNone_some, Bool.and_false, cond_false, capOf_open _ (show 1 ≤ 1000 by decide), sliceTo]
      rw [cond_some (by simp [Nat.ble_eq])]
      simp only [cutOpenMax, hb0, cond_false, hk, asVal]
    · simp only [opA, ev_ok ht hx, Option.map_some, Option.map_none, ev_ok ht h2, ev_ok ht h3, oSlS, sliceA, loOf, hiOf, nat_of, Option.isSome_some, Option.isNone_some, Bool.and_false, cond_false, capOf_known, sliceTo]
      rw [cond_some (by simp [Nat.ble_eq])]
      simp only [hk, asVal]
theorem WR.clip {x hi mx : Operand} {v : Value} {cs : List Value} {kb kc : IntKind} (hg : gOK L gd) (hd : Nat.blt d nt = true) (hx : ev L x = some v) (hS : LstV M v cs) (h2 : ev L hi = some (.int kb (cs.length : Int))) (h3 : ev L mx = some (.int kc (cs.length : Int)))
    (k : ∀ v', ClipV M v' cs → WR C nt l ((d, v') :: L) D H K) : WR C nt (⟨i, some d, .slS x 1 none (some hi) (some mx), gd, lo⟩ :: l) L D H K := by
  obtain ⟨v', h4, h5⟩ := OpV.clip (C := C) (H := H) hx hS h2 h3
  exact WR.op hg hd h4 (k v' h5)
/-- Appended to a list that is full: a new row. -/
theorem OpV.appFull {e b2 : Nat} {s x : Operand} {v y : Value} {cs : List Value} (hH : hasH M n H) (hs : ev L s = some v) (hS : ClipV M v cs) (hx : ev L x = some (.slice (some ⟨b2, 0, some 0⟩) 1 (2 * 1 + 1))) (hm : (b2, .row e 0 0 [y]) ∈ M) (hone : cs.all one = true) (hy : one y = true) (hl : cs.length ≤ 1000) :
    ∃ H', OpV C (.append e 1 s x) L H (.slice (some ⟨n, 0, some 0⟩) (cs.length + 1) (2 * 1)) H' ∧ hasH ((n, .row e 0 0 (cs ++ [y])) :: M) (n + 1) H' := by
  have hone2 : (cs ++ [y]).all one = true := by rw [List.all_append, hone]; simp [hy]
  refine ⟨H.row e (cs ++ [y]), fun t ht => ?_, hH.row e hone2⟩
  have hr := hH.readN (b := b2) (u := 0) (lo := 0) (o := 0) (k := 1) hm (.row _ _ _ _) (Nat.le_refl _) (by simp)
  have hr2 : H.readN ⟨b2, 0, some 0⟩ 1 = some [y] := by simpa using hr
  have hsx : srcCells H 1 1 (.slice (some ⟨b2, 0, some 0⟩) 1 (2 * 1 + 1)) = some [y] := by simpa [srcCells] using hr
  have hsm : ∀ len, len ≤ 1000 → small 1 (len + 1) = true := fun len h => by simp only [small, Bool.and_eq_true]; exact ⟨⟨Nat.ble_eq_true_of_le (by omega), Nat.ble_eq_true_of_le (by omega)⟩, Nat.ble_eq_true_of_le (by omega)⟩
  rcases hS with ⟨rfl, rfl⟩ | ⟨h0, b, o, u, rfl, h1⟩
  · have := hsm 0 (by omega)
    simp only [opA, ev_ok ht hs, ev_ok ht hx, appendA, srcLen, hsx, appWith, capOf, appNew, newAddr, hH.next]
    have hs0 : srcCells H 1 0 (.slice none 0 0) = some [] := rfl
    simp only [hs0]
    have e1 : Nat.ble (0 + 1) 0 = false := rfl
    simp only [e1, cond_false, this, List.all_nil, List.all_cons, hy, Bool.and_self, cond_true, List.length_nil, List.length_singleton, List.nil_append, Nat.zero_add, Nat.mul_one]
    rfl
  · obtain ⟨len, hlen⟩ : ∃ len, cs.length = len := ⟨_, rfl⟩
    have hrd := h1.readN' hH hlen
    have hsr : srcCells H 1 len (.slice (some ⟨b, o, some u⟩) len (2 * len + 1)) = some cs := by simpa [srcCells] using hrd
    have e1 : Nat.ble (len + 1) len = false := by
      cases hb : Nat.ble (len + 1) len with
      | false => rfl
      | true => have := Nat.le_of_ble_eq_true hb; omega
    have e2 : Nat.beq (cs.length + [y].length) ((len + 1) * 1) = true := by rw [hlen, Nat.mul_one]; exact Nat.beq_refl _
    have := hsm len (by omega)
    rw [hlen] at hs
    rw [hlen]
    simp only [opA, ev_ok ht hs, ev_ok ht hx, appendA, srcLen, hsx, appWith, capOf_known, e1, cond_false, hsr, appNew, this, hone, List.all_cons, List.all_nil, hy, Bool.and_self, e2, cond_true, newAddr, hH.next]
theorem ClipV.mono {v : Value} {cs : List Value} (h : ClipV M v cs) (k : ∀ q ∈ M, q ∈ M') : ClipV M' v cs := by
  rcases h with h | ⟨h0, b, o, u, h1, h2⟩
  · exact .inl h
  · exact .inr ⟨h0, b, o, u, h1, h2.mono k⟩
theorem WD.appFull {e b2 : Nat} {s x : Operand} {v y : Value} {cs : List Value} (hg : gOK L gd) (hd : Nat.blt d nt = true) (hH : hasH M n H) (hs : ev L s = some v) (hS : ClipV M v cs) (hx : ev L x = some (.slice (some ⟨b2, 0, some 0⟩) 1 (2 * 1 + 1))) (hm : (b2, .row e 0 0 [y]) ∈ M) (hone : cs.all one = true) (hy : one y = true) (hl : cs.length ≤ 1000)
    (kk : ∀ H', hasH ((n, .row e 0 0 (cs ++ [y])) :: M) (n + 1) H' → stands H' lo rs = true ∧ WD C nt l rs ((d, .slice (some ⟨n, 0, some 0⟩) (cs.length + 1) (2 * 1)) :: L) D H' K) : WD C nt (⟨i, some d, .append e 1 s x, gd, lo⟩ :: l) rs L D H K := by
  obtain ⟨H', h4, h5⟩ := OpV.appFull (C := C) hH hs hS hx hm hone hy hl
  obtain ⟨k1, k2⟩ := kk H' h5
  exact WD.op hg hd h4 rfl k1 k2

end
end Go.Abs
namespace Go.Proofs.Yteopjpfhhekkoaa.Tt
open Go Go.Abs Go.Mth
set_option linter.unusedVariables false
set_option linter.unusedSimpArgs false
def preL (n : Nat) : Nat → List Nat → List (List Nat)
  | 0, l => if l = [] then [] else [l]
  | r + 1, l => (if l = [] then [] else [l]) ++ ((List.range n).filter fun x => !decide (x ∈ l)).flatMap fun x => preL n r (l ++ [x])
/-- Those that go on with a number below k. -/
def preK (n r : Nat) (l : List Nat) (k : Nat) : List (List Nat) := ((List.range' k (n - k)).filter fun x => !decide (x ∈ l)).flatMap fun x => preL n r (l ++ [x])
theorem preK_zero (n r : Nat) (l : List Nat) : preL n (r + 1) l = (if l = [] then [] else [l]) ++ preK n r l 0 := by
  unfold preK
  rw [Nat.sub_zero, ← List.range_eq_range']; rfl
theorem preK_in {n r k : Nat} {l : List Nat} (hk : k < n) (h : k ∉ l) : preK n r l k = preL n r (l ++ [k]) ++ preK n r l (k + 1) := by
  unfold preK
  rw [show n - k = (n - (k + 1)) + 1 by omega, List.range'_succ, List.filter_cons_of_pos (by simp [h]), List.flatMap_cons]
theorem preK_out {n r k : Nat} {l : List Nat} (hk : k < n) (h : k ∈ l) : preK n r l k = preK n r l (k + 1) := by
  unfold preK
  rw [show n - k = (n - (k + 1)) + 1 by omega, List.range'_succ, List.filter_cons_of_neg (by simp [h])]
theorem preK_end (n r : Nat) (l : List Nat) : preK n r l n = [] := by unfold preK; rw [Nat.sub_self]; rfl
def Dis (n : Nat) (l : List Nat) : Prop := l.Nodup ∧ ∀ x ∈ l, x < n
theorem Dis.len {n : Nat} {l : List Nat} (h : Dis n l) : l.length ≤ n := nodup_le n l h.1 h.2
theorem Dis.snoc {n x : Nat} {l : List Nat} (h : Dis n l) (hx : x < n) (hm : x ∉ l) : Dis n (l ++ [x]) :=
  ⟨List.nodup_append.2 ⟨h.1, by simp, fun a ha b hb => by rw [List.mem_singleton.1 hb]; exact fun e => hm (e ▸ ha)⟩, fun y hy => by
    rcases List.mem_append.1 hy with hy | hy
    · exact h.2 y hy
    · rw [List.mem_singleton.1 hy]; exact hx⟩
theorem mem_preL {n : Nat} : ∀ {r : Nat} {l m : List Nat}, l.length + r = n → Dis n l → (m ∈ preL n r l ↔ m ≠ [] ∧ Dis n m ∧ m.take l.length = l)
  | 0, l, m, hl, hd => by
    have hfull : Dis n m → m.take l.length = l → m = l := fun h1 h2 => by
      have := h1.len
      rwa [List.take_of_length_le (by omega)] at h2
    unfold preL
    by_cases e : l = []
    · rw [if_pos e]
      constructor
      · intro h; cases h
      · rintro ⟨h1, h2, h3⟩; exact absurd ((hfull h2 h3).trans e) h1
    · rw [if_neg e, List.mem_singleton]
      constructor
      · rintro rfl; exact ⟨e, hd, List.take_length⟩
      · rintro ⟨h1, h2, h3⟩; exact hfull h2 h3
  | r + 1, l, m, hl, hd => by
    unfold preL
    rw [List.mem_append, List.mem_flatMap]
    constructor
    · rintro (h | ⟨x, hx, h⟩)
      · by_cases e : l = []
        · rw [if_pos e] at h; cases h
        · rw [if_neg e, List.mem_singleton] at h
          subst h; exact ⟨e, hd, List.take_length⟩
      · obtain ⟨h1, h2⟩ := List.mem_filter.1 hx
        have hm : x ∉ l := by simpa using h2
        obtain ⟨k1, k2, k3⟩ := (mem_preL (by simp; omega) (hd.snoc (List.mem_range.1 h1) hm)).1 h
        refine ⟨k1, k2, ?_⟩
        rw [List.length_append, List.length_singleton] at k3
        have := congrArg (List.take l.length) k3
        rwa [List.take_take, Nat.min_eq_left (by omega), List.take_left] at this
    · rintro ⟨h1, h2, h3⟩
      by_cases e : m.length = l.length
      · have hml : m = l := by rwa [← e, List.take_length] at h3
        left
        rw [if_neg (by rw [← hml]; exact h1), List.mem_singleton]; exact hml
      · right
        have hlt : l.length < m.length := by
          have := congrArg List.length h3
          rw [List.length_take] at this; omega
        have hx := h2.2 _ (getD_mem (a := 0) hlt)
        have e1 : m.take (l.length + 1) = l ++ [m.getD l.length 0] := by rw [take_snoc' (d := 0) hlt, h3]
        have hm : m.getD l.length 0 ∉ l := by
          have := nodup_at.1 h2.1 l.length hlt
          rwa [h3] at this
        refine ⟨m.getD l.length 0, List.mem_filter.2 ⟨List.mem_range.2 hx, by simpa using hm⟩, (mem_preL (by simp; omega) (hd.snoc hx hm)).2 ⟨h1, h2, ?_⟩⟩
        rw [List.length_append, List.length_singleton]; exact e1
theorem mem_pre {n : Nat} {m : List Nat} : m ∈ preL n n [] ↔ m ≠ [] ∧ Dis n m := by
  rw [mem_preL (by simp) ⟨List.nodup_nil, fun x hx => by cases hx⟩]
  exact ⟨fun h => ⟨h.1, h.2.1⟩, fun h => ⟨h.1, h.2, rfl⟩⟩
abbrev ptrT (b : Nat) : Value := .pointer (some ⟨b, 0, some 0⟩)
structure PX where
  k : Nat
  Mc : HL
  X : HL
  n : Nat
attribute [local irreducible] gOK WS WC WR WD Ends FS YS OpV seqK blockK loopK midK retK rdK asgK rangeEnd sat Cell
section
variable {M : HL} {n0 : Nat} {H : Heap} {v w : Value}
theorem Clip_fs (hH : hasH M n0 H) {cs : List Value} (hS : LstV M v cs) (hl : cs.length ≤ 1000) :
    FS C 89 [v] H (fun e H' => ClipV M e cs ∧ H' = H) := by
  have hs := hS.sl
  have hlen : ∃ a c, v = .slice a cs.length c := by
    rcases hS with ⟨rfl, rfl⟩ | ⟨h0, b, o, u, cap, rfl, h1, h6⟩
    · exact ⟨_, _, rfl⟩
    · exact ⟨_, _, rfl⟩
  obtain ⟨a, c, hv⟩ := hlen
  refine FS.intro (pf := pf89) rfl rfl rfl ?_
  repeat' (first | refine zP ?_ | refine zA ?_ | (refine zM ?_; intro _ _) | refine zX ?_ | (refine zC ?_; intro _ _ _ _) | (refine zS ?_; intro _ _) | (apply Ws <;> intro hg))
  refine WR.clip (by first | exact gN | exact gS rfl) rfl rfl hS rfl rfl fun v' h => ?_
  repeat' (first | refine zP ?_ | refine zA ?_ | (refine zM ?_; intro _ _) | refine zX ?_ | (refine zC ?_; intro _ _ _ _) | (refine zS ?_; intro _ _) | (apply Ws <;> intro hg))
  exact Ends.ret1 rfl ⟨h, rfl⟩
set_option maxHeartbeats 2000000 in
theorem put_fs {bn be bp N : Nat} {g : FuncId} {vb : List Value} {X0 : HL} {J : List (List Nat) → HL → HL → Prop} (hN : N ≤ 6)
    (hmN : (bn, Ch.row 3 0 0 [.int .i64 (N : Int)]) ∈ X0) (hmE : (be, Ch.row 71 0 0 [.func (.func g) [].toArray vb.toArray]) ∈ X0)
    (hmP : (bp, Ch.row 71 0 0 [.func (.func 88) [].toArray [ptrT be, ptrT bn, ptrT bp].toArray]) ∈ X0)
    (hmono : ∀ zs Mc X X', J zs Mc X → (∀ q ∈ X, q ∈ X') → J zs Mc X')
    (hy : ∀ z zs Mc X u n' H', J (z :: zs) Mc X → z ≠ [] → Dis N z → LstV X u (nodes z) → (∀ q ∈ X0, q ∈ X) → hasH (Mc ++ X) n' H' → FS C g ([] ++ [u] ++ vb) H' (fun _ H2 => ∃ Mc2 X2 n2, n' ≤ n2 ∧ (∀ q ∈ X, q ∈ X2) ∧ J zs Mc2 X2 ∧ hasH (Mc2 ++ X2) n2 H2)) :
    ∀ (r : Nat) {l : List Nat} {zs : List (List Nat)} {v : Value} {Mc X : HL} {n0 : Nat} {H : Heap} (hlr : l.length + r = N) (hd : Dis N l) (hJ : J (preL N r l ++ zs) Mc X) (hl : LstV X v (nodes l)) (hX : ∀ q ∈ X0, q ∈ X) (hH : hasH (Mc ++ X) n0 H),
      FS C 88 [v, ptrT be, ptrT bn, ptrT bp] H (fun _ H2 => ∃ Mc2 X2 n2, n0 ≤ n2 ∧ (∀ q ∈ X, q ∈ X2) ∧ J zs Mc2 X2 ∧ hasH (Mc2 ++ X2) n2 H2) := by
  intro r
  induction r with
  | zero =>
    intro l zs v Mc X n0 H hlr hd hJ hl hX hH
    have hv := hl.one_
    have hSl := hl.sl.mono (M' := Mc ++ X) fun q hq => List.mem_append_right _ hq
    have mE : (be, Ch.row 71 0 0 [.func (.func g) [].toArray vb.toArray]) ∈ Mc ++ X := List.mem_append_right _ (hX _ hmE)
    have hall : ∀ k, k < N → k ∈ l := fun k hk => nodup_all hd.1 hd.2 (by omega) hk
    refine FS.intro (pf := pf88) rfl rfl rfl ?_
    repeat' (first | refine zP ?_ | refine zA ?_ | (refine zM ?_; intro _ _) | refine zX ?_ | (refine zC ?_; intro _ _ _ _) | (refine zS ?_; intro _ _) | (apply Ws <;> intro hg))
    refine WC.joinX [(0, v), (1, ptrT be), (2, ptrT bn), (3, ptrT bp)] (by repeat' (first | exact .nil | refine .cons rfl ?_)) (fun s : PX => []) (fun s H' => n0 ≤ s.n ∧ (∀ q ∈ X, q ∈ s.X) ∧ J (([] : List (List Nat)) ++ zs) s.Mc s.X ∧ hasH (s.Mc ++ s.X) s.n H') ?_ ?_
    · refine WC.condP rfl (fun hpos => ?_) (fun hpos => ?_)
      · have hne : l ≠ [] := fun e => by rw [e] at hpos; simp at hpos
        rw [show preL N 0 l = (if l = [] then [] else [l]) ++ [] by unfold preL; simp, if_neg hne, List.append_assoc] at hJ
        repeat' (first | refine zP ?_ | refine zA ?_ | (refine zM ?_; intro _ _) | refine zX ?_ | (refine zC ?_; intro _ _ _ _) | (refine zS ?_; intro _ _) | (apply Ws <;> intro hg))
        refine WR.callV (by first | exact gN | exact gS rfl) rfl rfl rfl (hy l _ Mc X v n0 _ hJ hne hd hl hX hH) ?_
        rintro _ H1 ⟨Mc1, X1, n1, hn1, hX1, hJ1, hH1⟩
        repeat' (first | refine zP ?_ | refine zA ?_ | (refine zM ?_; intro _ _) | refine zX ?_ | (refine zC ?_; intro _ _ _ _) | (refine zS ?_; intro _ _) | (apply Ws <;> intro hg))
        exact Ends.midE (α := PX) ⟨0, Mc1, X1, n1⟩ (by repeat' (first | exact .nil | refine .cons rfl ?_)) rfl ⟨hn1, hX1, hJ1, hH1⟩
      · have hne : l = [] := List.length_eq_zero_iff.1 (by omega)
        rw [show preL N 0 l = (if l = [] then [] else [l]) ++ [] by unfold preL; simp, if_pos hne, List.nil_append] at hJ
        repeat' (first | refine zP ?_ | refine zA ?_ | (refine zM ?_; intro _ _) | refine zX ?_ | (refine zC ?_; intro _ _ _ _) | (refine zS ?_; intro _ _) | (apply Ws <;> intro hg))
        exact Ends.midE (α := PX) ⟨0, Mc, X, n0⟩ (by repeat' (first | exact .nil | refine .cons rfl ?_)) rfl ⟨Nat.le_refl _, fun q hq => hq, hJ, hH⟩
    · clear hH hSl mE hJ
      rintro ⟨_, Mc1, X1, n1⟩ H1 ⟨hn1, hX1, hJ1, hH1⟩
      simp only at hn1 hX1 hJ1 hH1
      have mN : (bn, Ch.row 3 0 0 [.int .i64 (N : Int)]) ∈ Mc1 ++ X1 := List.mem_append_right _ (hX1 _ (hX _ hmN))
      dsimp only [List.cons_append, List.nil_append]
      repeat' (first | refine zP ?_ | refine zA ?_ | (refine zM ?_; intro _ _) | refine zX ?_ | (refine zC ?_; intro _ _ _ _) | (refine zS ?_; intro _ _) | (apply Ws <;> intro hg))
      clear mN
      refine WC.loopX [(0, v), (1, ptrT be), (2, ptrT bn), (3, ptrT bp), (12, .int .i64 (N : Int))] (fun s : PX => [(13, .int .i64 (s.k : Int))]) [] (fun s H' => s.k ≤ N ∧ n0 ≤ s.n ∧ (∀ q ∈ X, q ∈ s.X) ∧ J (([] : List (List Nat)) ++ zs) s.Mc s.X ∧ hasH (s.Mc ++ s.X) s.n H') (fun s => N - s.k) ⟨0, Mc1, X1, n1⟩ (by repeat' (first | exact .nil | refine .cons rfl ?_)) rfl
        ⟨Nat.zero_le _, hn1, hX1, hJ1, hH1⟩ ?_
      clear hn1 hX1 hJ1 hH1
      rintro ⟨k, Mc2, X2, n2⟩ H2 ⟨hk, hn2, hX2, hJ2, hH2⟩
      simp only at hk hn2 hX2 hJ2 hH2
      dsimp only [List.cons_append, List.nil_append]
      repeat' (first | refine zP ?_ | refine zA ?_ | (refine zM ?_; intro _ _) | refine zX ?_ | (refine zC ?_; intro _ _ _ _) | (refine zS ?_; intro _ _) | (apply Ws <;> intro hg))
      refine WC.condP rfl (fun hltk => ?_) (fun hltk => ?_)
      · have hk' : k < N := by omega
        have hl2 := hl.mono hX2
        have hSl2 : Sl (Mc2 ++ X2) 1 v (nodes l) := hl2.sl.mono fun q hq => List.mem_append_right _ hq
        have hdl := hd.len
        repeat' (first | refine zP ?_ | refine zA ?_ | (refine zM ?_; intro _ _) | refine zX ?_ | (refine zC ?_; intro _ _ _ _) | (refine zS ?_; intro _ _) | (apply Ws <;> intro hg))
        refine WR.call (by first | exact gN | exact gS rfl) rfl rfl (Contains_fs hH2 hSl2 (by omega) k) ?_
        rintro _ H3 ⟨rfl, rfl⟩
        by_cases hm : k ∈ l
        · rw [decide_eq_true hm]
          repeat' (first | refine zP ?_ | refine zA ?_ | (refine zM ?_; intro _ _) | refine zX ?_ | (refine zC ?_; intro _ _ _ _) | (refine zS ?_; intro _ _) | (apply Ws <;> intro hg))
          exact Ends.loop ⟨k + 1, Mc2, X2, n2⟩ (by simp only; omega) (by repeat' (first | exact .nil | refine .cons rfl ?_)) rfl ⟨by simp only; omega, hn2, hX2, hJ2, hH2⟩
        · exact absurd (hall k hk') hm
      · have hkl : k = N := by omega
        subst hkl
        repeat' (first | refine zP ?_ | refine zA ?_ | (refine zM ?_; intro _ _) | refine zX ?_ | (refine zC ?_; intro _ _ _ _) | (refine zS ?_; intro _ _) | (apply Ws <;> intro hg))
        exact Ends.end0 ⟨Mc2, X2, n2, hn2, hX2, by simpa using hJ2, hH2⟩
  | succ r ih =>
    intro l zs v Mc X n0 H hlr hd hJ hl hX hH
    have hv := hl.one_
    have hSl := hl.sl.mono (M' := Mc ++ X) fun q hq => List.mem_append_right _ hq
    have mE : (be, Ch.row 71 0 0 [.func (.func g) [].toArray vb.toArray]) ∈ Mc ++ X := List.mem_append_right _ (hX _ hmE)
    refine FS.intro (pf := pf88) rfl rfl rfl ?_
    repeat' (first | refine zP ?_ | refine zA ?_ | (refine zM ?_; intro _ _) | refine zX ?_ | (refine zC ?_; intro _ _ _ _) | (refine zS ?_; intro _ _) | (apply Ws <;> intro hg))
    refine WC.joinX [(0, v), (1, ptrT be), (2, ptrT bn), (3, ptrT bp)] (by repeat' (first | exact .nil | refine .cons rfl ?_)) (fun s : PX => []) (fun s H' => n0 ≤ s.n ∧ (∀ q ∈ X, q ∈ s.X) ∧ J (preK N r l 0 ++ zs) s.Mc s.X ∧ hasH (s.Mc ++ s.X) s.n H') ?_ ?_
    · refine WC.condP rfl (fun hpos => ?_) (fun hpos => ?_)
      · have hne : l ≠ [] := fun e => by rw [e] at hpos; simp at hpos
        rw [preK_zero, if_neg hne, List.append_assoc] at hJ
        repeat' (first | refine zP ?_ | refine zA ?_ | (refine zM ?_; intro _ _) | refine zX ?_ | (refine zC ?_; intro _ _ _ _) | (refine zS ?_; intro _ _) | (apply Ws <;> intro hg))
        refine WR.callV (by first | exact gN | exact gS rfl) rfl rfl rfl (hy l _ Mc X v n0 _ hJ hne hd hl hX hH) ?_
        rintro _ H1 ⟨Mc1, X1, n1, hn1, hX1, hJ1, hH1⟩
        repeat' (first | refine zP ?_ | refine zA ?_ | (refine zM ?_; intro _ _) | refine zX ?_ | (refine zC ?_; intro _ _ _ _) | (refine zS ?_; intro _ _) | (apply Ws <;> intro hg))
        exact Ends.midE (α := PX) ⟨0, Mc1, X1, n1⟩ (by repeat' (first | exact .nil | refine .cons rfl ?_)) rfl ⟨hn1, hX1, hJ1, hH1⟩
      · have hne : l = [] := List.length_eq_zero_iff.1 (by omega)
        rw [preK_zero, if_pos hne, List.nil_append] at hJ
        repeat' (first | refine zP ?_ | refine zA ?_ | (refine zM ?_; intro _ _) | refine zX ?_ | (refine zC ?_; intro _ _ _ _) | (refine zS ?_; intro _ _) | (apply Ws <;> intro hg))
        exact Ends.midE (α := PX) ⟨0, Mc, X, n0⟩ (by repeat' (first | exact .nil | refine .cons rfl ?_)) rfl ⟨Nat.le_refl _, fun q hq => hq, hJ, hH⟩
    · clear hH hSl mE hJ
      rintro ⟨_, Mc1, X1, n1⟩ H1 ⟨hn1, hX1, hJ1, hH1⟩
      simp only at hn1 hX1 hJ1 hH1
      have mN : (bn, Ch.row 3 0 0 [.int .i64 (N : Int)]) ∈ Mc1 ++ X1 := List.mem_append_right _ (hX1 _ (hX _ hmN))
      dsimp only [List.cons_append, List.nil_append]
      repeat' (first | refine zP ?_ | refine zA ?_ | (refine zM ?_; intro _ _) | refine zX ?_ | (refine zC ?_; intro _ _ _ _) | (refine zS ?_; intro _ _) | (apply Ws <;> intro hg))
      clear mN
      refine WC.loopX [(0, v), (1, ptrT be), (2, ptrT bn), (3, ptrT bp), (12, .int .i64 (N : Int))] (fun s : PX => [(13, .int .i64 (s.k : Int))]) [] (fun s H' => s.k ≤ N ∧ n0 ≤ s.n ∧ (∀ q ∈ X, q ∈ s.X) ∧ J (preK N r l s.k ++ zs) s.Mc s.X ∧ hasH (s.Mc ++ s.X) s.n H') (fun s => N - s.k) ⟨0, Mc1, X1, n1⟩ (by repeat' (first | exact .nil | refine .cons rfl ?_)) rfl
        ⟨Nat.zero_le _, hn1, hX1, hJ1, hH1⟩ ?_
      clear hn1 hX1 hJ1 hH1
      rintro ⟨k, Mc2, X2, n2⟩ H2 ⟨hk, hn2, hX2, hJ2, hH2⟩
      simp only at hk hn2 hX2 hJ2 hH2
      dsimp only [List.cons_append, List.nil_append]
      repeat' (first | refine zP ?_ | refine zA ?_ | (refine zM ?_; intro _ _) | refine zX ?_ | (refine zC ?_; intro _ _ _ _) | (refine zS ?_; intro _ _) | (apply Ws <;> intro hg))
      refine WC.condP rfl (fun hltk => ?_) (fun hltk => ?_)
      · have hk' : k < N := by omega
        have hl2 := hl.mono hX2
        have hSl2 : Sl (Mc2 ++ X2) 1 v (nodes l) := hl2.sl.mono fun q hq => List.mem_append_right _ hq
        have hdl := hd.len
        repeat' (first | refine zP ?_ | refine zA ?_ | (refine zM ?_; intro _ _) | refine zX ?_ | (refine zC ?_; intro _ _ _ _) | (refine zS ?_; intro _ _) | (apply Ws <;> intro hg))
        refine WR.call (by first | exact gN | exact gS rfl) rfl rfl (Contains_fs hH2 hSl2 (by omega) k) ?_
        rintro _ H3 ⟨rfl, rfl⟩
        by_cases hm : k ∈ l
        · rw [decide_eq_true hm]
          repeat' (first | refine zP ?_ | refine zA ?_ | (refine zM ?_; intro _ _) | refine zX ?_ | (refine zC ?_; intro _ _ _ _) | (refine zS ?_; intro _ _) | (apply Ws <;> intro hg))
          exact Ends.loop ⟨k + 1, Mc2, X2, n2⟩ (by simp only; omega) (by repeat' (first | exact .nil | refine .cons rfl ?_)) rfl ⟨by simp only; omega, hn2, hX2, by simp only; rw [← preK_out hk' hm]; exact hJ2, hH2⟩
        · rw [decide_eq_false hm]
          rw [preK_in hk' hm, List.append_assoc] at hJ2
          have mP : (bp, Ch.row 71 0 0 [.func (.func 88) [].toArray [ptrT be, ptrT bn, ptrT bp].toArray]) ∈ Mc2 ++ X2 := List.mem_append_right _ (hX2 _ (hX _ hmP))
          repeat' (first | refine zP ?_ | refine zA ?_ | (refine zM ?_; intro _ _) | refine zX ?_ | (refine zC ?_; intro _ _ _ _) | (refine zS ?_; intro _ _) | (apply Ws <;> intro hg))
          refine WC.regionD ?_
          refine WD.load1 (by first | exact gN | exact gS rfl) rfl rfl (hH2.read mP (.row _ _ _ _) (Nat.zero_le _) rfl) ?_
          repeat' (first | refine zD ?_ | (refine zE ?_; intro _ _ _ _))
          have hone : (nodes l).all one = true := nodes_one' l
          have hnl : (nodes l).length = l.length := by simp
          have hst : ∀ {Y : HL} {n' : Nat} {H' : Heap}, hasH Y n' H' → (bp, Ch.row 71 0 0 [.func (.func 88) [].toArray [ptrT be, ptrT bn, ptrT bp].toArray]) ∈ Y → stands H' [0] [⟨0, ⟨bp, 0, some 0⟩, none, .func (.func 88) [].toArray [ptrT be, ptrT bn, ptrT bp].toArray⟩] = true := fun h hm =>
            stands_cons (.inr (holds_at (h.read hm (.row _ _ _ _) (Nat.zero_le _) rfl) (same_fn _ [⟨be, 0, some 0⟩, ⟨bn, 0, some 0⟩, ⟨bp, 0, some 0⟩]))) stands_nil'
          refine WD.call (by first | exact gN | exact gS rfl) rfl rfl (Clip_fs hH2 (hl2.mono fun q hq => List.mem_append_right _ hq) (by omega)) ?_
          rintro v3 _ ⟨hCV, rfl⟩
          refine ⟨hst hH2 mP, ?_⟩
          refine WD.bldS (by first | exact gN | exact gS rfl) rfl hH2 (vs := [(0, .int .i64 (k : Int))]) rfl (cs := [.int .i64 (k : Int)]) (by rfl) rfl (fun H3 hH3 => hst hH3 (List.mem_cons_of_mem _ mP)) fun H3 hH3 => ?_
          refine WD.appFull (by first | exact gN | exact gS rfl) rfl hH3 rfl (hCV.mono fun q hq => List.mem_cons_of_mem _ hq) rfl (.head _) hone rfl (by omega) fun H4 hH4 => ⟨hst hH4 (List.mem_cons_of_mem _ (List.mem_cons_of_mem _ mP)), ?_⟩
          refine WD.toWR rfl ?_
          have hns : nodes l ++ [Value.int .i64 (k : Int)] = nodes (l ++ [k]) := by simp [nodes]
          rw [hns] at hH4
          rw [hnl]
          have hH5 : hasH (Mc2 ++ ((n2 + 1, Ch.row 3 0 0 (nodes (l ++ [k]))) :: (n2, .row 3 0 0 [.int .i64 (k : Int)]) :: X2)) (n2 + 1 + 1) H4 := hH4.perm (by
            refine List.Perm.symm (List.Perm.trans List.perm_middle (.cons _ List.perm_middle)))
          have hlN2 : LstV ((n2 + 1, Ch.row 3 0 0 (nodes (l ++ [k]))) :: (n2, .row 3 0 0 [.int .i64 (k : Int)]) :: X2) (.slice (some ⟨n2 + 1, 0, some 0⟩) (l.length + 1) (2 * 1)) (nodes (l ++ [k])) := by
            refine .inr ⟨by simp [nodes], n2 + 1, 0, 0, 2 * 1, by simp, ⟨_, 0, nodes (l ++ [k]), .head _, .row _ _ _ _, Nat.le_refl _, by simp, ?_⟩, .inl rfl⟩
            rw [Nat.sub_zero, List.drop_zero, List.take_length]
          have hJ3 := hmono _ _ _ ((n2 + 1, Ch.row 3 0 0 (nodes (l ++ [k]))) :: (n2, .row 3 0 0 [.int .i64 (k : Int)]) :: X2) hJ2 fun q hq => .tail _ (.tail _ hq)
          refine WR.callV (by first | exact gN | exact gS rfl) rfl rfl rfl (ih (l := l ++ [k]) (by simp; omega) (hd.snoc hk' hm) hJ3 hlN2 (fun q hq => .tail _ (.tail _ (hX2 _ (hX _ hq)))) hH5) ?_
          rintro _ H6 ⟨Mc6, X6, n6, hn6, hX6, hJ6, hH6⟩
          repeat' (first | refine zP ?_ | refine zA ?_ | (refine zM ?_; intro _ _) | refine zX ?_ | (refine zC ?_; intro _ _ _ _) | (refine zS ?_; intro _ _) | (apply Ws <;> intro hg))
          exact Ends.loop ⟨k + 1, Mc6, X6, n6⟩ (by simp only; omega) (by repeat' (first | exact .nil | refine .cons rfl ?_)) rfl ⟨by simp only; omega, by simp only; omega, fun q hq => hX6 _ (.tail _ (.tail _ (hX2 _ hq))), hJ6, hH6⟩
      · have hkl : k = N := by omega
        subst hkl
        repeat' (first | refine zP ?_ | refine zA ?_ | (refine zM ?_; intro _ _) | refine zX ?_ | (refine zC ?_; intro _ _ _ _) | (refine zS ?_; intro _ _) | (apply Ws <;> intro hg))
        exact Ends.end0 ⟨Mc2, X2, n2, hn2, hX2, (by rw [preK_end, List.nil_append] at hJ2; exact hJ2), hH2⟩
end
end Go.Proofs.Yteopjpfhhekkoaa.Tt

/- all; TasteRanked. -/
namespace Go.Proofs.Yteopjpfhhekkoaa.Tt
open Go Go.Abs Go.Mth
set_option linter.unusedVariables false
set_option linter.unusedSimpArgs false
/-- Each one of a list leads to the next one. -/
def chB (D : Nat → Nat → Int) (l : List Nat) : Bool := (List.range (l.length - 1)).all fun j => decide (0 ≤ D (l.getD j 0) (l.getD (j + 1) 0))
theorem chB_iff {D : Nat → Nat → Int} {l : List Nat} : chB D l = true ↔ ∀ j, j + 1 < l.length → 0 ≤ D (l.getD j 0) (l.getD (j + 1) 0) := by
  simp only [chB, List.all_eq_true, List.mem_range, decide_eq_true_eq]
  exact ⟨fun h j hj => h j (by omega), fun h j hj => h j (by omega)⟩
theorem chain_iff {D : Nat → Nat → Int} {n : Nat} {l : List Nat} : Chain (gD D) n l ↔ l ≠ [] ∧ Dis n l ∧ chB D l = true := by
  rw [chB_iff]
  constructor
  · rintro ⟨h1, h2, h3, h4⟩; exact ⟨h1, ⟨h3, h2⟩, fun j hj => gD_iff.1 (h4 j hj)⟩
  · rintro ⟨h1, ⟨h3, h2⟩, h4⟩; exact ⟨h1, h2, h3, fun j hj => gD_iff.2 (h4 j hj)⟩
def fromTo (l : List Nat) (a b : Nat) : Bool := decide (l.getD 0 0 = a) && decide (l.getD (l.length - 1) 0 = b)
def anyL (D : Nat → Nat → Int) (ds : List (List Nat)) (a b : Nat) : Bool := ds.any fun l => chB D l && fromTo l a b
def anyS (D : Nat → Nat → Int) (ds : List (List Nat)) (a b : Nat) : Bool := ds.any fun l => chB D l && fromTo l a b && betB D l
attribute [local irreducible] gOK WS WC WR WD Ends FS YS OpV seqK blockK loopK midK retK rdK asgK rangeEnd sat Cell
section
variable {M : HL} {n0 : Nat} {H : Heap} {v w : Value}
theorem all_fs {N : Nat} {g : FuncId} {vb : List Value} {J : List (List Nat) → HL → HL → Prop} (hN : N ≤ 6) {Mc X : HL} (hH : hasH (Mc ++ X) n0 H) (hJ : J (preL N N []) Mc X) (hmono : ∀ zs Mc X X', J zs Mc X → (∀ q ∈ X, q ∈ X') → J zs Mc X')
    (hy : ∀ z zs Mc X' u n' H', J (z :: zs) Mc X' → z ≠ [] → Dis N z → LstV X' u (nodes z) → (∀ q ∈ X, q ∈ X') → hasH (Mc ++ X') n' H' → FS C g ([] ++ [u] ++ vb) H' (fun _ H2 => ∃ Mc2 X2 n2, n' ≤ n2 ∧ (∀ q ∈ X', q ∈ X2) ∧ J zs Mc2 X2 ∧ hasH (Mc2 ++ X2) n2 H2)) :
    FS C 47 [.int .i64 (N : Int), .func (.func g) [].toArray vb.toArray] H (fun _ H2 => ∃ Mc2 X2 n2, n0 ≤ n2 ∧ (∀ q ∈ X, q ∈ X2) ∧ J [] Mc2 X2 ∧ hasH (Mc2 ++ X2) n2 H2) := by
  refine FS.intro (pf := pf47) rfl rfl rfl ?_
  repeat' (first | refine zP ?_ | refine zA ?_ | (refine zM ?_; intro _ _) | refine zX ?_ | (refine zC ?_; intro _ _ _ _) | (refine zS ?_; intro _ _) | (apply Ws <;> intro hg))
  rename_i H1 hH1 H2 hH2 H3 hH3 H4 hH4
  have hH5 : hasH (Mc ++ ((n0 + 1 + 1, Ch.row 71 0 0 [.func (.func 88) [].toArray [ptrT (n0 + 1), ptrT n0, ptrT (n0 + 1 + 1)].toArray]) :: (n0 + 1, Ch.row 71 0 0 [.func (.func g) [].toArray vb.toArray]) :: (n0, Ch.row 3 0 0 [.int .i64 (N : Int)]) :: X)) (n0 + 1 + 1 + 1) H4 := hH4.perm (by
    refine List.Perm.symm (List.Perm.trans List.perm_middle (.cons _ (List.Perm.trans List.perm_middle (.cons _ List.perm_middle)))))
  have hJ2 := hmono _ _ _ ((n0 + 1 + 1, Ch.row 71 0 0 [.func (.func 88) [].toArray [ptrT (n0 + 1), ptrT n0, ptrT (n0 + 1 + 1)].toArray]) :: (n0 + 1, Ch.row 71 0 0 [.func (.func g) [].toArray vb.toArray]) :: (n0, Ch.row 3 0 0 [.int .i64 (N : Int)]) :: X) hJ fun q hq => .tail _ (.tail _ (.tail _ hq))
  refine WR.callV (by first | exact gN | exact gS rfl) rfl rfl rfl (put_fs (bn := n0) (be := n0 + 1) (bp := n0 + 1 + 1) (N := N) (g := g) (vb := vb) hN (.tail _ (.tail _ (.head _))) (.tail _ (.head _)) (.head _) hmono
    (fun z zs Mc X' u n' H' k1 k2 k3 k4 k5 k6 => hy z zs Mc X' u n' H' k1 k2 k3 k4 (fun q hq => k5 _ (.tail _ (.tail _ (.tail _ hq)))) k6) N (l := []) (zs := []) (by simp) ⟨List.nodup_nil, fun x hx => by cases hx⟩ (by rw [List.append_nil]; exact hJ2) (.inl ⟨rfl, rfl⟩) (fun q hq => hq) hH5) ?_
  rintro _ H6 ⟨Mc6, X6, n6, hn6, hX6, hJ6, hH6⟩
  repeat' (first | refine zP ?_ | refine zA ?_ | (refine zM ?_; intro _ _) | refine zX ?_ | (refine zC ?_; intro _ _ _ _) | (refine zS ?_; intro _ _) | (apply Ws <;> intro hg))
  exact Ends.end0 ⟨Mc6, X6, n6, by omega, fun q hq => hX6 _ (.tail _ (.tail _ (.tail _ hq))), hJ6, hH6⟩
end
end Go.Proofs.Yteopjpfhhekkoaa.Tt

/- The fewest sales that have to be left out. -/
namespace Go.Proofs.Yteopjpfhhekkoaa.Tt
open Go Go.Abs Go.Mth
set_option linter.unusedVariables false
set_option linter.unusedSimpArgs false
def outK (s k : Nat) : List Nat := (List.range k).filter fun i => s.testBit i
def keepK (s k : Nat) : List Nat := (List.range k).filter fun i => !s.testBit i
theorem outK_len (s k : Nat) : (outK s k).length ≤ k := Nat.le_trans (List.length_filter_le _ _) (by simp)
theorem outK_lt {s k : Nat} : ∀ x ∈ outK s k, x < k := fun x hx => List.mem_range.1 (List.mem_filter.1 hx).1
theorem mem_keepK {s k x : Nat} : x ∈ keepK s k ↔ x < k ∧ s.testBit x = false := by simp [keepK]
/-- The costs of some. -/
def pickR (P : List (List Int)) (K : List Nat) (a : Nat) : List Int := K.map fun b => (P.getD a []).getD b 0
def pickP (P : List (List Int)) (K : List Nat) : List (List Int) := K.map (pickR P K)
theorem pickR_len (P : List (List Int)) (K : List Nat) (a : Nat) : (pickR P K a).length = K.length := by simp [pickR]
theorem pickP_len (P : List (List Int)) (K : List Nat) : (pickP P K).length = K.length := by simp [pickP]
theorem pickP_get {P : List (List Int)} {K : List Nat} {i : Nat} (h : i < K.length) : (pickP P K).getD i [] = pickR P K (K.getD i 0) := by
  rw [getD_eq (by rw [pickP_len]; exact h), getD_eq h]; simp [pickP]
theorem pickR_get {P : List (List Int)} {K : List Nat} {a j : Nat} (h : j < K.length) : (pickR P K a).getD j 0 = (P.getD a []).getD (K.getD j 0) 0 := by
  rw [getD_eq (by rw [pickR_len]; exact h), getD_eq h]; simp [pickR]
theorem SqP.pick {P : List (List Int)} {K : List Nat} (h : SqP P) (hK : K.length ≤ 6) : SqP (pickP P K) := by
  refine ⟨by rw [pickP_len]; exact hK, fun i hi => ?_, fun i j => ?_⟩
  · rw [pickP_len] at hi ⊢; rw [pickP_get hi, pickR_len]
  · by_cases hi : i < K.length
    · rw [pickP_get hi]
      by_cases hj : j < K.length
      · rw [pickR_get hj]; exact h.bd _ _
      · rw [List.getD_eq_getElem?_getD (l := pickR _ _ _), List.getElem?_eq_none (by rw [pickR_len]; omega)]; decide
    · rw [List.getD_eq_getElem?_getD (l := pickP P K), List.getElem?_eq_none (by rw [pickP_len]; omega)]; simp
/-- Some of the sales. -/
def pickS (S : List Sal) (K : List Nat) : List Sal := K.map fun i => S.getD i noSal
theorem pickS_len (S : List Sal) (K : List Nat) : (pickS S K).length = K.length := by simp [pickS]
theorem pickS_get {S : List Sal} {K : List Nat} {i : Nat} (h : i < K.length) : (pickS S K).getD i noSal = S.getD (K.getD i 0) noSal := by
  rw [getD_eq (by rw [pickS_len]; exact h), getD_eq h]; simp [pickS]
theorem OKS.pick {g : Nat} {S : List Sal} {K : List Nat} (h : OKS g S) (hK : ∀ x ∈ K, x < S.length) (hl : K.length ≤ 6) : OKS g (pickS S K) := by
  have key : ∀ i, i < (pickS S K).length → (pickS S K).getD i noSal = S.getD (K.getD i 0) noSal ∧ K.getD i 0 < S.length := fun i hi => by
    rw [pickS_len] at hi
    exact ⟨pickS_get hi, hK _ (getD_mem hi)⟩
  refine ⟨h.g1, h.g3, by rw [pickS_len]; exact hl, fun i hi => ?_, fun i hi => ?_, fun i hi => ?_, fun i hi => ?_⟩ <;> obtain ⟨k1, k2⟩ := key i hi <;> rw [k1]
  · exact h.lp _ k2
  · exact h.lt _ k2
  · exact h.bp _ k2
  · exact h.bt _ k2
/-- Without a set the others are of one taste. -/
def okW (P : List (List Int)) (s : Nat) : Bool := tasteB (pickP P (keepK s P.length))
def WrongP (P : List (List Int)) (l : List Nat) : Prop := ∃ s, s < 2 ^ P.length ∧ okW P s = true ∧ l = outK s P.length
def BestW (P : List (List Int)) (l : List Nat) : Prop := LeastP (WrongP P) l
/-- The best of those before a number, or of what was there. -/
structure WInv (P : List (List Int)) (k : Nat) (l : List Nat) : Prop where
  is : WrongP P l
  no : ∀ s, s < k → okW P s = true → ¬ ordN (outK s P.length) l
theorem ordN_trans_not {a b c : List Nat} (h : ordN a b) (k : ¬ ordN c b) : ¬ ordN c a := by
  intro q
  apply k
  rcases q with q | ⟨q1, q2⟩ <;> rcases h with h | ⟨h1, h2⟩
  · exact .inl (by omega)
  · exact .inl (by omega)
  · exact .inl (by omega)
  · refine .inr ⟨by omega, ?_⟩
    rw [← lexN_C] at q2 h2 ⊢
    exact lex_trans _ _ _ q2 h2
theorem full_all {n : Nat} : ∀ i, i < n → (2 ^ n - 1).testBit i = true := fun i hi => by
  rw [Nat.testBit_two_pow_sub_one]; simpa using hi
theorem keep_full (n : Nat) : keepK (2 ^ n - 1) n = [] := by
  rw [List.eq_nil_iff_forall_not_mem]
  intro x hx
  obtain ⟨h1, h2⟩ := mem_keepK.1 hx
  rw [full_all x h1] at h2; cases h2
theorem WInv.zero (P : List (List Int)) : WInv P 0 (outK (2 ^ P.length - 1) P.length) :=
  ⟨⟨_, Nat.sub_lt (Nat.two_pow_pos _) (by omega), by rw [okW, keep_full]; rfl, rfl⟩, fun s h => absurd h (Nat.not_lt_zero _)⟩
theorem WInv.take {P : List (List Int)} {k : Nat} {l : List Nat} (h : WInv P k l) (hk : k < 2 ^ P.length) (hok : okW P k = true) (ho : ordN (outK k P.length) l) : WInv P (k + 1) (outK k P.length) := by
  refine ⟨⟨k, hk, hok, rfl⟩, fun s hs hsk => ?_⟩
  by_cases e : s = k
  · rw [e]; exact ordN_irr _
  · exact ordN_trans_not ho (h.no s (by omega) hsk)
theorem WInv.skip {P : List (List Int)} {k : Nat} {l : List Nat} (h : WInv P k l) (ho : ¬ (okW P k = true ∧ ordN (outK k P.length) l)) : WInv P (k + 1) l := by
  refine ⟨h.is, fun s hs hsk => ?_⟩
  by_cases e : s = k
  · rw [e] at hsk ⊢; exact fun q => ho ⟨hsk, q⟩
  · exact h.no s (by omega) hsk
theorem out_ge {P : List (List Int)} {l : List Nat} (h : WrongP P l) : ¬ ordN (outK (2 ^ P.length - 1) P.length) l := by
  obtain ⟨s, hs, _, rfl⟩ := h
  have hfull : outK (2 ^ P.length - 1) P.length = List.range P.length := List.filter_eq_self.2 fun x hx => full_all x (List.mem_range.1 hx)
  rw [hfull]
  intro q
  have hle := outK_len s P.length
  rcases q with q | ⟨q1, q2⟩
  · rw [List.length_range] at q; omega
  · rw [List.length_range] at q1
    have : outK s P.length = List.range P.length := by
      have hsub : (outK s P.length).Sublist (List.range P.length) := List.filter_sublist
      exact hsub.eq_of_length (by rw [List.length_range]; omega)
    rw [this] at q2
    exact lexN_irr _ q2
theorem WInv.fin {P : List (List Int)} {l : List Nat} (h : WInv P (2 ^ P.length - 1) l) : BestW P l := by
  refine ⟨h.is, fun m ⟨s, hs, hok, hm⟩ => ?_⟩
  by_cases e : s = 2 ^ P.length - 1
  · rw [hm, e]; exact out_ge h.is
  · rw [hm]; exact h.no s (by omega) hok
theorem WInv.fin' {P : List (List Int)} {l : List Nat} (h : WInv P (2 ^ P.length) l) : BestW P l :=
  ⟨h.is, fun m ⟨s, hs, hok, hm⟩ => by rw [hm]; exact h.no s hs hok⟩
theorem WrongP.len {P : List (List Int)} {l : List Nat} (h : WrongP P l) : l.length ≤ P.length ∧ ∀ x ∈ l, x < P.length := by
  obtain ⟨s, _, _, rfl⟩ := h
  exact ⟨outK_len _ _, outK_lt⟩
structure DV where
  k : Nat
  a : Value
  b : Value
  Ma : HL
  Mb : HL
  n : Nat
structure WV where
  k : Nat
  v : Value
  l : List Nat
  Mx : HL
  n : Nat
end Go.Proofs.Yteopjpfhhekkoaa.Tt

/- divide, only, isBefore, wrong, Wrong. -/
namespace Go.Proofs.Yteopjpfhhekkoaa.Tt
open Go Go.Abs Go.Mth
set_option linter.unusedVariables false
set_option linter.unusedSimpArgs false
attribute [local irreducible] gOK WS WC WR WD Ends FS YS OpV seqK blockK loopK midK retK rdK asgK rangeEnd sat Cell
section
variable {M : HL} {n0 : Nat} {H : Heap} {v w : Value}
/-- What Wrong returns. -/
def WrongOut (M : HL) (g : Int) (S : List Sal) (e : Value) : Prop := ∃ u, e = .tuple #[u, .int .i64 (errS g S)] ∧ one u = true ∧ ((errS g S = 0 ∧ ∃ l, BestW (matS S) l ∧ Sl M 1 u (nodes l)) ∨ (errS g S ≠ 0 ∧ u = .slice none 0 0))
theorem WrongOut.ok {M : HL} {g : Nat} {S : List Sal} {e : Value} (hok : OKS g S) (h : WrongOut M g S e) : ∃ u l, one u = true ∧ BestW (matS S) l ∧ Sl M 1 u (nodes l) ∧ e = .tuple #[u, .int .i64 0] := by
  obtain ⟨u, he, hu, ⟨_, l, k1, k2⟩ | ⟨k1, _⟩⟩ := h
  · rw [err0 hok] at he; exact ⟨u, l, hu, k1, k2, he⟩
  · exact absurd (err0 hok) k1
end
end Go.Proofs.Yteopjpfhhekkoaa.Tt

/- TasteLeft. -/
namespace Go.Proofs.Yteopjpfhhekkoaa.Tt
open Go Go.Abs Go.Mth
set_option linter.unusedVariables false
set_option linter.unusedSimpArgs false
structure LV where
  k : Nat
  v : Value
  l : List Nat
  f : Bool
  Mx : HL
  n : Nat
structure LI where
  k : Nat
  a : Value
  b : Value
  ws : List (Value × Value)
  Ma : HL
  Mb : HL
  n : Nat
/-- The best so far, if there is one. -/
def LInv (P : List (List Int)) (k : Nat) (f : Bool) (l : List Nat) : Prop := (f = false ∧ l = [] ∧ ∀ s, s < k → okW P s = false) ∨ (f = true ∧ WInv P k l)
theorem LInv.skip {P : List (List Int)} {k : Nat} {f : Bool} {l : List Nat} (h : LInv P k f l) (hok : okW P k = false) : LInv P (k + 1) f l := by
  rcases h with ⟨h1, h2, h3⟩ | ⟨h1, h2⟩
  · refine .inl ⟨h1, h2, fun s hs => ?_⟩
    by_cases e : s = k
    · rw [e]; exact hok
    · exact h3 s (by omega)
  · exact .inr ⟨h1, h2.skip fun q => by rw [hok] at q; cases q.1⟩
theorem LInv.first {P : List (List Int)} {k : Nat} {l : List Nat} (h : LInv P k false l) (hk : k < 2 ^ P.length) (hok : okW P k = true) : LInv P (k + 1) true (outK k P.length) := by
  rcases h with ⟨_, _, h3⟩ | ⟨h1, _⟩
  · refine .inr ⟨rfl, ⟨k, hk, hok, rfl⟩, fun s hs hsk => ?_⟩
    by_cases e : s = k
    · rw [e]; exact ordN_irr _
    · rw [h3 s (by omega)] at hsk; cases hsk
  · cases h1
theorem LInv.take {P : List (List Int)} {k : Nat} {l : List Nat} (h : LInv P k true l) (hk : k < 2 ^ P.length) (hok : okW P k = true) (ho : ordN (outK k P.length) l) : LInv P (k + 1) true (outK k P.length) := by
  rcases h with ⟨h1, _⟩ | ⟨_, h2⟩
  · cases h1
  · exact .inr ⟨rfl, h2.take hk hok ho⟩
theorem LInv.keep {P : List (List Int)} {k : Nat} {l : List Nat} (h : LInv P k true l) (ho : ¬ ordN (outK k P.length) l) : LInv P (k + 1) true l := by
  rcases h with ⟨h1, _⟩ | ⟨_, h2⟩
  · cases h1
  · exact .inr ⟨rfl, h2.skip fun q => ho q.2⟩
theorem LInv.fin {P : List (List Int)} {f : Bool} {l : List Nat} (h : LInv P (2 ^ P.length) f l) : BestW P l := by
  rcases h with ⟨_, _, h3⟩ | ⟨_, h2⟩
  · have := h3 (2 ^ P.length - 1) (Nat.sub_lt (Nat.two_pow_pos _) (by omega))
    rw [okW, keep_full] at this; cases this
  · exact h2.fin'
theorem LInv.len {P : List (List Int)} {k : Nat} {f : Bool} {l : List Nat} (h : LInv P k f l) : l.length ≤ P.length := by
  rcases h with ⟨_, rfl, _⟩ | ⟨_, h⟩
  · exact Nat.zero_le _
  · exact h.is.len.1
theorem BestW.unique {P : List (List Int)} {l m : List Nat} (h : BestW P l) (k : BestW P m) : l = m := LeastP.unique h k
end Go.Proofs.Yteopjpfhhekkoaa.Tt

/- Proves; TasteRinged's closure. -/
namespace Go.Proofs.Yteopjpfhhekkoaa.Tt
open Go Go.Abs Go.Mth
set_option linter.unusedVariables false
set_option linter.unusedSimpArgs false
theorem flatB_len {α β : Type} {f : α → List β} {B : Nat} : ∀ {xs : List α}, (∀ x ∈ xs, (f x).length ≤ B) → (xs.flatMap f).length ≤ xs.length * B
  | [], _ => by simp
  | x :: xs, h => by
    have h1 := h x (.head _)
    have h2 := flatB_len (f := f) (B := B) (xs := xs) fun y hy => h y (.tail _ hy)
    rw [List.flatMap_cons, List.length_append, List.length_cons, Nat.succ_mul]; omega
theorem preL_len {n : Nat} (hn : n ≤ 6) : ∀ (r : Nat) (l : List Nat), (preL n r l).length ≤ 7 ^ (r + 1)
  | 0, l => by unfold preL; split <;> simp
  | r + 1, l => by
    have h1 : (((List.range n).filter fun x => !decide (x ∈ l)).flatMap fun x => preL n r (l ++ [x])).length ≤ ((List.range n).filter fun x => !decide (x ∈ l)).length * 7 ^ (r + 1) := flatB_len fun x _ => preL_len hn r _
    have h2 : ((List.range n).filter fun x => !decide (x ∈ l)).length ≤ 6 := Nat.le_trans (List.length_filter_le _ _) (by simpa using hn)
    have h3 := Nat.mul_le_mul_right (7 ^ (r + 1)) h2
    have h4 : 1 ≤ 7 ^ (r + 1) := Nat.one_le_pow _ _ (by omega)
    have h5 : (if l = [] then [] else [l]).length ≤ 1 := by split <;> simp
    have h6 : 7 ^ (r + 1 + 1) = 7 ^ (r + 1) * 7 := Nat.pow_succ _ _
    unfold preL
    rw [List.length_append]; omega
/-- A list that closes is a chain. -/
theorem clos_chain {D : Nat → Nat → Int} {n : Nat} {l : List Nat} (h0 : l ≠ []) (hd : Dis n l) (h : closB D l = true) : Chain (gD D) n l := by
  refine chain_iff.2 ⟨h0, hd, chB_iff.2 fun j hj => ?_⟩
  have h1 : cycB D l = true := by unfold closB at h; exact (Bool.and_eq_true _ _ ▸ h).1
  have h2 := List.all_eq_true.1 h1 j (List.mem_range.2 (by omega))
  rw [Bool.and_eq_true, decide_eq_true_eq, decide_eq_true_eq] at h2
  have h3 : nxtE l j = l.getD (j + 1) 0 := by unfold nxtE; rw [Nat.mod_eq_of_lt hj]
  rw [h3] at h2; exact h2.2
/-- The first of the shortest ones that close, of a list of lists. -/
def BestK (D : Nat → Nat → Int) (ds : List (List Nat)) : Option (List Nat) → Prop
  | none => ∀ d ∈ ds, ¬ closL D d
  | some m => m ∈ ds ∧ closL D m ∧ ∀ d ∈ ds, closL D d → ¬ ordN d m
theorem BestK.skip {D : Nat → Nat → Int} {ds : List (List Nat)} {z : List Nat} {bo : Option (List Nat)} (h : BestK D ds bo) (hz : ¬ closL D z) : BestK D (ds ++ [z]) bo := by
  cases bo with
  | none =>
    intro d hd
    rcases List.mem_append.1 hd with hd | hd
    · exact h d hd
    · rw [List.mem_singleton.1 hd]; exact hz
  | some m =>
    refine ⟨List.mem_append_left _ h.1, h.2.1, fun d hd hc => ?_⟩
    rcases List.mem_append.1 hd with hd | hd
    · exact h.2.2 d hd hc
    · rw [List.mem_singleton.1 hd] at hc; exact absurd hc hz
theorem BestK.first {D : Nat → Nat → Int} {ds : List (List Nat)} {z : List Nat} (h : BestK D ds none) (hz : closL D z) : BestK D (ds ++ [z]) (some z) := by
  refine ⟨by simp, hz, fun d hd hc => ?_⟩
  rcases List.mem_append.1 hd with hd | hd
  · exact absurd hc (h d hd)
  · rw [List.mem_singleton.1 hd]; exact ordN_irr _
theorem BestK.up {D : Nat → Nat → Int} {ds : List (List Nat)} {z m : List Nat} (h : BestK D ds (some m)) (hz : closL D z) (ho : ordN z m) : BestK D (ds ++ [z]) (some z) := by
  refine ⟨by simp, hz, fun d hd hc => ?_⟩
  rcases List.mem_append.1 hd with hd | hd
  · exact ordN_trans_not ho (h.2.2 d hd hc)
  · rw [List.mem_singleton.1 hd]; exact ordN_irr _
theorem BestK.stay {D : Nat → Nat → Int} {ds : List (List Nat)} {z m : List Nat} (h : BestK D ds (some m)) (ho : ¬ ordN z m) : BestK D (ds ++ [z]) (some m) := by
  refine ⟨List.mem_append_left _ h.1, h.2.1, fun d hd hc => ?_⟩
  rcases List.mem_append.1 hd with hd | hd
  · exact h.2.2 d hd hc
  · rw [List.mem_singleton.1 hd]; exact ho
theorem BestK.all {P : List (List Int)} {n : Nat} (hn : P.length = n) {bo : Option (List Nat)} (h : BestK (DP P) (preL n n []) bo) : firstRing P = bo := by
  subst hn
  have hk : ∀ m, (Chain (gD (DP P)) P.length m ∧ closB (DP P) m = true) ↔ (m ∈ preL P.length P.length [] ∧ closL (DP P) m) := fun m => by
    rw [mem_pre]
    exact ⟨fun ⟨k1, k2⟩ => ⟨⟨(chain_iff.1 k1).1, (chain_iff.1 k1).2.1⟩, (chain_iff.1 k1).2.1.1, k2⟩, fun ⟨⟨k1, k2⟩, k3⟩ => ⟨clos_chain k1 k2 k3.2, k3.2⟩⟩
  cases hf : firstRing P with
  | none =>
    cases bo with
    | none => rfl
    | some m =>
      have := List.find?_eq_none.1 hf m (mem_allC.2 ((hk m).2 ⟨h.1, h.2.1⟩).1)
      exact absurd ((hk m).2 ⟨h.1, h.2.1⟩).2 this
  | some z =>
    have hz := firstRing_least hf
    cases bo with
    | none => exact absurd ((hk z).1 hz.1).2 (h z ((hk z).1 hz.1).1)
    | some m =>
      have hm : LeastP (fun m => Chain (gD (DP P)) P.length m ∧ closB (DP P) m = true) m := ⟨(hk m).2 ⟨h.1, h.2.1⟩, fun d hd => h.2.2 d ((hk d).1 hd).1 ((hk d).1 hd).2⟩
      rw [LeastP.unique hz hm]
attribute [local irreducible] gOK WS WC WR WD Ends FS YS OpV seqK blockK loopK midK retK rdK asgK rangeEnd sat Cell
section
variable {M : HL} {n0 : Nat} {H : Heap} {v w u : Value}
theorem isIndex_fs (hH : hasH M n0 H) {S : List Sal} (hS : SalesI M v S) (a : Int) :
    FS C 79 [.int .i64 a, v] H (fun e H' => H' = H ∧ e = .bool (decide (0 ≤ a ∧ a < (S.length : Int)))) := by
  obtain ⟨ws0, hV0, hwl0, hrow0⟩ := hS.at
  refine FS.intro (pf := pf79) rfl rfl rfl ?_
  repeat' (first | refine zP ?_ | refine zA ?_ | (refine zM ?_; intro _ _) | refine zX ?_ | (refine zC ?_; intro _ _ _ _) | (refine zS ?_; intro _ _))
  by_cases h1 : 0 ≤ a
  · repeat' (first | refine zP ?_ | refine zA ?_ | (refine zM ?_; intro _ _) | refine zX ?_ | (refine zC ?_; intro _ _ _ _) | (refine zS ?_; intro _ _) | refine zO ?_ | (apply Ws <;> intro hg))
    refine WR.op (by first | exact gN | exact gS rfl) rfl (OpV.lenK pairV_len (by decide) rfl hV0) ?_
    rw [hwl0]
    repeat' (first | refine zP ?_ | refine zA ?_ | (refine zM ?_; intro _ _) | refine zX ?_ | (refine zC ?_; intro _ _ _ _) | (refine zS ?_; intro _ _) | (apply Ws <;> intro hg))
    exact Ends.ret1 rfl ⟨rfl, by congr 1; rw [decide_eq_decide]; exact ⟨fun h => ⟨h1, h⟩, fun h => h.2⟩⟩
  · repeat' (first | refine zP ?_ | refine zA ?_ | (refine zM ?_; intro _ _) | refine zX ?_ | (refine zC ?_; intro _ _ _ _) | (refine zS ?_; intro _ _) | refine zO ?_ | (apply Ws <;> intro hg))
    exact Ends.ret1 rfl ⟨rfl, by rw [decide_eq_false fun h => h1 h.1]⟩
theorem Proves_fs (hH : hasH M n0 H) {g : Nat} {S : List Sal} (hok : OKS g S) (hS : SalesI M v S) {l : List Nat} (hL : Sl M 1 w (nodes l)) (hd : Dis S.length l) :
    FS C 34 [.int .i64 (g : Int), v, w] H (fun e H' => ∃ n' M2, n0 ≤ n' ∧ hasH (M2 ++ M) n' H' ∧ e = .int .i64 (if closB (DP (matS S)) l then 0 else 14)) := by
  have hlen := hok.len
  have h0 := err0 hok
  have hl := hd.len
  have hml := matS_len S
  refine FS.intro (pf := pf34) rfl rfl rfl ?_
  repeat' (first | refine zP ?_ | refine zA ?_ | (refine zM ?_; intro _ _) | refine zX ?_ | (refine zC ?_; intro _ _ _ _) | (refine zS ?_; intro _ _) | (apply Ws <;> intro hg))
  refine WR.call (by first | exact gN | exact gS rfl) rfl rfl (reckon_fs hH hS hok.lens g) ?_
  rintro _ H2 ⟨n2, M2, c, hn2, hH2, hu, rfl, ⟨he, rfl⟩ | ⟨_, _, hP, hR⟩⟩
  · exact absurd h0 he
  · clear hH
    rw [h0]
    replace hS := hS.mono (M' := M2 ++ M) fun q hq => List.mem_append_right _ hq
    replace hL := hL.mono (M' := M2 ++ M) fun q hq => List.mem_append_right _ hq
    repeat' (first | refine zP ?_ | refine zA ?_ | (refine zM ?_; intro _ _) | refine zX ?_ | (refine zC ?_; intro _ _ _ _) | (refine zS ?_; intro _ _) | refine zO ?_ | (apply Ws <;> intro hg))
    refine WC.loopX [(0, _), (1, _), (2, _), (7, _), (20, _), (21, .int .i64 (l.length : Int))] (fun k : Nat => [(22, .int .i64 (k : Int))]) [] (fun k H' => H' = H2 ∧ k ≤ l.length) (fun k => l.length - k) 0 (by repeat' (first | exact .nil | refine .cons rfl ?_)) rfl ⟨rfl, Nat.zero_le _⟩ ?_
    rintro k H3 ⟨rfl, hk⟩
    dsimp only [List.cons_append, List.nil_append]
    repeat' (first | refine zP ?_ | refine zA ?_ | (refine zM ?_; intro _ _) | refine zX ?_ | (refine zC ?_; intro _ _ _ _) | (refine zS ?_; intro _ _) | (apply Ws <;> intro hg))
    refine WC.condP rfl (fun hltk => ?_) (fun hltk => ?_)
    · have hk' : k < l.length := by omega
      have ha := hd.2 _ (getD_mem (a := 0) hk')
      have hnm : l.getD k 0 ∉ l.take k := nodup_at.1 hd.1 k hk'
      repeat' (first | refine zP ?_ | refine zA ?_ | (refine zM ?_; intro _ _) | refine zX ?_ | (refine zC ?_; intro _ _ _ _) | (refine zS ?_; intro _ _) | (apply Ws <;> intro hg))
      refine WR.call (by first | exact gN | exact gS rfl) rfl rfl (isIndex_fs hH2 hS _) ?_
      rintro _ _ ⟨rfl, rfl⟩
      rw [decide_eq_true (show 0 ≤ ((l.getD k 0 : Nat) : Int) ∧ ((l.getD k 0 : Nat) : Int) < (S.length : Int) by omega)]
      repeat' (first | refine zP ?_ | refine zA ?_ | (refine zM ?_; intro _ _) | refine zX ?_ | (refine zC ?_; intro _ _ _ _) | (refine zS ?_; intro _ _) | (apply Ws <;> intro hg))
      refine WR.cutHiN (by first | exact gN | exact gS rfl) rfl rfl hL rfl (by omega) fun w2 hW => ?_
      repeat' (first | refine zP ?_ | refine zA ?_ | (refine zM ?_; intro _ _) | refine zX ?_ | (refine zC ?_; intro _ _ _ _) | (refine zS ?_; intro _ _) | (apply Ws <;> intro hg))
      refine WR.call (by first | exact gN | exact gS rfl) rfl rfl (Contains_fs hH2 hW (by rw [List.length_take]; omega) _) ?_
      rintro _ _ ⟨rfl, rfl⟩
      rw [decide_eq_false hnm]
      repeat' (first | refine zP ?_ | refine zA ?_ | (refine zM ?_; intro _ _) | refine zX ?_ | (refine zC ?_; intro _ _ _ _) | (refine zS ?_; intro _ _) | (apply Ws <;> intro hg))
      exact Ends.loop (k + 1) (by omega) (by repeat' (first | exact .nil | refine .cons rfl ?_)) rfl ⟨rfl, by omega⟩
    · repeat' (first | refine zP ?_ | refine zA ?_ | (refine zM ?_; intro _ _) | refine zX ?_ | (refine zC ?_; intro _ _ _ _) | (refine zS ?_; intro _ _) | (apply Ws <;> intro hg))
      refine WR.call (by first | exact gN | exact gS rfl) rfl rfl (isRing_fs hH2 hP hR hL (by omega) (by rw [hml]; exact hd.2)) ?_
      rintro _ _ ⟨rfl, rfl⟩
      cases hc : closB (DP (matS S)) l with
      | true =>
        repeat' (first | refine zP ?_ | refine zA ?_ | (refine zM ?_; intro _ _) | refine zX ?_ | (refine zC ?_; intro _ _ _ _) | (refine zS ?_; intro _ _) | (apply Ws <;> intro hg))
        exact Ends.ret1 rfl ⟨n2, M2, hn2, hH2, rfl⟩
      | false =>
        repeat' (first | refine zP ?_ | refine zA ?_ | (refine zM ?_; intro _ _) | refine zX ?_ | (refine zC ?_; intro _ _ _ _) | (refine zS ?_; intro _ _) | (apply Ws <;> intro hg))
        exact Ends.ret1 rfl ⟨n2, M2, hn2, hH2, rfl⟩
end
end Go.Proofs.Yteopjpfhhekkoaa.Tt

/- TasteRinged's closure. -/
namespace Go.Proofs.Yteopjpfhhekkoaa.Tt
open Go Go.Abs Go.Mth
set_option linter.unusedVariables false
set_option linter.unusedSimpArgs false
/-- A list that there may be. -/
def OptV (M : HL) (v : Value) : Option (List Nat) → Prop
  | none => v = .slice none 0 0
  | some m => m ≠ [] ∧ LstV M v (nodes m)
theorem OptV.mono {M M' : HL} {v : Value} {bo : Option (List Nat)} (h : OptV M v bo) (k : ∀ q ∈ M, q ∈ M') : OptV M' v bo := by
  cases bo with
  | none => exact h
  | some m => exact ⟨h.1, h.2.mono k⟩
theorem OptV.one_ {M : HL} {v : Value} {bo : Option (List Nat)} (h : OptV M v bo) : one v = true := by
  cases bo with
  | none => rw [show v = .slice none 0 0 from h]; rfl
  | some m => exact h.2.one_
theorem OptV.shape {M : HL} {v : Value} {m : List Nat} (h : OptV M v (some m)) : ∃ b o u c, v = .slice (some ⟨b, o, some u⟩) m.length c ∧ Sl M 1 v (nodes m) := by
  have hs := h.2.sl
  rcases h.2 with ⟨h0, _⟩ | ⟨_, b, o, u, cap, rfl, _⟩
  · exact absurd (by simpa [nodes] using h0) h.1
  · exact ⟨b, o, u, cap, by simp [nodes], hs⟩
attribute [local irreducible] gOK WS WC WR WD Ends FS YS OpV seqK blockK loopK midK retK rdK asgK rangeEnd sat Cell
section
variable {M : HL} {n0 : Nat} {H : Heap} {v w u : Value}
set_option maxHeartbeats 4000000 in
theorem ringed1_fs {g : Nat} {S : List Sal} (hok : OKS g S) {xs : List Nat} (hl : xs.length = 39) (hb : ∀ x ∈ xs, x ≤ 255) {bS bB bK bH bG bg kk : Nat} {vb : Value} {X : HL} {bo : Option (List Nat)} {ds : List (List Nat)} (hkk : kk ≤ 1000000) (hS : SalesI X v S)
    (hmS : (bS, Ch.row 22 0 0 [v]) ∈ X) (hmH : (bH, Ch.row 61 0 0 (numsK .u8 xs)) ∈ X) (hmg : (bg, Ch.row 3 0 0 [.int .i64 (g : Int)]) ∈ X)
    (hB : BestK (DP (matS S)) ds bo) (hvb : OptV X vb bo) (hdsD : ∀ m ∈ ds, Dis S.length m) {z : List Nat} (hz0 : z ≠ []) (hzd : Dis S.length z) (hZ : LstV X w (nodes z))
    (hH : hasH ((bK, .row 3 0 0 [.int .i64 (kk : Int)]) :: (bG, .row 4 0 0 [.bool true]) :: (bB, .row 39 0 0 [vb]) :: X) n0 H) :
    FS C 48 ([] ++ [w] ++ [ptrT bS, ptrT bB, ptrT bK, ptrT bH, ptrT bG, ptrT bg]) H (fun _ H2 => ∃ n2 vb2 bo2, n0 ≤ n2 ∧ BestK (DP (matS S)) (ds ++ [z]) bo2 ∧ OptV X vb2 bo2 ∧
      hasH ((bK, .row 3 0 0 [.int .i64 ((kk + 1 : Nat) : Int)]) :: (bG, .row 4 0 0 [.bool true]) :: (bB, .row 39 0 0 [vb2]) :: X) n2 H2) := by
  have hlen := hok.len
  have hzl := hzd.len
  have hz1 : 0 < z.length := List.length_pos_iff.2 hz0
  have hv := hS.one_
  have hw := hZ.one_
  have hone : (numsK .u8 xs).all one = true := by rw [List.all_eq_true]; intro q hq; obtain ⟨z, _, rfl⟩ := List.mem_map.1 hq; rfl
  obtain ⟨bz, oz, uz, cz, hwe, hSz⟩ := OptV.shape (v := w) (m := z) ⟨hz0, hZ⟩
  have hmS2 : (bS, Ch.row 22 0 0 [v]) ∈ (bK, Ch.row 3 0 0 [.int .i64 (kk : Int)]) :: (bG, Ch.row 4 0 0 [.bool true]) :: (bB, Ch.row 39 0 0 [vb]) :: X := .tail _ (.tail _ (.tail _ hmS))
  have hup : ∀ {a1 a2 a3 : Nat × Ch}, ∀ q ∈ X, q ∈ a1 :: a2 :: a3 :: X := fun q hq => .tail _ (.tail _ (.tail _ hq))
  refine FS.intro (pf := pf48) rfl rfl rfl ?_
  repeat' (first | refine zP ?_ | refine zA ?_ | (refine zM ?_; intro _ _) | refine zX ?_ | (refine zC ?_; intro _ _ _ _) | (refine zS ?_; intro _ _) | (apply Ws <;> intro hg))
  refine WR.call (by first | exact gN | exact gS rfl) rfl rfl (closes_fs hH hok (hS.mono hup) (hSz.mono hup) (by omega) hzd.2) ?_
  rintro _ H1 ⟨n1, is, hn1, hH1, his, rfl⟩
  clear hH
  have hb2 := hb _ (getD_mem (a := 0) (show 2 < xs.length by omega))
  have hmHs : ∀ vv : Value, (bH, Ch.row 61 0 0 (numsK .u8 xs)) ∈ (bK, Ch.row 3 0 0 [.int .i64 ((kk : Int) + 1)]) :: (bG, Ch.row 4 0 0 [.bool true]) :: (bB, Ch.row 39 0 0 [vv]) :: X := fun vv => hup _ hmH
  have hmgs : ∀ vv : Value, (bg, Ch.row 3 0 0 [.int .i64 (g : Int)]) ∈ (bK, Ch.row 3 0 0 [.int .i64 ((kk : Int) + 1)]) :: (bG, Ch.row 4 0 0 [.bool true]) :: (bB, Ch.row 39 0 0 [vv]) :: X := fun vv => hup _ hmg
  have hmSs : ∀ vv : Value, (bS, Ch.row 22 0 0 [v]) ∈ (bK, Ch.row 3 0 0 [.int .i64 ((kk : Int) + 1)]) :: (bG, Ch.row 4 0 0 [.bool true]) :: (bB, Ch.row 39 0 0 [vv]) :: X := fun vv => hup _ hmS
  have hmHv := hmHs vb
  have hmgv := hmgs vb
  have hmSv := hmSs vb
  have hmHw := hmHs w
  have hmgw := hmgs w
  have hmSw := hmSs w
  have hvb1 := hvb.one_
  cases is with
  | false =>
    have hnc : ¬ closL (DP (matS S)) z := fun h => by have := his.2 h; cases this
    have hcb : closB (DP (matS S)) z = false := by
      cases h : closB (DP (matS S)) z with
      | false => rfl
      | true => exact absurd ⟨hzd.1, h⟩ hnc
    repeat' (first | refine zP ?_ | refine zA ?_ | (refine zM ?_; intro _ _) | refine zX ?_ | (refine zC ?_; intro _ _ _ _) | (refine zS ?_; intro _ _) | (apply Ws <;> intro hg))
    refine WR.op (by first | exact gN | exact gS rfl) rfl (OpV.conv u8k i64k rfl (c := ((xs.getD 2 0 : Nat) : Int)) (IntWalk.i64_in _ (by omega))) ?_
    repeat' (first | refine zP ?_ | refine zA ?_ | (refine zM ?_; intro _ _) | refine zX ?_ | (refine zC ?_; intro _ _ _ _) | (refine zS ?_; intro _ _) | (apply Ws <;> intro hg))
    refine WC.condP rfl (fun hmod => ?_) (fun hmod => ?_)
    · rename_i H2 hH2
      repeat' (first | refine zP ?_ | refine zA ?_ | (refine zM ?_; intro _ _) | refine zX ?_ | (refine zC ?_; intro _ _ _ _) | (refine zS ?_; intro _ _) | (apply Ws <;> intro hg))
      refine WR.call (by first | exact gN | exact gS rfl) rfl rfl (Proves_fs hH2 hok (hS.mono hup) (hSz.mono hup) hzd) ?_
      rintro _ H5 ⟨n5, M5, hn5, hH5, rfl⟩
      rw [hcb]
      have hH6 := hH5.sub (List.sublist_append_right _ _)
      clear hH5
      repeat' (first | refine zP ?_ | refine zA ?_ | (refine zM ?_; intro _ _) | refine zX ?_ | (refine zC ?_; intro _ _ _ _) | (refine zS ?_; intro _ _) | (apply Ws <;> intro hg))
      rename_i H7 hH7
      exact Ends.end0 ⟨n5, _, _, by omega, hB.skip hnc, hvb, hH7⟩
    · rename_i H2 hH2
      repeat' (first | refine zP ?_ | refine zA ?_ | (refine zM ?_; intro _ _) | refine zX ?_ | (refine zC ?_; intro _ _ _ _) | (refine zS ?_; intro _ _) | (apply Ws <;> intro hg))
      exact Ends.end0 ⟨n1, _, _, by omega, hB.skip hnc, hvb, hH2⟩
  | true =>
    have hcl := his.1 rfl
    cases bo with
    | none =>
      obtain rfl : vb = .slice none 0 0 := hvb
      repeat' (first | refine zP ?_ | refine zA ?_ | (refine zM ?_; intro _ _) | refine zX ?_ | (refine zC ?_; intro _ _ _ _) | (refine zS ?_; intro _ _) | (apply Ws <;> intro hg))
      rename_i H2 hH2 H3 hH3
      refine WR.call (by first | exact gN | exact gS rfl) rfl rfl (Proves_fs hH3 hok (hS.mono hup) (hSz.mono hup) hzd) ?_
      rintro _ H5 ⟨n5, M5, hn5, hH5, rfl⟩
      rw [hcl.2]
      have hH6 := hH5.sub (List.sublist_append_right _ _)
      clear hH5
      repeat' (first | refine zP ?_ | refine zA ?_ | (refine zM ?_; intro _ _) | refine zX ?_ | (refine zC ?_; intro _ _ _ _) | (refine zS ?_; intro _ _) | (apply Ws <;> intro hg))
      rename_i H7 hH7
      exact Ends.end0 ⟨n5, _, some z, by omega, hB.first hcl, ⟨hz0, hZ⟩, hH7⟩
    | some m =>
      obtain ⟨bm, om, um, cm, hve, hSm⟩ := OptV.shape hvb
      subst hwe hve
      have hm0 := hvb.1
      have hml : m.length ≤ 6 := by
        have h1 := hB.2.1.1
        have h2 := hdsD m hB.1
        have := h2.len; omega
      have hsame : ordN z m ↔ z.length < m.length ∨ (z.length = m.length ∧ lexC (IL z) (IL m) < 0) := by rw [lexN_C]; exact Iff.rfl
      repeat' (first | refine zP ?_ | refine zA ?_ | (refine zM ?_; intro _ _) | refine zX ?_ | (refine zC ?_; intro _ _ _ _) | (refine zS ?_; intro _ _))
      by_cases h1 : z.length < m.length
      · have h1' : (z.length : Int) < (m.length : Int) := by omega
        repeat' (first | refine zP ?_ | refine zA ?_ | (refine zM ?_; intro _ _) | refine zX ?_ | (refine zC ?_; intro _ _ _ _) | (refine zS ?_; intro _ _) | refine zO ?_ | (apply Ws <;> intro hg))
        rename_i H2 hH2 H3 hH3
        refine WR.call (by first | exact gN | exact gS rfl) rfl rfl (Proves_fs hH3 hok (hS.mono hup) (hSz.mono hup) hzd) ?_
        rintro _ H5 ⟨n5, M5, hn5, hH5, rfl⟩
        rw [hcl.2]
        have hH6 := hH5.sub (List.sublist_append_right _ _)
        clear hH5
        repeat' (first | refine zP ?_ | refine zA ?_ | (refine zM ?_; intro _ _) | refine zX ?_ | (refine zC ?_; intro _ _ _ _) | (refine zS ?_; intro _ _) | (apply Ws <;> intro hg))
        rename_i H7 hH7
        exact Ends.end0 ⟨n5, _, some z, by omega, hB.up hcl (hsame.2 (.inl h1)), ⟨hz0, hZ⟩, hH7⟩
      · have h1' : ¬ (z.length : Int) < (m.length : Int) := by omega
        by_cases h2 : z.length = m.length
        · have h2' : (z.length : Int) = (m.length : Int) := by omega
          repeat' (first | refine zP ?_ | refine zA ?_ | (refine zM ?_; intro _ _) | refine zX ?_ | (refine zC ?_; intro _ _ _ _) | (refine zS ?_; intro _ _) | refine zO ?_ | (apply Ws <;> intro hg))
          refine WR.call (by first | exact gN | exact gS rfl) rfl rfl (CompareN_fs hH1 (hSz.mono hup) (hSm.mono hup) (by omega) (by omega)) ?_
          rintro _ _ ⟨rfl, rfl⟩
          by_cases h3 : lexC (IL z) (IL m) < 0
          · repeat' (first | refine zP ?_ | refine zA ?_ | (refine zM ?_; intro _ _) | refine zX ?_ | (refine zC ?_; intro _ _ _ _) | (refine zS ?_; intro _ _) | refine zO ?_ | (apply Ws <;> intro hg))
            rename_i H2 hH2 H3 hH3
            refine WR.call (by first | exact gN | exact gS rfl) rfl rfl (Proves_fs hH3 hok (hS.mono hup) (hSz.mono hup) hzd) ?_
            rintro _ H5 ⟨n5, M5, hn5, hH5, rfl⟩
            rw [hcl.2]
            have hH6 := hH5.sub (List.sublist_append_right _ _)
            clear hH5
            repeat' (first | refine zP ?_ | refine zA ?_ | (refine zM ?_; intro _ _) | refine zX ?_ | (refine zC ?_; intro _ _ _ _) | (refine zS ?_; intro _ _) | (apply Ws <;> intro hg))
            rename_i H7 hH7
            exact Ends.end0 ⟨n5, _, some z, by omega, hB.up hcl (hsame.2 (.inr ⟨h2, h3⟩)), ⟨hz0, hZ⟩, hH7⟩
          · repeat' (first | refine zP ?_ | refine zA ?_ | (refine zM ?_; intro _ _) | refine zX ?_ | (refine zC ?_; intro _ _ _ _) | (refine zS ?_; intro _ _) | refine zO ?_ | (apply Ws <;> intro hg))
            rename_i H2 hH2
            refine WR.call (by first | exact gN | exact gS rfl) rfl rfl (Proves_fs hH2 hok (hS.mono hup) (hSz.mono hup) hzd) ?_
            rintro _ H5 ⟨n5, M5, hn5, hH5, rfl⟩
            rw [hcl.2]
            have hH6 := hH5.sub (List.sublist_append_right _ _)
            clear hH5
            repeat' (first | refine zP ?_ | refine zA ?_ | (refine zM ?_; intro _ _) | refine zX ?_ | (refine zC ?_; intro _ _ _ _) | (refine zS ?_; intro _ _) | (apply Ws <;> intro hg))
            rename_i H7 hH7
            exact Ends.end0 ⟨n5, _, some m, by omega, hB.stay (fun h => by rcases hsame.1 h with h | h; exact h1 h; exact h3 h.2), ⟨hvb.1, hvb.2⟩, hH7⟩
        · have h2' : ¬ (z.length : Int) = (m.length : Int) := by omega
          repeat' (first | refine zP ?_ | refine zA ?_ | (refine zM ?_; intro _ _) | refine zX ?_ | (refine zC ?_; intro _ _ _ _) | (refine zS ?_; intro _ _) | refine zO ?_ | (apply Ws <;> intro hg))
          rename_i H2 hH2
          refine WR.call (by first | exact gN | exact gS rfl) rfl rfl (Proves_fs hH2 hok (hS.mono hup) (hSz.mono hup) hzd) ?_
          rintro _ H5 ⟨n5, M5, hn5, hH5, rfl⟩
          rw [hcl.2]
          have hH6 := hH5.sub (List.sublist_append_right _ _)
          clear hH5
          repeat' (first | refine zP ?_ | refine zA ?_ | (refine zM ?_; intro _ _) | refine zX ?_ | (refine zC ?_; intro _ _ _ _) | (refine zS ?_; intro _ _) | (apply Ws <;> intro hg))
          rename_i H7 hH7
          exact Ends.end0 ⟨n5, _, some m, by omega, hB.stay (fun h => by rcases hsame.1 h with h | h; exact h1 h; exact h2 h.1), ⟨hvb.1, hvb.2⟩, hH7⟩
end
end Go.Proofs.Yteopjpfhhekkoaa.Tt
