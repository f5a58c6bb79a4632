/- Texts of the law, joined. -/
import Derived.Test.YteopjpfhhekkoaaJ3
import Derived.Test.YteopjpfhhekkoaaJ1
/- lead; ringed. -/
namespace Go.Proofs.Yteopjpfhhekkoaa.Tt
open Go Go.Abs Go.Mth
set_option linter.unusedVariables false
set_option linter.unusedSimpArgs false
theorem DP_cs {S : List Sal} {a b : Nat} (ha : a < S.length) (hb : b < S.length) : DP (matS S) a b = cs S a a - cs S a b := by
  unfold DP; rw [matS_get ha, rowS_get ha, rowS_get hb]
/-- A step, or none, more. -/
def StK (g : Nat → Nat → Bool) (n : Nat) : Nat → Nat → Nat → Prop
  | 0, a, b => a = b ∧ a < n
  | r + 1, a, c => ∃ b, StK g n r a b ∧ c < n ∧ g b c = true
theorem StK.rt {g : Nat → Nat → Bool} {n : Nat} : ∀ {r a b : Nat}, StK g n r a b → RT g n a b
  | 0, a, b, ⟨h1, h2⟩ => by rw [← h1]; exact .refl h2
  | r + 1, a, c, ⟨b, h1, h2, h3⟩ => .step h1.rt h3 h2
theorem StK.lt {g : Nat → Nat → Bool} {n r a b : Nat} (h : StK g n r a b) : a < n ∧ b < n := h.rt.lt
theorem StK.up {g : Nat → Nat → Bool} {n r a b : Nat} (hg : ∀ x, g x x = true) (h : StK g n r a b) : ∀ k, StK g n (r + k) a b
  | 0 => h
  | k + 1 => ⟨b, h.up hg k, h.lt.2, hg b⟩
theorem StK.of {g : Nat → Nat → Bool} {n : Nat} (hg : ∀ x, g x x = true) {a b : Nat} (h : RT g n a b) : StK g n n a b := by
  obtain ⟨l, h1, h2, h3⟩ := h.chain
  have hl := h1.len
  have key : ∀ j, j < l.length → StK g n j (l.getD 0 0) (l.getD j 0) := by
    intro j
    induction j with
    | zero => intro hj; exact ⟨rfl, h1.lt hj⟩
    | succ j ih => intro hj; exact ⟨_, ih (by omega), h1.lt hj, h1.2.2.2 j hj⟩
  have := (key (l.length - 1) (by omega)).up hg (n - (l.length - 1))
  rw [h2, h3, show l.length - 1 + (n - (l.length - 1)) = n by omega] at this
  exact this
theorem gD_self {P : List (List Int)} (x : Nat) : gD (DP P) x x = true := gD_iff.2 (by rw [DP_self]; omega)
def tg (T : List Bool) (a b : Nat) : Bool := T.getD (a * 6 + b) false
theorem tg_set {T : List Bool} {a b p q : Nat} {x : Bool} (hT : T.length = 36) (ha : a < 6) (hb : b < 6) (hp : p < 6) (hq : q < 6) : tg (T.set (a * 6 + b) x) p q = if p = a ∧ q = b then x else tg T p q := by
  unfold tg
  rw [getD_set' (by omega)]
  by_cases e : p * 6 + q = a * 6 + b
  · rw [if_pos e, if_pos (by omega)]
  · rw [if_neg e, if_neg (by omega)]
/-- A pass under way. -/
structure Pass (g : Nat → Nat → Bool) (n r : Nat) (T : List Bool) (a b c : Nat) : Prop where
  len : T.length = 36
  snd : ∀ p q, p < n → q < n → tg T p q = true → RT g n p q
  old : ∀ p q, StK g n (r + 1) p q → tg T p q = true
  new : ∀ p q s, p < n → q < n → s < n → (p < a ∨ (p = a ∧ (q < b ∨ (q = b ∧ s < c)))) → StK g n (r + 1) p q → g q s = true → tg T p s = true
theorem Pass.set {g : Nat → Nat → Bool} {n r a b c : Nat} {T : List Bool} (hg : ∀ x, g x x = true) (hn : n ≤ 6) (h : Pass g n r T a b c) (ha : a < n) (hb : b < n) (hc : c < n) :
    Pass g n r (T.set (a * 6 + c) (tg T a c || (tg T a b && tg T b c))) a b (c + 1) := by
  have hx : ∀ p q, p < n → q < n → tg (T.set (a * 6 + c) (tg T a c || (tg T a b && tg T b c))) p q = if p = a ∧ q = c then (tg T a c || (tg T a b && tg T b c)) else tg T p q := fun p q hp hq => tg_set h.len (by omega) (by omega) (by omega) (by omega)
  have hmono : ∀ p q, p < n → q < n → tg T p q = true → tg (T.set (a * 6 + c) (tg T a c || (tg T a b && tg T b c))) p q = true := fun p q hp hq ht => by
    rw [hx p q hp hq]
    by_cases e : p = a ∧ q = c
    · rw [if_pos e, ← e.1, ← e.2, ht, Bool.true_or]
    · rw [if_neg e]; exact ht
  refine ⟨by rw [List.length_set]; exact h.len, fun p q hp hq ht => ?_, fun p q hr => hmono p q hr.lt.1 hr.lt.2 (h.old p q hr), fun p q s hp hq hs hlt hr hgq => ?_⟩
  · rw [hx p q hp hq] at ht
    by_cases e : p = a ∧ q = c
    · rw [if_pos e, Bool.or_eq_true, Bool.and_eq_true] at ht
      rw [e.1, e.2]
      rcases ht with ht | ⟨k1, k2⟩
      · exact h.snd a c ha hc ht
      · exact (h.snd a b ha hb k1).trans (h.snd b c hb hc k2)
    · rw [if_neg e] at ht; exact h.snd p q hp hq ht
  · by_cases e : p = a ∧ q = b ∧ s = c
    · obtain ⟨rfl, rfl, rfl⟩ := e
      rw [hx p s hp hs, if_pos ⟨rfl, rfl⟩, h.old p q hr, h.old q s ((show StK g n 1 q s from ⟨q, ⟨rfl, hq⟩, hs, hgq⟩).up hg r |> fun k => by rwa [Nat.add_comm] at k)]
      simp
    · exact hmono p s hp hs (h.new p q s hp hq hs (by omega) hr hgq)
theorem Pass.nextB {g : Nat → Nat → Bool} {n r a b : Nat} {T : List Bool} (h : Pass g n r T a b n) : Pass g n r T a (b + 1) 0 :=
  ⟨h.len, h.snd, h.old, fun p q s hp hq hs hlt => h.new p q s hp hq hs (by omega)⟩
theorem Pass.nextA {g : Nat → Nat → Bool} {n r a : Nat} {T : List Bool} (h : Pass g n r T a n 0) : Pass g n r T (a + 1) 0 0 :=
  ⟨h.len, h.snd, h.old, fun p q s hp hq hs hlt => h.new p q s hp hq hs (by omega)⟩
theorem Pass.next {g : Nat → Nat → Bool} {n r : Nat} {T : List Bool} (h : Pass g n r T n 0 0) : Pass g n (r + 1) T 0 0 0 :=
  ⟨h.len, h.snd, fun p q ⟨b, h1, h2, h3⟩ => h.new p b q h1.lt.1 h1.lt.2 h2 (.inl h1.lt.1) h1 h3, fun p q s _ _ _ hlt => by omega⟩
theorem Pass.all {g : Nat → Nat → Bool} {n : Nat} {T : List Bool} (hg : ∀ x, g x x = true) (h : Pass g n n T 0 0 0) {p q : Nat} (hp : p < n) (hq : q < n) : tg T p q = true ↔ RT g n p q :=
  ⟨h.snd p q hp hq, fun k => h.old p q ((StK.of hg k).up hg 1)⟩
theorem Pass.zero {g : Nat → Nat → Bool} {n : Nat} {T : List Bool} (hg : ∀ x, g x x = true) (hl : T.length = 36) (h : ∀ p q, p < n → q < n → tg T p q = g p q) : Pass g n 0 T 0 0 0 := by
  refine ⟨hl, fun p q hp hq ht => ?_, fun p q ⟨b, ⟨k1, k2⟩, k3, k4⟩ => ?_, fun p q s _ _ _ hlt => by omega⟩
  · rw [h p q hp hq] at ht; exact .step (.refl hp) ht hq
  · subst k1
    rw [h p q k2 k3]; exact k4
/-- The table's first filling. -/
def Fill (g : Nat → Nat → Bool) (n : Nat) (T : List Bool) (a b : Nat) : Prop := T.length = 36 ∧ ∀ p q, p < n → q < n → (p < a ∨ (p = a ∧ q < b)) → tg T p q = g p q
theorem Fill.set {g : Nat → Nat → Bool} {n a b : Nat} {T : List Bool} (hn : n ≤ 6) (h : Fill g n T a b) (ha : a < n) (hb : b < n) : Fill g n (T.set (a * 6 + b) (g a b)) a (b + 1) := by
  refine ⟨by rw [List.length_set]; exact h.1, fun p q hp hq hlt => ?_⟩
  rw [tg_set h.1 (by omega) (by omega) (by omega) (by omega)]
  by_cases e : p = a ∧ q = b
  · rw [if_pos e, e.1, e.2]
  · rw [if_neg e]; exact h.2 p q hp hq (by omega)
structure TB where
  k : Nat
  T : List Bool
  n : Nat
attribute [local irreducible] gOK WS WC WR WD Ends FS YS OpV seqK blockK loopK midK retK rdK asgK rangeEnd sat Cell
section
variable {M : HL} {n0 : Nat} {H : Heap} {v w : Value}
set_option maxHeartbeats 1000000 in
theorem lead_fs (hH : hasH M n0 H) {g : Nat} {S : List Sal} (hok : OKS g S) {a b : Nat} (ha : a < S.length) (hb : b < S.length) {p1 t1 p2 t2 : Value} (hp1 : Sl M 1 p1 (ints (S.getD a noSal).1)) (ht1 : Sl M 1 t1 (ints (S.getD a noSal).2)) (hp2 : one p2 = true) (ht2 : Sl M 1 t2 (ints (S.getD b noSal).2)) :
    FS C 50 [.agg [p1, t1].toArray, .agg [p2, t2].toArray] H (fun e H' => ∃ n', n0 ≤ n' ∧ hasH M n' H' ∧ e = .int .i64 (DP (matS S) a b)) := by
  have hd := DP_cs ha hb
  have hda : cs S a a = dotI (S.getD a noSal).1 (S.getD a noSal).2 (S.getD a noSal).1.length := rfl
  have hdb : cs S a b = dotI (S.getD a noSal).1 (S.getD b noSal).2 (S.getD a noSal).1.length := rfl
  have hg3 := hok.g3
  have hlp := hok.lp a ha
  have hlt := hok.lt a ha
  have hlt2 := hok.lt b hb
  have hbp := hok.bp a ha
  have hbt := hok.bt a ha
  have hbt2 := hok.bt b hb
  rw [hda, hdb] at hd
  rw [hd]
  clear hda hdb hd
  generalize (S.getD a noSal).1 = pa at *
  generalize (S.getD a noSal).2 = ta at *
  generalize (S.getD b noSal).2 = tb at *
  have ho1 := hp1.one_
  have ho2 := ht1.one_
  have ho3 := ht2.one_
  refine FS.intro (pf := pf50) rfl rfl rfl ?_
  repeat' (first | refine zP ?_ | refine zA ?_ | (refine zM ?_; intro _ _) | refine zX ?_ | (refine zC ?_; intro _ _ _ _) | (refine zS ?_; intro _ _) | (apply Ws <;> intro hg))
  rename_i H1 hH1 H2 hH2
  replace hp1 := (hp1.cons (p := (n0, Ch.row 74 0 0 [p1, t1]))).cons (p := (n0 + 1, Ch.row 74 0 0 [p2, t2]))
  replace ht1 := (ht1.cons (p := (n0, Ch.row 74 0 0 [p1, t1]))).cons (p := (n0 + 1, Ch.row 74 0 0 [p2, t2]))
  replace ht2 := (ht2.cons (p := (n0, Ch.row 74 0 0 [p1, t1]))).cons (p := (n0 + 1, Ch.row 74 0 0 [p2, t2]))
  repeat' (first | refine zP ?_ | refine zA ?_ | (refine zM ?_; intro _ _) | refine zX ?_ | (refine zC ?_; intro _ _ _ _) | (refine zS ?_; intro _ _) | (apply Ws <;> intro hg))
  refine WC.loopX [(2, _), (3, _), (9, _), (10, _)] (fun k : Nat => [(5, .int .i64 (dotI pa ta k - dotI pa tb k)), (11, .int .i64 (k : Int))]) [] (fun k H' => H' = H2 ∧ k ≤ pa.length) (fun k => pa.length - k) 0 (by repeat' (first | exact .nil | refine .cons rfl ?_)) rfl ⟨rfl, Nat.zero_le _⟩ ?_
  rintro k H3 ⟨rfl, hk⟩
  dsimp only [List.cons_append, List.nil_append]
  repeat' (first | refine zP ?_ | refine zA ?_ | (refine zM ?_; intro _ _) | refine zX ?_ | (refine zC ?_; intro _ _ _ _) | (refine zS ?_; intro _ _) | (apply Ws <;> intro hg))
  refine WC.condP rfl (fun hltk => ?_) (fun hltk => ?_)
  · have hk' : k < pa.length := by omega
    have hqa := dot_bd hbp hbt k (by omega) (by omega)
    have hqb := dot_bd hbp hbt2 k (by omega) (by omega)
    have hqc := hbp _ (getD_mem (a := 0) hk')
    have hqd := hbt _ (getD_mem (a := 0) (show k < ta.length by omega))
    have hqe := hbt2 _ (getD_mem (a := 0) (show k < tb.length by omega))
    have hqf : 0 ≤ pa.getD k 0 * ta.getD k 0 := Int.mul_nonneg (by omega) hqd.1
    have hqg : pa.getD k 0 * ta.getD k 0 ≤ 9 * 9 := Int.mul_le_mul hqc.2 hqd.2 hqd.1 (by decide)
    have hqh : 0 ≤ pa.getD k 0 * tb.getD k 0 := Int.mul_nonneg (by omega) hqe.1
    have hqi : pa.getD k 0 * tb.getD k 0 ≤ 9 * 9 := Int.mul_le_mul hqc.2 hqe.2 hqe.1 (by decide)
    have hqj : pa.getD k 0 * (ta.getD k 0 - tb.getD k 0) = pa.getD k 0 * ta.getD k 0 - pa.getD k 0 * tb.getD k 0 := Int.mul_sub _ _ _
    have hqk : dotI pa ta (k + 1) = dotI pa ta k + pa.getD k 0 * ta.getD k 0 := rfl
    have hql : dotI pa tb (k + 1) = dotI pa tb k + pa.getD k 0 * tb.getD k 0 := rfl
    repeat' (first | refine zP ?_ | refine zA ?_ | (refine zM ?_; intro _ _) | refine zX ?_ | (refine zC ?_; intro _ _ _ _) | (refine zS ?_; intro _ _) | (apply Ws <;> intro hg))
    rw [show dotI pa ta k - dotI pa tb k + pa.getD k 0 * (ta.getD k 0 - tb.getD k 0) = dotI pa ta (k + 1) - dotI pa tb (k + 1) by omega]
    exact Ends.loop (k + 1) (by omega) (by repeat' (first | exact .nil | refine .cons rfl ?_)) rfl ⟨rfl, hk'⟩
  · have hkl : k = pa.length := by omega
    subst hkl
    repeat' (first | refine zP ?_ | refine zA ?_ | (refine zM ?_; intro _ _) | refine zX ?_ | (refine zC ?_; intro _ _ _ _) | (refine zS ?_; intro _ _) | (apply Ws <;> intro hg))
    exact Ends.ret1 rfl ⟨n0 + 2, by omega, hH2.tail.tail, rfl⟩
end
end Go.Proofs.Yteopjpfhhekkoaa.Tt

/- ringed. -/
namespace Go.Proofs.Yteopjpfhhekkoaa.Tt
open Go Go.Abs Go.Mth
set_option linter.unusedVariables false
set_option linter.unusedSimpArgs false
theorem SalesI.at {M : HL} {v : Value} {S : List Sal} (h : SalesI M v S) : ∃ ws : List (Value × Value), Sl M 2 v (cellsF pairV ws) ∧ ws.length = S.length ∧ (∀ i, i < S.length → Sl M 1 (ws.getD i noVal).1 (ints (S.getD i noSal).1) ∧ Sl M 1 (ws.getD i noVal).2 (ints (S.getD i noSal).2)) := h
theorem ringB {S : List Sal} {T : List Bool} (h : ∀ p q, p < S.length → q < S.length → (tg T p q = true ↔ RT (gD (DP (matS S))) S.length p q)) : ringed (DP (matS S)) S.length ↔ ∃ a b, a < S.length ∧ b < S.length ∧ 0 < DP (matS S) a b ∧ tg T b a = true :=
  ⟨fun ⟨a, b, h1, h2, h3, h4⟩ => ⟨a, b, h1, h2, h3, (h b a h2 h1).2 h4⟩, fun ⟨a, b, h1, h2, h3, h4⟩ => ⟨a, b, h1, h2, h3, (h b a h2 h1).1 h4⟩⟩
theorem taste_ringed {S : List Sal} : tasteB (matS S) = false ↔ ringed (DP (matS S)) S.length := by
  have := tasteB_iff (P := matS S)
  rw [matS_len] at this
  cases hb : tasteB (matS S) with
  | true => rw [hb] at this; exact ⟨fun h => (by cases h), fun h => absurd h (this.1 rfl)⟩
  | false => rw [hb] at this; exact ⟨fun _ => Classical.not_not.1 fun h => (by have := this.2 h; cases this), fun _ => rfl⟩
attribute [local irreducible] gOK WS WC WR WD Ends FS YS OpV seqK blockK loopK midK retK rdK asgK rangeEnd sat Cell
section
variable {M : HL} {n0 : Nat} {H : Heap} {v w : Value}
set_option maxHeartbeats 4000000 in
theorem ringed_fs (hH : hasH M n0 H) {g : Nat} {S : List Sal} (hok : OKS g S) (hS : SalesI M v S) :
    FS C 44 [v] H (fun e H' => ∃ n', n0 ≤ n' ∧ hasH M n' H' ∧ e = .bool (!tasteB (matS S))) := by
  obtain ⟨ws, hV, hwl, hrow⟩ := hS.at
  have hlen := hok.len
  have hgs : ∀ x, gD (DP (matS S)) x x = true := gD_self
  refine FS.intro (pf := pf44) rfl rfl rfl ?_
  repeat' (first | refine zP ?_ | refine zA ?_ | (refine zM ?_; intro _ _) | refine zX ?_ | (refine zC ?_; intro _ _ _ _) | (refine zS ?_; intro _ _) | (apply Ws <;> intro hg))
  refine WR.op (by first | exact gN | exact gS rfl) rfl (OpV.lenK pairV_len (by decide) rfl hV) ?_
  rw [hwl]
  repeat' (first | refine zP ?_ | refine zA ?_ | (refine zM ?_; intro _ _) | refine zX ?_ | (refine zC ?_; intro _ _ _ _) | (refine zS ?_; intro _ _) | (apply Ws <;> intro hg))
  rename_i H1 hH1
  replace hH1 : hasH ((n0, .row 80 0 0 (bools (List.replicate 36 false))) :: M) (n0 + 1) H1 := hH1
  refine WC.loopX [(0, _), (3, _), (4, _), (14, _)] (fun s : TB => [(15, .int .i64 (s.k : Int))]) [] (fun s H' => s.k ≤ S.length ∧ n0 + 1 ≤ s.n ∧ Fill (gD (DP (matS S))) S.length s.T s.k 0 ∧ hasH ((n0, .row 80 0 0 (bools s.T)) :: M) s.n H') (fun s => S.length - s.k) ⟨0, List.replicate 36 false, n0 + 1⟩ (by repeat' (first | exact .nil | refine .cons rfl ?_)) rfl
    ⟨Nat.zero_le _, Nat.le_refl _, ⟨by simp, fun p q _ _ h => by simp only at h; omega⟩, hH1⟩ ?_
  clear hH1 hH
  rintro ⟨a, T, n1⟩ H2 ⟨ha, hn1, hF, hH2⟩
  simp only at ha hn1 hF hH2
  dsimp only [List.cons_append, List.nil_append]
  repeat' (first | refine zP ?_ | refine zA ?_ | (refine zM ?_; intro _ _) | refine zX ?_ | (refine zC ?_; intro _ _ _ _) | (refine zS ?_; intro _ _) | (apply Ws <;> intro hg))
  refine WC.condP rfl (fun hlta => ?_) (fun hlta => ?_)
  · have ha' : a < S.length := by omega
    repeat' (first | refine zP ?_ | refine zA ?_ | (refine zM ?_; intro _ _) | refine zX ?_ | (refine zC ?_; intro _ _ _ _) | (refine zS ?_; intro _ _) | (apply Ws <;> intro hg))
    refine WC.loopX [(0, _), (3, _), (4, _), (5, .int .i64 (a : Int)), (14, _), (15, .int .i64 (a : Int)), (18, .int .i64 (S.length : Int))] (fun s : TB => [(19, .int .i64 (s.k : Int))]) [] (fun s H' => s.k ≤ S.length ∧ n0 + 1 ≤ s.n ∧ Fill (gD (DP (matS S))) S.length s.T a s.k ∧ hasH ((n0, .row 80 0 0 (bools s.T)) :: M) s.n H') (fun s => S.length - s.k) ⟨0, T, n1⟩ (by repeat' (first | exact .nil | refine .cons rfl ?_)) rfl
      ⟨Nat.zero_le _, hn1, hF, hH2⟩ ?_
    clear hH2 hF
    rintro ⟨b, T, n2⟩ H3 ⟨hb, hn2, hF, hH3⟩
    simp only at hb hn2 hF hH3
    dsimp only [List.cons_append, List.nil_append]
    repeat' (first | refine zP ?_ | refine zA ?_ | (refine zM ?_; intro _ _) | refine zX ?_ | (refine zC ?_; intro _ _ _ _) | (refine zS ?_; intro _ _) | (apply Ws <;> intro hg))
    refine WC.condP rfl (fun hltb => ?_) (fun hltb => ?_)
    · have hb' : b < S.length := by omega
      obtain ⟨hpa, hta⟩ := hrow a ha'
      obtain ⟨hpb, htb⟩ := hrow b hb'
      have hwa : ws[a] = ws.getD a noVal := (getD_eq (by omega)).symm
      have hwb : ws[b] = ws.getD b noVal := (getD_eq (by omega)).symm
      have hVT := hV.cons (p := (n0, Ch.row 80 0 0 (bools T)))
      have hTl := hF.1
      repeat' (first | refine zP ?_ | refine zA ?_ | (refine zM ?_; intro _ _) | refine zX ?_ | (refine zC ?_; intro _ _ _ _) | (refine zS ?_; intro _ _) | (apply Ws <;> intro hg))
      refine WR.idxK pairV_len (by decide) (by first | exact gN | exact gS rfl) rfl rfl hVT rfl (by omega) fun b1 o1' u1' hC1 => ?_
      rw [hwa] at hC1
      refine WR.op (by first | exact gN | exact gS rfl) rfl (OpV.loadK rfl hC1 hH3 rfl) ?_
      repeat' (first | refine zP ?_ | refine zA ?_ | (refine zM ?_; intro _ _) | refine zX ?_ | (refine zC ?_; intro _ _ _ _) | (refine zS ?_; intro _ _) | (apply Ws <;> intro hg))
      refine WR.idxK pairV_len (by decide) (by first | exact gN | exact gS rfl) rfl rfl hVT rfl (by omega) fun b2 o2' u2' hC2 => ?_
      rw [hwb] at hC2
      refine WR.op (by first | exact gN | exact gS rfl) rfl (OpV.loadK rfl hC2 hH3 rfl) ?_
      repeat' (first | refine zP ?_ | refine zA ?_ | (refine zM ?_; intro _ _) | refine zX ?_ | (refine zC ?_; intro _ _ _ _) | (refine zS ?_; intro _ _) | (apply Ws <;> intro hg))
      refine WR.call (by first | exact gN | exact gS rfl) rfl rfl (lead_fs hH3 hok ha' hb' hpa.cons hta.cons hpb.one_ htb.cons) ?_
      rintro _ H4 ⟨n4, hn4, hH4, rfl⟩
      repeat' (first | refine zP ?_ | refine zA ?_ | (refine zM ?_; intro _ _) | refine zX ?_ | (refine zC ?_; intro _ _ _ _) | (refine zS ?_; intro _ _) | (apply Ws <;> intro hg))
      rename_i H5 hH5
      refine Ends.loop ⟨b + 1, T.set (a * 6 + b) (gD (DP (matS S)) a b), n4⟩ (by simp only; omega) (by repeat' (first | exact .nil | refine .cons rfl ?_)) rfl ⟨by simp only; omega, by simp only; omega, hF.set hlen ha' hb', hH5⟩
    · have hbl : b = S.length := by omega
      subst hbl
      repeat' (first | refine zP ?_ | refine zA ?_ | (refine zM ?_; intro _ _) | refine zX ?_ | (refine zC ?_; intro _ _ _ _) | (refine zS ?_; intro _ _) | (apply Ws <;> intro hg))
      exact Ends.loop ⟨a + 1, T, n2⟩ (by simp only; omega) (by repeat' (first | exact .nil | refine .cons rfl ?_)) rfl ⟨by simp only; omega, hn2, ⟨hF.1, fun p q hp hq h => hF.2 p q hp hq (by simp only at h; omega)⟩, hH3⟩
  · have hal : a = S.length := by omega
    subst hal
    have hP0 : Pass (gD (DP (matS S))) S.length 0 T 0 0 0 := .zero hgs hF.1 fun p q hp hq => hF.2 p q hp hq (.inl hp)
    clear hF
    repeat' (first | refine zP ?_ | refine zA ?_ | (refine zM ?_; intro _ _) | refine zX ?_ | (refine zC ?_; intro _ _ _ _) | (refine zS ?_; intro _ _) | (apply Ws <;> intro hg))
    refine WC.loopX [(0, _), (3, _), (4, _), (38, .int .i64 (S.length : Int))] (fun s : TB => [(39, .int .i64 (s.k : Int))]) [] (fun s H' => s.k ≤ S.length ∧ n0 + 1 ≤ s.n ∧ Pass (gD (DP (matS S))) S.length s.k s.T 0 0 0 ∧ hasH ((n0, .row 80 0 0 (bools s.T)) :: M) s.n H') (fun s => S.length - s.k) ⟨0, T, n1⟩ (by repeat' (first | exact .nil | refine .cons rfl ?_)) rfl
      ⟨Nat.zero_le _, hn1, hP0, hH2⟩ ?_
    clear hH2 hP0
    rintro ⟨r, T, n2⟩ H3 ⟨hr, hn2, hP, hH3⟩
    simp only at hr hn2 hP hH3
    dsimp only [List.cons_append, List.nil_append]
    repeat' (first | refine zP ?_ | refine zA ?_ | (refine zM ?_; intro _ _) | refine zX ?_ | (refine zC ?_; intro _ _ _ _) | (refine zS ?_; intro _ _) | (apply Ws <;> intro hg))
    refine WC.condP rfl (fun hltr => ?_) (fun hltr => ?_)
    · have hr' : r < S.length := by omega
      repeat' (first | refine zP ?_ | refine zA ?_ | (refine zM ?_; intro _ _) | refine zX ?_ | (refine zC ?_; intro _ _ _ _) | (refine zS ?_; intro _ _) | (apply Ws <;> intro hg))
      refine WC.loopX [(0, _), (3, _), (4, _), (38, _), (39, .int .i64 (r : Int)), (41, .int .i64 (S.length : Int))] (fun s : TB => [(42, .int .i64 (s.k : Int))]) [] (fun s H' => s.k ≤ S.length ∧ n0 + 1 ≤ s.n ∧ Pass (gD (DP (matS S))) S.length r s.T s.k 0 0 ∧ hasH ((n0, .row 80 0 0 (bools s.T)) :: M) s.n H') (fun s => S.length - s.k) ⟨0, T, n2⟩ (by repeat' (first | exact .nil | refine .cons rfl ?_)) rfl
        ⟨Nat.zero_le _, hn2, hP, hH3⟩ ?_
      clear hH3 hP
      rintro ⟨a, T, n3⟩ H4 ⟨ha, hn3, hP, hH4⟩
      simp only at ha hn3 hP hH4
      dsimp only [List.cons_append, List.nil_append]
      repeat' (first | refine zP ?_ | refine zA ?_ | (refine zM ?_; intro _ _) | refine zX ?_ | (refine zC ?_; intro _ _ _ _) | (refine zS ?_; intro _ _) | (apply Ws <;> intro hg))
      refine WC.condP rfl (fun hlta => ?_) (fun hlta => ?_)
      · have ha' : a < S.length := by omega
        repeat' (first | refine zP ?_ | refine zA ?_ | (refine zM ?_; intro _ _) | refine zX ?_ | (refine zC ?_; intro _ _ _ _) | (refine zS ?_; intro _ _) | (apply Ws <;> intro hg))
        refine WC.loopX [(0, _), (3, _), (4, _), (7, .int .i64 (a : Int)), (38, _), (39, .int .i64 (r : Int)), (41, .int .i64 (S.length : Int)), (42, .int .i64 (a : Int)), (45, .int .i64 (S.length : Int))] (fun s : TB => [(46, .int .i64 (s.k : Int))]) [] (fun s H' => s.k ≤ S.length ∧ n0 + 1 ≤ s.n ∧ Pass (gD (DP (matS S))) S.length r s.T a s.k 0 ∧ hasH ((n0, .row 80 0 0 (bools s.T)) :: M) s.n H') (fun s => S.length - s.k) ⟨0, T, n3⟩ (by repeat' (first | exact .nil | refine .cons rfl ?_)) rfl
          ⟨Nat.zero_le _, hn3, hP, hH4⟩ ?_
        clear hH4 hP
        rintro ⟨b, T, n4⟩ H5 ⟨hb, hn4, hP, hH5⟩
        simp only at hb hn4 hP hH5
        dsimp only [List.cons_append, List.nil_append]
        repeat' (first | refine zP ?_ | refine zA ?_ | (refine zM ?_; intro _ _) | refine zX ?_ | (refine zC ?_; intro _ _ _ _) | (refine zS ?_; intro _ _) | (apply Ws <;> intro hg))
        refine WC.condP rfl (fun hltb => ?_) (fun hltb => ?_)
        · have hb' : b < S.length := by omega
          repeat' (first | refine zP ?_ | refine zA ?_ | (refine zM ?_; intro _ _) | refine zX ?_ | (refine zC ?_; intro _ _ _ _) | (refine zS ?_; intro _ _) | (apply Ws <;> intro hg))
          refine WC.loopX [(0, _), (3, _), (4, _), (7, .int .i64 (a : Int)), (8, .int .i64 (b : Int)), (38, _), (39, .int .i64 (r : Int)), (41, .int .i64 (S.length : Int)), (42, .int .i64 (a : Int)), (45, .int .i64 (S.length : Int)), (46, .int .i64 (b : Int)), (49, .int .i64 (S.length : Int))] (fun s : TB => [(50, .int .i64 (s.k : Int))]) [] (fun s H' => s.k ≤ S.length ∧ n0 + 1 ≤ s.n ∧ Pass (gD (DP (matS S))) S.length r s.T a b s.k ∧ hasH ((n0, .row 80 0 0 (bools s.T)) :: M) s.n H') (fun s => S.length - s.k) ⟨0, T, n4⟩ (by repeat' (first | exact .nil | refine .cons rfl ?_)) rfl
            ⟨Nat.zero_le _, hn4, hP, hH5⟩ ?_
          clear hH5 hP
          rintro ⟨c, T, n5⟩ H6 ⟨hc, hn5, hP, hH6⟩
          simp only at hc hn5 hP hH6
          have hTl := hP.len
          dsimp only [List.cons_append, List.nil_append]
          repeat' (first | refine zP ?_ | refine zA ?_ | (refine zM ?_; intro _ _) | refine zX ?_ | (refine zC ?_; intro _ _ _ _) | (refine zS ?_; intro _ _) | (apply Ws <;> intro hg))
          refine WC.condP rfl (fun hltc => ?_) (fun hltc => ?_)
          · have hc' : c < S.length := by omega
            have hP2 := hP.set hgs hlen ha' hb' hc'
            have hac : T.getD (a * 6 + c) false = tg T a c := rfl
            have hab : T.getD (a * 6 + b) false = tg T a b := rfl
            have hbc : T.getD (b * 6 + c) false = tg T b c := rfl
            repeat' (first | refine zP ?_ | refine zA ?_ | (refine zM ?_; intro _ _) | refine zX ?_ | (refine zC ?_; intro _ _ _ _) | (refine zS ?_; intro _ _) | (apply Ws <;> intro hg))
            rw [hac]
            cases q1ac : tg T a c with
            | true =>
              rw [q1ac, Bool.true_or] at hP2
              repeat' (first | refine zP ?_ | refine zA ?_ | (refine zM ?_; intro _ _) | refine zX ?_ | (refine zC ?_; intro _ _ _ _) | (refine zS ?_; intro _ _) | (apply Ws <;> intro hg))
              rename_i H7 hH7
              exact Ends.loop ⟨c + 1, _, n5⟩ (by simp only; omega) (by repeat' (first | exact .nil | refine .cons rfl ?_)) rfl ⟨by simp only; omega, hn5, hP2, hH7⟩
            | false =>
              rw [q1ac, Bool.false_or] at hP2
              repeat' (first | refine zP ?_ | refine zA ?_ | (refine zM ?_; intro _ _) | refine zX ?_ | (refine zC ?_; intro _ _ _ _) | (refine zS ?_; intro _ _) | (apply Ws <;> intro hg))
              rw [hab]
              cases q1ab : tg T a b with
              | false =>
                rw [q1ab, Bool.false_and] at hP2
                repeat' (first | refine zP ?_ | refine zA ?_ | (refine zM ?_; intro _ _) | refine zX ?_ | (refine zC ?_; intro _ _ _ _) | (refine zS ?_; intro _ _) | (apply Ws <;> intro hg))
                rename_i H7 hH7
                exact Ends.loop ⟨c + 1, _, n5⟩ (by simp only; omega) (by repeat' (first | exact .nil | refine .cons rfl ?_)) rfl ⟨by simp only; omega, hn5, hP2, hH7⟩
              | true =>
                rw [q1ab, Bool.true_and] at hP2
                repeat' (first | refine zP ?_ | refine zA ?_ | (refine zM ?_; intro _ _) | refine zX ?_ | (refine zC ?_; intro _ _ _ _) | (refine zS ?_; intro _ _) | (apply Ws <;> intro hg))
                rename_i H7 hH7
                rw [hbc] at hH7
                exact Ends.loop ⟨c + 1, _, n5⟩ (by simp only; omega) (by repeat' (first | exact .nil | refine .cons rfl ?_)) rfl ⟨by simp only; omega, hn5, hP2, hH7⟩
          · have hcl : c = S.length := by omega
            subst hcl
            repeat' (first | refine zP ?_ | refine zA ?_ | (refine zM ?_; intro _ _) | refine zX ?_ | (refine zC ?_; intro _ _ _ _) | (refine zS ?_; intro _ _) | (apply Ws <;> intro hg))
            exact Ends.loop ⟨b + 1, T, n5⟩ (by simp only; omega) (by repeat' (first | exact .nil | refine .cons rfl ?_)) rfl ⟨by simp only; omega, hn5, hP.nextB, hH6⟩
        · have hbl : b = S.length := by omega
          subst hbl
          repeat' (first | refine zP ?_ | refine zA ?_ | (refine zM ?_; intro _ _) | refine zX ?_ | (refine zC ?_; intro _ _ _ _) | (refine zS ?_; intro _ _) | (apply Ws <;> intro hg))
          exact Ends.loop ⟨a + 1, T, n4⟩ (by simp only; omega) (by repeat' (first | exact .nil | refine .cons rfl ?_)) rfl ⟨by simp only; omega, hn4, hP.nextA, hH5⟩
      · have hal : a = S.length := by omega
        subst hal
        repeat' (first | refine zP ?_ | refine zA ?_ | (refine zM ?_; intro _ _) | refine zX ?_ | (refine zC ?_; intro _ _ _ _) | (refine zS ?_; intro _ _) | (apply Ws <;> intro hg))
        exact Ends.loop ⟨r + 1, T, n3⟩ (by simp only; omega) (by repeat' (first | exact .nil | refine .cons rfl ?_)) rfl ⟨by simp only; omega, hn3, hP.next, hH4⟩
    · have hrl : r = S.length := by omega
      subst hrl
      have hall : ∀ p q, p < S.length → q < S.length → (tg T p q = true ↔ RT (gD (DP (matS S))) S.length p q) := fun p q hp hq => hP.all hgs hp hq
      have hrb := ringB hall
      have hTl := hP.len
      clear hP hall
      repeat' (first | refine zP ?_ | refine zA ?_ | (refine zM ?_; intro _ _) | refine zX ?_ | (refine zC ?_; intro _ _ _ _) | (refine zS ?_; intro _ _) | (apply Ws <;> intro hg))
      refine WC.loopX [(0, _), (3, _), (4, _), (80, .int .i64 (S.length : Int))] (fun s : Nat × Nat => [(81, .int .i64 (s.1 : Int))]) [] (fun s H' => s.1 ≤ S.length ∧ n0 + 1 ≤ s.2 ∧ (∀ a b, a < s.1 → b < S.length → 0 < DP (matS S) a b → ¬ tg T b a = true) ∧ hasH ((n0, .row 80 0 0 (bools T)) :: M) s.2 H') (fun s => S.length - s.1) (0, n2) (by repeat' (first | exact .nil | refine .cons rfl ?_)) rfl
        ⟨Nat.zero_le _, hn2, fun a b h => absurd h (Nat.not_lt_zero _), hH3⟩ ?_
      clear hH3
      rintro ⟨a, n3⟩ H4 ⟨ha, hn3, hno, hH4⟩
      simp only at ha hn3 hno hH4
      dsimp only [List.cons_append, List.nil_append]
      repeat' (first | refine zP ?_ | refine zA ?_ | (refine zM ?_; intro _ _) | refine zX ?_ | (refine zC ?_; intro _ _ _ _) | (refine zS ?_; intro _ _) | (apply Ws <;> intro hg))
      refine WC.condP rfl (fun hlta => ?_) (fun hlta => ?_)
      · have ha' : a < S.length := by omega
        repeat' (first | refine zP ?_ | refine zA ?_ | (refine zM ?_; intro _ _) | refine zX ?_ | (refine zC ?_; intro _ _ _ _) | (refine zS ?_; intro _ _) | (apply Ws <;> intro hg))
        refine WC.loopX [(0, _), (3, _), (4, _), (10, .int .i64 (a : Int)), (80, .int .i64 (S.length : Int)), (81, .int .i64 (a : Int)), (84, .int .i64 (S.length : Int))] (fun s : Nat × Nat => [(85, .int .i64 (s.1 : Int))]) [] (fun s H' => s.1 ≤ S.length ∧ n0 + 1 ≤ s.2 ∧ (∀ b, b < s.1 → 0 < DP (matS S) a b → ¬ tg T b a = true) ∧ hasH ((n0, .row 80 0 0 (bools T)) :: M) s.2 H') (fun s => S.length - s.1) (0, n3) (by repeat' (first | exact .nil | refine .cons rfl ?_)) rfl
          ⟨Nat.zero_le _, hn3, fun b h => absurd h (Nat.not_lt_zero _), hH4⟩ ?_
        clear hH4
        rintro ⟨b, n4⟩ H5 ⟨hb, hn4, hno2, hH5⟩
        simp only at hb hn4 hno2 hH5
        dsimp only [List.cons_append, List.nil_append]
        repeat' (first | refine zP ?_ | refine zA ?_ | (refine zM ?_; intro _ _) | refine zX ?_ | (refine zC ?_; intro _ _ _ _) | (refine zS ?_; intro _ _) | (apply Ws <;> intro hg))
        refine WC.condP rfl (fun hltb => ?_) (fun hltb => ?_)
        · have hb' : b < S.length := by omega
          obtain ⟨hpa, hta⟩ := hrow a ha'
          obtain ⟨hpb, htb⟩ := hrow b hb'
          have hwa : ws[a] = ws.getD a noVal := (getD_eq (by omega)).symm
          have hwb : ws[b] = ws.getD b noVal := (getD_eq (by omega)).symm
          have hVT := hV.cons (p := (n0, Ch.row 80 0 0 (bools T)))
          repeat' (first | refine zP ?_ | refine zA ?_ | (refine zM ?_; intro _ _) | refine zX ?_ | (refine zC ?_; intro _ _ _ _) | (refine zS ?_; intro _ _) | (apply Ws <;> intro hg))
          refine WR.idxK pairV_len (by decide) (by first | exact gN | exact gS rfl) rfl rfl hVT rfl (by omega) fun b1 o1' u1' hC1 => ?_
          rw [hwa] at hC1
          refine WR.op (by first | exact gN | exact gS rfl) rfl (OpV.loadK rfl hC1 hH5 rfl) ?_
          repeat' (first | refine zP ?_ | refine zA ?_ | (refine zM ?_; intro _ _) | refine zX ?_ | (refine zC ?_; intro _ _ _ _) | (refine zS ?_; intro _ _) | (apply Ws <;> intro hg))
          refine WR.idxK pairV_len (by decide) (by first | exact gN | exact gS rfl) rfl rfl hVT rfl (by omega) fun b2 o2' u2' hC2 => ?_
          rw [hwb] at hC2
          refine WR.op (by first | exact gN | exact gS rfl) rfl (OpV.loadK rfl hC2 hH5 rfl) ?_
          repeat' (first | refine zP ?_ | refine zA ?_ | (refine zM ?_; intro _ _) | refine zX ?_ | (refine zC ?_; intro _ _ _ _) | (refine zS ?_; intro _ _) | (apply Ws <;> intro hg))
          refine WR.call (by first | exact gN | exact gS rfl) rfl rfl (lead_fs hH5 hok ha' hb' hpa.cons hta.cons hpb.one_ htb.cons) ?_
          rintro _ H6 ⟨n6, hn6, hH6, rfl⟩
          have hba : T.getD (b * 6 + a) false = tg T b a := rfl
          by_cases hd : 0 < DP (matS S) a b
          · repeat' (first | refine zP ?_ | refine zA ?_ | (refine zM ?_; intro _ _) | refine zX ?_ | (refine zC ?_; intro _ _ _ _) | (refine zS ?_; intro _ _) | refine zO ?_ | (apply Ws <;> intro hg))
            rw [hba]
            cases q1ba : tg T b a with
            | true =>
              repeat' (first | refine zP ?_ | refine zA ?_ | (refine zM ?_; intro _ _) | refine zX ?_ | (refine zC ?_; intro _ _ _ _) | (refine zS ?_; intro _ _) | (apply Ws <;> intro hg))
              refine Ends.ret1 rfl ⟨n6, by omega, hH6.tail, ?_⟩
              rw [taste_ringed.2 (hrb.2 ⟨a, b, ha', hb', hd, q1ba⟩)]; rfl
            | false =>
              repeat' (first | refine zP ?_ | refine zA ?_ | (refine zM ?_; intro _ _) | refine zX ?_ | (refine zC ?_; intro _ _ _ _) | (refine zS ?_; intro _ _) | (apply Ws <;> intro hg))
              refine Ends.loop (b + 1, n6) (by simp only; omega) (by repeat' (first | exact .nil | refine .cons rfl ?_)) rfl ⟨by simp only; omega, by simp only; omega, fun b' hlt hd' => ?_, hH6⟩
              by_cases he : b' = b
              · rw [he, q1ba]; simp
              · exact hno2 b' (by simp only at hlt; omega) hd'
          · repeat' (first | refine zP ?_ | refine zA ?_ | (refine zM ?_; intro _ _) | refine zX ?_ | (refine zC ?_; intro _ _ _ _) | (refine zS ?_; intro _ _) | refine zO ?_ | (apply Ws <;> intro hg))
            refine Ends.loop (b + 1, n6) (by simp only; omega) (by repeat' (first | exact .nil | refine .cons rfl ?_)) rfl ⟨by simp only; omega, by simp only; omega, fun b' hlt hd' => ?_, hH6⟩
            by_cases he : b' = b
            · rw [he] at hd'; exact absurd hd' hd
            · exact hno2 b' (by simp only at hlt; omega) hd'
        · have hbl : b = S.length := by omega
          subst hbl
          repeat' (first | refine zP ?_ | refine zA ?_ | (refine zM ?_; intro _ _) | refine zX ?_ | (refine zC ?_; intro _ _ _ _) | (refine zS ?_; intro _ _) | (apply Ws <;> intro hg))
          refine Ends.loop (a + 1, n4) (by simp only; omega) (by repeat' (first | exact .nil | refine .cons rfl ?_)) rfl ⟨by simp only; omega, hn4, fun a' b' hlt hb' hd' => ?_, hH5⟩
          by_cases he : a' = a
          · rw [he] at hd' ⊢; exact hno2 b' hb' hd'
          · exact hno a' b' (by simp only at hlt; omega) hb' hd'
      · have hal : a = S.length := by omega
        subst hal
        repeat' (first | refine zP ?_ | refine zA ?_ | (refine zM ?_; intro _ _) | refine zX ?_ | (refine zC ?_; intro _ _ _ _) | (refine zS ?_; intro _ _) | (apply Ws <;> intro hg))
        refine Ends.ret1 rfl ⟨n3, by omega, hH4.tail, ?_⟩
        have : tasteB (matS S) = true := by
          cases hb : tasteB (matS S) with
          | true => rfl
          | false =>
            obtain ⟨a, b, k1, k2, k3, k4⟩ := hrb.1 (taste_ringed.1 hb)
            exact absurd k4 (hno a b k1 k2 k3)
        rw [this]; rfl
end
end Go.Proofs.Yteopjpfhhekkoaa.Tt

/- same, closes; numbers are judged. -/
namespace Go.Proofs.Yteopjpfhhekkoaa.Tt
open Go Go.Abs Go.Mth
set_option linter.unusedVariables false
set_option linter.unusedSimpArgs false
theorem mul_bd {V D B : Int} (h0 : 0 ≤ V) (hB : V ≤ B) (hl : -243 ≤ D) (hu : D ≤ 243) : -(243 * B) ≤ V * D ∧ V * D ≤ 243 * B := by
  have k1 : V * D ≤ V * 243 := Int.mul_le_mul_of_nonneg_left hu h0
  have k2 : V * (-243) ≤ V * D := Int.mul_le_mul_of_nonneg_left hl h0
  omega
def NumP (P : List (List Int)) (W V : List Int) : Prop := numOK (DP P) P.length (fun a => W.getD a 0) (fun a => V.getD a 0)
def RngP (n : Nat) (W V : List Int) : Prop := W.length = n ∧ V.length = n ∧ (∀ a, a < n → 0 ≤ W.getD a 0 ∧ W.getD a 0 ≤ 1000000000000) ∧ ∀ a, a < n → 1 ≤ V.getD a 0 ∧ V.getD a 0 ≤ 1000000000000
def closL (D : Nat → Nat → Int) (l : List Nat) : Prop := l.Nodup ∧ closB D l = true
attribute [local irreducible] gOK WS WC WR WD Ends FS YS OpV seqK blockK loopK midK retK rdK asgK rangeEnd sat Cell
section
variable {M : HL} {n0 : Nat} {H : Heap} {v w u : Value}
theorem same_fs (hH : hasH M n0 H) {a b : List Int} (hS : Sl M 1 v (ints a)) (hT : Sl M 1 w (ints b)) (ha : a.length ≤ 100000) :
    FS C 33 [v, w] H (fun e H' => H' = H ∧ e = .bool (decide (a = b))) := by
  refine FS.intro (pf := pf33) rfl rfl rfl ?_
  repeat' (first | refine zP ?_ | refine zA ?_ | (refine zM ?_; intro _ _) | refine zX ?_ | (refine zC ?_; intro _ _ _ _) | (refine zS ?_; intro _ _) | (apply Ws <;> intro hg))
  refine WC.condP rfl (fun hne => ?_) (fun hne => ?_)
  · repeat' (first | refine zP ?_ | refine zA ?_ | (refine zM ?_; intro _ _) | refine zX ?_ | (refine zC ?_; intro _ _ _ _) | (refine zS ?_; intro _ _) | (apply Ws <;> intro hg))
    refine Ends.ret1 rfl ⟨rfl, ?_⟩
    rw [decide_eq_false fun e => by subst e; exact hne rfl]
  · have hab : a.length = b.length := by omega
    repeat' (first | refine zP ?_ | refine zA ?_ | (refine zM ?_; intro _ _) | refine zX ?_ | (refine zC ?_; intro _ _ _ _) | (refine zS ?_; intro _ _) | (apply Ws <;> intro hg))
    refine WC.loopX [(0, v), (1, w)] (fun k : Nat => [(5, .int .i64 (k : Int))]) [] (fun k H' => H' = H ∧ k ≤ a.length ∧ ∀ j, j < k → a.getD j 0 = b.getD j 0) (fun k => a.length - k) 0 (by repeat' (first | exact .nil | refine .cons rfl ?_)) rfl ⟨rfl, Nat.zero_le _, fun j h => absurd h (Nat.not_lt_zero _)⟩ ?_
    rintro k H' ⟨rfl, hk, hs⟩
    dsimp only [List.cons_append, List.nil_append]
    repeat' (first | refine zP ?_ | refine zA ?_ | (refine zM ?_; intro _ _) | refine zX ?_ | (refine zC ?_; intro _ _ _ _) | (refine zS ?_; intro _ _) | (apply Ws <;> intro hg))
    refine WC.condP rfl (fun hlt => ?_) (fun hlt => ?_)
    · have hk' : k < a.length := by omega
      repeat' (first | refine zP ?_ | refine zA ?_ | (refine zM ?_; intro _ _) | refine zX ?_ | (refine zC ?_; intro _ _ _ _) | (refine zS ?_; intro _ _) | (apply Ws <;> intro hg))
      refine WC.condP rfl (fun hd => ?_) (fun hd => ?_)
      · repeat' (first | refine zP ?_ | refine zA ?_ | (refine zM ?_; intro _ _) | refine zX ?_ | (refine zC ?_; intro _ _ _ _) | (refine zS ?_; intro _ _) | (apply Ws <;> intro hg))
        refine Ends.ret1 rfl ⟨rfl, ?_⟩
        rw [decide_eq_false fun e => by subst e; exact hd rfl]
      · repeat' (first | refine zP ?_ | refine zA ?_ | (refine zM ?_; intro _ _) | refine zX ?_ | (refine zC ?_; intro _ _ _ _) | (refine zS ?_; intro _ _) | (apply Ws <;> intro hg))
        refine Ends.loop (k + 1) (by omega) (by repeat' (first | exact .nil | refine .cons rfl ?_)) rfl ⟨rfl, hk', fun j hj => ?_⟩
        by_cases e : j = k
        · subst e; exact Decidable.not_not.1 hd
        · exact hs j (by omega)
    · repeat' (first | refine zP ?_ | refine zA ?_ | (refine zM ?_; intro _ _) | refine zX ?_ | (refine zC ?_; intro _ _ _ _) | (refine zS ?_; intro _ _) | (apply Ws <;> intro hg))
      refine Ends.ret1 rfl ⟨rfl, ?_⟩
      rw [decide_eq_true (ext_getD (a := 0) hab fun i hi => hs i (by omega))]
theorem IL_inj {a b : List Nat} : IL a = IL b ↔ a = b := by
  constructor
  · intro h
    refine ext_getD (a := 0) (by rw [← IL_len a, ← IL_len b, h]) fun i hi => ?_
    have h2 : i < b.length := by rw [← IL_len b, ← h, IL_len]; exact hi
    have := congrArg (fun l : List Int => l.getD i 0) h
    simp only [IL] at this
    rw [getD_eq (by simpa using hi), getD_eq (by simpa using h2), List.getElem_map, List.getElem_map] at this
    rw [getD_eq hi, getD_eq h2]; omega
  · exact fun h => by rw [h]
theorem sameN_fs (hH : hasH M n0 H) {a b : List Nat} (hS : Sl M 1 v (nodes a)) (hT : Sl M 1 w (nodes b)) (ha : a.length ≤ 100000) :
    FS C 33 [v, w] H (fun e H' => H' = H ∧ e = .bool (decide (a = b))) := by
  refine FS.mono (same_fs hH (a := IL a) (b := IL b) (by rw [← nodes_IL]; exact hS) (by rw [← nodes_IL]; exact hT) (by rw [IL_len]; exact ha)) ?_
  rintro _ _ ⟨rfl, rfl⟩
  refine ⟨rfl, ?_⟩
  congr 1
  exact decide_eq_decide.2 IL_inj
end
end Go.Proofs.Yteopjpfhhekkoaa.Tt

/- Numbers by ranks. -/
namespace Go.Proofs.Yteopjpfhhekkoaa.Tt
open Go Go.Abs Go.Mth
set_option linter.unusedVariables false
set_option linter.unusedSimpArgs false
def bdN : Nat → Int
  | 0 => 0
  | 1 => 0
  | m + 2 => bdN (m + 1) + 243 * max (bdN (m + 1)) 1
theorem bdN_le {m : Nat} (h : m ≤ 6) : 0 ≤ bdN m ∧ bdN m ≤ 861322076928 := by
  rcases (show m = 0 ∨ m = 1 ∨ m = 2 ∨ m = 3 ∨ m = 4 ∨ m = 5 ∨ m = 6 by omega) with rfl | rfl | rfl | rfl | rfl | rfl | rfl <;> decide
theorem bdN_le5 {m : Nat} (h : m ≤ 5) : bdN m ≤ 4000000000 := by
  rcases (show m = 0 ∨ m = 1 ∨ m = 2 ∨ m = 3 ∨ m = 4 ∨ m = 5 by omega) with rfl | rfl | rfl | rfl | rfl | rfl <;> decide
theorem bdN_mono (m : Nat) : bdN m ≤ bdN (m + 1) := by
  cases m with
  | zero => decide
  | succ m => simp only [bdN]; omega
/-- Ranks that go with what is shown. -/
structure RkOK (D : Nat → Nat → Int) (n : Nat) (R : Nat → Nat) : Prop where
  lt : ∀ a, a < n → R a < n
  le : ∀ a b, a < n → b < n → 0 ≤ D a b → R b ≤ R a
  st : ∀ a b, a < n → b < n → 0 < D a b → R b < R a
structure NInv (D : Nat → Nat → Int) (n : Nat) (R : Nat → Nat) (m : Nat) (dp : Int) (B W : List Int) : Prop where
  lb : B.length = n
  lw : W.length = n
  dp0 : 0 ≤ dp
  dp1 : dp ≤ bdN m
  bb : ∀ a, a < n → n ≤ R a + m → 0 ≤ B.getD a 0 ∧ B.getD a 0 ≤ dp ∧ W.getD a 0 = max (B.getD a 0) 1
  ok : ∀ a b, a < n → b < n → n ≤ R a + m → n ≤ R b + m → B.getD a 0 + W.getD a 0 * D a b ≤ B.getD b 0
/-- How far below the highest rank the sales of a rank lie. -/
def DepR (D : Nat → Nat → Int) (n : Nat) (R : Nat → Nat) (rank : Int) (B W : List Int) (dep : Int) : Prop := 0 ≤ dep ∧
  (∀ a b, a < n → b < n → rank < R a → (R b : Int) = rank → B.getD a 0 + W.getD a 0 * D a b ≤ dep) ∧
  (dep = 0 ∨ ∃ a b, a < n ∧ b < n ∧ rank < R a ∧ (R b : Int) = rank ∧ dep = B.getD a 0 + W.getD a 0 * D a b)
/-- Numbers of one rank, of the first so many. -/
def UpdR (n : Nat) (R : Nat → Nat) (rank : Int) (x : Int) (B B' : List Int) (k : Nat) : Prop := B'.length = n ∧ ∀ j, j < n → B'.getD j 0 = if j < k ∧ (R j : Int) = rank then x else B.getD j 0
theorem UpdR.zero {n : Nat} {R : Nat → Nat} {rank x : Int} {B : List Int} (h : B.length = n) : UpdR n R rank x B B 0 := ⟨h, fun j _ => by rw [if_neg (by omega)]⟩
theorem UpdR.set {n k : Nat} {R : Nat → Nat} {rank x : Int} {B B' : List Int} (h : UpdR n R rank x B B' k) (hk : k < n) (hr : (R k : Int) = rank) : UpdR n R rank x B (B'.set k x) (k + 1) := by
  refine ⟨by rw [List.length_set]; exact h.1, fun j hj => ?_⟩
  rw [getD_set' (by rw [h.1]; exact hk)]
  by_cases e : j = k
  · subst e; rw [if_pos rfl, if_pos ⟨by omega, hr⟩]
  · rw [if_neg e, h.2 j hj]
    by_cases e2 : j < k ∧ (R j : Int) = rank
    · rw [if_pos e2, if_pos ⟨by omega, e2.2⟩]
    · rw [if_neg e2, if_neg fun q => e2 ⟨by omega, q.2⟩]
theorem UpdR.skip {n k : Nat} {R : Nat → Nat} {rank x : Int} {B B' : List Int} (h : UpdR n R rank x B B' k) (hr : (R k : Int) ≠ rank) : UpdR n R rank x B B' (k + 1) := by
  refine ⟨h.1, fun j hj => ?_⟩
  rw [h.2 j hj]
  by_cases e2 : j < k ∧ (R j : Int) = rank
  · rw [if_pos e2, if_pos ⟨by omega, e2.2⟩]
  · rw [if_neg e2, if_neg fun q => e2 ⟨by
      rcases Nat.lt_or_ge j k with h1 | h1
      · exact h1
      · have : j = k := by omega
        rw [this] at q; exact absurd q.2 hr, q.2⟩]
theorem UpdR.all {n : Nat} {R : Nat → Nat} {rank x : Int} {B B' : List Int} (h : UpdR n R rank x B B' n) : ∀ j, j < n → B'.getD j 0 = if (R j : Int) = rank then x else B.getD j 0 := fun j hj => by
  rw [h.2 j hj]
  by_cases e : (R j : Int) = rank
  · rw [if_pos ⟨hj, e⟩, if_pos e]
  · rw [if_neg fun q => e q.2, if_neg e]
theorem NInv.zero {D : Nat → Nat → Int} {n : Nat} {R : Nat → Nat} (hr : RkOK D n R) {B W : List Int} (h1 : B.length = n) (h2 : W.length = n) : NInv D n R 0 0 B W :=
  ⟨h1, h2, Int.le_refl _, Int.le_refl _, fun a ha h => by have := hr.lt a ha; omega, fun a b ha _ h => by have := hr.lt a ha; omega⟩
theorem NInv.step {D : Nat → Nat → Int} {n : Nat} {R : Nat → Nat} (hD : ∀ a b, -243 ≤ D a b ∧ D a b ≤ 243) (hn : n ≤ 6) (hr : RkOK D n R) {m : Nat} (hm : m < n) {dp dep : Int} {B W B' W' : List Int} (h : NInv D n R m dp B W)
    (hd : DepR D n R ((n : Int) - 1 - m) B W dep) (hB : UpdR n R ((n : Int) - 1 - m) (max dp dep) B B' n) (hW : UpdR n R ((n : Int) - 1 - m) (max (max dp dep) 1) W W' n) : NInv D n R (m + 1) (max dp dep) B' W' := by
  have hBa := hB.all
  have hWa := hW.all
  have hdp := h.dp0
  have hdp1 := h.dp1
  have hb5 := bdN_le5 (m := m) (by omega)
  obtain ⟨hd0, hd1, hd2⟩ := hd
  have hbound : max dp dep ≤ bdN (m + 1) := by
    have h1 := bdN_mono m
    rcases hd2 with rfl | ⟨a, b, ha, hb, hra, hrb, rfl⟩
    · omega
    · have hpa : n ≤ R a + m := by omega
      obtain ⟨q1, q2, q3⟩ := h.bb a ha hpa
      have hmm : 1 ≤ m := by
        have := hr.lt a ha
        omega
      obtain ⟨m, rfl⟩ : ∃ m', m = m' + 1 := ⟨m - 1, by omega⟩
      have q4 := mul_bd (V := W.getD a 0) (D := D a b) (B := max (bdN (m + 1)) 1) (by omega) (by omega) (hD a b).1 (hD a b).2
      simp only [bdN]
      omega
  refine ⟨hB.1, hW.1, by omega, hbound, fun a ha hp => ?_, fun a b ha hb hpa hpb => ?_⟩
  · rw [hBa a ha, hWa a ha]
    by_cases e : (R a : Int) = (n : Int) - 1 - m
    · rw [if_pos e, if_pos e]; omega
    · rw [if_neg e, if_neg e]
      obtain ⟨q1, q2, q3⟩ := h.bb a ha (by omega)
      omega
  · rw [hBa a ha, hWa a ha, hBa b hb]
    by_cases e : (R a : Int) = (n : Int) - 1 - m
    · rw [if_pos e, if_pos e]
      by_cases e2 : (R b : Int) = (n : Int) - 1 - m
      · rw [if_pos e2]
        have hle : D a b ≤ 0 := by
          rcases Int.lt_or_le 0 (D a b) with hlt | hge
          · have := hr.st a b ha hb hlt; omega
          · exact hge
        have := Int.mul_nonneg (show 0 ≤ max (max dp dep) 1 by omega) (show 0 ≤ - D a b by omega)
        rw [Int.mul_neg] at this
        omega
      · rw [if_neg e2]
        have hlt : D a b ≤ -1 := by
          rcases Int.lt_or_le (D a b) 0 with hlt | hge
          · omega
          · have := hr.le a b ha hb hge; omega
        have := Int.mul_nonneg (show 0 ≤ max (max dp dep) 1 by omega) (show 0 ≤ -1 - D a b by omega)
        rw [Int.mul_sub, Int.mul_neg, Int.mul_one] at this
        have q1 := (h.bb b hb (by omega)).1
        omega
    · rw [if_neg e, if_neg e]
      by_cases e2 : (R b : Int) = (n : Int) - 1 - m
      · rw [if_pos e2]
        have := hd1 a b ha hb (by omega) e2
        omega
      · rw [if_neg e2]
        exact h.ok a b ha hb (by omega) (by omega)
/-- What is returned. -/
def worL (dp : Int) (B : List Int) : List Int := B.map fun x => dp - x
theorem worL_len (dp : Int) (B : List Int) : (worL dp B).length = B.length := by simp [worL]
theorem worL_get {dp : Int} {B : List Int} {a : Nat} (h : a < B.length) : (worL dp B).getD a 0 = dp - B.getD a 0 := by
  rw [getD_eq (by rw [worL_len]; exact h), getD_eq h]; simp [worL]
theorem NInv.fin {P : List (List Int)} {R : Nat → Nat} {dp : Int} {B W : List Int} (hn : P.length ≤ 6) (h : NInv (DP P) P.length R P.length dp B W) : RngP P.length (worL dp B) W ∧ NumP P (worL dp B) W := by
  have hb := bdN_le hn
  have hdp := h.dp1
  have hdp0 := h.dp0
  have hlb := h.lb
  refine ⟨⟨by rw [worL_len]; exact h.lb, h.lw, fun a ha => ?_, fun a ha => ?_⟩, fun a b ha hb => ?_⟩
  · obtain ⟨q1, q2, q3⟩ := h.bb a ha (by omega)
    rw [worL_get (by omega)]; omega
  · obtain ⟨q1, q2, q3⟩ := h.bb a ha (by omega)
    omega
  · have := h.ok a b ha hb (by omega) (by omega)
    show (worL dp B).getD b 0 ≤ (worL dp B).getD a 0 - W.getD a 0 * DP P a b
    rw [worL_get (by omega), worL_get (by omega)]; omega
structure DZ where
  k : Nat
  d : Int
structure NZ where
  m : Nat
  d : Int
  B : List Int
  W : List Int
structure NK where
  k : Nat
  B : List Int
  W : List Int
end Go.Proofs.Yteopjpfhhekkoaa.Tt

/- Numbers by ranks: the walks. -/
namespace Go.Proofs.Yteopjpfhhekkoaa.Tt
open Go Go.Abs Go.Mth
set_option linter.unusedVariables false
set_option linter.unusedSimpArgs false
attribute [local irreducible] gOK WS WC WR WD Ends FS YS OpV seqK blockK loopK midK retK rdK asgK rangeEnd sat Cell
section
variable {M : HL} {n0 : Nat} {H : Heap} {v w u x y : Value}
end
end Go.Proofs.Yteopjpfhhekkoaa.Tt

/- Numbers, Agrees; numbered. -/
namespace Go.Abs
set_option linter.unusedSectionVars false
variable [Globs]
open Go
section
end
end Go.Abs
namespace Go.Proofs.Yteopjpfhhekkoaa.Tt
open Go Go.Abs Go.Mth
set_option linter.unusedVariables false
set_option linter.unusedSimpArgs false
/-- What Numbers returns. -/
def NumOut (M : HL) (g : Int) (S : List Sal) (e : Value) : Prop := ∃ a b, e = .tuple #[a, b, .int .i64 (if errS g S ≠ 0 then errS g S else if tasteB (matS S) = true then 0 else 13)] ∧ one a = true ∧ one b = true ∧
  ((errS g S = 0 ∧ tasteB (matS S) = true ∧ ∃ W V, RngP S.length W V ∧ NumP (matS S) W V ∧ Sl M 1 a (ints W) ∧ Sl M 1 b (ints V)) ∨ ((errS g S ≠ 0 ∨ tasteB (matS S) = false) ∧ a = .slice none 0 0 ∧ b = .slice none 0 0))
/-- What Agrees returns. -/
def AgrOut (g : Int) (S : List Sal) (W V : List Int) (c : Int) : Prop := (errS g S ≠ 0 ∧ c = errS g S) ∨ (errS g S = 0 ∧ ((¬ (W.length = S.length ∧ V.length = S.length) ∧ c = 5) ∨ ((W.length = S.length ∧ V.length = S.length) ∧
  ((¬ (withB 0 1000000000000 W = true ∧ withB 1 1000000000000 V = true) ∧ c = 1) ∨ ((withB 0 1000000000000 W = true ∧ withB 1 1000000000000 V = true) ∧ ((¬ NumP (matS S) W V ∧ c = 14) ∨ (NumP (matS S) W V ∧ c = 0)))))))
theorem AgrOut.unique {g : Int} {S : List Sal} {W V : List Int} {c c' : Int} (h : AgrOut g S W V c) (k : AgrOut g S W V c') : c = c' := by
  rcases h with ⟨q1, rfl⟩ | ⟨q1, ⟨q2, rfl⟩ | ⟨q2, ⟨q3, rfl⟩ | ⟨q3, ⟨q4, rfl⟩ | ⟨q4, rfl⟩⟩⟩⟩ <;>
  rcases k with ⟨p1, rfl⟩ | ⟨p1, ⟨p2, rfl⟩ | ⟨p2, ⟨p3, rfl⟩ | ⟨p3, ⟨p4, rfl⟩ | ⟨p4, rfl⟩⟩⟩⟩ <;> first | rfl | contradiction
attribute [local irreducible] gOK WS WC WR WD Ends FS YS OpV seqK blockK loopK midK retK rdK asgK rangeEnd sat Cell
section
variable {M : HL} {n0 : Nat} {H : Heap} {v w u : Value}
end
end Go.Proofs.Yteopjpfhhekkoaa.Tt

/- Pairs of numbers that are compared. -/
namespace Go.Abs
set_option linter.unusedSectionVars false
variable [Globs]
open Go
set_option linter.unusedSimpArgs false
structure Arr2 (P : Program) (t e : TypeId) : Prop where
  u : P.underlying e = some (.int .i64)
  a : P.underlying t = some (.array 2 e)
  s : pureRun P (sizeOf e) = some 1
  p : ∀ (x y : Int), pureRun P (part e #[.int .i64 x, .int .i64 y] (0 * 1)) = some (.int .i64 x) ∧ pureRun P (part e #[.int .i64 x, .int .i64 y] (1 * 1)) = some (.int .i64 y)
  g : ∀ (x y : Operand) (a b : Array Value), pureRun P (eqGuard .neq t x y (.agg a) (.agg b)) = some ()
section
variable {C : CW} {L : Env} {H : Heap}
end
section
variable {C : CW} {L : Env} {H : Heap}
theorem OpV.eqB {dst : Option Tmp} {x y : Operand} {ty ty2 ty3 : TypeId} {pos : String} {af : Array Edge} {g : Option (Nat × Bool)} {a b : Bool} (e2 : pureRun C.c.P (binOp .eql ty (.bool a) (.bool b)) = some (.bool (a == b))) (hx : ev L x = some (.bool a)) (hy : ev L y = some (.bool b)) :
    OpV C (.plain ⟨dst, .binOp .eql ty x y ty2, ty3, pos, af, g⟩) L H (.bool (a == b)) H := by
  refine OpV.plain (fun t ht => ?_) (fun t ht => by simp [Op.operands, ev_ok ht hx, ev_ok ht hy, plainV, plain1]) rfl
  have e1 : pureRun C.c.P (eqGuard .eql ty x y (.bool a) (.bool b)) = some () := rfl
  simp only [pureNext, execOp, ev_ok ht hx, ev_ok ht hy, pureRun_bind, e1, e2, Option.bind_some]
  rfl
end
end Go.Abs

/- What the laws share. -/
namespace Go.Abs
set_option linter.unusedSectionVars false
open Go
section
variable [Globs] {C : CW} {nt : Nat} {L : Env} {D : List Nat} {H H' : Heap} {K : St → Prop} {M M' : HL} {n i d : Nat} {gd : Option (Tmp × Bool)} {lo : List Nat} {l : List POp} {rs : List Rd}
theorem WD.append {e sz : Nat} {s x : Operand} {v y : Value} {cs : List Value} {Mx M0 : HL} {k : Nat} {new : List Value} (hg : gOK L gd) (hd : Nat.blt d nt = true) (hs : ev L s = some v) (hy : ev L x = some y)
    (hO : Own e sz v cs Mx) (hH : hasH M n H) (hM : M'.Sublist M) (hp : M'.Perm (Mx ++ M0)) (hk : srcLen y = some k) (hx : srcCells H sz k y = some new) (hl : new.length = k * sz) (h1 : 1 ≤ k) (hone : new.all one = true) (hs1 : 1 ≤ sz) (hs2 : sz ≤ 1000)
    (hsm : cs.length + new.length ≤ 100000) (kk : ∀ v' Mx' n' H', OwnR e sz v' (cs ++ new) Mx' → hasH (Mx' ++ M0) n' H' → n ≤ n' → stands H' lo rs = true ∧ WD C nt l rs ((d, v') :: L) D H' K) :
    WD C nt (⟨i, some d, .append e sz s x, gd, lo⟩ :: l) rs L D H K := by
  obtain ⟨v', Mx', n', H', q1, q2, q3, q4⟩ := append_ownR (P := C.c.P) hO ((hH.sub hM).perm hp) hk hx hl h1 hone hs1 hs2 hsm
  obtain ⟨k1, k2⟩ := kk v' Mx' n' H' q2 q3 q4
  refine WD.op hg hd (H' := H') (v := v') (fun t ht => ?_) rfl k1 k2
  simp only [opA, ev_ok ht hs, ev_ok ht hy, q1]
/-- One element more, what was read before may be read after. -/
theorem WD.append1F {j d2 : Nat} {e : Nat} {z : List Value} {s x : Operand} {lo2 : List Nat} {v y : Value} {cs : List Value} {new : Value} (F Mx T : HL) (hd : Nat.blt d nt = true) (hd2 : Nat.blt d2 nt = true)
    (hx : ev L x = some y) (hs : ev ((d, .slice (some ⟨n, 0, some 0⟩) 1 (2 * 1 + 1)) :: L) s = some v) (hO : Own e 1 v cs Mx) (hH : hasH (F ++ (Mx ++ T)) n H)
    (hc : Instr.fill (fun j => some (j * 1, 1)) z.toArray [(0, y)] = some [new].toArray) (hone : one new = true) (hsm : cs.length + 1 ≤ 100000)
    (hst : ∀ H', hasH ((n, .row e 0 0 [new]) :: (F ++ (Mx ++ T))) (n + 1) H' → stands H' lo rs = true)
    (kk : ∀ v' Mx' n' H', OwnR e 1 v' (cs ++ [new]) Mx' → hasH (F ++ (Mx' ++ T)) n' H' → n ≤ n' → stands H' lo2 rs = true ∧ WD C nt l rs ((d2, v') :: (d, .slice (some ⟨n, 0, some 0⟩) 1 (2 * 1 + 1)) :: L) D H' K) :
    WD C nt (⟨i, some d, .bldS e 1 z 1 [(0, x)], none, lo⟩ :: ⟨j, some d2, .append e 1 s (.tmp d), none, lo2⟩ :: l) rs L D H K := by
  refine WD.bldS True.intro hd hH (vs := [(0, y)]) (by simp only [evp, hx]) hc (by simp [hone]) hst fun H1 hH1 => ?_
  have hx2 : srcCells H1 1 1 (.slice (some ⟨n, 0, some 0⟩) 1 (2 * 1 + 1)) = some [new] := by
    have := hH1.readN (b := n) (u := 0) (lo := 0) (o := 0) (k := 1 * 1) (ch := .row e 0 0 [new]) (cs := [new]) (by simp) (.row _ _ _ _) (Nat.le_refl _) (by simp)
    simpa [srcCells] using this
  have hy : ev ((d, .slice (some ⟨n, 0, some 0⟩) 1 (2 * 1 + 1)) :: L) (.tmp d) = some (.slice (some ⟨n, 0, some 0⟩) 1 (2 * 1 + 1)) := by simp [ev, Env.get]
  refine WD.append True.intro hd2 hs hy hO hH1 (M' := F ++ (Mx ++ T)) (List.sublist_cons_self _ _) (M0 := F ++ T) (List.perm_append_comm_assoc F Mx T) rfl hx2 (by simp) (Nat.le_refl _) (by simp [hone]) (Nat.le_refl _) (by omega) (by simpa using hsm) fun v' Mx' n' H' q1 q2 q3 => ?_
  exact kk v' Mx' n' H' q1 (q2.perm (List.perm_append_comm_assoc Mx' F T)) (by omega)
end
end Go.Abs
namespace Go.Proofs.Yteopjpfhhekkoaa.Tt
open Go Go.Abs Go.Mth
set_option linter.unusedVariables false
set_option linter.unusedSimpArgs false
theorem eqlB : ∀ a b : Bool, pureRun C.c.P (binOp .eql 4 (.bool a) (.bool b)) = some (.bool (a == b)) := by
  intro a b
  cases a <;> cases b <;> kernel_rfl
theorem numsK_one (kk : IntKind) (l : List Nat) : (numsK kk l).all one = true := by
  rw [List.all_eq_true]; intro q hq; obtain ⟨z, _, rfl⟩ := List.mem_map.1 hq; rfl
theorem err0 {g : Nat} {S : List Sal} (h : OKS g S) : errS (g : Int) S = 0 := errS_zero.2 ⟨g, rfl, h⟩
theorem NumOut.ok {M : HL} {g : Nat} {S : List Sal} {e : Value} (hok : OKS g S) (h : NumOut M g S e) : ∃ a b, one a = true ∧ one b = true ∧ ((tasteB (matS S) = true ∧ e = .tuple #[a, b, .int .i64 0] ∧ ∃ W V, RngP S.length W V ∧ NumP (matS S) W V ∧ Sl M 1 a (ints W) ∧ Sl M 1 b (ints V)) ∨
    (tasteB (matS S) = false ∧ a = .slice none 0 0 ∧ b = .slice none 0 0 ∧ e = .tuple #[a, b, .int .i64 13])) := by
  obtain ⟨a, b, he, ha, hb, hc⟩ := h
  rw [if_neg (not_not_intro (err0 hok))] at he
  refine ⟨a, b, ha, hb, ?_⟩
  rcases hc with ⟨_, h2, h3⟩ | ⟨h1, h2, h3⟩
  · rw [if_pos h2] at he; exact .inl ⟨h2, he, h3⟩
  · rcases h1 with h1 | h1
    · exact absurd (err0 hok) h1
    · rw [h1, if_neg (by decide)] at he; exact .inr ⟨h1, h2, h3, he⟩
theorem RingOut.ok {M : HL} {g : Nat} {S : List Sal} {e : Value} (hok : OKS g S) (h : RingOut M g S e) : ∃ u, one u = true ∧ ((tasteB (matS S) = true ∧ u = .slice none 0 0 ∧ e = .tuple #[u, .int .i64 13]) ∨ (tasteB (matS S) = false ∧ e = .tuple #[u, .int .i64 0] ∧ ∃ z, firstRing (matS S) = some z ∧ Sl M 1 u (nodes z))) := by
  obtain ⟨u, he, hu, hc⟩ := h
  rw [if_neg (not_not_intro (err0 hok))] at he
  refine ⟨u, hu, ?_⟩
  rcases hc with ⟨_, z, h2, h3⟩ | ⟨h1, h2⟩
  · have htb : tasteB (matS S) = false := by rw [tasteB, h2]; rfl
    rw [htb, if_neg (by decide)] at he
    exact .inr ⟨htb, he, z, h2, h3⟩
  · rcases h1 with h1 | h1
    · exact absurd (err0 hok) h1
    · rw [if_pos h1] at he; exact .inl ⟨h1, h2, he⟩
theorem RanksOut.ok {M : HL} {g : Nat} {S : List Sal} {e : Value} (hok : OKS g S) (h : RanksOut M g S e) : ∃ u, one u = true ∧ ((tasteB (matS S) = false ∧ u = .slice none 0 0 ∧ e = .tuple #[u, .int .i64 13]) ∨ (tasteB (matS S) = true ∧ e = .tuple #[u, .int .i64 0] ∧ Sl M 1 u (nodes (rkL (DP (matS S)) S.length)))) := by
  obtain ⟨u, he, hu, hc⟩ := h
  rw [if_neg (not_not_intro (err0 hok))] at he
  refine ⟨u, hu, ?_⟩
  rcases hc with ⟨_, h2, h3⟩ | ⟨h1, h2⟩
  · rw [if_pos h2] at he
    rw [matS_len] at h3
    exact .inr ⟨h2, he, h3⟩
  · rcases h1 with h1 | h1
    · exact absurd (err0 hok) h1
    · rw [h1, if_neg (by decide)] at he; exact .inl ⟨h1, h2, he⟩
/-- A ring that was found first. -/
theorem ring_facts {S : List Sal} {z : List Nat} (h : firstRing (matS S) = some z) : 1 ≤ z.length ∧ z.length ≤ S.length ∧ (∀ x ∈ z, x < S.length) ∧ closL (DP (matS S)) z := by
  have hk := firstRing_least h
  have hl := hk.1.1.len
  rw [matS_len] at hl
  refine ⟨hl.1, hl.2, fun x hx => ?_, hk.1.1.2.2.1, hk.1.2⟩
  have := hk.1.1.2.1 x hx
  rwa [matS_len] at this
end Go.Proofs.Yteopjpfhhekkoaa.Tt

/- The fewest sales that have to be left out. -/
namespace Go.Proofs.Yteopjpfhhekkoaa.Tt
open Go Go.Abs Go.Mth
set_option linter.unusedVariables false
set_option linter.unusedSimpArgs false
def outK (s k : Nat) : List Nat := (List.range k).filter fun i => s.testBit i
def keepK (s k : Nat) : List Nat := (List.range k).filter fun i => !s.testBit i
theorem outK_succ (s k : Nat) : outK s (k + 1) = outK s k ++ if s.testBit k = true then [k] else [] := by
  unfold outK
  rw [List.range_succ, List.filter_append]
  congr 1
  by_cases h : s.testBit k = true
  · rw [if_pos h]; simp only [List.filter, h]
  · rw [if_neg h, Bool.not_eq_true] at *; simp only [List.filter, h]
theorem keepK_succ (s k : Nat) : keepK s (k + 1) = keepK s k ++ if s.testBit k = true then [] else [k] := by
  unfold keepK
  rw [List.range_succ, List.filter_append]
  congr 1
  by_cases h : s.testBit k = true
  · rw [if_pos h]; simp only [List.filter, h, Bool.not_true]
  · rw [if_neg h, Bool.not_eq_true] at *; simp only [List.filter, h, Bool.not_false]
theorem outK_len (s k : Nat) : (outK s k).length ≤ k := Nat.le_trans (List.length_filter_le _ _) (by simp)
theorem keepK_len (s k : Nat) : (keepK s k).length ≤ k := Nat.le_trans (List.length_filter_le _ _) (by simp)
theorem outK_lt {s k : Nat} : ∀ x ∈ outK s k, x < k := fun x hx => List.mem_range.1 (List.mem_filter.1 hx).1
theorem keepK_lt {s k : Nat} : ∀ x ∈ keepK s k, x < k := fun x hx => List.mem_range.1 (List.mem_filter.1 hx).1
theorem mem_outK {s k x : Nat} : x ∈ outK s k ↔ x < k ∧ s.testBit x = true := by simp [outK]
theorem mem_keepK {s k x : Nat} : x ∈ keepK s k ↔ x < k ∧ s.testBit x = false := by simp [keepK]
/-- The costs of some. -/
def pickR (P : List (List Int)) (K : List Nat) (a : Nat) : List Int := K.map fun b => (P.getD a []).getD b 0
def pickP (P : List (List Int)) (K : List Nat) : List (List Int) := K.map (pickR P K)
theorem pickR_len (P : List (List Int)) (K : List Nat) (a : Nat) : (pickR P K a).length = K.length := by simp [pickR]
theorem pickP_len (P : List (List Int)) (K : List Nat) : (pickP P K).length = K.length := by simp [pickP]
theorem pickP_get {P : List (List Int)} {K : List Nat} {i : Nat} (h : i < K.length) : (pickP P K).getD i [] = pickR P K (K.getD i 0) := by
  rw [getD_eq (by rw [pickP_len]; exact h), getD_eq h]; simp [pickP]
theorem pickR_get {P : List (List Int)} {K : List Nat} {a j : Nat} (h : j < K.length) : (pickR P K a).getD j 0 = (P.getD a []).getD (K.getD j 0) 0 := by
  rw [getD_eq (by rw [pickR_len]; exact h), getD_eq h]; simp [pickR]
theorem SqP.pick {P : List (List Int)} {K : List Nat} (h : SqP P) (hK : K.length ≤ 6) : SqP (pickP P K) := by
  refine ⟨by rw [pickP_len]; exact hK, fun i hi => ?_, fun i j => ?_⟩
  · rw [pickP_len] at hi ⊢; rw [pickP_get hi, pickR_len]
  · by_cases hi : i < K.length
    · rw [pickP_get hi]
      by_cases hj : j < K.length
      · rw [pickR_get hj]; exact h.bd _ _
      · rw [List.getD_eq_getElem?_getD (l := pickR _ _ _), List.getElem?_eq_none (by rw [pickR_len]; omega)]; decide
    · rw [List.getD_eq_getElem?_getD (l := pickP P K), List.getElem?_eq_none (by rw [pickP_len]; omega)]; simp
theorem pick_DP {P : List (List Int)} {K : List Nat} {i j : Nat} (hi : i < K.length) (hj : j < K.length) : DP (pickP P K) i j = DP P (K.getD i 0) (K.getD j 0) := by
  unfold DP; rw [pickP_get hi, pickR_get hi, pickR_get hj]
/-- Some of the sales. -/
def pickS (S : List Sal) (K : List Nat) : List Sal := K.map fun i => S.getD i noSal
theorem pickS_len (S : List Sal) (K : List Nat) : (pickS S K).length = K.length := by simp [pickS]
theorem pickS_get {S : List Sal} {K : List Nat} {i : Nat} (h : i < K.length) : (pickS S K).getD i noSal = S.getD (K.getD i 0) noSal := by
  rw [getD_eq (by rw [pickS_len]; exact h), getD_eq h]; simp [pickS]
theorem pick_mat {S : List Sal} {K : List Nat} (hK : ∀ x ∈ K, x < S.length) : matS (pickS S K) = pickP (matS S) K := by
  refine ext_getD (a := []) (by rw [matS_len, pickS_len, pickP_len]) fun i hi => ?_
  rw [matS_len, pickS_len] at hi
  rw [matS_get (by rw [pickS_len]; exact hi), pickP_get hi]
  have hki := hK _ (getD_mem (a := 0) hi)
  refine ext_getD (a := 0) (by rw [rowS_len, pickS_len, pickR_len]) fun j hj => ?_
  rw [rowS_len, pickS_len] at hj
  have hkj := hK _ (getD_mem (a := 0) hj)
  rw [rowS_get (by rw [pickS_len]; exact hj), pickR_get hj, matS_get hki, rowS_get hkj]
  unfold cs
  rw [pickS_get hi, pickS_get hj]
theorem OKS.pick {g : Nat} {S : List Sal} {K : List Nat} (h : OKS g S) (hK : ∀ x ∈ K, x < S.length) (hl : K.length ≤ 6) : OKS g (pickS S K) := by
  have key : ∀ i, i < (pickS S K).length → (pickS S K).getD i noSal = S.getD (K.getD i 0) noSal ∧ K.getD i 0 < S.length := fun i hi => by
    rw [pickS_len] at hi
    exact ⟨pickS_get hi, hK _ (getD_mem hi)⟩
  refine ⟨h.g1, h.g3, by rw [pickS_len]; exact hl, fun i hi => ?_, fun i hi => ?_, fun i hi => ?_, fun i hi => ?_⟩ <;> obtain ⟨k1, k2⟩ := key i hi <;> rw [k1]
  · exact h.lp _ k2
  · exact h.lt _ k2
  · exact h.bp _ k2
  · exact h.bt _ k2
/-- Without a set the others are of one taste. -/
def okW (P : List (List Int)) (s : Nat) : Bool := tasteB (pickP P (keepK s P.length))
def WrongP (P : List (List Int)) (l : List Nat) : Prop := ∃ s, s < 2 ^ P.length ∧ okW P s = true ∧ l = outK s P.length
def BestW (P : List (List Int)) (l : List Nat) : Prop := LeastP (WrongP P) l
/-- The best of those before a number, or of what was there. -/
structure WInv (P : List (List Int)) (k : Nat) (l : List Nat) : Prop where
  is : WrongP P l
  no : ∀ s, s < k → okW P s = true → ¬ ordN (outK s P.length) l
theorem ordN_trans_not {a b c : List Nat} (h : ordN a b) (k : ¬ ordN c b) : ¬ ordN c a := by
  intro q
  apply k
  rcases q with q | ⟨q1, q2⟩ <;> rcases h with h | ⟨h1, h2⟩
  · exact .inl (by omega)
  · exact .inl (by omega)
  · exact .inl (by omega)
  · refine .inr ⟨by omega, ?_⟩
    rw [← lexN_C] at q2 h2 ⊢
    exact lex_trans _ _ _ q2 h2
theorem full_all {n : Nat} : ∀ i, i < n → (2 ^ n - 1).testBit i = true := fun i hi => by
  rw [Nat.testBit_two_pow_sub_one]; simpa using hi
theorem keep_full (n : Nat) : keepK (2 ^ n - 1) n = [] := by
  rw [List.eq_nil_iff_forall_not_mem]
  intro x hx
  obtain ⟨h1, h2⟩ := mem_keepK.1 hx
  rw [full_all x h1] at h2; cases h2
theorem WInv.zero (P : List (List Int)) : WInv P 0 (outK (2 ^ P.length - 1) P.length) :=
  ⟨⟨_, Nat.sub_lt (Nat.two_pow_pos _) (by omega), by rw [okW, keep_full]; rfl, rfl⟩, fun s h => absurd h (Nat.not_lt_zero _)⟩
theorem WInv.take {P : List (List Int)} {k : Nat} {l : List Nat} (h : WInv P k l) (hk : k < 2 ^ P.length) (hok : okW P k = true) (ho : ordN (outK k P.length) l) : WInv P (k + 1) (outK k P.length) := by
  refine ⟨⟨k, hk, hok, rfl⟩, fun s hs hsk => ?_⟩
  by_cases e : s = k
  · rw [e]; exact ordN_irr _
  · exact ordN_trans_not ho (h.no s (by omega) hsk)
theorem WInv.skip {P : List (List Int)} {k : Nat} {l : List Nat} (h : WInv P k l) (ho : ¬ (okW P k = true ∧ ordN (outK k P.length) l)) : WInv P (k + 1) l := by
  refine ⟨h.is, fun s hs hsk => ?_⟩
  by_cases e : s = k
  · rw [e] at hsk ⊢; exact fun q => ho ⟨hsk, q⟩
  · exact h.no s (by omega) hsk
theorem out_ge {P : List (List Int)} {l : List Nat} (h : WrongP P l) : ¬ ordN (outK (2 ^ P.length - 1) P.length) l := by
  obtain ⟨s, hs, _, rfl⟩ := h
  have hfull : outK (2 ^ P.length - 1) P.length = List.range P.length := List.filter_eq_self.2 fun x hx => full_all x (List.mem_range.1 hx)
  rw [hfull]
  intro q
  have hle := outK_len s P.length
  rcases q with q | ⟨q1, q2⟩
  · rw [List.length_range] at q; omega
  · rw [List.length_range] at q1
    have : outK s P.length = List.range P.length := by
      have hsub : (outK s P.length).Sublist (List.range P.length) := List.filter_sublist
      exact hsub.eq_of_length (by rw [List.length_range]; omega)
    rw [this] at q2
    exact lexN_irr _ q2
theorem WInv.fin {P : List (List Int)} {l : List Nat} (h : WInv P (2 ^ P.length - 1) l) : BestW P l := by
  refine ⟨h.is, fun m ⟨s, hs, hok, hm⟩ => ?_⟩
  by_cases e : s = 2 ^ P.length - 1
  · rw [hm, e]; exact out_ge h.is
  · rw [hm]; exact h.no s (by omega) hok
theorem WInv.fin' {P : List (List Int)} {l : List Nat} (h : WInv P (2 ^ P.length) l) : BestW P l :=
  ⟨h.is, fun m ⟨s, hs, hok, hm⟩ => by rw [hm]; exact h.no s hs hok⟩
theorem WrongP.len {P : List (List Int)} {l : List Nat} (h : WrongP P l) : l.length ≤ P.length ∧ ∀ x ∈ l, x < P.length := by
  obtain ⟨s, _, _, rfl⟩ := h
  exact ⟨outK_len _ _, outK_lt⟩
structure DV where
  k : Nat
  a : Value
  b : Value
  Ma : HL
  Mb : HL
  n : Nat
structure WV where
  k : Nat
  v : Value
  l : List Nat
  Mx : HL
  n : Nat
end Go.Proofs.Yteopjpfhhekkoaa.Tt

/- divide, only, isBefore, wrong, Wrong. -/
namespace Go.Proofs.Yteopjpfhhekkoaa.Tt
open Go Go.Abs Go.Mth
set_option linter.unusedVariables false
set_option linter.unusedSimpArgs false
theorem bit_and1 (c a : Nat) : decide (((((c >>> a) &&& 1 : Nat) : Int)) = 1) = c.testBit a := by
  by_cases h : c.testBit a = true
  · rw [h, decide_eq_true (shr_and_one.2 h)]
  · rw [Bool.not_eq_true] at h
    rw [h, decide_eq_false fun k => by rw [shr_and_one.1 k] at h; cases h]
attribute [local irreducible] gOK WS WC WR WD Ends FS YS OpV seqK blockK loopK midK retK rdK asgK rangeEnd sat Cell
section
variable {M : HL} {n0 : Nat} {H : Heap} {v w : Value}
set_option maxHeartbeats 1000000 in
theorem divide_fs (hH : hasH M n0 H) {P : List (List Int)} (hP : SqP P) (hR : RowsI M v P) {s : Nat} (hs : s < 2 ^ P.length) :
    FS C 98 [v, .int .i64 (s : Int)] H (fun e H' => ∃ n' a b Ma Mb, n0 ≤ n' ∧ hasH (Ma ++ (Mb ++ M)) n' H' ∧ Own 3 1 a (nodes (outK s P.length)) Ma ∧ Own 3 1 b (nodes (keepK s P.length)) Mb ∧ e = .tuple #[a, b]) := by
  obtain ⟨cws, hcS, hcl, hcrow⟩ := hR
  have hlen6 := hP.len
  have hs64 : s < 64 := Nat.lt_of_lt_of_le hs (Nat.pow_le_pow_right (by omega) hlen6)
  refine FS.intro (pf := pf98) rfl rfl rfl ?_
  repeat' (first | refine zP ?_ | refine zA ?_ | (refine zM ?_; intro _ _) | refine zX ?_ | (refine zC ?_; intro _ _ _ _) | (refine zS ?_; intro _ _) | (apply Ws <;> intro hg))
  rw [hcl]
  refine WC.loopX [(0, _), (1, _), (8, _)] (fun z : DV => [(4, z.a), (5, z.b), (9, .int .i64 (z.k : Int))]) [] (fun z H' => z.k ≤ P.length ∧ n0 ≤ z.n ∧ Own 3 1 z.a (nodes (outK s z.k)) z.Ma ∧ Own 3 1 z.b (nodes (keepK s z.k)) z.Mb ∧ hasH (z.Ma ++ (z.Mb ++ M)) z.n H') (fun z => P.length - z.k) ⟨0, .slice none 0 0, .slice none 0 0, [], [], n0⟩ (by repeat' (first | exact .nil | refine .cons rfl ?_)) rfl
    ⟨Nat.zero_le _, Nat.le_refl _, .nil, .nil, hH⟩ ?_
  clear hH
  rintro ⟨k, va, vb, Ma, Mb, n1⟩ H1 ⟨hk, hn1, hOa, hOb, hH1⟩
  simp only at hk hn1 hOa hOb hH1
  dsimp only [List.cons_append, List.nil_append]
  repeat' (first | refine zP ?_ | refine zA ?_ | (refine zM ?_; intro _ _) | refine zX ?_ | (refine zC ?_; intro _ _ _ _) | (refine zS ?_; intro _ _) | (apply Ws <;> intro hg))
  refine WC.condP rfl (fun hltk => ?_) (fun hltk => ?_)
  · have hk' : k < P.length := by omega
    have hl1 := outK_len s k
    have hl2 := keepK_len s k
    have hsu1 := outK_succ s k
    have hsu2 := keepK_succ s k
    repeat' (first | refine zP ?_ | refine zA ?_ | (refine zM ?_; intro _ _) | refine zX ?_ | (refine zC ?_; intro _ _ _ _) | (refine zS ?_; intro _ _) | (apply Ws <;> intro hg))
    refine WR.op (by first | exact gN | exact gS rfl) rfl (OpV.shrN rfl rfl (by show k ≤ 64; omega)) ?_
    repeat' (first | refine zP ?_ | refine zA ?_ | (refine zM ?_; intro _ _) | refine zX ?_ | (refine zC ?_; intro _ _ _ _) | (refine zS ?_; intro _ _) | (apply Ws <;> intro hg))
    have hsh : s >>> k ≤ s := by rw [Nat.shiftRight_eq_div_pow]; exact Nat.div_le_self _ _
    refine WR.op (by first | exact gN | exact gS rfl) rfl (OpV.andN (b := 1) rfl rfl (by show s >>> k < 2 ^ 63; omega) (by decide)) ?_
    repeat' (first | refine zP ?_ | refine zA ?_ | (refine zM ?_; intro _ _) | refine zX ?_ | (refine zC ?_; intro _ _ _ _) | (refine zS ?_; intro _ _) | (apply Ws <;> intro hg))
    rw [bit_and1]
    cases hbt : s.testBit k with
    | true =>
      rw [if_pos hbt] at hsu1 hsu2
      rw [List.append_nil] at hsu2
      repeat' (first | refine zP ?_ | refine zA ?_ | (refine zM ?_; intro _ _) | refine zX ?_ | (refine zC ?_; intro _ _ _ _) | (refine zS ?_; intro _ _) | (apply Ws <;> intro hg))
      refine WR.append1F [] Ma (Mb ++ M) rfl rfl rfl rfl hOa hH1 (new := [.int .i64 (k : Int)]) (by rfl) rfl rfl (Nat.le_refl _) (by omega) (by simp; omega) fun v3 M3 n3 H9 hO3 hH9 hn3 => ?_
      repeat' (first | refine zP ?_ | refine zA ?_ | (refine zM ?_; intro _ _) | refine zX ?_ | (refine zC ?_; intro _ _ _ _) | (refine zS ?_; intro _ _) | (apply Ws <;> intro hg))
      refine Ends.loop ⟨k + 1, v3, vb, M3, Mb, n3⟩ (by simp only; omega) (by repeat' (first | exact .nil | refine .cons rfl ?_)) rfl ⟨by simp only; omega, by simp only; omega, ?_, by simp only; rw [hsu2]; exact hOb, hH9⟩
      simp only
      rw [hsu1, show nodes (outK s k ++ [k]) = nodes (outK s k) ++ [.int .i64 (k : Int)] by simp [nodes]]; exact hO3
    | false =>
      rw [if_neg (by rw [hbt]; decide)] at hsu1 hsu2
      rw [List.append_nil] at hsu1
      repeat' (first | refine zP ?_ | refine zA ?_ | (refine zM ?_; intro _ _) | refine zX ?_ | (refine zC ?_; intro _ _ _ _) | (refine zS ?_; intro _ _) | (apply Ws <;> intro hg))
      refine WR.append1F Ma Mb M rfl rfl rfl rfl hOb hH1 (new := [.int .i64 (k : Int)]) (by rfl) rfl rfl (Nat.le_refl _) (by omega) (by simp; omega) fun v3 M3 n3 H9 hO3 hH9 hn3 => ?_
      repeat' (first | refine zP ?_ | refine zA ?_ | (refine zM ?_; intro _ _) | refine zX ?_ | (refine zC ?_; intro _ _ _ _) | (refine zS ?_; intro _ _) | (apply Ws <;> intro hg))
      refine Ends.loop ⟨k + 1, va, v3, Ma, M3, n3⟩ (by simp only; omega) (by repeat' (first | exact .nil | refine .cons rfl ?_)) rfl ⟨by simp only; omega, by simp only; omega, by simp only; rw [hsu1]; exact hOa, ?_, hH9⟩
      simp only
      rw [hsu2, show nodes (keepK s k ++ [k]) = nodes (keepK s k) ++ [.int .i64 (k : Int)] by simp [nodes]]; exact hO3
  · have hkl : k = P.length := by omega
    subst hkl
    repeat' (first | refine zP ?_ | refine zA ?_ | (refine zM ?_; intro _ _) | refine zX ?_ | (refine zC ?_; intro _ _ _ _) | (refine zS ?_; intro _ _) | (apply Ws <;> intro hg))
    exact Ends.ret2 rfl rfl ⟨n1, va, vb, Ma, Mb, hn1, hH1, hOa, hOb, rfl⟩
set_option maxHeartbeats 2000000 in
theorem only_fs (hH : hasH M n0 H) {P : List (List Int)} (hP : SqP P) (hR : RowsI M v P) {K : List Nat} (hK : Sl M 1 w (nodes K)) (hKl : K.length ≤ 6) (hKb : ∀ x ∈ K, x < P.length) :
    FS C 100 [v, w] H (fun e H' => ∃ n' M2, n0 ≤ n' ∧ hasH (M2 ++ M) n' H' ∧ RowsI (M2 ++ M) e (pickP P K)) := by
  obtain ⟨cws, hcS, hcl, hcrow⟩ := hR
  have hlen6 := hP.len
  have hpl := pickP_len P K
  refine FS.intro (pf := pf100) rfl rfl rfl ?_
  repeat' (first | refine zP ?_ | refine zA ?_ | (refine zM ?_; intro _ _) | refine zX ?_ | (refine zC ?_; intro _ _ _ _) | (refine zS ?_; intro _ _) | (apply Ws <;> intro hg))
  refine WC.loopX [(0, _), (1, _), (11, _), (12, _)] (fun s : CO => [(5, s.v), (13, .int .i64 (s.a : Int))]) [] (fun s H' => s.a ≤ K.length ∧ n0 ≤ s.n ∧ Own 39 1 s.v s.ws s.Mo ∧ RowsP (s.Mi ++ M) s.ws ((pickP P K).take s.a) ∧ hasH (s.Mo ++ (s.Mi ++ M)) s.n H') (fun s => K.length - s.a) ⟨0, .slice none 0 0, [], [], [], n0⟩ (by repeat' (first | exact .nil | refine .cons rfl ?_)) rfl
    ⟨Nat.zero_le _, Nat.le_refl _, .nil, .nil _, hH⟩ ?_
  clear hH
  rintro ⟨a, va, ws, Mo, Mi, n1⟩ H1 ⟨ha, hn1, hO, hRr, hH1⟩
  simp only at ha hn1 hO hRr hH1
  have hK1 : Sl (Mo ++ (Mi ++ M)) 1 w (nodes K) := hK.mono fun q hq => List.mem_append_right _ (List.mem_append_right _ hq)
  dsimp only [List.cons_append, List.nil_append]
  repeat' (first | refine zP ?_ | refine zA ?_ | (refine zM ?_; intro _ _) | refine zX ?_ | (refine zC ?_; intro _ _ _ _) | (refine zS ?_; intro _ _) | (apply Ws <;> intro hg))
  refine WC.condP rfl (fun hlta => ?_) (fun hlta => ?_)
  · have ha' : a < K.length := by omega
    have hka := hKb _ (getD_mem (a := 0) ha')
    have hrl := pickR_len P K (K.getD a 0)
    repeat' (first | refine zP ?_ | refine zA ?_ | (refine zM ?_; intro _ _) | refine zX ?_ | (refine zC ?_; intro _ _ _ _) | (refine zS ?_; intro _ _) | (apply Ws <;> intro hg))
    clear hK1
    refine WC.loopX [(0, _), (1, _), (5, _), (7, .int .i64 (K.getD a 0 : Nat)), (11, _), (12, _), (13, .int .i64 (a : Int)), (17, w), (18, _)] (fun s : CI => [(8, s.v), (19, .int .i64 (s.b : Int))]) [] (fun s H' => s.b ≤ K.length ∧ n1 ≤ s.n ∧ Own 3 1 s.v (ints ((pickR P K (K.getD a 0)).take s.b)) s.Mr ∧ hasH (s.Mr ++ (Mo ++ (Mi ++ M))) s.n H') (fun s => K.length - s.b) ⟨0, .slice none 0 0, [], [], n1⟩ (by repeat' (first | exact .nil | refine .cons rfl ?_)) rfl
      ⟨Nat.zero_le _, Nat.le_refl _, .nil, hH1⟩ ?_
    clear hH1
    rintro ⟨b, vb, Mr, _, n2⟩ H5 ⟨hb, hn2, hOr, hH5⟩
    simp only at hb hn2 hOr hH5
    have hK2 : Sl (Mr ++ (Mo ++ (Mi ++ M))) 1 w (nodes K) := hK.mono fun q hq => List.mem_append_right _ (List.mem_append_right _ (List.mem_append_right _ hq))
    dsimp only [List.cons_append, List.nil_append]
    repeat' (first | refine zP ?_ | refine zA ?_ | (refine zM ?_; intro _ _) | refine zX ?_ | (refine zC ?_; intro _ _ _ _) | (refine zS ?_; intro _ _) | (apply Ws <;> intro hg))
    refine WC.condP rfl (fun hltb => ?_) (fun hltb => ?_)
    · have hb' : b < K.length := by omega
      have hkb := hKb _ (getD_mem (a := 0) hb')
      have hcS2 : Sl (Mr ++ (Mo ++ (Mi ++ M))) 1 v cws := hcS.mono fun q hq => List.mem_append_right _ (List.mem_append_right _ (List.mem_append_right _ hq))
      have hcr := (hcrow _ hka).mono (M' := Mr ++ (Mo ++ (Mi ++ M))) fun q hq => List.mem_append_right _ (List.mem_append_right _ (List.mem_append_right _ hq))
      have hprl := hP.row _ hka
      have hpg := pickR_get (P := P) (a := K.getD a 0) hb'
      repeat' (first | refine zP ?_ | refine zA ?_ | (refine zM ?_; intro _ _) | refine zX ?_ | (refine zC ?_; intro _ _ _ _) | (refine zS ?_; intro _ _) | (apply Ws <;> intro hg))
      rw [← hpg]
      refine WR.append1F [] Mr (Mo ++ (Mi ++ M)) rfl rfl rfl rfl hOr hH5 (new := [.int .i64 ((pickR P K (K.getD a 0)).getD b 0)]) (by rfl) rfl rfl (Nat.le_refl _) (by omega) (by simp [hrl]; omega) fun v3 M3 n3 H9 hO3 hH9 hn3 => ?_
      repeat' (first | refine zP ?_ | refine zA ?_ | (refine zM ?_; intro _ _) | refine zX ?_ | (refine zC ?_; intro _ _ _ _) | (refine zS ?_; intro _ _) | (apply Ws <;> intro hg))
      refine Ends.loop ⟨b + 1, v3, M3, [], n3⟩ (by simp only; omega) (by repeat' (first | exact .nil | refine .cons rfl ?_)) rfl ⟨by simp only; omega, by simp only; omega, ?_, hH9⟩
      simp only
      rw [take_snoc' (d := 0) (by omega)]
      simpa [ints] using hO3
    · have hbl : b = K.length := by omega
      subst hbl
      rw [List.take_of_length_le (by omega)] at hOr
      have hu1 := (hOr.sl M).one_
      have hwsl := hRr.1
      rw [List.length_take, hpl] at hwsl
      repeat' (first | refine zP ?_ | refine zA ?_ | (refine zM ?_; intro _ _) | refine zX ?_ | (refine zC ?_; intro _ _ _ _) | (refine zS ?_; intro _ _) | (apply Ws <;> intro hg))
      refine WR.append1F Mr Mo (Mi ++ M) rfl rfl rfl rfl hO hH5 (new := [vb]) (fill1 hu1) (by simp [hu1]) rfl (Nat.le_refl _) (by omega) (by simp; omega) fun v3 M3 n3 H6 hO3 hH6 hn3 => ?_
      repeat' (first | refine zP ?_ | refine zA ?_ | (refine zM ?_; intro _ _) | refine zX ?_ | (refine zC ?_; intro _ _ _ _) | (refine zS ?_; intro _ _) | (apply Ws <;> intro hg))
      refine Ends.loop ⟨a + 1, v3, ws ++ [vb], M3, Mr ++ Mi, n3⟩ (by simp only; omega) (by repeat' (first | exact .nil | refine .cons rfl ?_)) rfl ⟨by simp only; omega, by simp only; omega, hO3, ?_, hH6.perm (by classical exact List.perm_iff_count.2 (fun a => by simp only [defds, List.map_cons, List.map_nil, List.count_append, List.count_cons, List.count_nil, List.cons_append, List.nil_append, List.append_nil]; omega))⟩
      simp only
      rw [take_snoc' (d := []) (by omega), pickP_get ha']
      refine RowsP.snoc (hRr.mono fun q hq => by rw [List.append_assoc]; exact List.mem_append_right _ hq) ?_
      rw [List.append_assoc]
      exact hOr.sl (Mi ++ M)
  · have hal : a = K.length := by omega
    subst hal
    rw [List.take_of_length_le (by omega)] at hRr
    repeat' (first | refine zP ?_ | refine zA ?_ | (refine zM ?_; intro _ _) | refine zX ?_ | (refine zC ?_; intro _ _ _ _) | (refine zS ?_; intro _ _) | (apply Ws <;> intro hg))
    refine Ends.ret1 rfl ⟨n1, Mo ++ Mi, hn1, by simpa using hH1, ?_⟩
    rw [List.append_assoc]
    exact (hRr.mono fun q hq => List.mem_append_right _ hq).rows (hO.sl (Mi ++ M))
theorem isBefore_fs (hH : hasH M n0 H) {l m : List Nat} (hS : Sl M 1 v (nodes l)) (hU : Sl M 1 w (nodes m)) (hl : l.length ≤ 1000) (hm : m.length ≤ 1000) :
    FS C 99 [v, w] H (fun e H' => H' = H ∧ e = .bool (decide (ordN l m))) := by
  refine FS.intro (pf := pf99) rfl rfl rfl ?_
  repeat' (first | refine zP ?_ | refine zA ?_ | (refine zM ?_; intro _ _) | refine zX ?_ | (refine zC ?_; intro _ _ _ _) | (refine zS ?_; intro _ _) | (apply Ws <;> intro hg))
  refine WC.condP rfl (fun hne => ?_) (fun hne => ?_)
  · repeat' (first | refine zP ?_ | refine zA ?_ | (refine zM ?_; intro _ _) | refine zX ?_ | (refine zC ?_; intro _ _ _ _) | (refine zS ?_; intro _ _) | (apply Ws <;> intro hg))
    refine Ends.ret1 rfl ⟨rfl, ?_⟩
    congr 1
    refine decide_eq_decide.2 ⟨fun h => .inl (by omega), fun h => ?_⟩
    rcases h with h | ⟨h, _⟩ <;> omega
  · repeat' (first | refine zP ?_ | refine zA ?_ | (refine zM ?_; intro _ _) | refine zX ?_ | (refine zC ?_; intro _ _ _ _) | (refine zS ?_; intro _ _) | (apply Ws <;> intro hg))
    refine WR.call (by first | exact gN | exact gS rfl) rfl rfl (CompareN_fs hH hS hU hl hm) ?_
    rintro _ _ ⟨rfl, rfl⟩
    repeat' (first | refine zP ?_ | refine zA ?_ | (refine zM ?_; intro _ _) | refine zX ?_ | (refine zC ?_; intro _ _ _ _) | (refine zS ?_; intro _ _) | (apply Ws <;> intro hg))
    refine Ends.ret1 rfl ⟨rfl, ?_⟩
    congr 1
    rw [decide_eq_decide, lexN_C]
    exact ⟨fun h => .inr ⟨by omega, h⟩, fun h => by rcases h with h | ⟨_, h⟩; omega; exact h⟩
set_option maxHeartbeats 2000000 in
theorem wrong_fs (hH : hasH M n0 H) {P : List (List Int)} (hP : SqP P) (hR : RowsI M v P) :
    FS C 85 [v] H (fun e H' => ∃ n' M2 l, n0 ≤ n' ∧ hasH (M2 ++ M) n' H' ∧ BestW P l ∧ Sl (M2 ++ M) 1 e (nodes l)) := by
  have hRR := hR
  obtain ⟨cws, hcS, hcl, hcrow⟩ := hR
  have hlen6 := hP.len
  have h2n : 1 ≤ 2 ^ P.length ∧ 2 ^ P.length ≤ 64 := ⟨Nat.two_pow_pos _, Nat.le_trans (Nat.pow_le_pow_right (by omega) hlen6) (by decide)⟩
  refine FS.intro (pf := pf85) rfl rfl rfl ?_
  repeat' (first | refine zP ?_ | refine zA ?_ | (refine zM ?_; intro _ _) | refine zX ?_ | (refine zC ?_; intro _ _ _ _) | (refine zS ?_; intro _ _) | (apply Ws <;> intro hg))
  rw [hcl]
  refine WR.op (by first | exact gN | exact gS rfl) rfl (OpV.shl1 rfl rfl (by show P.length ≤ 64; omega) (by show 2 ^ P.length < 2 ^ 63; omega)) ?_
  repeat' (first | refine zP ?_ | refine zA ?_ | (refine zM ?_; intro _ _) | refine zX ?_ | (refine zC ?_; intro _ _ _ _) | (refine zS ?_; intro _ _) | (apply Ws <;> intro hg))
  rw [show ((2 ^ P.length : Nat) : Int) - 1 = ((2 ^ P.length - 1 : Nat) : Int) by omega]
  repeat' (first | refine zP ?_ | refine zA ?_ | (refine zM ?_; intro _ _) | refine zX ?_ | (refine zC ?_; intro _ _ _ _) | (refine zS ?_; intro _ _) | (apply Ws <;> intro hg))
  refine WR.call (by first | exact gN | exact gS rfl) rfl rfl (divide_fs hH hP hRR (s := 2 ^ P.length - 1) (by omega)) ?_
  rintro _ H1 ⟨n1, a, b, Ma, Mb, hn1, hH1, hOa, hOb, rfl⟩
  have ha1 := (hOa.sl []).one_
  have hb1 := (hOb.sl []).one_
  clear hH
  repeat' (first | refine zP ?_ | refine zA ?_ | (refine zM ?_; intro _ _) | refine zX ?_ | (refine zC ?_; intro _ _ _ _) | (refine zS ?_; intro _ _) | (apply Ws <;> intro hg))
  refine WC.loopX [(0, v), (19, _)] (fun s : WV => [(4, s.v), (20, .int .i64 (s.k : Int))]) [] (fun s H' => s.k ≤ 2 ^ P.length - 1 ∧ n0 ≤ s.n ∧ WInv P s.k s.l ∧ Sl s.Mx 1 s.v (nodes s.l) ∧ hasH (s.Mx ++ M) s.n H') (fun s => 2 ^ P.length - 1 - s.k) ⟨0, a, _, Ma, n1⟩ (by repeat' (first | exact .nil | refine .cons rfl ?_)) rfl
    ⟨Nat.zero_le _, hn1, .zero P, by have := hOa.sl []; rwa [List.append_nil] at this, hH1.sub ((List.Sublist.refl _).append (List.sublist_append_right _ _))⟩ ?_
  clear hH1 hOa hOb
  rintro ⟨k, va, l, Mx, n2⟩ H2 ⟨hk, hn2, hI, hSl, hH2⟩
  simp only at hk hn2 hI hSl hH2
  dsimp only [List.cons_append, List.nil_append]
  repeat' (first | refine zP ?_ | refine zA ?_ | (refine zM ?_; intro _ _) | refine zX ?_ | (refine zC ?_; intro _ _ _ _) | (refine zS ?_; intro _ _) | (apply Ws <;> intro hg))
  refine WC.condP rfl (fun hltk => ?_) (fun hltk => ?_)
  · have hk' : k < 2 ^ P.length - 1 := by omega
    repeat' (first | refine zP ?_ | refine zA ?_ | (refine zM ?_; intro _ _) | refine zX ?_ | (refine zC ?_; intro _ _ _ _) | (refine zS ?_; intro _ _) | (apply Ws <;> intro hg))
    refine WR.call (by first | exact gN | exact gS rfl) rfl rfl (divide_fs hH2 hP (hRR.mono fun q hq => List.mem_append_right _ hq) (s := k) (by omega)) ?_
    rintro _ H3 ⟨n3, a, b, Ma, Mb, hn3, hH3, hOa, hOb, rfl⟩
    have ha1 := (hOa.sl []).one_
    have hb1 := (hOb.sl []).one_
    have hSa := hOa.sl (Mb ++ (Mx ++ M))
    have hSb := (hOb.sl (Mx ++ M)).mono (M' := Ma ++ (Mb ++ (Mx ++ M))) fun q hq => List.mem_append_right _ hq
    have hSl2 := hSl.mono (M' := Ma ++ (Mb ++ (Mx ++ M))) fun q hq => List.mem_append_right _ (List.mem_append_right _ (List.mem_append_left _ hq))
    have hol := outK_len k P.length
    have hkl := keepK_len k P.length
    have hll := hI.is.len.1
    clear hH2
    repeat' (first | refine zP ?_ | refine zA ?_ | (refine zM ?_; intro _ _) | refine zX ?_ | (refine zC ?_; intro _ _ _ _) | (refine zS ?_; intro _ _) | (apply Ws <;> intro hg))
    refine WR.call (by first | exact gN | exact gS rfl) rfl rfl (isBefore_fs hH3 hSa hSl2 (by omega) (by omega)) ?_
    rintro _ H4 ⟨rfl, rfl⟩
    have hback : ∀ {n : Nat} {H : Heap}, hasH (Ma ++ (Mb ++ (Mx ++ M))) n H → hasH (Mx ++ M) n H := fun h => h.sub ((List.sublist_append_right _ _).trans (List.sublist_append_right _ _))
    by_cases ho : ordN (outK k P.length) l
    · rw [decide_eq_true ho]
      repeat' (first | refine zP ?_ | refine zA ?_ | (refine zM ?_; intro _ _) | refine zX ?_ | (refine zC ?_; intro _ _ _ _) | (refine zS ?_; intro _ _) | (apply Ws <;> intro hg))
      refine WR.call (by first | exact gN | exact gS rfl) rfl rfl (only_fs hH3 hP (hRR.mono fun q hq => List.mem_append_right _ (List.mem_append_right _ (List.mem_append_right _ hq))) hSb (by omega) keepK_lt) ?_
      rintro e5 H5 ⟨n5, M5, hn5, hH5, hR5⟩
      repeat' (first | refine zP ?_ | refine zA ?_ | (refine zM ?_; intro _ _) | refine zX ?_ | (refine zC ?_; intro _ _ _ _) | (refine zS ?_; intro _ _) | (apply Ws <;> intro hg))
      refine WR.call (by first | exact gN | exact gS rfl) rfl rfl (oneTaste_fs hH5 (hP.pick (K := keepK k P.length) (by omega)) hR5) ?_
      rintro _ H6 ⟨n6, hn6, hH6, rfl⟩
      have hH7 : hasH (Ma ++ (Mb ++ (Mx ++ M))) n6 H6 := hH6.sub (List.sublist_append_right _ _)
      rw [show tasteB (pickP P (keepK k P.length)) = okW P k from rfl]
      cases hok : okW P k with
      | true =>
        repeat' (first | refine zP ?_ | refine zA ?_ | (refine zM ?_; intro _ _) | refine zX ?_ | (refine zC ?_; intro _ _ _ _) | (refine zS ?_; intro _ _) | (apply Ws <;> intro hg))
        refine Ends.loop ⟨k + 1, a, outK k P.length, Ma, n6⟩ (by simp only; omega) (by repeat' (first | exact .nil | refine .cons rfl ?_)) rfl ⟨by simp only; omega, by simp only; omega, hI.take (by omega) hok ho, by have := hOa.sl []; rwa [List.append_nil] at this, ?_⟩
        exact hH7.sub ((List.Sublist.refl _).append ((List.sublist_append_right _ _).trans (List.sublist_append_right _ _)))
      | false =>
        repeat' (first | refine zP ?_ | refine zA ?_ | (refine zM ?_; intro _ _) | refine zX ?_ | (refine zC ?_; intro _ _ _ _) | (refine zS ?_; intro _ _) | (apply Ws <;> intro hg))
        exact Ends.loop ⟨k + 1, va, l, Mx, n6⟩ (by simp only; omega) (by repeat' (first | exact .nil | refine .cons rfl ?_)) rfl ⟨by simp only; omega, by simp only; omega, hI.skip (fun h => by rw [hok] at h; cases h.1), hSl, hback hH7⟩
    · rw [decide_eq_false ho]
      repeat' (first | refine zP ?_ | refine zA ?_ | (refine zM ?_; intro _ _) | refine zX ?_ | (refine zC ?_; intro _ _ _ _) | (refine zS ?_; intro _ _) | (apply Ws <;> intro hg))
      exact Ends.loop ⟨k + 1, va, l, Mx, n3⟩ (by simp only; omega) (by repeat' (first | exact .nil | refine .cons rfl ?_)) rfl ⟨by simp only; omega, by simp only; omega, hI.skip (fun h => ho h.2), hSl, hback hH3⟩
  · have hkl : k = 2 ^ P.length - 1 := by omega
    subst hkl
    repeat' (first | refine zP ?_ | refine zA ?_ | (refine zM ?_; intro _ _) | refine zX ?_ | (refine zC ?_; intro _ _ _ _) | (refine zS ?_; intro _ _) | (apply Ws <;> intro hg))
    exact Ends.ret1 rfl ⟨n2, Mx, l, hn2, hH2, hI.fin, hSl.mono fun q hq => List.mem_append_left _ hq⟩
/-- What Wrong returns. -/
def WrongOut (M : HL) (g : Int) (S : List Sal) (e : Value) : Prop := ∃ u, e = .tuple #[u, .int .i64 (errS g S)] ∧ one u = true ∧ ((errS g S = 0 ∧ ∃ l, BestW (matS S) l ∧ Sl M 1 u (nodes l)) ∨ (errS g S ≠ 0 ∧ u = .slice none 0 0))
theorem Wrong_fs (hH : hasH M n0 H) {S : List Sal} (hS : SalesI M v S) (hl : LenS S) (g : Int) :
    FS C 39 [.int .i64 g, v] H (fun e H' => ∃ n' M2, n0 ≤ n' ∧ hasH (M2 ++ M) n' H' ∧ WrongOut (M2 ++ M) g S e) := by
  have hv := hS.one_
  have hr := errS_range g S
  refine FS.intro (pf := pf39) rfl rfl rfl ?_
  repeat' (first | refine zP ?_ | refine zA ?_ | (refine zM ?_; intro _ _) | refine zX ?_ | (refine zC ?_; intro _ _ _ _) | (refine zS ?_; intro _ _) | (apply Ws <;> intro hg))
  refine WR.call (by first | exact gN | exact gS rfl) rfl rfl (reckon_fs hH hS hl g) ?_
  rintro _ H2 ⟨n2, M2, u, hn2, hH2, hu, rfl, ⟨he, rfl⟩ | ⟨h0, ⟨k, rfl, hk⟩, hP, hR⟩⟩
  · repeat' (first | refine zP ?_ | refine zA ?_ | (refine zM ?_; intro _ _) | refine zX ?_ | (refine zC ?_; intro _ _ _ _) | (refine zS ?_; intro _ _) | (apply Ws <;> intro hg))
    refine WC.condP rfl (fun he2 => ?_) (fun he2 => ?_)
    · repeat' (first | refine zP ?_ | refine zA ?_ | (refine zM ?_; intro _ _) | refine zX ?_ | (refine zC ?_; intro _ _ _ _) | (refine zS ?_; intro _ _) | (apply Ws <;> intro hg))
      exact Ends.ret2 rfl rfl ⟨n2, M2, hn2, hH2, _, rfl, rfl, .inr ⟨he, rfl⟩⟩
    · exact absurd he he2
  · rw [h0]
    repeat' (first | refine zP ?_ | refine zA ?_ | (refine zM ?_; intro _ _) | refine zX ?_ | (refine zC ?_; intro _ _ _ _) | (refine zS ?_; intro _ _) | refine zO ?_ | (apply Ws <;> intro hg))
    refine WR.call (by first | exact gN | exact gS rfl) rfl rfl (wrong_fs hH2 hP hR) ?_
    rintro e3 H3 ⟨n3, M3, l, hn3, hH3, hB, hSl⟩
    have he31 := hSl.one_
    repeat' (first | refine zP ?_ | refine zA ?_ | (refine zM ?_; intro _ _) | refine zX ?_ | (refine zC ?_; intro _ _ _ _) | (refine zS ?_; intro _ _) | (apply Ws <;> intro hg))
    exact Ends.ret2 rfl rfl ⟨n3, M3 ++ M2, by omega, by simpa using hH3, e3, by rw [h0], he31, .inl ⟨h0, l, hB, by simpa using hSl⟩⟩
theorem WrongOut.ok {M : HL} {g : Nat} {S : List Sal} {e : Value} (hok : OKS g S) (h : WrongOut M g S e) : ∃ u l, one u = true ∧ BestW (matS S) l ∧ Sl M 1 u (nodes l) ∧ e = .tuple #[u, .int .i64 0] := by
  obtain ⟨u, he, hu, ⟨_, l, k1, k2⟩ | ⟨k1, _⟩⟩ := h
  · rw [err0 hok] at he; exact ⟨u, l, hu, k1, k2, he⟩
  · exact absurd (err0 hok) k1
end
end Go.Proofs.Yteopjpfhhekkoaa.Tt

/- TasteLeft. -/
namespace Go.Proofs.Yteopjpfhhekkoaa.Tt
open Go Go.Abs Go.Mth
set_option linter.unusedVariables false
set_option linter.unusedSimpArgs false
structure LV where
  k : Nat
  v : Value
  l : List Nat
  f : Bool
  Mx : HL
  n : Nat
structure LI where
  k : Nat
  a : Value
  b : Value
  ws : List (Value × Value)
  Ma : HL
  Mb : HL
  n : Nat
/-- The best so far, if there is one. -/
def LInv (P : List (List Int)) (k : Nat) (f : Bool) (l : List Nat) : Prop := (f = false ∧ l = [] ∧ ∀ s, s < k → okW P s = false) ∨ (f = true ∧ WInv P k l)
theorem LInv.skip {P : List (List Int)} {k : Nat} {f : Bool} {l : List Nat} (h : LInv P k f l) (hok : okW P k = false) : LInv P (k + 1) f l := by
  rcases h with ⟨h1, h2, h3⟩ | ⟨h1, h2⟩
  · refine .inl ⟨h1, h2, fun s hs => ?_⟩
    by_cases e : s = k
    · rw [e]; exact hok
    · exact h3 s (by omega)
  · exact .inr ⟨h1, h2.skip fun q => by rw [hok] at q; cases q.1⟩
theorem LInv.first {P : List (List Int)} {k : Nat} {l : List Nat} (h : LInv P k false l) (hk : k < 2 ^ P.length) (hok : okW P k = true) : LInv P (k + 1) true (outK k P.length) := by
  rcases h with ⟨_, _, h3⟩ | ⟨h1, _⟩
  · refine .inr ⟨rfl, ⟨k, hk, hok, rfl⟩, fun s hs hsk => ?_⟩
    by_cases e : s = k
    · rw [e]; exact ordN_irr _
    · rw [h3 s (by omega)] at hsk; cases hsk
  · cases h1
theorem LInv.take {P : List (List Int)} {k : Nat} {l : List Nat} (h : LInv P k true l) (hk : k < 2 ^ P.length) (hok : okW P k = true) (ho : ordN (outK k P.length) l) : LInv P (k + 1) true (outK k P.length) := by
  rcases h with ⟨h1, _⟩ | ⟨_, h2⟩
  · cases h1
  · exact .inr ⟨rfl, h2.take hk hok ho⟩
theorem LInv.keep {P : List (List Int)} {k : Nat} {l : List Nat} (h : LInv P k true l) (ho : ¬ ordN (outK k P.length) l) : LInv P (k + 1) true l := by
  rcases h with ⟨h1, _⟩ | ⟨_, h2⟩
  · cases h1
  · exact .inr ⟨rfl, h2.skip fun q => ho q.2⟩
theorem LInv.fin {P : List (List Int)} {f : Bool} {l : List Nat} (h : LInv P (2 ^ P.length) f l) : BestW P l := by
  rcases h with ⟨_, _, h3⟩ | ⟨_, h2⟩
  · have := h3 (2 ^ P.length - 1) (Nat.sub_lt (Nat.two_pow_pos _) (by omega))
    rw [okW, keep_full] at this; cases this
  · exact h2.fin'
theorem LInv.len {P : List (List Int)} {k : Nat} {f : Bool} {l : List Nat} (h : LInv P k f l) : l.length ≤ P.length := by
  rcases h with ⟨_, rfl, _⟩ | ⟨_, h⟩
  · exact Nat.zero_le _
  · exact h.is.len.1
theorem BestW.unique {P : List (List Int)} {l m : List Nat} (h : BestW P l) (k : BestW P m) : l = m := LeastP.unique h k
/-- Nothing is wrong just if all are of one taste. -/
theorem keep_zero (n : Nat) : keepK 0 n = List.range n := List.filter_eq_self.2 fun x _ => by simp
theorem pick_all {P : List (List Int)} (hP : SqP P) : pickP P (List.range P.length) = P := by
  refine ext_getD (a := []) (by rw [pickP_len, List.length_range]) fun i hi => ?_
  rw [pickP_len, List.length_range] at hi
  have hr : ∀ j, j < P.length → (List.range P.length).getD j 0 = j := fun j hj => by rw [getD_eq (by simpa using hj)]; simp
  rw [pickP_get (by simpa using hi), hr i hi]
  refine ext_getD (a := 0) (by rw [pickR_len, List.length_range, hP.row i hi]) fun j hj => ?_
  rw [pickR_len, List.length_range] at hj
  rw [pickR_get (by simpa using hj), hr j hj]
theorem out_nil {s n : Nat} (hs : s < 2 ^ n) (h : outK s n = []) : s = 0 := by
  refine Nat.eq_of_testBit_eq fun i => ?_
  rw [Nat.zero_testBit]
  rcases Nat.lt_or_ge i n with hi | hi
  · cases hb : s.testBit i with
    | false => rfl
    | true => have := mem_outK.2 ⟨hi, hb⟩; rw [h] at this; cases this
  · exact Nat.testBit_lt_two_pow (Nat.lt_of_lt_of_le hs (Nat.pow_le_pow_right (by omega) hi))
theorem out_zero (n : Nat) : outK 0 n = [] := by
  rw [List.eq_nil_iff_forall_not_mem]
  intro x hx
  have := (mem_outK.1 hx).2
  rw [Nat.zero_testBit] at this; cases this
theorem okW_zero {P : List (List Int)} (hP : SqP P) : okW P 0 = tasteB P := by rw [okW, keep_zero, pick_all hP]
theorem wrong_nil {P : List (List Int)} (hP : SqP P) {l : List Nat} (h : BestW P l) : l = [] ↔ tasteB P = true := by
  constructor
  · rintro rfl
    obtain ⟨s, hs, hok, ho⟩ := h.1
    rw [out_nil hs ho.symm, okW_zero hP] at hok
    exact hok
  · intro ht
    have h0 : WrongP P [] := ⟨0, Nat.two_pow_pos _, by rw [okW_zero hP]; exact ht, (out_zero _).symm⟩
    have := h.2 _ h0
    cases l with
    | nil => rfl
    | cons a l => exact absurd (.inl (by simp)) this
theorem ring_hit {P : List (List Int)} {z l : List Nat} (hz : Chain (gD (DP P)) P.length z) (hc : closB (DP P) z = true) (hl : BestW P l) : ∃ x ∈ z, x ∈ l := by
  obtain ⟨s, hs, hok, rfl⟩ := hl.1
  apply Classical.byContradiction
  intro hn
  have hzK : ∀ x ∈ z, x ∈ keepK s P.length := fun x hx => by
    rw [mem_keepK]
    refine ⟨hz.2.1 x hx, ?_⟩
    cases hb : s.testBit x with
    | false => rfl
    | true => exact absurd ⟨x, hx, mem_outK.2 ⟨hz.2.1 x hx, hb⟩⟩ hn
  have hzl := hz.len
  have key : ringed (DP (pickP P (keepK s P.length))) (pickP P (keepK s P.length)).length := by
    rw [pickP_len]
    obtain ⟨hcy, hst⟩ := Bool.and_eq_true_iff.1 hc
    rw [cycB_iff] at hcy
    obtain ⟨i, hi, hd⟩ := strB_iff.1 hst
    have hm : ∀ x, x % z.length < z.length := fun x => Nat.mod_lt _ (by omega)
    have hat : ∀ j, j < z.length → ∃ p, p < (keepK s P.length).length ∧ (keepK s P.length).getD p 0 = z.getD j 0 := fun j hj => mem_at (hzK _ (getD_mem hj))
    have go : ∀ t j, t < z.length → ∀ p, p < (keepK s P.length).length → (keepK s P.length).getD p 0 = z.getD t 0 → ∃ q, q < (keepK s P.length).length ∧ (keepK s P.length).getD q 0 = z.getD ((t + j) % z.length) 0 ∧ RT (gD (DP (pickP P (keepK s P.length)))) (keepK s P.length).length p q := by
      intro t j ht p hp hpe
      induction j with
      | zero => exact ⟨p, hp, by rw [Nat.add_zero, Nat.mod_eq_of_lt ht]; exact hpe, .refl hp⟩
      | succ j ih =>
        obtain ⟨q, hq, hqe, hr⟩ := ih
        obtain ⟨r, hr2, hre⟩ := hat _ (hm (t + (j + 1)))
        refine ⟨r, hr2, hre, .step hr (gD_iff.2 ?_) hr2⟩
        rw [pick_DP hq hr2, hqe, hre]
        have := (hcy ((t + j) % z.length) (hm _)).2
        unfold nxtE at this
        rwa [Nat.mod_add_mod] at this
    obtain ⟨p, hp, hpe⟩ := hat i hi
    obtain ⟨q, hq, hqe⟩ := hat ((i + 1) % z.length) (hm _)
    obtain ⟨r, hr, hre, hrt⟩ := go ((i + 1) % z.length) (z.length - 1) (hm _) q hq hqe
    rw [Nat.mod_add_mod, show i + 1 + (z.length - 1) = i + z.length by omega, Nat.add_mod_right, Nat.mod_eq_of_lt hi] at hre
    refine ⟨r, q, hr, hq, ?_, hrt⟩
    rw [pick_DP hr hq, hre, hqe]
    exact hd
  have := tasteB_iff.1 hok
  exact this key
end Go.Proofs.Yteopjpfhhekkoaa.Tt
