/- Texts of the law, joined. -/
import Derived.Test.YteopjpfhhekkoaaJ3
import Derived.Test.YteopjpfhhekkoaaJ1
/- lead; ringed. -/
namespace Go.Proofs.Yteopjpfhhekkoaa.Tt
open Go Go.Abs Go.Mth
set_option linter.unusedVariables false
set_option linter.unusedSimpArgs false
theorem DP_cs {S : List Sal} {a b : Nat} (ha : a < S.length) (hb : b < S.length) : DP (matS S) a b = cs S a a - cs S a b := by
  unfold DP; rw [matS_get ha, rowS_get ha, rowS_get hb]
/-- A step, or none, more. -/
def StK (g : Nat → Nat → Bool) (n : Nat) : Nat → Nat → Nat → Prop
  | 0, a, b => a = b ∧ a < n
  | r + 1, a, c => ∃ b, StK g n r a b ∧ c < n ∧ g b c = true
theorem StK.rt {g : Nat → Nat → Bool} {n : Nat} : ∀ {r a b : Nat}, StK g n r a b → RT g n a b
  | 0, a, b, ⟨h1, h2⟩ => by rw [← h1]; exact .refl h2
  | r + 1, a, c, ⟨b, h1, h2, h3⟩ => .step h1.rt h3 h2
theorem StK.lt {g : Nat → Nat → Bool} {n r a b : Nat} (h : StK g n r a b) : a < n ∧ b < n := h.rt.lt
theorem StK.up {g : Nat → Nat → Bool} {n r a b : Nat} (hg : ∀ x, g x x = true) (h : StK g n r a b) : ∀ k, StK g n (r + k) a b
  | 0 => h
  | k + 1 => ⟨b, h.up hg k, h.lt.2, hg b⟩
theorem StK.of {g : Nat → Nat → Bool} {n : Nat} (hg : ∀ x, g x x = true) {a b : Nat} (h : RT g n a b) : StK g n n a b := by
  obtain ⟨l, h1, h2, h3⟩ := h.chain
  have hl := h1.len
  have key : ∀ j, j < l.length → StK g n j (l.getD 0 0) (l.getD j 0) := by
    intro j
    induction j with
    | zero => intro hj; exact ⟨rfl, h1.lt hj⟩
    | succ j ih => intro hj; exact ⟨_, ih (by omega), h1.lt hj, h1.2.2.2 j hj⟩
  have := (key (l.length - 1) (by omega)).up hg (n - (l.length - 1))
  rw [h2, h3, show l.length - 1 + (n - (l.length - 1)) = n by omega] at this
  exact this
theorem gD_self {P : List (List Int)} (x : Nat) : gD (DP P) x x = true := gD_iff.2 (by rw [DP_self]; omega)
def tg (T : List Bool) (a b : Nat) : Bool := T.getD (a * 6 + b) false
theorem tg_set {T : List Bool} {a b p q : Nat} {x : Bool} (hT : T.length = 36) (ha : a < 6) (hb : b < 6) (hp : p < 6) (hq : q < 6) : tg (T.set (a * 6 + b) x) p q = if p = a ∧ q = b then x else tg T p q := by
  unfold tg
  rw [getD_set' (by omega)]
  by_cases e : p * 6 + q = a * 6 + b
  · rw [if_pos e, if_pos (by omega)]
  · rw [if_neg e, if_neg (by omega)]
/-- A pass under way. -/
structure Pass (g : Nat → Nat → Bool) (n r : Nat) (T : List Bool) (a b c : Nat) : Prop where
  len : T.length = 36
  snd : ∀ p q, p < n → q < n → tg T p q = true → RT g n p q
  old : ∀ p q, StK g n (r + 1) p q → tg T p q = true
  new : ∀ p q s, p < n → q < n → s < n → (p < a ∨ (p = a ∧ (q < b ∨ (q = b ∧ s < c)))) → StK g n (r + 1) p q → g q s = true → tg T p s = true
theorem Pass.set {g : Nat → Nat → Bool} {n r a b c : Nat} {T : List Bool} (hg : ∀ x, g x x = true) (hn : n ≤ 6) (h : Pass g n r T a b c) (ha : a < n) (hb : b < n) (hc : c < n) :
    Pass g n r (T.set (a * 6 + c) (tg T a c || (tg T a b && tg T b c))) a b (c + 1) := by
  have hx : ∀ p q, p < n → q < n → tg (T.set (a * 6 + c) (tg T a c || (tg T a b && tg T b c))) p q = if p = a ∧ q = c then (tg T a c || (tg T a b && tg T b c)) else tg T p q := fun p q hp hq => tg_set h.len (by omega) (by omega) (by omega) (by omega)
  have hmono : ∀ p q, p < n → q < n → tg T p q = true → tg (T.set (a * 6 + c) (tg T a c || (tg T a b && tg T b c))) p q = true := fun p q hp hq ht => by
    rw [hx p q hp hq]
    by_cases e : p = a ∧ q = c
    · rw [if_pos e, ← e.1, ← e.2, ht, Bool.true_or]
    · rw [if_neg e]; exact ht
  refine ⟨by rw [List.length_set]; exact h.len, fun p q hp hq ht => ?_, fun p q hr => hmono p q hr.lt.1 hr.lt.2 (h.old p q hr), fun p q s hp hq hs hlt hr hgq => ?_⟩
  · rw [hx p q hp hq] at ht
    by_cases e : p = a ∧ q = c
    · rw [if_pos e, Bool.or_eq_true, Bool.and_eq_true] at ht
      rw [e.1, e.2]
      rcases ht with ht | ⟨k1, k2⟩
      · exact h.snd a c ha hc ht
      · exact (h.snd a b ha hb k1).trans (h.snd b c hb hc k2)
    · rw [if_neg e] at ht; exact h.snd p q hp hq ht
  · by_cases e : p = a ∧ q = b ∧ s = c
    · obtain ⟨rfl, rfl, rfl⟩ := e
      rw [hx p s hp hs, if_pos ⟨rfl, rfl⟩, h.old p q hr, h.old q s ((show StK g n 1 q s from ⟨q, ⟨rfl, hq⟩, hs, hgq⟩).up hg r |> fun k => by rwa [Nat.add_comm] at k)]
      simp
    · exact hmono p s hp hs (h.new p q s hp hq hs (by omega) hr hgq)
theorem Pass.nextB {g : Nat → Nat → Bool} {n r a b : Nat} {T : List Bool} (h : Pass g n r T a b n) : Pass g n r T a (b + 1) 0 :=
  ⟨h.len, h.snd, h.old, fun p q s hp hq hs hlt => h.new p q s hp hq hs (by omega)⟩
theorem Pass.nextA {g : Nat → Nat → Bool} {n r a : Nat} {T : List Bool} (h : Pass g n r T a n 0) : Pass g n r T (a + 1) 0 0 :=
  ⟨h.len, h.snd, h.old, fun p q s hp hq hs hlt => h.new p q s hp hq hs (by omega)⟩
theorem Pass.next {g : Nat → Nat → Bool} {n r : Nat} {T : List Bool} (h : Pass g n r T n 0 0) : Pass g n (r + 1) T 0 0 0 :=
  ⟨h.len, h.snd, fun p q ⟨b, h1, h2, h3⟩ => h.new p b q h1.lt.1 h1.lt.2 h2 (.inl h1.lt.1) h1 h3, fun p q s _ _ _ hlt => by omega⟩
theorem Pass.all {g : Nat → Nat → Bool} {n : Nat} {T : List Bool} (hg : ∀ x, g x x = true) (h : Pass g n n T 0 0 0) {p q : Nat} (hp : p < n) (hq : q < n) : tg T p q = true ↔ RT g n p q :=
  ⟨h.snd p q hp hq, fun k => h.old p q ((StK.of hg k).up hg 1)⟩
theorem Pass.zero {g : Nat → Nat → Bool} {n : Nat} {T : List Bool} (hg : ∀ x, g x x = true) (hl : T.length = 36) (h : ∀ p q, p < n → q < n → tg T p q = g p q) : Pass g n 0 T 0 0 0 := by
  refine ⟨hl, fun p q hp hq ht => ?_, fun p q ⟨b, ⟨k1, k2⟩, k3, k4⟩ => ?_, fun p q s _ _ _ hlt => by omega⟩
  · rw [h p q hp hq] at ht; exact .step (.refl hp) ht hq
  · subst k1
    rw [h p q k2 k3]; exact k4
/-- The table's first filling. -/
def Fill (g : Nat → Nat → Bool) (n : Nat) (T : List Bool) (a b : Nat) : Prop := T.length = 36 ∧ ∀ p q, p < n → q < n → (p < a ∨ (p = a ∧ q < b)) → tg T p q = g p q
theorem Fill.set {g : Nat → Nat → Bool} {n a b : Nat} {T : List Bool} (hn : n ≤ 6) (h : Fill g n T a b) (ha : a < n) (hb : b < n) : Fill g n (T.set (a * 6 + b) (g a b)) a (b + 1) := by
  refine ⟨by rw [List.length_set]; exact h.1, fun p q hp hq hlt => ?_⟩
  rw [tg_set h.1 (by omega) (by omega) (by omega) (by omega)]
  by_cases e : p = a ∧ q = b
  · rw [if_pos e, e.1, e.2]
  · rw [if_neg e]; exact h.2 p q hp hq (by omega)
structure TB where
  k : Nat
  T : List Bool
  n : Nat
attribute [local irreducible] gOK WS WC WR WD Ends FS YS OpV seqK blockK loopK midK retK rdK asgK rangeEnd sat Cell
section
variable {M : HL} {n0 : Nat} {H : Heap} {v w : Value}
set_option maxHeartbeats 1000000 in
theorem lead_fs (hH : hasH M n0 H) {g : Nat} {S : List Sal} (hok : OKS g S) {a b : Nat} (ha : a < S.length) (hb : b < S.length) {p1 t1 p2 t2 : Value} (hp1 : Sl M 1 p1 (ints (S.getD a noSal).1)) (ht1 : Sl M 1 t1 (ints (S.getD a noSal).2)) (hp2 : one p2 = true) (ht2 : Sl M 1 t2 (ints (S.getD b noSal).2)) :
    FS C 50 [.agg [p1, t1].toArray, .agg [p2, t2].toArray] H (fun e H' => ∃ n', n0 ≤ n' ∧ hasH M n' H' ∧ e = .int .i64 (DP (matS S) a b)) := by
  have hd := DP_cs ha hb
  have hda : cs S a a = dotI (S.getD a noSal).1 (S.getD a noSal).2 (S.getD a noSal).1.length := rfl
  have hdb : cs S a b = dotI (S.getD a noSal).1 (S.getD b noSal).2 (S.getD a noSal).1.length := rfl
  have hg3 := hok.g3
  have hlp := hok.lp a ha
  have hlt := hok.lt a ha
  have hlt2 := hok.lt b hb
  have hbp := hok.bp a ha
  have hbt := hok.bt a ha
  have hbt2 := hok.bt b hb
  rw [hda, hdb] at hd
  rw [hd]
  clear hda hdb hd
  generalize (S.getD a noSal).1 = pa at *
  generalize (S.getD a noSal).2 = ta at *
  generalize (S.getD b noSal).2 = tb at *
  have ho1 := hp1.one_
  have ho2 := ht1.one_
  have ho3 := ht2.one_
  refine FS.intro (pf := pf50) rfl rfl rfl ?_
  repeat' (first | refine zP ?_ | refine zA ?_ | (refine zM ?_; intro _ _) | refine zX ?_ | (refine zC ?_; intro _ _ _ _) | (refine zS ?_; intro _ _) | (apply Ws <;> intro hg))
  rename_i H1 hH1 H2 hH2
  replace hp1 := (hp1.cons (p := (n0, Ch.row 74 0 0 [p1, t1]))).cons (p := (n0 + 1, Ch.row 74 0 0 [p2, t2]))
  replace ht1 := (ht1.cons (p := (n0, Ch.row 74 0 0 [p1, t1]))).cons (p := (n0 + 1, Ch.row 74 0 0 [p2, t2]))
  replace ht2 := (ht2.cons (p := (n0, Ch.row 74 0 0 [p1, t1]))).cons (p := (n0 + 1, Ch.row 74 0 0 [p2, t2]))
  repeat' (first | refine zP ?_ | refine zA ?_ | (refine zM ?_; intro _ _) | refine zX ?_ | (refine zC ?_; intro _ _ _ _) | (refine zS ?_; intro _ _) | (apply Ws <;> intro hg))
  refine WC.loopX [(2, _), (3, _), (9, _), (10, _)] (fun k : Nat => [(5, .int .i64 (dotI pa ta k - dotI pa tb k)), (11, .int .i64 (k : Int))]) [] (fun k H' => H' = H2 ∧ k ≤ pa.length) (fun k => pa.length - k) 0 (by repeat' (first | exact .nil | refine .cons rfl ?_)) rfl ⟨rfl, Nat.zero_le _⟩ ?_
  rintro k H3 ⟨rfl, hk⟩
  dsimp only [List.cons_append, List.nil_append]
  repeat' (first | refine zP ?_ | refine zA ?_ | (refine zM ?_; intro _ _) | refine zX ?_ | (refine zC ?_; intro _ _ _ _) | (refine zS ?_; intro _ _) | (apply Ws <;> intro hg))
  refine WC.condP rfl (fun hltk => ?_) (fun hltk => ?_)
  · have hk' : k < pa.length := by omega
    have hqa := dot_bd hbp hbt k (by omega) (by omega)
    have hqb := dot_bd hbp hbt2 k (by omega) (by omega)
    have hqc := hbp _ (getD_mem (a := 0) hk')
    have hqd := hbt _ (getD_mem (a := 0) (show k < ta.length by omega))
    have hqe := hbt2 _ (getD_mem (a := 0) (show k < tb.length by omega))
    have hqf : 0 ≤ pa.getD k 0 * ta.getD k 0 := Int.mul_nonneg (by omega) hqd.1
    have hqg : pa.getD k 0 * ta.getD k 0 ≤ 9 * 9 := Int.mul_le_mul hqc.2 hqd.2 hqd.1 (by decide)
    have hqh : 0 ≤ pa.getD k 0 * tb.getD k 0 := Int.mul_nonneg (by omega) hqe.1
    have hqi : pa.getD k 0 * tb.getD k 0 ≤ 9 * 9 := Int.mul_le_mul hqc.2 hqe.2 hqe.1 (by decide)
    have hqj : pa.getD k 0 * (ta.getD k 0 - tb.getD k 0) = pa.getD k 0 * ta.getD k 0 - pa.getD k 0 * tb.getD k 0 := Int.mul_sub _ _ _
    have hqk : dotI pa ta (k + 1) = dotI pa ta k + pa.getD k 0 * ta.getD k 0 := rfl
    have hql : dotI pa tb (k + 1) = dotI pa tb k + pa.getD k 0 * tb.getD k 0 := rfl
    repeat' (first | refine zP ?_ | refine zA ?_ | (refine zM ?_; intro _ _) | refine zX ?_ | (refine zC ?_; intro _ _ _ _) | (refine zS ?_; intro _ _) | (apply Ws <;> intro hg))
    rw [show dotI pa ta k - dotI pa tb k + pa.getD k 0 * (ta.getD k 0 - tb.getD k 0) = dotI pa ta (k + 1) - dotI pa tb (k + 1) by omega]
    exact Ends.loop (k + 1) (by omega) (by repeat' (first | exact .nil | refine .cons rfl ?_)) rfl ⟨rfl, hk'⟩
  · have hkl : k = pa.length := by omega
    subst hkl
    repeat' (first | refine zP ?_ | refine zA ?_ | (refine zM ?_; intro _ _) | refine zX ?_ | (refine zC ?_; intro _ _ _ _) | (refine zS ?_; intro _ _) | (apply Ws <;> intro hg))
    exact Ends.ret1 rfl ⟨n0 + 2, by omega, hH2.tail.tail, rfl⟩
end
end Go.Proofs.Yteopjpfhhekkoaa.Tt

/- ringed. -/
namespace Go.Proofs.Yteopjpfhhekkoaa.Tt
open Go Go.Abs Go.Mth
set_option linter.unusedVariables false
set_option linter.unusedSimpArgs false
theorem SalesI.at {M : HL} {v : Value} {S : List Sal} (h : SalesI M v S) : ∃ ws : List (Value × Value), Sl M 2 v (cellsF pairV ws) ∧ ws.length = S.length ∧ (∀ i, i < S.length → Sl M 1 (ws.getD i noVal).1 (ints (S.getD i noSal).1) ∧ Sl M 1 (ws.getD i noVal).2 (ints (S.getD i noSal).2)) := h
theorem ringB {S : List Sal} {T : List Bool} (h : ∀ p q, p < S.length → q < S.length → (tg T p q = true ↔ RT (gD (DP (matS S))) S.length p q)) : ringed (DP (matS S)) S.length ↔ ∃ a b, a < S.length ∧ b < S.length ∧ 0 < DP (matS S) a b ∧ tg T b a = true :=
  ⟨fun ⟨a, b, h1, h2, h3, h4⟩ => ⟨a, b, h1, h2, h3, (h b a h2 h1).2 h4⟩, fun ⟨a, b, h1, h2, h3, h4⟩ => ⟨a, b, h1, h2, h3, (h b a h2 h1).1 h4⟩⟩
theorem taste_ringed {S : List Sal} : tasteB (matS S) = false ↔ ringed (DP (matS S)) S.length := by
  have := tasteB_iff (P := matS S)
  rw [matS_len] at this
  cases hb : tasteB (matS S) with
  | true => rw [hb] at this; exact ⟨fun h => (by cases h), fun h => absurd h (this.1 rfl)⟩
  | false => rw [hb] at this; exact ⟨fun _ => Classical.not_not.1 fun h => (by have := this.2 h; cases this), fun _ => rfl⟩
attribute [local irreducible] gOK WS WC WR WD Ends FS YS OpV seqK blockK loopK midK retK rdK asgK rangeEnd sat Cell
section
variable {M : HL} {n0 : Nat} {H : Heap} {v w : Value}
set_option maxHeartbeats 4000000 in
theorem ringed_fs (hH : hasH M n0 H) {g : Nat} {S : List Sal} (hok : OKS g S) (hS : SalesI M v S) :
    FS C 44 [v] H (fun e H' => ∃ n', n0 ≤ n' ∧ hasH M n' H' ∧ e = .bool (!tasteB (matS S))) := by
  obtain ⟨ws, hV, hwl, hrow⟩ := hS.at
  have hlen := hok.len
  have hgs : ∀ x, gD (DP (matS S)) x x = true := gD_self
  refine FS.intro (pf := pf44) rfl rfl rfl ?_
  repeat' (first | refine zP ?_ | refine zA ?_ | (refine zM ?_; intro _ _) | refine zX ?_ | (refine zC ?_; intro _ _ _ _) | (refine zS ?_; intro _ _) | (apply Ws <;> intro hg))
  refine WR.op (by first | exact gN | exact gS rfl) rfl (OpV.lenK pairV_len (by decide) rfl hV) ?_
  rw [hwl]
  repeat' (first | refine zP ?_ | refine zA ?_ | (refine zM ?_; intro _ _) | refine zX ?_ | (refine zC ?_; intro _ _ _ _) | (refine zS ?_; intro _ _) | (apply Ws <;> intro hg))
  rename_i H1 hH1
  replace hH1 : hasH ((n0, .row 80 0 0 (bools (List.replicate 36 false))) :: M) (n0 + 1) H1 := hH1
  refine WC.loopX [(0, _), (3, _), (4, _), (14, _)] (fun s : TB => [(15, .int .i64 (s.k : Int))]) [] (fun s H' => s.k ≤ S.length ∧ n0 + 1 ≤ s.n ∧ Fill (gD (DP (matS S))) S.length s.T s.k 0 ∧ hasH ((n0, .row 80 0 0 (bools s.T)) :: M) s.n H') (fun s => S.length - s.k) ⟨0, List.replicate 36 false, n0 + 1⟩ (by repeat' (first | exact .nil | refine .cons rfl ?_)) rfl
    ⟨Nat.zero_le _, Nat.le_refl _, ⟨by simp, fun p q _ _ h => by simp only at h; omega⟩, hH1⟩ ?_
  clear hH1 hH
  rintro ⟨a, T, n1⟩ H2 ⟨ha, hn1, hF, hH2⟩
  simp only at ha hn1 hF hH2
  dsimp only [List.cons_append, List.nil_append]
  repeat' (first | refine zP ?_ | refine zA ?_ | (refine zM ?_; intro _ _) | refine zX ?_ | (refine zC ?_; intro _ _ _ _) | (refine zS ?_; intro _ _) | (apply Ws <;> intro hg))
  refine WC.condP rfl (fun hlta => ?_) (fun hlta => ?_)
  · have ha' : a < S.length := by omega
    repeat' (first | refine zP ?_ | refine zA ?_ | (refine zM ?_; intro _ _) | refine zX ?_ | (refine zC ?_; intro _ _ _ _) | (refine zS ?_; intro _ _) | (apply Ws <;> intro hg))
    refine WC.loopX [(0, _), (3, _), (4, _), (5, .int .i64 (a : Int)), (14, _), (15, .int .i64 (a : Int)), (18, .int .i64 (S.length : Int))] (fun s : TB => [(19, .int .i64 (s.k : Int))]) [] (fun s H' => s.k ≤ S.length ∧ n0 + 1 ≤ s.n ∧ Fill (gD (DP (matS S))) S.length s.T a s.k ∧ hasH ((n0, .row 80 0 0 (bools s.T)) :: M) s.n H') (fun s => S.length - s.k) ⟨0, T, n1⟩ (by repeat' (first | exact .nil | refine .cons rfl ?_)) rfl
      ⟨Nat.zero_le _, hn1, hF, hH2⟩ ?_
    clear hH2 hF
    rintro ⟨b, T, n2⟩ H3 ⟨hb, hn2, hF, hH3⟩
    simp only at hb hn2 hF hH3
    dsimp only [List.cons_append, List.nil_append]
    repeat' (first | refine zP ?_ | refine zA ?_ | (refine zM ?_; intro _ _) | refine zX ?_ | (refine zC ?_; intro _ _ _ _) | (refine zS ?_; intro _ _) | (apply Ws <;> intro hg))
    refine WC.condP rfl (fun hltb => ?_) (fun hltb => ?_)
    · have hb' : b < S.length := by omega
      obtain ⟨hpa, hta⟩ := hrow a ha'
      obtain ⟨hpb, htb⟩ := hrow b hb'
      have hwa : ws[a] = ws.getD a noVal := (getD_eq (by omega)).symm
      have hwb : ws[b] = ws.getD b noVal := (getD_eq (by omega)).symm
      have hVT := hV.cons (p := (n0, Ch.row 80 0 0 (bools T)))
      have hTl := hF.1
      repeat' (first | refine zP ?_ | refine zA ?_ | (refine zM ?_; intro _ _) | refine zX ?_ | (refine zC ?_; intro _ _ _ _) | (refine zS ?_; intro _ _) | (apply Ws <;> intro hg))
      refine WR.idxK pairV_len (by decide) (by first | exact gN | exact gS rfl) rfl rfl hVT rfl (by omega) fun b1 o1' u1' hC1 => ?_
      rw [hwa] at hC1
      refine WR.op (by first | exact gN | exact gS rfl) rfl (OpV.loadK rfl hC1 hH3 rfl) ?_
      repeat' (first | refine zP ?_ | refine zA ?_ | (refine zM ?_; intro _ _) | refine zX ?_ | (refine zC ?_; intro _ _ _ _) | (refine zS ?_; intro _ _) | (apply Ws <;> intro hg))
      refine WR.idxK pairV_len (by decide) (by first | exact gN | exact gS rfl) rfl rfl hVT rfl (by omega) fun b2 o2' u2' hC2 => ?_
      rw [hwb] at hC2
      refine WR.op (by first | exact gN | exact gS rfl) rfl (OpV.loadK rfl hC2 hH3 rfl) ?_
      repeat' (first | refine zP ?_ | refine zA ?_ | (refine zM ?_; intro _ _) | refine zX ?_ | (refine zC ?_; intro _ _ _ _) | (refine zS ?_; intro _ _) | (apply Ws <;> intro hg))
      refine WR.call (by first | exact gN | exact gS rfl) rfl rfl (lead_fs hH3 hok ha' hb' hpa.cons hta.cons hpb.one_ htb.cons) ?_
      rintro _ H4 ⟨n4, hn4, hH4, rfl⟩
      repeat' (first | refine zP ?_ | refine zA ?_ | (refine zM ?_; intro _ _) | refine zX ?_ | (refine zC ?_; intro _ _ _ _) | (refine zS ?_; intro _ _) | (apply Ws <;> intro hg))
      rename_i H5 hH5
      refine Ends.loop ⟨b + 1, T.set (a * 6 + b) (gD (DP (matS S)) a b), n4⟩ (by simp only; omega) (by repeat' (first | exact .nil | refine .cons rfl ?_)) rfl ⟨by simp only; omega, by simp only; omega, hF.set hlen ha' hb', hH5⟩
    · have hbl : b = S.length := by omega
      subst hbl
      repeat' (first | refine zP ?_ | refine zA ?_ | (refine zM ?_; intro _ _) | refine zX ?_ | (refine zC ?_; intro _ _ _ _) | (refine zS ?_; intro _ _) | (apply Ws <;> intro hg))
      exact Ends.loop ⟨a + 1, T, n2⟩ (by simp only; omega) (by repeat' (first | exact .nil | refine .cons rfl ?_)) rfl ⟨by simp only; omega, hn2, ⟨hF.1, fun p q hp hq h => hF.2 p q hp hq (by simp only at h; omega)⟩, hH3⟩
  · have hal : a = S.length := by omega
    subst hal
    have hP0 : Pass (gD (DP (matS S))) S.length 0 T 0 0 0 := .zero hgs hF.1 fun p q hp hq => hF.2 p q hp hq (.inl hp)
    clear hF
    repeat' (first | refine zP ?_ | refine zA ?_ | (refine zM ?_; intro _ _) | refine zX ?_ | (refine zC ?_; intro _ _ _ _) | (refine zS ?_; intro _ _) | (apply Ws <;> intro hg))
    refine WC.loopX [(0, _), (3, _), (4, _), (38, .int .i64 (S.length : Int))] (fun s : TB => [(39, .int .i64 (s.k : Int))]) [] (fun s H' => s.k ≤ S.length ∧ n0 + 1 ≤ s.n ∧ Pass (gD (DP (matS S))) S.length s.k s.T 0 0 0 ∧ hasH ((n0, .row 80 0 0 (bools s.T)) :: M) s.n H') (fun s => S.length - s.k) ⟨0, T, n1⟩ (by repeat' (first | exact .nil | refine .cons rfl ?_)) rfl
      ⟨Nat.zero_le _, hn1, hP0, hH2⟩ ?_
    clear hH2 hP0
    rintro ⟨r, T, n2⟩ H3 ⟨hr, hn2, hP, hH3⟩
    simp only at hr hn2 hP hH3
    dsimp only [List.cons_append, List.nil_append]
    repeat' (first | refine zP ?_ | refine zA ?_ | (refine zM ?_; intro _ _) | refine zX ?_ | (refine zC ?_; intro _ _ _ _) | (refine zS ?_; intro _ _) | (apply Ws <;> intro hg))
    refine WC.condP rfl (fun hltr => ?_) (fun hltr => ?_)
    · have hr' : r < S.length := by omega
      repeat' (first | refine zP ?_ | refine zA ?_ | (refine zM ?_; intro _ _) | refine zX ?_ | (refine zC ?_; intro _ _ _ _) | (refine zS ?_; intro _ _) | (apply Ws <;> intro hg))
      refine WC.loopX [(0, _), (3, _), (4, _), (38, _), (39, .int .i64 (r : Int)), (41, .int .i64 (S.length : Int))] (fun s : TB => [(42, .int .i64 (s.k : Int))]) [] (fun s H' => s.k ≤ S.length ∧ n0 + 1 ≤ s.n ∧ Pass (gD (DP (matS S))) S.length r s.T s.k 0 0 ∧ hasH ((n0, .row 80 0 0 (bools s.T)) :: M) s.n H') (fun s => S.length - s.k) ⟨0, T, n2⟩ (by repeat' (first | exact .nil | refine .cons rfl ?_)) rfl
        ⟨Nat.zero_le _, hn2, hP, hH3⟩ ?_
      clear hH3 hP
      rintro ⟨a, T, n3⟩ H4 ⟨ha, hn3, hP, hH4⟩
      simp only at ha hn3 hP hH4
      dsimp only [List.cons_append, List.nil_append]
      repeat' (first | refine zP ?_ | refine zA ?_ | (refine zM ?_; intro _ _) | refine zX ?_ | (refine zC ?_; intro _ _ _ _) | (refine zS ?_; intro _ _) | (apply Ws <;> intro hg))
      refine WC.condP rfl (fun hlta => ?_) (fun hlta => ?_)
      · have ha' : a < S.length := by omega
        repeat' (first | refine zP ?_ | refine zA ?_ | (refine zM ?_; intro _ _) | refine zX ?_ | (refine zC ?_; intro _ _ _ _) | (refine zS ?_; intro _ _) | (apply Ws <;> intro hg))
        refine WC.loopX [(0, _), (3, _), (4, _), (7, .int .i64 (a : Int)), (38, _), (39, .int .i64 (r : Int)), (41, .int .i64 (S.length : Int)), (42, .int .i64 (a : Int)), (45, .int .i64 (S.length : Int))] (fun s : TB => [(46, .int .i64 (s.k : Int))]) [] (fun s H' => s.k ≤ S.length ∧ n0 + 1 ≤ s.n ∧ Pass (gD (DP (matS S))) S.length r s.T a s.k 0 ∧ hasH ((n0, .row 80 0 0 (bools s.T)) :: M) s.n H') (fun s => S.length - s.k) ⟨0, T, n3⟩ (by repeat' (first | exact .nil | refine .cons rfl ?_)) rfl
          ⟨Nat.zero_le _, hn3, hP, hH4⟩ ?_
        clear hH4 hP
        rintro ⟨b, T, n4⟩ H5 ⟨hb, hn4, hP, hH5⟩
        simp only at hb hn4 hP hH5
        dsimp only [List.cons_append, List.nil_append]
        repeat' (first | refine zP ?_ | refine zA ?_ | (refine zM ?_; intro _ _) | refine zX ?_ | (refine zC ?_; intro _ _ _ _) | (refine zS ?_; intro _ _) | (apply Ws <;> intro hg))
        refine WC.condP rfl (fun hltb => ?_) (fun hltb => ?_)
        · have hb' : b < S.length := by omega
          repeat' (first | refine zP ?_ | refine zA ?_ | (refine zM ?_; intro _ _) | refine zX ?_ | (refine zC ?_; intro _ _ _ _) | (refine zS ?_; intro _ _) | (apply Ws <;> intro hg))
          refine WC.loopX [(0, _), (3, _), (4, _), (7, .int .i64 (a : Int)), (8, .int .i64 (b : Int)), (38, _), (39, .int .i64 (r : Int)), (41, .int .i64 (S.length : Int)), (42, .int .i64 (a : Int)), (45, .int .i64 (S.length : Int)), (46, .int .i64 (b : Int)), (49, .int .i64 (S.length : Int))] (fun s : TB => [(50, .int .i64 (s.k : Int))]) [] (fun s H' => s.k ≤ S.length ∧ n0 + 1 ≤ s.n ∧ Pass (gD (DP (matS S))) S.length r s.T a b s.k ∧ hasH ((n0, .row 80 0 0 (bools s.T)) :: M) s.n H') (fun s => S.length - s.k) ⟨0, T, n4⟩ (by repeat' (first | exact .nil | refine .cons rfl ?_)) rfl
            ⟨Nat.zero_le _, hn4, hP, hH5⟩ ?_
          clear hH5 hP
          rintro ⟨c, T, n5⟩ H6 ⟨hc, hn5, hP, hH6⟩
          simp only at hc hn5 hP hH6
          have hTl := hP.len
          dsimp only [List.cons_append, List.nil_append]
          repeat' (first | refine zP ?_ | refine zA ?_ | (refine zM ?_; intro _ _) | refine zX ?_ | (refine zC ?_; intro _ _ _ _) | (refine zS ?_; intro _ _) | (apply Ws <;> intro hg))
          refine WC.condP rfl (fun hltc => ?_) (fun hltc => ?_)
          · have hc' : c < S.length := by omega
            have hP2 := hP.set hgs hlen ha' hb' hc'
            have hac : T.getD (a * 6 + c) false = tg T a c := rfl
            have hab : T.getD (a * 6 + b) false = tg T a b := rfl
            have hbc : T.getD (b * 6 + c) false = tg T b c := rfl
            repeat' (first | refine zP ?_ | refine zA ?_ | (refine zM ?_; intro _ _) | refine zX ?_ | (refine zC ?_; intro _ _ _ _) | (refine zS ?_; intro _ _) | (apply Ws <;> intro hg))
            rw [hac]
            cases q1ac : tg T a c with
            | true =>
              rw [q1ac, Bool.true_or] at hP2
              repeat' (first | refine zP ?_ | refine zA ?_ | (refine zM ?_; intro _ _) | refine zX ?_ | (refine zC ?_; intro _ _ _ _) | (refine zS ?_; intro _ _) | (apply Ws <;> intro hg))
              rename_i H7 hH7
              exact Ends.loop ⟨c + 1, _, n5⟩ (by simp only; omega) (by repeat' (first | exact .nil | refine .cons rfl ?_)) rfl ⟨by simp only; omega, hn5, hP2, hH7⟩
            | false =>
              rw [q1ac, Bool.false_or] at hP2
              repeat' (first | refine zP ?_ | refine zA ?_ | (refine zM ?_; intro _ _) | refine zX ?_ | (refine zC ?_; intro _ _ _ _) | (refine zS ?_; intro _ _) | (apply Ws <;> intro hg))
              rw [hab]
              cases q1ab : tg T a b with
              | false =>
                rw [q1ab, Bool.false_and] at hP2
                repeat' (first | refine zP ?_ | refine zA ?_ | (refine zM ?_; intro _ _) | refine zX ?_ | (refine zC ?_; intro _ _ _ _) | (refine zS ?_; intro _ _) | (apply Ws <;> intro hg))
                rename_i H7 hH7
                exact Ends.loop ⟨c + 1, _, n5⟩ (by simp only; omega) (by repeat' (first | exact .nil | refine .cons rfl ?_)) rfl ⟨by simp only; omega, hn5, hP2, hH7⟩
              | true =>
                rw [q1ab, Bool.true_and] at hP2
                repeat' (first | refine zP ?_ | refine zA ?_ | (refine zM ?_; intro _ _) | refine zX ?_ | (refine zC ?_; intro _ _ _ _) | (refine zS ?_; intro _ _) | (apply Ws <;> intro hg))
                rename_i H7 hH7
                rw [hbc] at hH7
                exact Ends.loop ⟨c + 1, _, n5⟩ (by simp only; omega) (by repeat' (first | exact .nil | refine .cons rfl ?_)) rfl ⟨by simp only; omega, hn5, hP2, hH7⟩
          · have hcl : c = S.length := by omega
            subst hcl
            repeat' (first | refine zP ?_ | refine zA ?_ | (refine zM ?_; intro _ _) | refine zX ?_ | (refine zC ?_; intro _ _ _ _) | (refine zS ?_; intro _ _) | (apply Ws <;> intro hg))
            exact Ends.loop ⟨b + 1, T, n5⟩ (by simp only; omega) (by repeat' (first | exact .nil | refine .cons rfl ?_)) rfl ⟨by simp only; omega, hn5, hP.nextB, hH6⟩
        · have hbl : b = S.length := by omega
          subst hbl
          repeat' (first | refine zP ?_ | refine zA ?_ | (refine zM ?_; intro _ _) | refine zX ?_ | (refine zC ?_; intro _ _ _ _) | (refine zS ?_; intro _ _) | (apply Ws <;> intro hg))
          exact Ends.loop ⟨a + 1, T, n4⟩ (by simp only; omega) (by repeat' (first | exact .nil | refine .cons rfl ?_)) rfl ⟨by simp only; omega, hn4, hP.nextA, hH5⟩
      · have hal : a = S.length := by omega
        subst hal
        repeat' (first | refine zP ?_ | refine zA ?_ | (refine zM ?_; intro _ _) | refine zX ?_ | (refine zC ?_; intro _ _ _ _) | (refine zS ?_; intro _ _) | (apply Ws <;> intro hg))
        exact Ends.loop ⟨r + 1, T, n3⟩ (by simp only; omega) (by repeat' (first | exact .nil | refine .cons rfl ?_)) rfl ⟨by simp only; omega, hn3, hP.next, hH4⟩
    · have hrl : r = S.length := by omega
      subst hrl
      have hall : ∀ p q, p < S.length → q < S.length → (tg T p q = true ↔ RT (gD (DP (matS S))) S.length p q) := fun p q hp hq => hP.all hgs hp hq
      have hrb := ringB hall
      have hTl := hP.len
      clear hP hall
      repeat' (first | refine zP ?_ | refine zA ?_ | (refine zM ?_; intro _ _) | refine zX ?_ | (refine zC ?_; intro _ _ _ _) | (refine zS ?_; intro _ _) | (apply Ws <;> intro hg))
      refine WC.loopX [(0, _), (3, _), (4, _), (80, .int .i64 (S.length : Int))] (fun s : Nat × Nat => [(81, .int .i64 (s.1 : Int))]) [] (fun s H' => s.1 ≤ S.length ∧ n0 + 1 ≤ s.2 ∧ (∀ a b, a < s.1 → b < S.length → 0 < DP (matS S) a b → ¬ tg T b a = true) ∧ hasH ((n0, .row 80 0 0 (bools T)) :: M) s.2 H') (fun s => S.length - s.1) (0, n2) (by repeat' (first | exact .nil | refine .cons rfl ?_)) rfl
        ⟨Nat.zero_le _, hn2, fun a b h => absurd h (Nat.not_lt_zero _), hH3⟩ ?_
      clear hH3
      rintro ⟨a, n3⟩ H4 ⟨ha, hn3, hno, hH4⟩
      simp only at ha hn3 hno hH4
      dsimp only [List.cons_append, List.nil_append]
      repeat' (first | refine zP ?_ | refine zA ?_ | (refine zM ?_; intro _ _) | refine zX ?_ | (refine zC ?_; intro _ _ _ _) | (refine zS ?_; intro _ _) | (apply Ws <;> intro hg))
      refine WC.condP rfl (fun hlta => ?_) (fun hlta => ?_)
      · have ha' : a < S.length := by omega
        repeat' (first | refine zP ?_ | refine zA ?_ | (refine zM ?_; intro _ _) | refine zX ?_ | (refine zC ?_; intro _ _ _ _) | (refine zS ?_; intro _ _) | (apply Ws <;> intro hg))
        refine WC.loopX [(0, _), (3, _), (4, _), (10, .int .i64 (a : Int)), (80, .int .i64 (S.length : Int)), (81, .int .i64 (a : Int)), (84, .int .i64 (S.length : Int))] (fun s : Nat × Nat => [(85, .int .i64 (s.1 : Int))]) [] (fun s H' => s.1 ≤ S.length ∧ n0 + 1 ≤ s.2 ∧ (∀ b, b < s.1 → 0 < DP (matS S) a b → ¬ tg T b a = true) ∧ hasH ((n0, .row 80 0 0 (bools T)) :: M) s.2 H') (fun s => S.length - s.1) (0, n3) (by repeat' (first | exact .nil | refine .cons rfl ?_)) rfl
          ⟨Nat.zero_le _, hn3, fun b h => absurd h (Nat.not_lt_zero _), hH4⟩ ?_
        clear hH4
        rintro ⟨b, n4⟩ H5 ⟨hb, hn4, hno2, hH5⟩
        simp only at hb hn4 hno2 hH5
        dsimp only [List.cons_append, List.nil_append]
        repeat' (first | refine zP ?_ | refine zA ?_ | (refine zM ?_; intro _ _) | refine zX ?_ | (refine zC ?_; intro _ _ _ _) | (refine zS ?_; intro _ _) | (apply Ws <;> intro hg))
        refine WC.condP rfl (fun hltb => ?_) (fun hltb => ?_)
        · have hb' : b < S.length := by omega
          obtain ⟨hpa, hta⟩ := hrow a ha'
          obtain ⟨hpb, htb⟩ := hrow b hb'
          have hwa : ws[a] = ws.getD a noVal := (getD_eq (by omega)).symm
          have hwb : ws[b] = ws.getD b noVal := (getD_eq (by omega)).symm
          have hVT := hV.cons (p := (n0, Ch.row 80 0 0 (bools T)))
          repeat' (first | refine zP ?_ | refine zA ?_ | (refine zM ?_; intro _ _) | refine zX ?_ | (refine zC ?_; intro _ _ _ _) | (refine zS ?_; intro _ _) | (apply Ws <;> intro hg))
          refine WR.idxK pairV_len (by decide) (by first | exact gN | exact gS rfl) rfl rfl hVT rfl (by omega) fun b1 o1' u1' hC1 => ?_
          rw [hwa] at hC1
          refine WR.op (by first | exact gN | exact gS rfl) rfl (OpV.loadK rfl hC1 hH5 rfl) ?_
          repeat' (first | refine zP ?_ | refine zA ?_ | (refine zM ?_; intro _ _) | refine zX ?_ | (refine zC ?_; intro _ _ _ _) | (refine zS ?_; intro _ _) | (apply Ws <;> intro hg))
          refine WR.idxK pairV_len (by decide) (by first | exact gN | exact gS rfl) rfl rfl hVT rfl (by omega) fun b2 o2' u2' hC2 => ?_
          rw [hwb] at hC2
          refine WR.op (by first | exact gN | exact gS rfl) rfl (OpV.loadK rfl hC2 hH5 rfl) ?_
          repeat' (first | refine zP ?_ | refine zA ?_ | (refine zM ?_; intro _ _) | refine zX ?_ | (refine zC ?_; intro _ _ _ _) | (refine zS ?_; intro _ _) | (apply Ws <;> intro hg))
          refine WR.call (by first | exact gN | exact gS rfl) rfl rfl (lead_fs hH5 hok ha' hb' hpa.cons hta.cons hpb.one_ htb.cons) ?_
          rintro _ H6 ⟨n6, hn6, hH6, rfl⟩
          have hba : T.getD (b * 6 + a) false = tg T b a := rfl
          by_cases hd : 0 < DP (matS S) a b
          · repeat' (first | refine zP ?_ | refine zA ?_ | (refine zM ?_; intro _ _) | refine zX ?_ | (refine zC ?_; intro _ _ _ _) | (refine zS ?_; intro _ _) | refine zO ?_ | (apply Ws <;> intro hg))
            rw [hba]
            cases q1ba : tg T b a with
            | true =>
              repeat' (first | refine zP ?_ | refine zA ?_ | (refine zM ?_; intro _ _) | refine zX ?_ | (refine zC ?_; intro _ _ _ _) | (refine zS ?_; intro _ _) | (apply Ws <;> intro hg))
              refine Ends.ret1 rfl ⟨n6, by omega, hH6.tail, ?_⟩
              rw [taste_ringed.2 (hrb.2 ⟨a, b, ha', hb', hd, q1ba⟩)]; rfl
            | false =>
              repeat' (first | refine zP ?_ | refine zA ?_ | (refine zM ?_; intro _ _) | refine zX ?_ | (refine zC ?_; intro _ _ _ _) | (refine zS ?_; intro _ _) | (apply Ws <;> intro hg))
              refine Ends.loop (b + 1, n6) (by simp only; omega) (by repeat' (first | exact .nil | refine .cons rfl ?_)) rfl ⟨by simp only; omega, by simp only; omega, fun b' hlt hd' => ?_, hH6⟩
              by_cases he : b' = b
              · rw [he, q1ba]; simp
              · exact hno2 b' (by simp only at hlt; omega) hd'
          · repeat' (first | refine zP ?_ | refine zA ?_ | (refine zM ?_; intro _ _) | refine zX ?_ | (refine zC ?_; intro _ _ _ _) | (refine zS ?_; intro _ _) | refine zO ?_ | (apply Ws <;> intro hg))
            refine Ends.loop (b + 1, n6) (by simp only; omega) (by repeat' (first | exact .nil | refine .cons rfl ?_)) rfl ⟨by simp only; omega, by simp only; omega, fun b' hlt hd' => ?_, hH6⟩
            by_cases he : b' = b
            · rw [he] at hd'; exact absurd hd' hd
            · exact hno2 b' (by simp only at hlt; omega) hd'
        · have hbl : b = S.length := by omega
          subst hbl
          repeat' (first | refine zP ?_ | refine zA ?_ | (refine zM ?_; intro _ _) | refine zX ?_ | (refine zC ?_; intro _ _ _ _) | (refine zS ?_; intro _ _) | (apply Ws <;> intro hg))
          refine Ends.loop (a + 1, n4) (by simp only; omega) (by repeat' (first | exact .nil | refine .cons rfl ?_)) rfl ⟨by simp only; omega, hn4, fun a' b' hlt hb' hd' => ?_, hH5⟩
          by_cases he : a' = a
          · rw [he] at hd' ⊢; exact hno2 b' hb' hd'
          · exact hno a' b' (by simp only at hlt; omega) hb' hd'
      · have hal : a = S.length := by omega
        subst hal
        repeat' (first | refine zP ?_ | refine zA ?_ | (refine zM ?_; intro _ _) | refine zX ?_ | (refine zC ?_; intro _ _ _ _) | (refine zS ?_; intro _ _) | (apply Ws <;> intro hg))
        refine Ends.ret1 rfl ⟨n3, by omega, hH4.tail, ?_⟩
        have : tasteB (matS S) = true := by
          cases hb : tasteB (matS S) with
          | true => rfl
          | false =>
            obtain ⟨a, b, k1, k2, k3, k4⟩ := hrb.1 (taste_ringed.1 hb)
            exact absurd k4 (hno a b k1 k2 k3)
        rw [this]; rfl
end
end Go.Proofs.Yteopjpfhhekkoaa.Tt

/- same, closes; numbers are judged. -/
namespace Go.Proofs.Yteopjpfhhekkoaa.Tt
open Go Go.Abs Go.Mth
set_option linter.unusedVariables false
set_option linter.unusedSimpArgs false
theorem mul_bd {V D B : Int} (h0 : 0 ≤ V) (hB : V ≤ B) (hl : -243 ≤ D) (hu : D ≤ 243) : -(243 * B) ≤ V * D ∧ V * D ≤ 243 * B := by
  have k1 : V * D ≤ V * 243 := Int.mul_le_mul_of_nonneg_left hu h0
  have k2 : V * (-243) ≤ V * D := Int.mul_le_mul_of_nonneg_left hl h0
  omega
def NumP (P : List (List Int)) (W V : List Int) : Prop := numOK (DP P) P.length (fun a => W.getD a 0) (fun a => V.getD a 0)
def RngP (n : Nat) (W V : List Int) : Prop := W.length = n ∧ V.length = n ∧ (∀ a, a < n → 0 ≤ W.getD a 0 ∧ W.getD a 0 ≤ 1000000000000) ∧ ∀ a, a < n → 1 ≤ V.getD a 0 ∧ V.getD a 0 ≤ 1000000000000
def closL (D : Nat → Nat → Int) (l : List Nat) : Prop := l.Nodup ∧ closB D l = true
theorem nodup_at {l : List Nat} : l.Nodup ↔ ∀ j, j < l.length → l.getD j 0 ∉ l.take j := by
  constructor
  · intro h j hj hm
    obtain ⟨i, hi, he⟩ := List.mem_iff_getElem.1 hm
    rw [List.getElem_take] at he
    rw [List.length_take] at hi
    rw [getD_eq hj] at he
    exact (List.pairwise_iff_getElem.1 h) i j (by omega) hj (by omega) he
  · intro h
    refine List.pairwise_iff_getElem.2 fun i j hi hj hij he => h j hj ?_
    rw [getD_eq hj, ← he]
    exact List.mem_iff_getElem.2 ⟨i, by simp; omega, by rw [List.getElem_take]⟩
attribute [local irreducible] gOK WS WC WR WD Ends FS YS OpV seqK blockK loopK midK retK rdK asgK rangeEnd sat Cell
section
variable {M : HL} {n0 : Nat} {H : Heap} {v w u : Value}
theorem same_fs (hH : hasH M n0 H) {a b : List Int} (hS : Sl M 1 v (ints a)) (hT : Sl M 1 w (ints b)) (ha : a.length ≤ 100000) :
    FS C 33 [v, w] H (fun e H' => H' = H ∧ e = .bool (decide (a = b))) := by
  refine FS.intro (pf := pf33) rfl rfl rfl ?_
  repeat' (first | refine zP ?_ | refine zA ?_ | (refine zM ?_; intro _ _) | refine zX ?_ | (refine zC ?_; intro _ _ _ _) | (refine zS ?_; intro _ _) | (apply Ws <;> intro hg))
  refine WC.condP rfl (fun hne => ?_) (fun hne => ?_)
  · repeat' (first | refine zP ?_ | refine zA ?_ | (refine zM ?_; intro _ _) | refine zX ?_ | (refine zC ?_; intro _ _ _ _) | (refine zS ?_; intro _ _) | (apply Ws <;> intro hg))
    refine Ends.ret1 rfl ⟨rfl, ?_⟩
    rw [decide_eq_false fun e => by subst e; exact hne rfl]
  · have hab : a.length = b.length := by omega
    repeat' (first | refine zP ?_ | refine zA ?_ | (refine zM ?_; intro _ _) | refine zX ?_ | (refine zC ?_; intro _ _ _ _) | (refine zS ?_; intro _ _) | (apply Ws <;> intro hg))
    refine WC.loopX [(0, v), (1, w)] (fun k : Nat => [(5, .int .i64 (k : Int))]) [] (fun k H' => H' = H ∧ k ≤ a.length ∧ ∀ j, j < k → a.getD j 0 = b.getD j 0) (fun k => a.length - k) 0 (by repeat' (first | exact .nil | refine .cons rfl ?_)) rfl ⟨rfl, Nat.zero_le _, fun j h => absurd h (Nat.not_lt_zero _)⟩ ?_
    rintro k H' ⟨rfl, hk, hs⟩
    dsimp only [List.cons_append, List.nil_append]
    repeat' (first | refine zP ?_ | refine zA ?_ | (refine zM ?_; intro _ _) | refine zX ?_ | (refine zC ?_; intro _ _ _ _) | (refine zS ?_; intro _ _) | (apply Ws <;> intro hg))
    refine WC.condP rfl (fun hlt => ?_) (fun hlt => ?_)
    · have hk' : k < a.length := by omega
      repeat' (first | refine zP ?_ | refine zA ?_ | (refine zM ?_; intro _ _) | refine zX ?_ | (refine zC ?_; intro _ _ _ _) | (refine zS ?_; intro _ _) | (apply Ws <;> intro hg))
      refine WC.condP rfl (fun hd => ?_) (fun hd => ?_)
      · repeat' (first | refine zP ?_ | refine zA ?_ | (refine zM ?_; intro _ _) | refine zX ?_ | (refine zC ?_; intro _ _ _ _) | (refine zS ?_; intro _ _) | (apply Ws <;> intro hg))
        refine Ends.ret1 rfl ⟨rfl, ?_⟩
        rw [decide_eq_false fun e => by subst e; exact hd rfl]
      · repeat' (first | refine zP ?_ | refine zA ?_ | (refine zM ?_; intro _ _) | refine zX ?_ | (refine zC ?_; intro _ _ _ _) | (refine zS ?_; intro _ _) | (apply Ws <;> intro hg))
        refine Ends.loop (k + 1) (by omega) (by repeat' (first | exact .nil | refine .cons rfl ?_)) rfl ⟨rfl, hk', fun j hj => ?_⟩
        by_cases e : j = k
        · subst e; exact Decidable.not_not.1 hd
        · exact hs j (by omega)
    · repeat' (first | refine zP ?_ | refine zA ?_ | (refine zM ?_; intro _ _) | refine zX ?_ | (refine zC ?_; intro _ _ _ _) | (refine zS ?_; intro _ _) | (apply Ws <;> intro hg))
      refine Ends.ret1 rfl ⟨rfl, ?_⟩
      rw [decide_eq_true (ext_getD (a := 0) hab fun i hi => hs i (by omega))]
theorem IL_inj {a b : List Nat} : IL a = IL b ↔ a = b := by
  constructor
  · intro h
    refine ext_getD (a := 0) (by rw [← IL_len a, ← IL_len b, h]) fun i hi => ?_
    have h2 : i < b.length := by rw [← IL_len b, ← h, IL_len]; exact hi
    have := congrArg (fun l : List Int => l.getD i 0) h
    simp only [IL] at this
    rw [getD_eq (by simpa using hi), getD_eq (by simpa using h2), List.getElem_map, List.getElem_map] at this
    rw [getD_eq hi, getD_eq h2]; omega
  · exact fun h => by rw [h]
theorem sameN_fs (hH : hasH M n0 H) {a b : List Nat} (hS : Sl M 1 v (nodes a)) (hT : Sl M 1 w (nodes b)) (ha : a.length ≤ 100000) :
    FS C 33 [v, w] H (fun e H' => H' = H ∧ e = .bool (decide (a = b))) := by
  refine FS.mono (same_fs hH (a := IL a) (b := IL b) (by rw [← nodes_IL]; exact hS) (by rw [← nodes_IL]; exact hT) (by rw [IL_len]; exact ha)) ?_
  rintro _ _ ⟨rfl, rfl⟩
  refine ⟨rfl, ?_⟩
  congr 1
  exact decide_eq_decide.2 IL_inj
end
end Go.Proofs.Yteopjpfhhekkoaa.Tt

/- Numbers by ranks. -/
namespace Go.Proofs.Yteopjpfhhekkoaa.Tt
open Go Go.Abs Go.Mth
set_option linter.unusedVariables false
set_option linter.unusedSimpArgs false
def bdN : Nat → Int
  | 0 => 0
  | 1 => 0
  | m + 2 => bdN (m + 1) + 243 * max (bdN (m + 1)) 1
theorem bdN_le {m : Nat} (h : m ≤ 6) : 0 ≤ bdN m ∧ bdN m ≤ 861322076928 := by
  rcases (show m = 0 ∨ m = 1 ∨ m = 2 ∨ m = 3 ∨ m = 4 ∨ m = 5 ∨ m = 6 by omega) with rfl | rfl | rfl | rfl | rfl | rfl | rfl <;> decide
theorem bdN_le5 {m : Nat} (h : m ≤ 5) : bdN m ≤ 4000000000 := by
  rcases (show m = 0 ∨ m = 1 ∨ m = 2 ∨ m = 3 ∨ m = 4 ∨ m = 5 by omega) with rfl | rfl | rfl | rfl | rfl | rfl <;> decide
theorem bdN_mono (m : Nat) : bdN m ≤ bdN (m + 1) := by
  cases m with
  | zero => decide
  | succ m => simp only [bdN]; omega
/-- Ranks that go with what is shown. -/
structure RkOK (D : Nat → Nat → Int) (n : Nat) (R : Nat → Nat) : Prop where
  lt : ∀ a, a < n → R a < n
  le : ∀ a b, a < n → b < n → 0 ≤ D a b → R b ≤ R a
  st : ∀ a b, a < n → b < n → 0 < D a b → R b < R a
structure NInv (D : Nat → Nat → Int) (n : Nat) (R : Nat → Nat) (m : Nat) (dp : Int) (B W : List Int) : Prop where
  lb : B.length = n
  lw : W.length = n
  dp0 : 0 ≤ dp
  dp1 : dp ≤ bdN m
  bb : ∀ a, a < n → n ≤ R a + m → 0 ≤ B.getD a 0 ∧ B.getD a 0 ≤ dp ∧ W.getD a 0 = max (B.getD a 0) 1
  ok : ∀ a b, a < n → b < n → n ≤ R a + m → n ≤ R b + m → B.getD a 0 + W.getD a 0 * D a b ≤ B.getD b 0
/-- How far below the highest rank the sales of a rank lie. -/
def DepR (D : Nat → Nat → Int) (n : Nat) (R : Nat → Nat) (rank : Int) (B W : List Int) (dep : Int) : Prop := 0 ≤ dep ∧
  (∀ a b, a < n → b < n → rank < R a → (R b : Int) = rank → B.getD a 0 + W.getD a 0 * D a b ≤ dep) ∧
  (dep = 0 ∨ ∃ a b, a < n ∧ b < n ∧ rank < R a ∧ (R b : Int) = rank ∧ dep = B.getD a 0 + W.getD a 0 * D a b)
/-- Numbers of one rank, of the first so many. -/
def UpdR (n : Nat) (R : Nat → Nat) (rank : Int) (x : Int) (B B' : List Int) (k : Nat) : Prop := B'.length = n ∧ ∀ j, j < n → B'.getD j 0 = if j < k ∧ (R j : Int) = rank then x else B.getD j 0
theorem UpdR.zero {n : Nat} {R : Nat → Nat} {rank x : Int} {B : List Int} (h : B.length = n) : UpdR n R rank x B B 0 := ⟨h, fun j _ => by rw [if_neg (by omega)]⟩
theorem UpdR.set {n k : Nat} {R : Nat → Nat} {rank x : Int} {B B' : List Int} (h : UpdR n R rank x B B' k) (hk : k < n) (hr : (R k : Int) = rank) : UpdR n R rank x B (B'.set k x) (k + 1) := by
  refine ⟨by rw [List.length_set]; exact h.1, fun j hj => ?_⟩
  rw [getD_set' (by rw [h.1]; exact hk)]
  by_cases e : j = k
  · subst e; rw [if_pos rfl, if_pos ⟨by omega, hr⟩]
  · rw [if_neg e, h.2 j hj]
    by_cases e2 : j < k ∧ (R j : Int) = rank
    · rw [if_pos e2, if_pos ⟨by omega, e2.2⟩]
    · rw [if_neg e2, if_neg fun q => e2 ⟨by omega, q.2⟩]
theorem UpdR.skip {n k : Nat} {R : Nat → Nat} {rank x : Int} {B B' : List Int} (h : UpdR n R rank x B B' k) (hr : (R k : Int) ≠ rank) : UpdR n R rank x B B' (k + 1) := by
  refine ⟨h.1, fun j hj => ?_⟩
  rw [h.2 j hj]
  by_cases e2 : j < k ∧ (R j : Int) = rank
  · rw [if_pos e2, if_pos ⟨by omega, e2.2⟩]
  · rw [if_neg e2, if_neg fun q => e2 ⟨by
      rcases Nat.lt_or_ge j k with h1 | h1
      · exact h1
      · have : j = k := by omega
        rw [this] at q; exact absurd q.2 hr, q.2⟩]
theorem UpdR.all {n : Nat} {R : Nat → Nat} {rank x : Int} {B B' : List Int} (h : UpdR n R rank x B B' n) : ∀ j, j < n → B'.getD j 0 = if (R j : Int) = rank then x else B.getD j 0 := fun j hj => by
  rw [h.2 j hj]
  by_cases e : (R j : Int) = rank
  · rw [if_pos ⟨hj, e⟩, if_pos e]
  · rw [if_neg fun q => e q.2, if_neg e]
theorem NInv.zero {D : Nat → Nat → Int} {n : Nat} {R : Nat → Nat} (hr : RkOK D n R) {B W : List Int} (h1 : B.length = n) (h2 : W.length = n) : NInv D n R 0 0 B W :=
  ⟨h1, h2, Int.le_refl _, Int.le_refl _, fun a ha h => by have := hr.lt a ha; omega, fun a b ha _ h => by have := hr.lt a ha; omega⟩
theorem NInv.step {D : Nat → Nat → Int} {n : Nat} {R : Nat → Nat} (hD : ∀ a b, -243 ≤ D a b ∧ D a b ≤ 243) (hn : n ≤ 6) (hr : RkOK D n R) {m : Nat} (hm : m < n) {dp dep : Int} {B W B' W' : List Int} (h : NInv D n R m dp B W)
    (hd : DepR D n R ((n : Int) - 1 - m) B W dep) (hB : UpdR n R ((n : Int) - 1 - m) (max dp dep) B B' n) (hW : UpdR n R ((n : Int) - 1 - m) (max (max dp dep) 1) W W' n) : NInv D n R (m + 1) (max dp dep) B' W' := by
  have hBa := hB.all
  have hWa := hW.all
  have hdp := h.dp0
  have hdp1 := h.dp1
  have hb5 := bdN_le5 (m := m) (by omega)
  obtain ⟨hd0, hd1, hd2⟩ := hd
  have hbound : max dp dep ≤ bdN (m + 1) := by
    have h1 := bdN_mono m
    rcases hd2 with rfl | ⟨a, b, ha, hb, hra, hrb, rfl⟩
    · omega
    · have hpa : n ≤ R a + m := by omega
      obtain ⟨q1, q2, q3⟩ := h.bb a ha hpa
      have hmm : 1 ≤ m := by
        have := hr.lt a ha
        omega
      obtain ⟨m, rfl⟩ : ∃ m', m = m' + 1 := ⟨m - 1, by omega⟩
      have q4 := mul_bd (V := W.getD a 0) (D := D a b) (B := max (bdN (m + 1)) 1) (by omega) (by omega) (hD a b).1 (hD a b).2
      simp only [bdN]
      omega
  refine ⟨hB.1, hW.1, by omega, hbound, fun a ha hp => ?_, fun a b ha hb hpa hpb => ?_⟩
  · rw [hBa a ha, hWa a ha]
    by_cases e : (R a : Int) = (n : Int) - 1 - m
    · rw [if_pos e, if_pos e]; omega
    · rw [if_neg e, if_neg e]
      obtain ⟨q1, q2, q3⟩ := h.bb a ha (by omega)
      omega
  · rw [hBa a ha, hWa a ha, hBa b hb]
    by_cases e : (R a : Int) = (n : Int) - 1 - m
    · rw [if_pos e, if_pos e]
      by_cases e2 : (R b : Int) = (n : Int) - 1 - m
      · rw [if_pos e2]
        have hle : D a b ≤ 0 := by
          rcases Int.lt_or_le 0 (D a b) with hlt | hge
          · have := hr.st a b ha hb hlt; omega
          · exact hge
        have := Int.mul_nonneg (show 0 ≤ max (max dp dep) 1 by omega) (show 0 ≤ - D a b by omega)
        rw [Int.mul_neg] at this
        omega
      · rw [if_neg e2]
        have hlt : D a b ≤ -1 := by
          rcases Int.lt_or_le (D a b) 0 with hlt | hge
          · omega
          · have := hr.le a b ha hb hge; omega
        have := Int.mul_nonneg (show 0 ≤ max (max dp dep) 1 by omega) (show 0 ≤ -1 - D a b by omega)
        rw [Int.mul_sub, Int.mul_neg, Int.mul_one] at this
        have q1 := (h.bb b hb (by omega)).1
        omega
    · rw [if_neg e, if_neg e]
      by_cases e2 : (R b : Int) = (n : Int) - 1 - m
      · rw [if_pos e2]
        have := hd1 a b ha hb (by omega) e2
        omega
      · rw [if_neg e2]
        exact h.ok a b ha hb (by omega) (by omega)
/-- What is returned. -/
def worL (dp : Int) (B : List Int) : List Int := B.map fun x => dp - x
theorem worL_len (dp : Int) (B : List Int) : (worL dp B).length = B.length := by simp [worL]
theorem worL_get {dp : Int} {B : List Int} {a : Nat} (h : a < B.length) : (worL dp B).getD a 0 = dp - B.getD a 0 := by
  rw [getD_eq (by rw [worL_len]; exact h), getD_eq h]; simp [worL]
theorem NInv.fin {P : List (List Int)} {R : Nat → Nat} {dp : Int} {B W : List Int} (hn : P.length ≤ 6) (h : NInv (DP P) P.length R P.length dp B W) : RngP P.length (worL dp B) W ∧ NumP P (worL dp B) W := by
  have hb := bdN_le hn
  have hdp := h.dp1
  have hdp0 := h.dp0
  have hlb := h.lb
  refine ⟨⟨by rw [worL_len]; exact h.lb, h.lw, fun a ha => ?_, fun a ha => ?_⟩, fun a b ha hb => ?_⟩
  · obtain ⟨q1, q2, q3⟩ := h.bb a ha (by omega)
    rw [worL_get (by omega)]; omega
  · obtain ⟨q1, q2, q3⟩ := h.bb a ha (by omega)
    omega
  · have := h.ok a b ha hb (by omega) (by omega)
    show (worL dp B).getD b 0 ≤ (worL dp B).getD a 0 - W.getD a 0 * DP P a b
    rw [worL_get (by omega), worL_get (by omega)]; omega
theorem rk_ok {P : List (List Int)} (hn : ¬ ringed (DP P) P.length) : RkOK (DP P) P.length (rkN (DP P) P.length) :=
  ⟨fun a ha => rk_bound ha, fun a b ha hb h => rk_le hn ha h, fun a b ha hb h => rk_lt (DP_self P) hn ha hb h⟩
theorem rkL_get {D : Nat → Nat → Int} {n a : Nat} (h : a < n) : (rkL D n).getD a 0 = rkN D n a := by
  rw [getD_eq (by simp [rkL]; exact h)]; simp [rkL]
theorem rkL_len (D : Nat → Nat → Int) (n : Nat) : (rkL D n).length = n := by simp [rkL]
structure DZ where
  k : Nat
  d : Int
structure NZ where
  m : Nat
  d : Int
  B : List Int
  W : List Int
structure NK where
  k : Nat
  B : List Int
  W : List Int
end Go.Proofs.Yteopjpfhhekkoaa.Tt

/- Numbers by ranks: the walks. -/
namespace Go.Proofs.Yteopjpfhhekkoaa.Tt
open Go Go.Abs Go.Mth
set_option linter.unusedVariables false
set_option linter.unusedSimpArgs false
attribute [local irreducible] gOK WS WC WR WD Ends FS YS OpV seqK blockK loopK midK retK rdK asgK rangeEnd sat Cell
section
variable {M : HL} {n0 : Nat} {H : Heap} {v w u x y : Value}
set_option maxHeartbeats 2000000 in
theorem depth_fs (hH : hasH M n0 H) {P : List (List Int)} (hP : SqP P) (hR : RowsI M v P) {R : List Nat} (hRS : Sl M 1 w (nodes R)) (hRl : R.length = P.length) (rank : Int) {B W : List Int} (hB : Sl M 1 u (ints B)) (hW : Sl M 1 x (ints W)) (hBl : B.length = P.length) (hWl : W.length = P.length)
    (hbd : ∀ a, a < P.length → rank < R.getD a 0 → 0 ≤ B.getD a 0 ∧ B.getD a 0 ≤ 4000000000 ∧ 0 ≤ W.getD a 0 ∧ W.getD a 0 ≤ 4000000000) :
    FS C 97 [v, w, .int .i64 rank, u, x] H (fun e H' => ∃ dep, H' = H ∧ DepR (DP P) P.length (fun a => R.getD a 0) rank B W dep ∧ e = .int .i64 dep) := by
  obtain ⟨cws, hcS, hcl, hcrow⟩ := hR
  have hRR : RowsI M v P := ⟨cws, hcS, hcl, hcrow⟩
  have hlen6 := hP.len
  refine FS.intro (pf := pf97) rfl rfl rfl ?_
  repeat' (first | refine zP ?_ | refine zA ?_ | (refine zM ?_; intro _ _) | refine zX ?_ | (refine zC ?_; intro _ _ _ _) | (refine zS ?_; intro _ _) | (apply Ws <;> intro hg))
  rw [hcl]
  refine WC.loopX [(0, _), (1, _), (2, _), (3, _), (4, _), (15, _)] (fun s : DZ => [(11, .int .i64 s.d), (16, .int .i64 (s.k : Int))]) [] (fun s H' => H' = H ∧ s.k ≤ P.length ∧ 0 ≤ s.d ∧ s.d ≤ 2000000000000 ∧ (∀ a b, a < s.k → b < P.length → rank < R.getD a 0 → ((R.getD b 0 : Nat) : Int) = rank → B.getD a 0 + W.getD a 0 * DP P a b ≤ s.d) ∧ (s.d = 0 ∨ ∃ a b, a < P.length ∧ b < P.length ∧ rank < R.getD a 0 ∧ ((R.getD b 0 : Nat) : Int) = rank ∧ s.d = B.getD a 0 + W.getD a 0 * DP P a b)) (fun s => P.length - s.k) ⟨0, 0⟩ (by repeat' (first | exact .nil | refine .cons rfl ?_)) rfl
    ⟨rfl, Nat.zero_le _, Int.le_refl _, by decide, fun a b h => absurd h (Nat.not_lt_zero _), .inl rfl⟩ ?_
  rintro ⟨a, d⟩ H1 ⟨rfl, ha, hd0, hd9, hno, hor⟩
  simp only at ha hd0 hd9 hno hor
  dsimp only [List.cons_append, List.nil_append]
  repeat' (first | refine zP ?_ | refine zA ?_ | (refine zM ?_; intro _ _) | refine zX ?_ | (refine zC ?_; intro _ _ _ _) | (refine zS ?_; intro _ _) | (apply Ws <;> intro hg))
  refine WC.condP rfl (fun hlta => ?_) (fun hlta => ?_)
  · have ha' : a < P.length := by omega
    repeat' (first | refine zP ?_ | refine zA ?_ | (refine zM ?_; intro _ _) | refine zX ?_ | (refine zC ?_; intro _ _ _ _) | (refine zS ?_; intro _ _) | (apply Ws <;> intro hg))
    rw [hcl]
    refine WC.loopX [(0, _), (1, _), (2, _), (3, _), (4, _), (12, .int .i64 (a : Int)), (15, _), (16, .int .i64 (a : Int)), (20, _)] (fun s : DZ => [(11, .int .i64 s.d), (21, .int .i64 (s.k : Int))]) [] (fun s H' => H' = H1 ∧ s.k ≤ P.length ∧ d ≤ s.d ∧ 0 ≤ s.d ∧ s.d ≤ 2000000000000 ∧ (∀ b, b < s.k → rank < R.getD a 0 → ((R.getD b 0 : Nat) : Int) = rank → B.getD a 0 + W.getD a 0 * DP P a b ≤ s.d) ∧ (s.d = 0 ∨ ∃ a b, a < P.length ∧ b < P.length ∧ rank < R.getD a 0 ∧ ((R.getD b 0 : Nat) : Int) = rank ∧ s.d = B.getD a 0 + W.getD a 0 * DP P a b)) (fun s => P.length - s.k) ⟨0, d⟩ (by repeat' (first | exact .nil | refine .cons rfl ?_)) rfl
      ⟨rfl, Nat.zero_le _, Int.le_refl _, hd0, hd9, fun b h => absurd h (Nat.not_lt_zero _), hor⟩ ?_
    rintro ⟨b, d2⟩ H2 ⟨rfl, hb, hdd, hd20, hd29, hno2, hor2⟩
    simp only at hb hdd hd20 hd29 hno2 hor2
    dsimp only [List.cons_append, List.nil_append]
    repeat' (first | refine zP ?_ | refine zA ?_ | (refine zM ?_; intro _ _) | refine zX ?_ | (refine zC ?_; intro _ _ _ _) | (refine zS ?_; intro _ _) | (apply Ws <;> intro hg))
    refine WC.condP rfl (fun hltb => ?_) (fun hltb => ?_)
    · have hb' : b < P.length := by omega
      by_cases hra : rank < ((R.getD a 0 : Nat) : Int)
      · by_cases hrb : ((R.getD b 0 : Nat) : Int) = rank
        · have hdp := hP.dp a b
          obtain ⟨hba1, hba2, hba3, hba4⟩ := hbd a ha' hra
          have hmu := mul_bd (V := W.getD a 0) (D := DP P a b) (B := 4000000000) (by omega) (by omega) hdp.1 hdp.2
          repeat' (first | refine zP ?_ | refine zA ?_ | (refine zM ?_; intro _ _) | refine zX ?_ | (refine zC ?_; intro _ _ _ _) | (refine zS ?_; intro _ _) | refine zO ?_ | (apply Ws <;> intro hg))
          refine WC.regionD ?_
          repeat' (first | refine zD ?_ | (refine zE ?_; intro _ _ _ _))
          refine WD.call (by first | exact gN | exact gS rfl) rfl rfl (spares_fs hH hP hRR ha' hb') ?_
          rintro _ H3 ⟨rfl, rfl⟩
          refine ⟨zSt, ?_⟩
          refine WD.toWR rfl ?_
          repeat' (first | refine zP ?_ | refine zA ?_ | (refine zM ?_; intro _ _) | refine zX ?_ | (refine zC ?_; intro _ _ _ _) | (refine zS ?_; intro _ _) | (apply Ws <;> intro hg))
          refine Ends.loop ⟨b + 1, max d2 (B.getD a 0 + W.getD a 0 * DP P a b)⟩ (by simp only; omega) (by repeat' (first | exact .nil | refine .cons rfl ?_)) rfl ⟨rfl, by simp only; omega, by simp only; omega, by simp only; omega, by simp only; omega, fun b' hlt k1 k2 => ?_, ?_⟩
          · simp only at hlt ⊢
            by_cases he : b' = b
            · rw [he]; omega
            · have := hno2 b' (by omega) k1 k2; omega
          · simp only
            rcases Int.le_total d2 (B.getD a 0 + W.getD a 0 * DP P a b) with h | h
            · exact .inr ⟨a, b, ha', hb', hra, hrb, by omega⟩
            · rcases hor2 with hor2 | ⟨a', b', k1, k2, k3, k4, k5⟩
              · exact .inl (by omega)
              · exact .inr ⟨a', b', k1, k2, k3, k4, by omega⟩
        · repeat' (first | refine zP ?_ | refine zA ?_ | (refine zM ?_; intro _ _) | refine zX ?_ | (refine zC ?_; intro _ _ _ _) | (refine zS ?_; intro _ _) | refine zO ?_ | (apply Ws <;> intro hg))
          refine Ends.loop ⟨b + 1, d2⟩ (by simp only; omega) (by repeat' (first | exact .nil | refine .cons rfl ?_)) rfl ⟨rfl, by simp only; omega, hdd, hd20, hd29, fun b' hlt k1 k2 => ?_, hor2⟩
          simp only at hlt ⊢
          by_cases he : b' = b
          · rw [he] at k2; exact absurd k2 hrb
          · exact hno2 b' (by omega) k1 k2
      · repeat' (first | refine zP ?_ | refine zA ?_ | (refine zM ?_; intro _ _) | refine zX ?_ | (refine zC ?_; intro _ _ _ _) | (refine zS ?_; intro _ _) | refine zO ?_ | (apply Ws <;> intro hg))
        exact Ends.loop ⟨b + 1, d2⟩ (by simp only; omega) (by repeat' (first | exact .nil | refine .cons rfl ?_)) rfl ⟨rfl, by simp only; omega, hdd, hd20, hd29, fun b' hlt k1 k2 => absurd k1 hra, hor2⟩
    · have hbl : b = P.length := by omega
      subst hbl
      repeat' (first | refine zP ?_ | refine zA ?_ | (refine zM ?_; intro _ _) | refine zX ?_ | (refine zC ?_; intro _ _ _ _) | (refine zS ?_; intro _ _) | (apply Ws <;> intro hg))
      refine Ends.loop ⟨a + 1, d2⟩ (by simp only; omega) (by repeat' (first | exact .nil | refine .cons rfl ?_)) rfl ⟨rfl, by simp only; omega, hd20, hd29, fun a' b' hlt hb' k1 k2 => ?_, hor2⟩
      simp only at hlt ⊢
      by_cases he : a' = a
      · rw [he] at k1 ⊢; exact hno2 b' hb' k1 k2
      · have := hno a' b' (by omega) hb' k1 k2; omega
  · have hal : a = P.length := by omega
    subst hal
    repeat' (first | refine zP ?_ | refine zA ?_ | (refine zM ?_; intro _ _) | refine zX ?_ | (refine zC ?_; intro _ _ _ _) | (refine zS ?_; intro _ _) | (apply Ws <;> intro hg))
    exact Ends.ret1 rfl ⟨d, rfl, ⟨hd0, fun a b ha hb => hno a b ha hb, hor⟩, rfl⟩
set_option maxHeartbeats 4000000 in
theorem numbers_fs (hH : hasH M n0 H) {P : List (List Int)} (hP : SqP P) (hR : RowsI M v P) (hnr : ¬ ringed (DP P) P.length) (hRS : Sl M 1 w (nodes (rkL (DP P) P.length))) :
    FS C 83 [v, w] H (fun e H' => ∃ n' M2 a b W V, n0 ≤ n' ∧ hasH (M2 ++ M) n' H' ∧ RngP P.length W V ∧ NumP P W V ∧ Sl (M2 ++ M) 1 a (ints W) ∧ Sl (M2 ++ M) 1 b (ints V) ∧ e = .tuple #[a, b]) := by
  obtain ⟨cws, hcS, hcl, hcrow⟩ := hR
  have hRR : RowsI M v P := ⟨cws, hcS, hcl, hcrow⟩
  have hlen6 := hP.len
  have hrk := rk_ok hnr
  have hRl := rkL_len (DP P) P.length
  have hRg : ∀ a, a < P.length → (rkL (DP P) P.length).getD a 0 = rkN (DP P) P.length a := fun a ha => rkL_get ha
  refine FS.intro (pf := pf83) rfl rfl rfl ?_
  repeat' (first | refine zP ?_ | refine zA ?_ | (refine zM ?_; intro _ _) | refine zX ?_ | (refine zC ?_; intro _ _ _ _) | (refine zS ?_; intro _ _) | (apply Ws <;> intro hg))
  rw [hcl]
  refine WR.mkS (by first | exact gN | exact gS rfl) rfl hH rfl rfl (by omega) rfl fun H1 hH1 => ?_
  replace hH1 : hasH ((n0, .row 3 0 0 (ints (List.replicate P.length 0))) :: M) (n0 + 1) H1 := by
    rw [show ints (List.replicate P.length 0) = List.replicate P.length (Value.int .i64 0) by simp [ints]]; exact hH1
  clear hH
  have hcS1 := hcS.cons (p := (n0, .row 3 0 0 (ints (List.replicate P.length 0))))
  repeat' (first | refine zP ?_ | refine zA ?_ | (refine zM ?_; intro _ _) | refine zX ?_ | (refine zC ?_; intro _ _ _ _) | (refine zS ?_; intro _ _) | (apply Ws <;> intro hg))
  rw [hcl]
  refine WR.mkS (by first | exact gN | exact gS rfl) rfl hH1 rfl rfl (by omega) rfl fun H2 hH2 => ?_
  replace hH2 : hasH ((n0 + 1, .row 3 0 0 (ints (List.replicate P.length 0))) :: (n0, .row 3 0 0 (ints (List.replicate P.length 0))) :: M) (n0 + 1 + 1) H2 := by
    rw [show (ints (List.replicate P.length 0) : List Value) = List.replicate P.length (Value.int .i64 0) by simp [ints]] at hH2 ⊢; exact hH2
  have hcS2 := hcS1.cons (p := (n0 + 1, .row 3 0 0 (ints (List.replicate P.length 0))))
  clear hH1 hcS1
  repeat' (first | refine zP ?_ | refine zA ?_ | (refine zM ?_; intro _ _) | refine zX ?_ | (refine zC ?_; intro _ _ _ _) | (refine zS ?_; intro _ _) | (apply Ws <;> intro hg))
  rw [hcl]
  clear hcS2
  rw [show (P.length : Int) - 1 = (P.length : Int) - 1 - ((0 : Nat) : Int) by omega]
  obtain ⟨R, hRe⟩ : ∃ R : Nat → Nat, R = fun a => (rkL (DP P) P.length).getD a 0 := ⟨_, rfl⟩
  have hRk : RkOK (DP P) P.length R := by
    rw [hRe]
    refine ⟨fun a ha => ?_, fun a b ha hb h => ?_, fun a b ha hb h => ?_⟩
    · rw [hRg a ha]; exact hrk.lt a ha
    · rw [hRg a ha, hRg b hb]; exact hrk.le a b ha hb h
    · rw [hRg a ha, hRg b hb]; exact hrk.st a b ha hb h
  have hRa : ∀ a, (rkL (DP P) P.length).getD a 0 = R a := fun a => by rw [hRe]
  clear hRg hrk
  generalize rkL (DP P) P.length = RL at *
  refine WC.loopX [(0, v), (1, w), (4, .slice none 0 0), (5, .slice (some ⟨n0 + 1, 0, some 0⟩) P.length (2 * P.length + 1)), (6, .slice (some ⟨n0, 0, some 0⟩) P.length (2 * P.length + 1))] (fun s : NZ => [(7, .int .i64 s.d), (8, .int .i64 ((P.length : Int) - 1 - (s.m : Int)))]) [] (fun s H' => s.m ≤ P.length ∧ NInv (DP P) P.length R s.m s.d s.B s.W ∧ hasH ((n0 + 1, .row 3 0 0 (ints s.W)) :: (n0, .row 3 0 0 (ints s.B)) :: M) (n0 + 1 + 1) H') (fun s => P.length - s.m) ⟨0, 0, List.replicate P.length 0, List.replicate P.length 0⟩ (by repeat' (first | exact .nil | refine .cons rfl ?_)) rfl
    ⟨Nat.zero_le _, .zero hRk (by simp) (by simp), hH2⟩ ?_
  clear hH2
  rintro ⟨m, d, B, W⟩ H3 ⟨hm, hI, hH3⟩
  simp only at hm hI hH3
  have hBl := hI.lb
  have hWl := hI.lw
  have hSB : Sl ((n0 + 1, Ch.row 3 0 0 (ints W)) :: (n0, Ch.row 3 0 0 (ints B)) :: M) 1 (.slice (some ⟨n0, 0, some 0⟩) P.length (2 * P.length + 1)) (ints B) :=
    .row (lo := 0) (cs := ints B) (.tail _ (.head _)) (.row _ _ _ _) (Nat.le_refl _) (by simp [hBl]) (by simp [List.take_of_length_le]) (by simp) (.inr ⟨P.length, rfl, Nat.le_refl _⟩)
  have hSW : Sl ((n0 + 1, Ch.row 3 0 0 (ints W)) :: (n0, Ch.row 3 0 0 (ints B)) :: M) 1 (.slice (some ⟨n0 + 1, 0, some 0⟩) P.length (2 * P.length + 1)) (ints W) :=
    .row (lo := 0) (cs := ints W) (.head _) (.row _ _ _ _) (Nat.le_refl _) (by simp [hWl]) (by simp [List.take_of_length_le]) (by simp) (.inr ⟨P.length, rfl, Nat.le_refl _⟩)
  dsimp only [List.cons_append, List.nil_append]
  repeat' (first | refine zP ?_ | refine zA ?_ | (refine zM ?_; intro _ _) | refine zX ?_ | (refine zC ?_; intro _ _ _ _) | (refine zS ?_; intro _ _) | (apply Ws <;> intro hg))
  refine WC.condP rfl (fun hge => ?_) (fun hge => ?_)
  · have hm' : m < P.length := by omega
    repeat' (first | refine zP ?_ | refine zA ?_ | (refine zM ?_; intro _ _) | refine zX ?_ | (refine zC ?_; intro _ _ _ _) | (refine zS ?_; intro _ _) | (apply Ws <;> intro hg))
    refine WR.call (by first | exact gN | exact gS rfl) rfl rfl (depth_fs hH3 hP hRR.cons.cons hRS.cons.cons hRl ((P.length : Int) - 1 - m) hSB hSW hBl hWl fun a ha hra => ?_) ?_
    · rw [hRa a] at hra
      obtain ⟨k1, k2, k3⟩ := hI.bb a ha (by omega)
      have k4 := hI.dp1
      have k5 := bdN_le5 (m := m) (by omega)
      omega
    rintro _ H4 ⟨dep, rfl, hD, rfl⟩
    have hD2 : DepR (DP P) P.length R ((P.length : Int) - 1 - m) B W dep := by rw [hRe]; simpa [← hRe, hRa] using hD
    clear hD hSB hSW
    repeat' (first | refine zP ?_ | refine zA ?_ | (refine zM ?_; intro _ _) | refine zX ?_ | (refine zC ?_; intro _ _ _ _) | (refine zS ?_; intro _ _) | (apply Ws <;> intro hg))
    have hcS4 := (hcS.cons (p := (n0, Ch.row 3 0 0 (ints B)))).cons (p := (n0 + 1, Ch.row 3 0 0 (ints W)))
    repeat' (first | refine zP ?_ | refine zA ?_ | (refine zM ?_; intro _ _) | refine zX ?_ | (refine zC ?_; intro _ _ _ _) | (refine zS ?_; intro _ _) | (apply Ws <;> intro hg))
    rw [hcl]
    clear hcS4
    refine WC.loopX [(0, v), (1, w), (4, .slice none 0 0), (5, .slice (some ⟨n0 + 1, 0, some 0⟩) P.length (2 * P.length + 1)), (6, .slice (some ⟨n0, 0, some 0⟩) P.length (2 * P.length + 1)), (7, .int .i64 (max d dep)), (8, .int .i64 ((P.length : Int) - 1 - (m : Int))), (34, .int .i64 (P.length : Int))] (fun s : NK => [(35, .int .i64 (s.k : Int))]) [] (fun s H' => s.k ≤ P.length ∧ UpdR P.length R ((P.length : Int) - 1 - m) (max d dep) B s.B s.k ∧ UpdR P.length R ((P.length : Int) - 1 - m) (max (max d dep) 1) W s.W s.k ∧ hasH ((n0 + 1, .row 3 0 0 (ints s.W)) :: (n0, .row 3 0 0 (ints s.B)) :: M) (n0 + 1 + 1) H') (fun s => P.length - s.k) ⟨0, B, W⟩ (by repeat' (first | exact .nil | refine .cons rfl ?_)) rfl
      ⟨Nat.zero_le _, .zero hBl, .zero hWl, hH3⟩ ?_
    clear hH3
    rintro ⟨k, B2, W2⟩ H5 ⟨hk, hU1, hU2, hH5⟩
    simp only at hk hU1 hU2 hH5
    have hB2 := hU1.1
    have hW2 := hU2.1
    have hRS5 := (hRS.cons (p := (n0, Ch.row 3 0 0 (ints B2)))).cons (p := (n0 + 1, Ch.row 3 0 0 (ints W2)))
    dsimp only [List.cons_append, List.nil_append]
    repeat' (first | refine zP ?_ | refine zA ?_ | (refine zM ?_; intro _ _) | refine zX ?_ | (refine zC ?_; intro _ _ _ _) | (refine zS ?_; intro _ _) | (apply Ws <;> intro hg))
    refine WC.condP rfl (fun hltk => ?_) (fun hltk => ?_)
    · have hk' : k < P.length := by omega
      repeat' (first | refine zP ?_ | refine zA ?_ | (refine zM ?_; intro _ _) | refine zX ?_ | (refine zC ?_; intro _ _ _ _) | (refine zS ?_; intro _ _) | (apply Ws <;> intro hg))
      rw [hRa k]
      refine WC.condP rfl (fun heq => ?_) (fun heq => ?_)
      · repeat' (first | refine zP ?_ | refine zA ?_ | (refine zM ?_; intro _ _) | refine zX ?_ | (refine zC ?_; intro _ _ _ _) | (refine zS ?_; intro _ _) | (apply Ws <;> intro hg))
        rename_i H6 hH6 H7 hH7
        exact Ends.loop ⟨k + 1, B2.set k (max d dep), W2.set k (max (max d dep) 1)⟩ (by simp only; omega) (by repeat' (first | exact .nil | refine .cons rfl ?_)) rfl ⟨by simp only; omega, hU1.set hk' heq, hU2.set hk' heq, hH7⟩
      · repeat' (first | refine zP ?_ | refine zA ?_ | (refine zM ?_; intro _ _) | refine zX ?_ | (refine zC ?_; intro _ _ _ _) | (refine zS ?_; intro _ _) | (apply Ws <;> intro hg))
        exact Ends.loop ⟨k + 1, B2, W2⟩ (by simp only; omega) (by repeat' (first | exact .nil | refine .cons rfl ?_)) rfl ⟨by simp only; omega, hU1.skip heq, hU2.skip heq, hH5⟩
    · have hkl : k = P.length := by omega
      subst hkl
      repeat' (first | refine zP ?_ | refine zA ?_ | (refine zM ?_; intro _ _) | refine zX ?_ | (refine zC ?_; intro _ _ _ _) | (refine zS ?_; intro _ _) | (apply Ws <;> intro hg))
      rw [show (P.length : Int) - 1 - (m : Int) - 1 = (P.length : Int) - 1 - ((m + 1 : Nat) : Int) by omega]
      exact Ends.loop ⟨m + 1, max d dep, B2, W2⟩ (by simp only; omega) (by repeat' (first | exact .nil | refine .cons rfl ?_)) rfl ⟨by simp only; omega, hI.step hP.dp hlen6 hRk hm' hD2 hU1 hU2, hH5⟩
  · have hmn : m = P.length := by omega
    subst hmn
    have hfin := hI.fin hlen6
    have hd0 := hI.dp0
    have hd1 := hI.dp1
    have hd2 := bdN_le hlen6
    have hbb : ∀ a, a < P.length → 0 ≤ B.getD a 0 ∧ B.getD a 0 ≤ d := fun a ha => by
      obtain ⟨k1, k2, _⟩ := hI.bb a ha (by omega)
      exact ⟨k1, k2⟩
    repeat' (first | refine zP ?_ | refine zA ?_ | (refine zM ?_; intro _ _) | refine zX ?_ | (refine zC ?_; intro _ _ _ _) | (refine zS ?_; intro _ _) | (apply Ws <;> intro hg))
    refine WC.loopX [(5, .slice (some ⟨n0 + 1, 0, some 0⟩) P.length (2 * P.length + 1)), (7, .int .i64 d), (54, .slice (some ⟨n0, 0, some 0⟩) P.length (2 * P.length + 1)), (55, .int .i64 (P.length : Int))] (fun s : CI => [(4, s.v), (56, .int .i64 (s.b : Int))]) [] (fun s H' => s.b ≤ P.length ∧ n0 ≤ s.n ∧ Own 3 1 s.v (ints (worL d (B.take s.b))) s.Mr ∧ hasH ((n0 + 1, .row 3 0 0 (ints W)) :: (n0, .row 3 0 0 (ints B)) :: (s.Mr ++ M)) s.n H') (fun s => P.length - s.b) ⟨0, .slice none 0 0, [], [], n0 + 1 + 1⟩ (by repeat' (first | exact .nil | refine .cons rfl ?_)) rfl
      ⟨Nat.zero_le _, by simp only; omega, .nil, hH3⟩ ?_
    clear hH3 hSB hSW
    rintro ⟨k, vk, Mr, _, n5⟩ H5 ⟨hk, hn5, hO, hH5⟩
    simp only at hk hn5 hO hH5
    dsimp only [List.cons_append, List.nil_append]
    repeat' (first | refine zP ?_ | refine zA ?_ | (refine zM ?_; intro _ _) | refine zX ?_ | (refine zC ?_; intro _ _ _ _) | (refine zS ?_; intro _ _) | (apply Ws <;> intro hg))
    refine WC.condP rfl (fun hltk => ?_) (fun hltk => ?_)
    · have hk' : k < P.length := by omega
      have hbk := hbb k hk'
      have hSB5 : Sl ((n0 + 1, Ch.row 3 0 0 (ints W)) :: (n0, Ch.row 3 0 0 (ints B)) :: (Mr ++ M)) 1 (.slice (some ⟨n0, 0, some 0⟩) P.length (2 * P.length + 1)) (ints B) :=
        .row (lo := 0) (cs := ints B) (.tail _ (.head _)) (.row _ _ _ _) (Nat.le_refl _) (by simp [hBl]) (by simp [List.take_of_length_le]) (by simp) (.inr ⟨P.length, rfl, Nat.le_refl _⟩)
      repeat' (first | refine zP ?_ | refine zA ?_ | (refine zM ?_; intro _ _) | refine zX ?_ | (refine zC ?_; intro _ _ _ _) | (refine zS ?_; intro _ _) | (apply Ws <;> intro hg))
      refine WR.append1F [(n0 + 1, .row 3 0 0 (ints W)), (n0, .row 3 0 0 (ints B))] Mr M rfl rfl rfl rfl hO hH5 (new := [.int .i64 (d - B.getD k 0)]) (by rfl) rfl rfl (Nat.le_refl _) (by omega) (by simp [worL]; omega) fun v3 M3 n3 H9 hO3 hH9 hn3 => ?_
      replace hH9 : hasH ((n0 + 1, .row 3 0 0 (ints W)) :: (n0, .row 3 0 0 (ints B)) :: (M3 ++ M)) n3 H9 := hH9
      repeat' (first | refine zP ?_ | refine zA ?_ | (refine zM ?_; intro _ _) | refine zX ?_ | (refine zC ?_; intro _ _ _ _) | (refine zS ?_; intro _ _) | (apply Ws <;> intro hg))
      refine Ends.loop ⟨k + 1, v3, M3, [], n3⟩ (by simp only; omega) (by repeat' (first | exact .nil | refine .cons rfl ?_)) rfl ⟨by simp only; omega, by simp only; omega, ?_, hH9⟩
      simp only
      rw [take_snoc' (d := 0) (by omega)]
      simpa [worL, ints] using hO3
    · have hkl : k = P.length := by omega
      subst hkl
      rw [List.take_of_length_le (by omega)] at hO
      repeat' (first | refine zP ?_ | refine zA ?_ | (refine zM ?_; intro _ _) | refine zX ?_ | (refine zC ?_; intro _ _ _ _) | (refine zS ?_; intro _ _) | (apply Ws <;> intro hg))
      refine Ends.ret2 rfl rfl ⟨n5, (n0 + 1, .row 3 0 0 (ints W)) :: (n0, .row 3 0 0 (ints B)) :: Mr, vk, _, worL d B, W, hn5, hH5, hfin.1, hfin.2, ?_, ?_, rfl⟩
      · exact (hO.sl M).cons.cons
      · exact .row (lo := 0) (cs := ints W) (.head _) (.row _ _ _ _) (Nat.le_refl _) (by simp [hWl]) (by simp [List.take_of_length_le]) (by simp) (.inr ⟨P.length, rfl, Nat.le_refl _⟩)
end
end Go.Proofs.Yteopjpfhhekkoaa.Tt

/- Numbers, Agrees; numbered. -/
namespace Go.Abs
set_option linter.unusedSectionVars false
variable [Globs]
open Go
section
theorem Ends.ret3 {L : Env} {H : Heap} {a b c : Nat} {v u w : Value} {R : Value → Heap → Prop} (hx : ev L (.tmp a) = some v) (hy : ev L (.tmp b) = some u) (hz : ev L (.tmp c) = some w) (h : R (.tuple #[v, u, w]) H) : Ends (retK [.tmp a, .tmp b, .tmp c] R) .ret L [] H := by
  refine Ends.ret_of trivial fun t ht => ⟨_, H, ?_, h⟩
  simp only [takeAll, leaveC, resultOf, ev_ok ht hx, ev_ok ht hy, ev_ok ht hz, retVal]
theorem KCell.readN' {M : HL} {n : Nat} {H : Heap} {b o u k : Nat} {vs : List Value} (h : KCell M b o u vs) (hH : hasH M n H) (hk : vs.length = k) : H.readN ⟨b, o, some u⟩ k = some vs := by
  obtain ⟨ch, lo, cs, q1, q2, q3, q4, q5⟩ := h
  subst hk
  rw [hH.readN q1 q2 q3 q4, q5]
end
end Go.Abs
namespace Go.Proofs.Yteopjpfhhekkoaa.Tt
open Go Go.Abs Go.Mth
set_option linter.unusedVariables false
set_option linter.unusedSimpArgs false
/-- What Numbers returns. -/
def NumOut (M : HL) (g : Int) (S : List Sal) (e : Value) : Prop := ∃ a b, e = .tuple #[a, b, .int .i64 (if errS g S ≠ 0 then errS g S else if tasteB (matS S) = true then 0 else 13)] ∧ one a = true ∧ one b = true ∧
  ((errS g S = 0 ∧ tasteB (matS S) = true ∧ ∃ W V, RngP S.length W V ∧ NumP (matS S) W V ∧ Sl M 1 a (ints W) ∧ Sl M 1 b (ints V)) ∨ ((errS g S ≠ 0 ∨ tasteB (matS S) = false) ∧ a = .slice none 0 0 ∧ b = .slice none 0 0))
/-- What Agrees returns. -/
def AgrOut (g : Int) (S : List Sal) (W V : List Int) (c : Int) : Prop := (errS g S ≠ 0 ∧ c = errS g S) ∨ (errS g S = 0 ∧ ((¬ (W.length = S.length ∧ V.length = S.length) ∧ c = 5) ∨ ((W.length = S.length ∧ V.length = S.length) ∧
  ((¬ (withB 0 1000000000000 W = true ∧ withB 1 1000000000000 V = true) ∧ c = 1) ∨ ((withB 0 1000000000000 W = true ∧ withB 1 1000000000000 V = true) ∧ ((¬ NumP (matS S) W V ∧ c = 14) ∨ (NumP (matS S) W V ∧ c = 0)))))))
attribute [local irreducible] gOK WS WC WR WD Ends FS YS OpV seqK blockK loopK midK retK rdK asgK rangeEnd sat Cell
section
variable {M : HL} {n0 : Nat} {H : Heap} {v w u : Value}
theorem Numbers_fs (hH : hasH M n0 H) {S : List Sal} (hS : SalesI M v S) (hl : LenS S) (g : Int) :
    FS C 36 [.int .i64 g, v] H (fun e H' => ∃ n' M2, n0 ≤ n' ∧ hasH (M2 ++ M) n' H' ∧ NumOut (M2 ++ M) g S e) := by
  have hv := hS.one_
  have hr := errS_range g S
  have hml := matS_len S
  refine FS.intro (pf := pf36) rfl rfl rfl ?_
  repeat' (first | refine zP ?_ | refine zA ?_ | (refine zM ?_; intro _ _) | refine zX ?_ | (refine zC ?_; intro _ _ _ _) | (refine zS ?_; intro _ _) | (apply Ws <;> intro hg))
  refine WR.call (by first | exact gN | exact gS rfl) rfl rfl (reckon_fs hH hS hl g) ?_
  rintro _ H2 ⟨n2, M2, u, hn2, hH2, hu, rfl, ⟨he, rfl⟩ | ⟨h0, ⟨k, rfl, hk⟩, hP, hR⟩⟩
  · repeat' (first | refine zP ?_ | refine zA ?_ | (refine zM ?_; intro _ _) | refine zX ?_ | (refine zC ?_; intro _ _ _ _) | (refine zS ?_; intro _ _) | (apply Ws <;> intro hg))
    refine WC.condP rfl (fun he2 => ?_) (fun he2 => ?_)
    · repeat' (first | refine zP ?_ | refine zA ?_ | (refine zM ?_; intro _ _) | refine zX ?_ | (refine zC ?_; intro _ _ _ _) | (refine zS ?_; intro _ _) | (apply Ws <;> intro hg))
      exact Ends.ret3 rfl rfl rfl ⟨n2, M2, hn2, hH2, _, _, by rw [if_pos he], rfl, rfl, .inr ⟨.inl he, rfl, rfl⟩⟩
    · exact absurd he he2
  · rw [h0]
    repeat' (first | refine zP ?_ | refine zA ?_ | (refine zM ?_; intro _ _) | refine zX ?_ | (refine zC ?_; intro _ _ _ _) | (refine zS ?_; intro _ _) | refine zO ?_ | (apply Ws <;> intro hg))
    refine WR.call (by first | exact gN | exact gS rfl) rfl rfl (judge_fs hH2 hP hR) ?_
    rintro _ H3 ⟨n3, M3, u3, hn3, hH3, hu3, ⟨z, hf, hSz, rfl⟩ | ⟨hf, hSz, rfl⟩⟩
    · have hfr : firstRing (matS S) = some z := hf
      have htb : tasteB (matS S) = false := by rw [tasteB, hfr]; rfl
      refine WR.op (by first | exact gN | exact gS rfl) rfl (OpV.tasF rfl rfl) ?_
      repeat' (first | refine zP ?_ | refine zA ?_ | (refine zM ?_; intro _ _) | refine zX ?_ | (refine zC ?_; intro _ _ _ _) | (refine zS ?_; intro _ _) | (apply Ws <;> intro hg))
      exact Ends.ret3 rfl rfl rfl ⟨n3, M3 ++ M2, by omega, by simpa using hH3, _, _, by rw [if_neg (not_not_intro h0), htb]; rfl, rfl, rfl, .inr ⟨.inr htb, rfl, rfl⟩⟩
    · have hfr : firstRing (matS S) = none := hf
      have htb : tasteB (matS S) = true := by rw [tasteB, hfr]; rfl
      refine WR.op (by first | exact gN | exact gS rfl) rfl (OpV.tasT rfl) ?_
      repeat' (first | refine zP ?_ | refine zA ?_ | (refine zM ?_; intro _ _) | refine zX ?_ | (refine zC ?_; intro _ _ _ _) | (refine zS ?_; intro _ _) | (apply Ws <;> intro hg))
      refine WR.call (by first | exact gN | exact gS rfl) rfl rfl (numbers_fs hH3 hP (hR.mono fun q hq => List.mem_append_right _ hq) (tasteB_iff.1 htb) hSz) ?_
      rintro _ H4 ⟨n4, M4, a, b, W, V, hn4, hH4, hrg, hnp, hSa, hSb, rfl⟩
      have ha1 := hSa.one_
      have hb1 := hSb.one_
      rw [hml] at hrg
      repeat' (first | refine zP ?_ | refine zA ?_ | (refine zM ?_; intro _ _) | refine zX ?_ | (refine zC ?_; intro _ _ _ _) | (refine zS ?_; intro _ _) | (apply Ws <;> intro hg))
      exact Ends.ret3 rfl rfl rfl ⟨n4, M4 ++ (M3 ++ M2), by omega, by simpa using hH4, _, _, by rw [if_neg (not_not_intro h0), if_pos htb], ha1, hb1, .inl ⟨h0, htb, W, V, hrg, hnp, by simpa using hSa, by simpa using hSb⟩⟩
set_option maxHeartbeats 2000000 in
theorem numbered_fs (hH : hasH M n0 H) {g : Nat} {S : List Sal} (hok : OKS g S) (hS : SalesI M v S) {W V : List Int} (hW : Sl M 1 w (ints W)) (hV : Sl M 1 u (ints V)) (hWl : W.length ≤ 1000) (hVl : V.length ≤ 1000) :
    FS C 45 [v, w, u] H (fun e H' => ∃ n' bb, n0 ≤ n' ∧ hasH M n' H' ∧ (bb = true ↔ RngP S.length W V ∧ NumP (matS S) W V) ∧ e = .bool bb) := by
  obtain ⟨ws, hV0, hwl, hrow⟩ := hS.at
  have hml := matS_len S
  have hP := hok.sq
  refine FS.intro (pf := pf45) rfl rfl rfl ?_
  repeat' (first | refine zP ?_ | refine zA ?_ | (refine zM ?_; intro _ _) | refine zX ?_ | (refine zC ?_; intro _ _ _ _) | (refine zS ?_; intro _ _) | (apply Ws <;> intro hg))
  refine WR.op (by first | exact gN | exact gS rfl) rfl (OpV.lenK pairV_len (by decide) rfl hV0) ?_
  rw [hwl]
  have hbad : ∀ {p : Prop}, (p → False) → ((false : Bool) = true ↔ p) := fun h => ⟨fun k => (by cases k), fun k => (h k).elim⟩
  repeat' (first | refine zP ?_ | refine zA ?_ | (refine zM ?_; intro _ _) | refine zX ?_ | (refine zC ?_; intro _ _ _ _) | (refine zS ?_; intro _ _) | (apply Ws <;> intro hg))
  · exact Ends.ret1 rfl ⟨n0, false, Nat.le_refl _, hH, hbad (fun h => by have := h.1.1; omega), rfl⟩
  · refine WR.op (by first | exact gN | exact gS rfl) rfl (OpV.lenK pairV_len (by decide) rfl hV0) ?_
    rw [hwl]
    repeat' (first | refine zP ?_ | refine zA ?_ | (refine zM ?_; intro _ _) | refine zX ?_ | (refine zC ?_; intro _ _ _ _) | (refine zS ?_; intro _ _) | (apply Ws <;> intro hg))
    refine WC.condP rfl (fun hvl => ?_) (fun hvl => ?_)
    · repeat' (first | refine zP ?_ | refine zA ?_ | (refine zM ?_; intro _ _) | refine zX ?_ | (refine zC ?_; intro _ _ _ _) | (refine zS ?_; intro _ _) | (apply Ws <;> intro hg))
      exact Ends.ret1 rfl ⟨n0, false, Nat.le_refl _, hH, hbad (fun h => by have := h.1.2.1; omega), rfl⟩
    · have hlw : W.length = S.length := by omega
      have hlv : V.length = S.length := by omega
      repeat' (first | refine zP ?_ | refine zA ?_ | (refine zM ?_; intro _ _) | refine zX ?_ | (refine zC ?_; intro _ _ _ _) | (refine zS ?_; intro _ _) | (apply Ws <;> intro hg))
      refine WR.op (by first | exact gN | exact gS rfl) rfl (OpV.lenK pairV_len (by decide) rfl hV0) ?_
      rw [hwl]
      repeat' (first | refine zP ?_ | refine zA ?_ | (refine zM ?_; intro _ _) | refine zX ?_ | (refine zC ?_; intro _ _ _ _) | (refine zS ?_; intro _ _) | (apply Ws <;> intro hg))
      refine WC.loopX [(0, _), (1, _), (2, _), (23, _)] (fun k : Nat => [(24, .int .i64 (k : Int))]) [] (fun k H' => H' = H ∧ k ≤ S.length ∧ ∀ a, a < k → (0 ≤ W.getD a 0 ∧ W.getD a 0 ≤ 1000000000000) ∧ 1 ≤ V.getD a 0 ∧ V.getD a 0 ≤ 1000000000000) (fun k => S.length - k) 0 (by repeat' (first | exact .nil | refine .cons rfl ?_)) rfl ⟨rfl, Nat.zero_le _, fun a h => absurd h (Nat.not_lt_zero _)⟩ ?_
      rintro k H1 ⟨rfl, hk, hno⟩
      dsimp only [List.cons_append, List.nil_append]
      repeat' (first | refine zP ?_ | refine zA ?_ | (refine zM ?_; intro _ _) | refine zX ?_ | (refine zC ?_; intro _ _ _ _) | (refine zS ?_; intro _ _) | (apply Ws <;> intro hg))
      refine WC.condP rfl (fun hltk => ?_) (fun hltk => ?_)
      · have hk' : k < S.length := by omega
        by_cases hr : (0 ≤ W.getD k 0 ∧ W.getD k 0 ≤ 1000000000000) ∧ 1 ≤ V.getD k 0 ∧ V.getD k 0 ≤ 1000000000000
        · repeat' (first | refine zP ?_ | refine zA ?_ | (refine zM ?_; intro _ _) | refine zX ?_ | (refine zC ?_; intro _ _ _ _) | (refine zS ?_; intro _ _) | refine zO ?_ | (apply Ws <;> intro hg))
          refine Ends.loop (k + 1) (by omega) (by repeat' (first | exact .nil | refine .cons rfl ?_)) rfl ⟨rfl, hk', fun a hlt => ?_⟩
          by_cases he : a = k
          · rw [he]; exact hr
          · exact hno a (by omega)
        · have hno3 : ¬ (RngP S.length W V ∧ NumP (matS S) W V) := fun h => hr ⟨h.1.2.2.1 k hk', h.1.2.2.2 k hk'⟩
          by_cases hr1 : W.getD k 0 < 0
          · repeat' (first | refine zP ?_ | refine zA ?_ | (refine zM ?_; intro _ _) | refine zX ?_ | (refine zC ?_; intro _ _ _ _) | (refine zS ?_; intro _ _) | refine zO ?_ | (apply Ws <;> intro hg))
            exact Ends.ret1 rfl ⟨n0, false, Nat.le_refl _, hH, hbad hno3, rfl⟩
          · by_cases hr2 : 1000000000000 < W.getD k 0
            · repeat' (first | refine zP ?_ | refine zA ?_ | (refine zM ?_; intro _ _) | refine zX ?_ | (refine zC ?_; intro _ _ _ _) | (refine zS ?_; intro _ _) | refine zO ?_ | (apply Ws <;> intro hg))
              exact Ends.ret1 rfl ⟨n0, false, Nat.le_refl _, hH, hbad hno3, rfl⟩
            · by_cases hr3 : V.getD k 0 < 1
              · repeat' (first | refine zP ?_ | refine zA ?_ | (refine zM ?_; intro _ _) | refine zX ?_ | (refine zC ?_; intro _ _ _ _) | (refine zS ?_; intro _ _) | refine zO ?_ | (apply Ws <;> intro hg))
                exact Ends.ret1 rfl ⟨n0, false, Nat.le_refl _, hH, hbad hno3, rfl⟩
              · repeat' (first | refine zP ?_ | refine zA ?_ | (refine zM ?_; intro _ _) | refine zX ?_ | (refine zC ?_; intro _ _ _ _) | (refine zS ?_; intro _ _) | refine zO ?_ | (apply Ws <;> intro hg))
                exact Ends.ret1 rfl ⟨n0, false, Nat.le_refl _, hH, hbad hno3, rfl⟩
      · have hkl : k = S.length := by omega
        subst hkl
        have hrg : RngP S.length W V := ⟨hlw, hlv, fun a ha => (hno a ha).1, fun a ha => (hno a ha).2⟩
        repeat' (first | refine zP ?_ | refine zA ?_ | (refine zM ?_; intro _ _) | refine zX ?_ | (refine zC ?_; intro _ _ _ _) | (refine zS ?_; intro _ _) | (apply Ws <;> intro hg))
        refine WR.op (by first | exact gN | exact gS rfl) rfl (OpV.lenK pairV_len (by decide) rfl hV0) ?_
        rw [hwl]
        repeat' (first | refine zP ?_ | refine zA ?_ | (refine zM ?_; intro _ _) | refine zX ?_ | (refine zC ?_; intro _ _ _ _) | (refine zS ?_; intro _ _) | (apply Ws <;> intro hg))
        refine WC.loopX [(0, _), (1, _), (2, _), (55, _)] (fun s : Nat × Nat => [(56, .int .i64 (s.1 : Int))]) [] (fun s H' => s.1 ≤ S.length ∧ n0 ≤ s.2 ∧ (∀ a b, a < s.1 → b < S.length → W.getD b 0 ≤ W.getD a 0 - V.getD a 0 * DP (matS S) a b) ∧ hasH M s.2 H') (fun s => S.length - s.1) (0, n0) (by repeat' (first | exact .nil | refine .cons rfl ?_)) rfl ⟨Nat.zero_le _, Nat.le_refl _, fun a b h => absurd h (Nat.not_lt_zero _), hH⟩ ?_
        clear hH hno
        rintro ⟨a, n1⟩ H2 ⟨ha, hn1, hno, hH2⟩
        simp only at ha hn1 hno hH2
        dsimp only [List.cons_append, List.nil_append]
        repeat' (first | refine zP ?_ | refine zA ?_ | (refine zM ?_; intro _ _) | refine zX ?_ | (refine zC ?_; intro _ _ _ _) | (refine zS ?_; intro _ _) | (apply Ws <;> intro hg))
        refine WC.condP rfl (fun hlta => ?_) (fun hlta => ?_)
        · have ha' : a < S.length := by omega
          repeat' (first | refine zP ?_ | refine zA ?_ | (refine zM ?_; intro _ _) | refine zX ?_ | (refine zC ?_; intro _ _ _ _) | (refine zS ?_; intro _ _) | (apply Ws <;> intro hg))
          refine WR.op (by first | exact gN | exact gS rfl) rfl (OpV.lenK pairV_len (by decide) rfl hV0) ?_
          rw [hwl]
          repeat' (first | refine zP ?_ | refine zA ?_ | (refine zM ?_; intro _ _) | refine zX ?_ | (refine zC ?_; intro _ _ _ _) | (refine zS ?_; intro _ _) | (apply Ws <;> intro hg))
          refine WC.loopX [(0, _), (1, _), (2, _), (8, .int .i64 (a : Int)), (55, _), (56, .int .i64 (a : Int)), (60, _)] (fun s : Nat × Nat => [(61, .int .i64 (s.1 : Int))]) [] (fun s H' => s.1 ≤ S.length ∧ n0 ≤ s.2 ∧ (∀ b, b < s.1 → W.getD b 0 ≤ W.getD a 0 - V.getD a 0 * DP (matS S) a b) ∧ hasH M s.2 H') (fun s => S.length - s.1) (0, n1) (by repeat' (first | exact .nil | refine .cons rfl ?_)) rfl ⟨Nat.zero_le _, hn1, fun b h => absurd h (Nat.not_lt_zero _), hH2⟩ ?_
          clear hH2
          rintro ⟨b, n2⟩ H3 ⟨hb, hn2, hno2, hH3⟩
          simp only at hb hn2 hno2 hH3
          dsimp only [List.cons_append, List.nil_append]
          repeat' (first | refine zP ?_ | refine zA ?_ | (refine zM ?_; intro _ _) | refine zX ?_ | (refine zC ?_; intro _ _ _ _) | (refine zS ?_; intro _ _) | (apply Ws <;> intro hg))
          refine WC.condP rfl (fun hltb => ?_) (fun hltb => ?_)
          · have hb' : b < S.length := by omega
            obtain ⟨hpa, hta⟩ := hrow a ha'
            obtain ⟨hpb, htb⟩ := hrow b hb'
            have hwa : ws[a] = ws.getD a noVal := (getD_eq (by omega)).symm
            have hwb : ws[b] = ws.getD b noVal := (getD_eq (by omega)).symm
            have hdp := hP.dp a b
            have hva := hrg.2.2.2 a ha'
            have hwaa := hrg.2.2.1 a ha'
            have hwbb := hrg.2.2.1 b hb'
            have hmu := mul_bd (V := V.getD a 0) (D := DP (matS S) a b) (B := 1000000000000) (by omega) hva.2 hdp.1 hdp.2
            repeat' (first | refine zP ?_ | refine zA ?_ | (refine zM ?_; intro _ _) | refine zX ?_ | (refine zC ?_; intro _ _ _ _) | (refine zS ?_; intro _ _) | (apply Ws <;> intro hg))
            refine WC.regionD ?_
            repeat' (first | refine zD ?_ | (refine zE ?_; intro _ _ _ _))
            obtain ⟨b1, o1', u1', hI1, hC1⟩ := OpV.idxK (C := C) (H := H3) (L := (77, .int .i64 (a : Int)) :: (76, v) :: []) (x := .tmp 76) (ix := .tmp 77) (kd := .i64) (m := a) pairV_len (by decide) rfl hV0 rfl (by omega)
            rw [hwa] at hC1
            refine WD.op (by first | exact gN | exact gS rfl) rfl (hI1.weaken (by repeat' (first | exact .nil | refine .cons rfl ?_))) rfl (stands_nil _ _) ?_
            refine WD.loadN (by first | exact gN | exact gS rfl) rfl rfl (hC1.readN' hH3 rfl) ?_
            repeat' (first | refine zD ?_ | (refine zE ?_; intro _ _ _ _))
            obtain ⟨b2, o2', u2', hI2, hC2⟩ := OpV.idxK (C := C) (H := H3) (L := (81, .int .i64 (b : Int)) :: (80, v) :: []) (x := .tmp 80) (ix := .tmp 81) (kd := .i64) (m := b) pairV_len (by decide) rfl hV0 rfl (by omega)
            rw [hwb] at hC2
            refine WD.op (by first | exact gN | exact gS rfl) rfl (hI2.weaken (by repeat' (first | exact .nil | refine .cons rfl ?_))) rfl (stands_nil _ _) ?_
            refine WD.loadN (by first | exact gN | exact gS rfl) rfl rfl (hC2.readN' hH3 rfl) ?_
            repeat' (first | refine zD ?_ | (refine zE ?_; intro _ _ _ _))
            refine WD.call (by first | exact gN | exact gS rfl) rfl rfl (lead_fs hH3 hok ha' hb' hpa hta hpb.one_ htb) ?_
            rintro _ H4 ⟨n4, hn4, hH4, rfl⟩
            refine ⟨zSt, ?_⟩
            refine WD.toWR rfl ?_
            clear hH3
            repeat' (first | refine zP ?_ | refine zA ?_ | (refine zM ?_; intro _ _) | refine zX ?_ | (refine zC ?_; intro _ _ _ _) | (refine zS ?_; intro _ _) | (apply Ws <;> intro hg))
            refine WC.condP rfl (fun hgt => ?_) (fun hgt => ?_)
            · repeat' (first | refine zP ?_ | refine zA ?_ | (refine zM ?_; intro _ _) | refine zX ?_ | (refine zC ?_; intro _ _ _ _) | (refine zS ?_; intro _ _) | (apply Ws <;> intro hg))
              exact Ends.ret1 rfl ⟨n4, false, by omega, hH4, hbad (fun h => by have := h.2 a b (by rw [hml]; exact ha') (by rw [hml]; exact hb'); simp only at this; omega), rfl⟩
            · repeat' (first | refine zP ?_ | refine zA ?_ | (refine zM ?_; intro _ _) | refine zX ?_ | (refine zC ?_; intro _ _ _ _) | (refine zS ?_; intro _ _) | (apply Ws <;> intro hg))
              refine Ends.loop (b + 1, n4) (by simp only; omega) (by repeat' (first | exact .nil | refine .cons rfl ?_)) rfl ⟨by simp only; omega, by simp only; omega, fun b' hlt => ?_, hH4⟩
              by_cases he : b' = b
              · rw [he]; omega
              · exact hno2 b' (by simp only at hlt; omega)
          · have hbl : b = S.length := by omega
            subst hbl
            repeat' (first | refine zP ?_ | refine zA ?_ | (refine zM ?_; intro _ _) | refine zX ?_ | (refine zC ?_; intro _ _ _ _) | (refine zS ?_; intro _ _) | (apply Ws <;> intro hg))
            refine Ends.loop (a + 1, n2) (by simp only; omega) (by repeat' (first | exact .nil | refine .cons rfl ?_)) rfl ⟨by simp only; omega, hn2, fun a' b' hlt hb' => ?_, hH3⟩
            by_cases he : a' = a
            · rw [he]; exact hno2 b' hb'
            · exact hno a' b' (by simp only at hlt; omega) hb'
        · have hal : a = S.length := by omega
          subst hal
          repeat' (first | refine zP ?_ | refine zA ?_ | (refine zM ?_; intro _ _) | refine zX ?_ | (refine zC ?_; intro _ _ _ _) | (refine zS ?_; intro _ _) | (apply Ws <;> intro hg))
          exact Ends.ret1 rfl ⟨n1, true, hn1, hH2, ⟨fun _ => ⟨hrg, fun a b ha hb => hno a b (by rw [hml] at ha; exact ha) (by rw [hml] at hb; exact hb)⟩, fun _ => rfl⟩, rfl⟩
end
end Go.Proofs.Yteopjpfhhekkoaa.Tt

/- Pairs of numbers that are compared. -/
namespace Go.Abs
set_option linter.unusedSectionVars false
variable [Globs]
open Go
set_option linter.unusedSimpArgs false
structure Arr2 (P : Program) (t e : TypeId) : Prop where
  u : P.underlying e = some (.int .i64)
  a : P.underlying t = some (.array 2 e)
  s : pureRun P (sizeOf e) = some 1
  p : ∀ (x y : Int), pureRun P (part e #[.int .i64 x, .int .i64 y] (0 * 1)) = some (.int .i64 x) ∧ pureRun P (part e #[.int .i64 x, .int .i64 y] (1 * 1)) = some (.int .i64 y)
  g : ∀ (x y : Operand) (a b : Array Value), pureRun P (eqGuard .neq t x y (.agg a) (.agg b)) = some ()
section
variable {C : CW} {L : Env} {H : Heap}
end
section
variable {C : CW} {L : Env} {H : Heap}
end
end Go.Abs

/- What the laws share. -/
namespace Go.Abs
set_option linter.unusedSectionVars false
open Go
section
variable [Globs] {C : CW} {nt : Nat} {L : Env} {D : List Nat} {H H' : Heap} {K : St → Prop} {M M' : HL} {n i d : Nat} {gd : Option (Tmp × Bool)} {lo : List Nat} {l : List POp} {rs : List Rd}
theorem WD.append {e sz : Nat} {s x : Operand} {v y : Value} {cs : List Value} {Mx M0 : HL} {k : Nat} {new : List Value} (hg : gOK L gd) (hd : Nat.blt d nt = true) (hs : ev L s = some v) (hy : ev L x = some y)
    (hO : Own e sz v cs Mx) (hH : hasH M n H) (hM : M'.Sublist M) (hp : M'.Perm (Mx ++ M0)) (hk : srcLen y = some k) (hx : srcCells H sz k y = some new) (hl : new.length = k * sz) (h1 : 1 ≤ k) (hone : new.all one = true) (hs1 : 1 ≤ sz) (hs2 : sz ≤ 1000)
    (hsm : cs.length + new.length ≤ 100000) (kk : ∀ v' Mx' n' H', OwnR e sz v' (cs ++ new) Mx' → hasH (Mx' ++ M0) n' H' → n ≤ n' → stands H' lo rs = true ∧ WD C nt l rs ((d, v') :: L) D H' K) :
    WD C nt (⟨i, some d, .append e sz s x, gd, lo⟩ :: l) rs L D H K := by
  obtain ⟨v', Mx', n', H', q1, q2, q3, q4⟩ := append_ownR (P := C.c.P) hO ((hH.sub hM).perm hp) hk hx hl h1 hone hs1 hs2 hsm
  obtain ⟨k1, k2⟩ := kk v' Mx' n' H' q2 q3 q4
  refine WD.op hg hd (H' := H') (v := v') (fun t ht => ?_) rfl k1 k2
  simp only [opA, ev_ok ht hs, ev_ok ht hy, q1]
/-- One element more, what was read before may be read after. -/
theorem WD.append1F {j d2 : Nat} {e : Nat} {z : List Value} {s x : Operand} {lo2 : List Nat} {v y : Value} {cs : List Value} {new : Value} (F Mx T : HL) (hd : Nat.blt d nt = true) (hd2 : Nat.blt d2 nt = true)
    (hx : ev L x = some y) (hs : ev ((d, .slice (some ⟨n, 0, some 0⟩) 1 (2 * 1 + 1)) :: L) s = some v) (hO : Own e 1 v cs Mx) (hH : hasH (F ++ (Mx ++ T)) n H)
    (hc : Instr.fill (fun j => some (j * 1, 1)) z.toArray [(0, y)] = some [new].toArray) (hone : one new = true) (hsm : cs.length + 1 ≤ 100000)
    (hst : ∀ H', hasH ((n, .row e 0 0 [new]) :: (F ++ (Mx ++ T))) (n + 1) H' → stands H' lo rs = true)
    (kk : ∀ v' Mx' n' H', OwnR e 1 v' (cs ++ [new]) Mx' → hasH (F ++ (Mx' ++ T)) n' H' → n ≤ n' → stands H' lo2 rs = true ∧ WD C nt l rs ((d2, v') :: (d, .slice (some ⟨n, 0, some 0⟩) 1 (2 * 1 + 1)) :: L) D H' K) :
    WD C nt (⟨i, some d, .bldS e 1 z 1 [(0, x)], none, lo⟩ :: ⟨j, some d2, .append e 1 s (.tmp d), none, lo2⟩ :: l) rs L D H K := by
  refine WD.bldS True.intro hd hH (vs := [(0, y)]) (by simp only [evp, hx]) hc (by simp [hone]) hst fun H1 hH1 => ?_
  have hx2 : srcCells H1 1 1 (.slice (some ⟨n, 0, some 0⟩) 1 (2 * 1 + 1)) = some [new] := by
    have := hH1.readN (b := n) (u := 0) (lo := 0) (o := 0) (k := 1 * 1) (ch := .row e 0 0 [new]) (cs := [new]) (by simp) (.row _ _ _ _) (Nat.le_refl _) (by simp)
    simpa [srcCells] using this
  have hy : ev ((d, .slice (some ⟨n, 0, some 0⟩) 1 (2 * 1 + 1)) :: L) (.tmp d) = some (.slice (some ⟨n, 0, some 0⟩) 1 (2 * 1 + 1)) := by simp [ev, Env.get]
  refine WD.append True.intro hd2 hs hy hO hH1 (M' := F ++ (Mx ++ T)) (List.sublist_cons_self _ _) (M0 := F ++ T) (List.perm_append_comm_assoc F Mx T) rfl hx2 (by simp) (Nat.le_refl _) (by simp [hone]) (Nat.le_refl _) (by omega) (by simpa using hsm) fun v' Mx' n' H' q1 q2 q3 => ?_
  exact kk v' Mx' n' H' q1 (q2.perm (List.perm_append_comm_assoc Mx' F T)) (by omega)
end
end Go.Abs
namespace Go.Proofs.Yteopjpfhhekkoaa.Tt
open Go Go.Abs Go.Mth
set_option linter.unusedVariables false
set_option linter.unusedSimpArgs false
theorem numsK_one (kk : IntKind) (l : List Nat) : (numsK kk l).all one = true := by
  rw [List.all_eq_true]; intro q hq; obtain ⟨z, _, rfl⟩ := List.mem_map.1 hq; rfl
theorem err0 {g : Nat} {S : List Sal} (h : OKS g S) : errS (g : Int) S = 0 := errS_zero.2 ⟨g, rfl, h⟩
theorem NumOut.ok {M : HL} {g : Nat} {S : List Sal} {e : Value} (hok : OKS g S) (h : NumOut M g S e) : ∃ a b, one a = true ∧ one b = true ∧ ((tasteB (matS S) = true ∧ e = .tuple #[a, b, .int .i64 0] ∧ ∃ W V, RngP S.length W V ∧ NumP (matS S) W V ∧ Sl M 1 a (ints W) ∧ Sl M 1 b (ints V)) ∨
    (tasteB (matS S) = false ∧ a = .slice none 0 0 ∧ b = .slice none 0 0 ∧ e = .tuple #[a, b, .int .i64 13])) := by
  obtain ⟨a, b, he, ha, hb, hc⟩ := h
  rw [if_neg (not_not_intro (err0 hok))] at he
  refine ⟨a, b, ha, hb, ?_⟩
  rcases hc with ⟨_, h2, h3⟩ | ⟨h1, h2, h3⟩
  · rw [if_pos h2] at he; exact .inl ⟨h2, he, h3⟩
  · rcases h1 with h1 | h1
    · exact absurd (err0 hok) h1
    · rw [h1, if_neg (by decide)] at he; exact .inr ⟨h1, h2, h3, he⟩
theorem RingOut.ok {M : HL} {g : Nat} {S : List Sal} {e : Value} (hok : OKS g S) (h : RingOut M g S e) : ∃ u, one u = true ∧ ((tasteB (matS S) = true ∧ u = .slice none 0 0 ∧ e = .tuple #[u, .int .i64 13]) ∨ (tasteB (matS S) = false ∧ e = .tuple #[u, .int .i64 0] ∧ ∃ z, firstRing (matS S) = some z ∧ Sl M 1 u (nodes z))) := by
  obtain ⟨u, he, hu, hc⟩ := h
  rw [if_neg (not_not_intro (err0 hok))] at he
  refine ⟨u, hu, ?_⟩
  rcases hc with ⟨_, z, h2, h3⟩ | ⟨h1, h2⟩
  · have htb : tasteB (matS S) = false := by rw [tasteB, h2]; rfl
    rw [htb, if_neg (by decide)] at he
    exact .inr ⟨htb, he, z, h2, h3⟩
  · rcases h1 with h1 | h1
    · exact absurd (err0 hok) h1
    · rw [if_pos h1] at he; exact .inl ⟨h1, h2, he⟩
theorem RanksOut.ok {M : HL} {g : Nat} {S : List Sal} {e : Value} (hok : OKS g S) (h : RanksOut M g S e) : ∃ u, one u = true ∧ ((tasteB (matS S) = false ∧ u = .slice none 0 0 ∧ e = .tuple #[u, .int .i64 13]) ∨ (tasteB (matS S) = true ∧ e = .tuple #[u, .int .i64 0] ∧ Sl M 1 u (nodes (rkL (DP (matS S)) S.length)))) := by
  obtain ⟨u, he, hu, hc⟩ := h
  rw [if_neg (not_not_intro (err0 hok))] at he
  refine ⟨u, hu, ?_⟩
  rcases hc with ⟨_, h2, h3⟩ | ⟨h1, h2⟩
  · rw [if_pos h2] at he
    rw [matS_len] at h3
    exact .inr ⟨h2, he, h3⟩
  · rcases h1 with h1 | h1
    · exact absurd (err0 hok) h1
    · rw [h1, if_neg (by decide)] at he; exact .inl ⟨h1, h2, he⟩
end Go.Proofs.Yteopjpfhhekkoaa.Tt
