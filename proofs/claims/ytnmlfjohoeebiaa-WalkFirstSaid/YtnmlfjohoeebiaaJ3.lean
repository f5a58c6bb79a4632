/- Texts of the law, joined. -/
import Derived.Test.YtnmlfjohoeebiaaJ2
import Derived.Test.YtnmlfjohoeebiaaJ1
/- Left, Goes, and what the laws say of walks. -/
namespace Go.Abs
set_option linter.unusedSectionVars false
variable [Globs]
open Go
section
variable {C : CW} {nt : Nat} {L : Env} {D : List Nat} {H : Heap} {K : St → Prop} {M M' : HL} {n i d : Nat} {gd : Option (Tmp × Bool)} {lo' : List Nat} {l : List POp}
/-- A part of a slice. -/
theorem WR.cutI {x lo hi : Operand} {v : Value} {xs : List Int} {a b : Nat} {ka kb : IntKind} (hg : gOK L gd) (hd : Nat.blt d nt = true) (hx : ev L x = some v) (hS : Sl M 1 v (ints xs)) (h1 : ev L lo = some (.int ka (a : Int))) (h2 : ev L hi = some (.int kb (b : Int))) (hab : a ≤ b) (hb : b ≤ xs.length)
    (k : ∀ v', Sl M 1 v' (ints ((xs.drop a).take (b - a))) → WR C nt l ((d, v') :: L) D H K) : WR C nt (⟨i, some d, .slS x 1 (some lo) (some hi) none, gd, lo'⟩ :: l) L D H K := by
  refine WR.slS (vl := some (.int ka (a : Int))) (vh := some (.int kb (b : Int))) (a := a) (b := b) hg hd hx hS (by simp [bnd, h1]) (by simp [bnd, h2]) rfl (fun _ _ => rfl) hab (by simpa using hb) (Nat.le_refl _) fun v' h => k v' ?_
  simpa [List.map_take, List.map_drop] using h
end
end Go.Abs
namespace Go.Proofs.Ytnmlfjohoeebiaa.Wk
open Go Go.Abs Go.Mth
set_option linter.unusedVariables false
set_option linter.unusedSimpArgs false
open Classical in
noncomputable def goodB (T W : List Int) : Bool := decide (GoodW T W)
open Classical in
theorem goodB_true {T W : List Int} : goodB T W = true ↔ GoodW T W := by unfold goodB; exact decide_eq_true_iff
theorem goodB_false {T W : List Int} (h : ¬ GoodW T W) : goodB T W = false := by
  cases hb : goodB T W with
  | false => rfl
  | true => exact absurd (goodB_true.1 hb) h
/-- What the law says is left. -/
def lawLeft (T W : List Int) (k : Nat) : List Int := (List.range 4).map fun i => if i < k then T.getD i 0 - (sinceK W i W.length : Int) else 0
theorem lawLeft_len (T W : List Int) (k : Nat) : (lawLeft T W k).length = 4 := by simp [lawLeft]
theorem lawLeft_next {T W : List Int} {k : Nat} (hk : k < 4) : (lawLeft T W k).set k (T.getD k 0 - (sinceK W k W.length : Int)) = lawLeft T W (k + 1) := by
  refine ext_getD (a := 0) (by simp [lawLeft]) fun i hi => ?_
  have hi4 : i < 4 := by simpa [lawLeft] using hi
  have g : ∀ k, (lawLeft T W k).getD i 0 = if i < k then T.getD i 0 - (sinceK W i W.length : Int) else 0 := fun k => by
    rw [getD_eq (by rw [lawLeft_len]; exact hi4)]; simp [lawLeft]
  rw [getD_set' (by rw [lawLeft_len]; exact hk), g, g]
  by_cases h : i = k
  · subst h; rw [if_pos rfl, if_pos (by omega)]
  · rw [if_neg h]
    by_cases h2 : i < k
    · rw [if_pos h2, if_pos (by omega)]
    · rw [if_neg h2, if_neg (by omega)]
theorem lawLeft_eq {T W s : List Int} (hT : TOK T) (hs : SOK T s) (h : SinceS T W s W.length) : (lawLeft T W T.length).take T.length = s.take T.length := by
  have hTl := hT.len
  refine ext_getD (a := 0) (by simp [lawLeft_len, hs.len]) fun i hi => ?_
  have hi' : i < T.length := by simp [lawLeft_len] at hi; omega
  rw [getD_take hi', getD_take hi', h i hi', getD_eq (by rw [lawLeft_len]; omega)]
  simp [lawLeft, hi']
attribute [local irreducible] gOK WS WC WR WD Ends FS YS OpV seqK blockK loopK midK retK rdK asgK rangeEnd sat Cell
section
variable {M : HL} {n0 : Nat} {H : Heap} {v w : Value}
theorem same_fs (hH : hasH M n0 H) {xs ys : List Int} (hS : Sl M 1 v (ints xs)) (hU : Sl M 1 w (ints ys)) (hx : xs.length ≤ 1000) (hy : ys.length ≤ 1000) :
    FS C 29 [v, w] H (fun e H' => e = .bool (decide (xs = ys)) ∧ H' = H) := by
  refine FS.intro (pf := pf29) rfl rfl rfl ?_
  repeat' (first | refine zP ?_ | refine zA ?_ | (refine zM ?_; intro _ _) | refine zX ?_ | (refine zC ?_; intro _ _ _ _) | (refine zS ?_; intro _ _) | (apply Ws <;> intro hg))
  refine WC.condP rfl (fun hne => ?_) (fun hne => ?_)
  · repeat' (first | refine zP ?_ | refine zA ?_ | (refine zM ?_; intro _ _) | refine zX ?_ | (refine zC ?_; intro _ _ _ _) | (refine zS ?_; intro _ _) | (apply Ws <;> intro hg))
    exact Ends.ret1 rfl ⟨by rw [decide_eq_false (fun h => hne (by rw [h]))], rfl⟩
  have hle : xs.length = ys.length := by omega
  repeat' (first | refine zP ?_ | refine zA ?_ | (refine zM ?_; intro _ _) | refine zX ?_ | (refine zC ?_; intro _ _ _ _) | (refine zS ?_; intro _ _) | (apply Ws <;> intro hg))
  refine WC.loopX [(0, _), (1, _)] (fun k : Nat => [(5, .int .i64 (k : Int))]) [] (fun k H' => H' = H ∧ k ≤ xs.length ∧ ∀ j, j < k → xs.getD j 0 = ys.getD j 0) (fun k => xs.length - k) 0 (by repeat' (first | exact .nil | refine .cons rfl ?_)) rfl ⟨rfl, Nat.zero_le _, fun j h => absurd h (Nat.not_lt_zero _)⟩ ?_
  rintro k H' ⟨rfl, hk, hno⟩
  dsimp only [List.cons_append, List.nil_append]
  repeat' (first | refine zP ?_ | refine zA ?_ | (refine zM ?_; intro _ _) | refine zX ?_ | (refine zC ?_; intro _ _ _ _) | (refine zS ?_; intro _ _) | (apply Ws <;> intro hg))
  refine WC.condP rfl (fun hlt => ?_) (fun hlt => ?_)
  · have hk' : k < xs.length := by omega
    have hk2 : k < ys.length := by omega
    repeat' (first | refine zP ?_ | refine zA ?_ | (refine zM ?_; intro _ _) | refine zX ?_ | (refine zC ?_; intro _ _ _ _) | (refine zS ?_; intro _ _) | (apply Ws <;> intro hg))
    refine WC.condP rfl (fun hd => ?_) (fun hd => ?_)
    · repeat' (first | refine zP ?_ | refine zA ?_ | (refine zM ?_; intro _ _) | refine zX ?_ | (refine zC ?_; intro _ _ _ _) | (refine zS ?_; intro _ _) | (apply Ws <;> intro hg))
      exact Ends.ret1 rfl ⟨by rw [decide_eq_false (fun h => hd (by rw [h]))], rfl⟩
    · repeat' (first | refine zP ?_ | refine zA ?_ | (refine zM ?_; intro _ _) | refine zX ?_ | (refine zC ?_; intro _ _ _ _) | (refine zS ?_; intro _ _) | (apply Ws <;> intro hg))
      refine Ends.loop (k + 1) (by omega) (by repeat' (first | exact .nil | refine .cons rfl ?_)) rfl ⟨rfl, hk', fun j hj => ?_⟩
      rcases Nat.lt_or_ge j k with h | h
      · exact hno j h
      · have : j = k := by omega
        subst this; omega
  · repeat' (first | refine zP ?_ | refine zA ?_ | (refine zM ?_; intro _ _) | refine zX ?_ | (refine zC ?_; intro _ _ _ _) | (refine zS ?_; intro _ _) | (apply Ws <;> intro hg))
    exact Ends.ret1 rfl ⟨by rw [decide_eq_true (ext_getD (a := 0) hle fun i hi => hno i (by omega))], rfl⟩
theorem walked_fs (hH : hasH M n0 H) {T W : List Int} (hS : Sl M 1 v (ints T)) (hT : TOK T) (hU : Sl M 1 w (ints W)) (hW : W.length ≤ 1000) :
    FS C 40 [v, w] H (fun e H' => e = .bool (goodB T W) ∧ H' = H) := by
  have hTl := hT.len
  refine FS.intro (pf := pf40) rfl rfl rfl ?_
  repeat' (first | refine zP ?_ | refine zA ?_ | (refine zM ?_; intro _ _) | refine zX ?_ | (refine zC ?_; intro _ _ _ _) | (refine zS ?_; intro _ _) | (apply Ws <;> intro hg))
  refine WC.loopX [(0, _), (1, _), (8, _), (9, _)] (fun k : Nat => [(10, .int .i64 (k : Int))]) [] (fun k H' => H' = H ∧ k ≤ T.length ∧ ∀ i, i < k → ∀ f, f + (T.getD i 0).toNat ≤ W.length → (i : Int) ∈ (W.drop f).take (T.getD i 0).toNat) (fun k => T.length - k) 0 (by repeat' (first | exact .nil | refine .cons rfl ?_)) rfl ⟨rfl, Nat.zero_le _, fun j h => absurd h (Nat.not_lt_zero _)⟩ ?_
  rintro k H' ⟨rfl, hk, hno⟩
  dsimp only [List.cons_append, List.nil_append]
  repeat' (first | refine zP ?_ | refine zA ?_ | (refine zM ?_; intro _ _) | refine zX ?_ | (refine zC ?_; intro _ _ _ _) | (refine zS ?_; intro _ _) | (apply Ws <;> intro hg))
  refine WC.condP rfl (fun hlt => ?_) (fun hlt => ?_)
  · have hk' : k < T.length := by omega
    obtain ⟨t, ht⟩ : ∃ t : Nat, T.getD k 0 = (t : Int) := ⟨(T.getD k 0).toNat, by have := hT.lo k hk'; omega⟩
    have ht8 := hT.hi k hk'
    have ht1 := hT.lo k hk'
    repeat' (first | refine zP ?_ | refine zA ?_ | (refine zM ?_; intro _ _) | refine zX ?_ | (refine zC ?_; intro _ _ _ _) | (refine zS ?_; intro _ _) | (apply Ws <;> intro hg))
    rw [ht] at ht8 ht1 ⊢
    refine WC.loopX [(0, _), (1, _), (8, _), (9, _), (10, _), (5, .int .i64 (k : Int)), (6, .int .i64 (t : Int))] (fun f : Nat => [(7, .int .i64 (f : Int))]) [] (fun f H'' => H'' = H' ∧ f ≤ W.length + 1 ∧ ∀ g, g < f → g + t ≤ W.length → (k : Int) ∈ (W.drop g).take t) (fun f => W.length + 1 - f) 0 (by repeat' (first | exact .nil | refine .cons rfl ?_)) rfl ⟨rfl, by omega, fun j h => absurd h (Nat.not_lt_zero _)⟩ ?_
    rintro f H2 ⟨rfl, hf, hin⟩
    dsimp only [List.cons_append, List.nil_append]
    repeat' (first | refine zP ?_ | refine zA ?_ | (refine zM ?_; intro _ _) | refine zX ?_ | (refine zC ?_; intro _ _ _ _) | (refine zS ?_; intro _ _) | (apply Ws <;> intro hg))
    refine WC.condP rfl (fun hle => ?_) (fun hle => ?_)
    · have hle' : f + t ≤ W.length := by omega
      repeat' (first | refine zP ?_ | refine zA ?_ | (refine zM ?_; intro _ _) | refine zX ?_ | (refine zC ?_; intro _ _ _ _) | (refine zS ?_; intro _ _) | (apply Ws <;> intro hg))
      rw [show (f : Int) + (t : Int) = ((f + t : Nat) : Int) by omega]
      refine WR.cutI (a := f) (b := f + t) (by first | exact gN | exact gS rfl) rfl rfl hU rfl rfl (by omega) hle' fun v5 hS5 => ?_
      repeat' (first | refine zP ?_ | refine zA ?_ | (refine zM ?_; intro _ _) | refine zX ?_ | (refine zC ?_; intro _ _ _ _) | (refine zS ?_; intro _ _) | (apply Ws <;> intro hg))
      refine WR.call (by first | exact gN | exact gS rfl) rfl rfl (Contains_fs hH hS5 (by simp; omega) k) ?_
      rintro _ _ ⟨rfl, rfl⟩
      rw [Nat.add_sub_cancel_left]
      by_cases hm : (k : Int) ∈ (W.drop f).take t
      · rw [decide_eq_true hm]
        repeat' (first | refine zP ?_ | refine zA ?_ | (refine zM ?_; intro _ _) | refine zX ?_ | (refine zC ?_; intro _ _ _ _) | (refine zS ?_; intro _ _) | (apply Ws <;> intro hg))
        refine Ends.loop (f + 1) (by omega) (by repeat' (first | exact .nil | refine .cons rfl ?_)) rfl ⟨rfl, by omega, fun g hg => ?_⟩
        rcases Nat.lt_or_ge g f with h | h
        · exact hin g h
        · have : g = f := by omega
          subst this; exact fun _ => hm
      · rw [decide_eq_false hm]
        repeat' (first | refine zP ?_ | refine zA ?_ | (refine zM ?_; intro _ _) | refine zX ?_ | (refine zC ?_; intro _ _ _ _) | (refine zS ?_; intro _ _) | (apply Ws <;> intro hg))
        refine Ends.ret1 rfl ⟨?_, rfl⟩
        rw [goodB_false fun h => hm ?_]
        have := h k hk' f (by rw [ht, Int.toNat_natCast]; exact hle')
        rwa [ht, Int.toNat_natCast] at this
    · repeat' (first | refine zP ?_ | refine zA ?_ | (refine zM ?_; intro _ _) | refine zX ?_ | (refine zC ?_; intro _ _ _ _) | (refine zS ?_; intro _ _) | (apply Ws <;> intro hg))
      refine Ends.loop (k + 1) (by omega) (by repeat' (first | exact .nil | refine .cons rfl ?_)) rfl ⟨rfl, hk', fun i hi g hg => ?_⟩
      rcases Nat.lt_or_ge i k with h | h
      · exact hno i h g hg
      · have : i = k := by omega
        subst this
        rw [ht] at hg ⊢
        rw [Int.toNat_natCast] at hg ⊢
        exact hin g (by omega) hg
  · have hkn : k = T.length := by omega
    subst hkn
    repeat' (first | refine zP ?_ | refine zA ?_ | (refine zM ?_; intro _ _) | refine zX ?_ | (refine zC ?_; intro _ _ _ _) | (refine zS ?_; intro _ _) | (apply Ws <;> intro hg))
    exact Ends.ret1 rfl ⟨by rw [goodB_true.2 hno], rfl⟩
theorem left_fs (hH : hasH M n0 H) {T W : List Int} (hS : Sl M 1 v (ints T)) (hT : TOK T) (hU : Sl M 1 w (ints W)) (hW : W.length ≤ 1000) :
    FS C 44 [v, w] H (fun e H' => ∃ n', n0 ≤ n' ∧ e = keyI (lawLeft T W T.length) ∧ hasH M n' H') := by
  have hTl := hT.len
  refine FS.intro (pf := pf44) rfl rfl rfl ?_
  repeat' (first | refine zP ?_ | refine zA ?_ | (refine zM ?_; intro _ _) | refine zX ?_ | (refine zC ?_; intro _ _ _ _) | (refine zS ?_; intro _ _) | (apply Ws <;> intro hg))
  rename_i H1 hH1 H2 hH2
  replace hH2 : hasH ((n0 + 1, .row 53 0 0 (ints (lawLeft T W 0))) :: (n0, .row 53 0 0 (ints [0, 0, 0, 0])) :: M) (n0 + 1 + 1) H2 := hH2
  refine WC.loopX [(0, v), (1, w), (4, .pointer (some ⟨n0, 0, some 0⟩)), (5, .pointer (some ⟨n0 + 1, 0, some 0⟩)), (11, v), (12, .int .i64 (T.length : Int))] (fun k : Nat => [(13, .int .i64 (k : Int))]) []
    (fun k H' => k ≤ T.length ∧ hasH ((n0 + 1, .row 53 0 0 (ints (lawLeft T W k))) :: (n0, .row 53 0 0 (ints [0, 0, 0, 0])) :: M) (n0 + 1 + 1) H') (fun k => T.length - k) 0 (by repeat' (first | exact .nil | refine .cons rfl ?_)) rfl ⟨Nat.zero_le _, hH2⟩ ?_
  clear hH1 hH2
  rintro k H3 ⟨hk, hH3⟩
  have hll := lawLeft_len T W k
  dsimp only [List.cons_append, List.nil_append]
  repeat' (first | refine zP ?_ | refine zA ?_ | (refine zM ?_; intro _ _) | refine zX ?_ | (refine zC ?_; intro _ _ _ _) | (refine zS ?_; intro _ _) | (apply Ws <;> intro hg))
  refine WC.condP rfl (fun hlt => ?_) (fun hlt => ?_)
  · have hk' : k < T.length := by omega
    repeat' (first | refine zP ?_ | refine zA ?_ | (refine zM ?_; intro _ _) | refine zX ?_ | (refine zC ?_; intro _ _ _ _) | (refine zS ?_; intro _ _) | (apply Ws <;> intro hg))
    refine WC.loopX [(0, v), (1, w), (4, .pointer (some ⟨n0, 0, some 0⟩)), (5, .pointer (some ⟨n0 + 1, 0, some 0⟩)), (11, v), (12, .int .i64 (T.length : Int)), (13, .int .i64 (k : Int)), (6, .int .i64 (k : Int)), (7, .int .i64 (T.getD k 0)), (20, w), (21, .int .i64 (W.length : Int))] (fun j : Nat => [(8, .int .i64 ((sinceK W k j : Int) + ((W.length : Int) - j))), (22, .int .i64 (j : Int))]) []
      (fun j H' => j ≤ W.length ∧ H' = H3) (fun j => W.length - j) 0 (by refine .cons ?_ (by repeat' (first | exact .nil | refine .cons rfl ?_)); simp [sinceK]; rfl) rfl ⟨Nat.zero_le _, rfl⟩ ?_
    rintro j H4 ⟨hj, rfl⟩
    dsimp only [List.cons_append, List.nil_append]
    repeat' (first | refine zP ?_ | refine zA ?_ | (refine zM ?_; intro _ _) | refine zX ?_ | (refine zC ?_; intro _ _ _ _) | (refine zS ?_; intro _ _) | (apply Ws <;> intro hg))
    refine WC.condP rfl (fun hlt2 => ?_) (fun hlt2 => ?_)
    · have hj' : j < W.length := by omega
      have hsl := since_le W k j
      repeat' (first | refine zP ?_ | refine zA ?_ | (refine zM ?_; intro _ _) | refine zX ?_ | (refine zC ?_; intro _ _ _ _) | (refine zS ?_; intro _ _) | (apply Ws <;> intro hg))
      refine WC.condP rfl (fun he => ?_) (fun he => ?_)
      · repeat' (first | refine zP ?_ | refine zA ?_ | (refine zM ?_; intro _ _) | refine zX ?_ | (refine zC ?_; intro _ _ _ _) | (refine zS ?_; intro _ _) | (apply Ws <;> intro hg))
        rw [show (W.length : Int) - 1 - (j : Int) = (sinceK W k (j + 1) : Int) + ((W.length : Int) - ((j + 1 : Nat) : Int)) by simp only [sinceK]; rw [if_pos he]; omega]
        exact Ends.loop (j + 1) (by omega) (by repeat' (first | exact .nil | refine .cons rfl ?_)) rfl ⟨hj', rfl⟩
      · repeat' (first | refine zP ?_ | refine zA ?_ | (refine zM ?_; intro _ _) | refine zX ?_ | (refine zC ?_; intro _ _ _ _) | (refine zS ?_; intro _ _) | (apply Ws <;> intro hg))
        rw [show (sinceK W k j : Int) + ((W.length : Int) - (j : Int)) = (sinceK W k (j + 1) : Int) + ((W.length : Int) - ((j + 1 : Nat) : Int)) by simp only [sinceK]; rw [if_neg he]; omega]
        exact Ends.loop (j + 1) (by omega) (by repeat' (first | exact .nil | refine .cons rfl ?_)) rfl ⟨hj', rfl⟩
    · have hjn : j = W.length := by omega
      have hsl := since_le W k j
      have h1 := hT.lo k hk'
      have h8 := hT.hi k hk'
      repeat' (first | refine zP ?_ | refine zA ?_ | (refine zM ?_; intro _ _) | refine zX ?_ | (refine zC ?_; intro _ _ _ _) | (refine zS ?_; intro _ _) | (apply Ws <;> intro hg))
      rename_i H5 hH5
      refine Ends.loop (k + 1) (by omega) (by repeat' (first | exact .nil | refine .cons rfl ?_)) rfl ⟨hk', ?_⟩
      rw [← lawLeft_next (by omega), ← hjn]
      rwa [show T.getD k 0 - ((sinceK W k j : Int) + ((W.length : Int) - (j : Int))) = T.getD k 0 - (sinceK W k j : Int) by omega] at hH5
  · have hkn : k = T.length := by omega
    subst hkn
    have hli : (ints (lawLeft T W T.length)).length = 4 := by simp [hll]
    repeat' (first | refine zP ?_ | refine zA ?_ | (refine zM ?_; intro _ _) | refine zX ?_ | (refine zC ?_; intro _ _ _ _) | (refine zS ?_; intro _ _) | (apply Ws <;> intro hg))
    refine WR.storeA (by first | exact gN | exact gS rfl) hH3 rfl rfl hll (.there .here) rfl fun H4 hH4 => ?_
    repeat' (first | refine zP ?_ | refine zA ?_ | (refine zM ?_; intro _ _) | refine zX ?_ | (refine zC ?_; intro _ _ _ _) | (refine zS ?_; intro _ _) | (apply Ws <;> intro hg))
    exact Ends.retCN rfl (readA hH4 (.tail _ (.head _)) hll) ⟨n0 + 1 + 1, by omega, rfl, hH4.tail.tail⟩
theorem Clone_fs (hH : hasH M n0 H) {xs : List Int} (hS : Sl M 1 v (ints xs)) (hx : xs.length ≤ 1000) (h0 : xs ≠ [] ∨ v = .slice none 0 0) :
    FS C 43 [v] H (fun e H' => ∃ Mx n', Own 3 1 e (ints xs) Mx ∧ n0 ≤ n' ∧ hasH (Mx ++ M) n' H' ∧ (xs = [] → e = .slice none 0 0)) := by
  by_cases hne0 : xs = []
  · subst hne0
    rcases h0 with h0 | rfl
    · exact absurd rfl h0
    refine FS.intro (pf := pf43) rfl rfl rfl ?_
    repeat' (first | refine zP ?_ | refine zA ?_ | (refine zM ?_; intro _ _) | refine zX ?_ | (refine zC ?_; intro _ _ _ _) | (refine zS ?_; intro _ _) | (apply Ws <;> intro hg))
    exact Ends.ret1 rfl ⟨[], n0, .nil, Nat.le_refl _, hH, fun _ => rfl⟩
  · have hne : ints xs ≠ [] := fun h => hne0 (List.map_eq_nil_iff.1 h)
    have hl0 : 0 < xs.length := List.length_pos_iff.2 hne0
    have hsm : ∃ a len cap, v = .slice (some a) len cap := by
      generalize ints xs = cs at hS hne
      cases hS with
      | nil c => exact absurd rfl hne
      | emp a => exact ⟨_, _, _, rfl⟩
      | row => exact ⟨_, _, _, rfl⟩
    obtain ⟨a, len, cap, rfl⟩ := hsm
    refine FS.intro (pf := pf43) rfl rfl rfl ?_
    repeat' (first | refine zP ?_ | refine zA ?_ | (refine zM ?_; intro _ _) | refine zX ?_ | (refine zC ?_; intro _ _ _ _) | (refine zS ?_; intro _ _) | (apply Ws <;> intro hg))
    refine WR.bldS (by first | exact gN | exact gS rfl) rfl hH (vs := []) rfl (cs := []) (by rfl) rfl fun H3 hH3 => ?_
    repeat' (first | refine zP ?_ | refine zA ?_ | (refine zM ?_; intro _ _) | refine zX ?_ | (refine zC ?_; intro _ _ _ _) | (refine zS ?_; intro _ _) | (apply Ws <;> intro hg))
    obtain ⟨hk, hsr⟩ := (hS.cons (p := (n0, .row 3 0 0 []))).src hH3 hne
    refine WR.appendNew (by first | exact gN | exact gS rfl) rfl rfl rfl hH3 (.head _) (.row _ _ _ _) (Nat.zero_le _) (Nat.zero_le _) hk (by have := hsr _ (Nat.le_refl _); rw [List.take_length] at this; exact this) (by simp) (by simp; omega) (ints_one _) (by omega) (by omega) (by simp; omega) fun H' hH' => ?_
    repeat' (first | refine zP ?_ | refine zA ?_ | (refine zM ?_; intro _ _) | refine zX ?_ | (refine zC ?_; intro _ _ _ _) | (refine zS ?_; intro _ _) | (apply Ws <;> intro hg))
    exact Ends.ret1 rfl ⟨[(n0 + 1, .row 3 0 0 (ints xs))], n0 + 2, .row (by simp), by omega, hH'.sub (.cons_cons _ (List.sublist_cons_self _ _)), fun h => absurd h hne0⟩
theorem Left_fs (hH : hasH M n0 H) {T : List Int} (hS : Sl M 1 v (ints T)) (hTl : T.length ≤ 1000) {W : List Int} (hW : Sl M 1 w (ints W)) (hwl : W.length ≤ 1000) :
    FS C 25 [v, w] H (fun e H' => ∃ u xs Mx n', e = .tuple #[u, .int .i64 (leftE T W)] ∧ Own 3 1 u (ints xs) Mx ∧ n0 ≤ n' ∧ hasH (Mx ++ M) n' H' ∧ ((leftE T W ≠ 0 ∧ xs = []) ∨ (leftE T W = 0 ∧ ∃ s, goS T (startS T) W = some s ∧ xs = s.take T.length))) := by
  refine FS.intro (pf := pf25) rfl rfl rfl ?_
  repeat' (first | refine zP ?_ | refine zA ?_ | (refine zM ?_; intro _ _) | refine zX ?_ | (refine zC ?_; intro _ _ _ _) | (refine zS ?_; intro _ _) | (apply Ws <;> intro hg))
  refine WR.call (by first | exact gN | exact gS rfl) rfl rfl (checked_fs hH hS hTl hW hwl) ?_
  rintro _ H1 ⟨n1, s, hn1, hH1, rfl, hs, hgo⟩
  have hli : (ints s).length = 4 := by simp [hs]
  repeat' (first | refine zP ?_ | refine zA ?_ | (refine zM ?_; intro _ _) | refine zX ?_ | (refine zC ?_; intro _ _ _ _) | (refine zS ?_; intro _ _) | (apply Ws <;> intro hg))
  rename_i H2 hH2
  refine WR.storeA (by first | exact gN | exact gS rfl) hH2 rfl rfl hs .here rfl fun H3 hH3 => ?_
  by_cases h0 : leftE T W = 0
  · have hgo' := hgo h0
    have hE : errT T = 0 := by
      unfold leftE at h0
      split at h0
      · rename_i h; exact absurd h0 h
      · rename_i h; omega
    obtain ⟨hT, h1⟩ := errT_ok hE
    have hTl4 := hT.len
    have hSp : Sl ((n1, Ch.row 72 0 0 (ints s)) :: M) 1 (.slice (some ⟨n1, 0, some 0⟩) T.length (2 * 4 + 1)) (ints (s.take T.length)) :=
      .row (lo := 0) (cs := ints s) (.head _) (.row _ _ _ _) (Nat.zero_le _) (by simp; omega) (by simp [ints, List.map_take]) (by simp; omega) (.inr ⟨4, rfl, hTl4⟩)
    repeat' (first | refine zP ?_ | refine zA ?_ | (refine zM ?_; intro _ _) | refine zX ?_ | (refine zC ?_; intro _ _ _ _) | (refine zS ?_; intro _ _) | refine zO ?_ | (apply Ws <;> intro hg))
    refine WR.op (by first | exact gN | exact gS rfl) rfl (OpV.slAh rfl rfl hTl4 (by omega)) ?_
    refine WR.call (by first | exact gN | exact gS rfl) rfl rfl (Clone_fs hH3 hSp (by simp; omega) (.inl (fun h => by have h9 := congrArg List.length h; rw [List.length_take, hs, List.length_nil] at h9; omega))) ?_
    rintro _ H4 ⟨Mx, n4, hO, hn4, hH4, _⟩
    repeat' (first | refine zP ?_ | refine zA ?_ | (refine zM ?_; intro _ _) | refine zX ?_ | (refine zC ?_; intro _ _ _ _) | (refine zS ?_; intro _ _) | (apply Ws <;> intro hg))
    exact Ends.ret2 rfl rfl ⟨_, s.take T.length, Mx, n4, by rw [h0], hO, by omega, hH4.sub (List.Sublist.append_left (List.sublist_cons_self _ _) _), .inr ⟨h0, s, hgo', rfl⟩⟩
  · repeat' (first | refine zP ?_ | refine zA ?_ | (refine zM ?_; intro _ _) | refine zX ?_ | (refine zC ?_; intro _ _ _ _) | (refine zS ?_; intro _ _) | refine zO ?_ | (apply Ws <;> intro hg))
    exact Ends.ret2 rfl rfl ⟨_, [], [], n1 + 1, rfl, .nil, by omega, hH3.tail, .inl ⟨h0, rfl⟩⟩
theorem Goes_fs (hH : hasH M n0 H) {T : List Int} (hS : Sl M 1 v (ints T)) (hTl : T.length ≤ 1000) {W : List Int} (hW : Sl M 1 w (ints W)) (hwl : W.length ≤ 1000) :
    FS C 27 [v, w] H (fun e H' => ∃ g n', e = .tuple #[.bool g, .int .i64 (leftE T W)] ∧ n0 ≤ n' ∧ hasH M n' H' ∧ ((leftE T W ≠ 0 ∧ g = false) ∨ (leftE T W = 0 ∧ ∃ s, goS T (startS T) W = some s ∧ g = everB T s))) := by
  have hv := hS.one_
  refine FS.intro (pf := pf27) rfl rfl rfl ?_
  repeat' (first | refine zP ?_ | refine zA ?_ | (refine zM ?_; intro _ _) | refine zX ?_ | (refine zC ?_; intro _ _ _ _) | (refine zS ?_; intro _ _) | (apply Ws <;> intro hg))
  refine WR.call (by first | exact gN | exact gS rfl) rfl rfl (checked_fs hH hS hTl hW hwl) ?_
  rintro _ H1 ⟨n1, s, hn1, hH1, rfl, hs, hgo⟩
  have hli : (ints s).length = 4 := by simp [hs]
  repeat' (first | refine zP ?_ | refine zA ?_ | (refine zM ?_; intro _ _) | refine zX ?_ | (refine zC ?_; intro _ _ _ _) | (refine zS ?_; intro _ _) | (apply Ws <;> intro hg))
  rename_i H2 hH2
  refine WR.storeA (by first | exact gN | exact gS rfl) hH2 rfl rfl hs .here rfl fun H3 hH3 => ?_
  by_cases h0 : leftE T W = 0
  · have hgo' := hgo h0
    have hE : errT T = 0 := by
      unfold leftE at h0
      split at h0
      · rename_i h; exact absurd h0 h
      · rename_i h; omega
    have hWE : walkE T.length W = 0 := by
      unfold leftE at h0
      rw [if_neg (by omega)] at h0
      split at h0
      · rename_i h; exact absurd h0 h
      · rename_i h; omega
    obtain ⟨hT, h1⟩ := errT_ok hE
    have hsk := goS_ok hT (start_ok hT) (walkE_ok.1 hWE).2 hgo'
    repeat' (first | refine zP ?_ | refine zA ?_ | (refine zM ?_; intro _ _) | refine zX ?_ | (refine zC ?_; intro _ _ _ _) | (refine zS ?_; intro _ _) | refine zO ?_ | (apply Ws <;> intro hg))
    refine WC.regionD ?_
    repeat' (first | refine zD ?_ | (refine zE ?_; intro _ _ _ _))
    refine WD.call (by first | exact gN | exact gS rfl) rfl rfl (look_fs hH3 hv) ?_
    rintro _ H4 ⟨b, n4, rfl, hb, hbn, hH4⟩
    refine ⟨stands_cons (.inr (holdsN' (readA hH4 (.tail _ (.head _)) hs) (sameL_ints _))) stands_nil', ?_⟩
    refine WD.toWR rfl ?_
    refine WR.call (by first | exact gN | exact gS rfl) rfl rfl (more_fs hT _ (Nat.lt_succ_self _) hH4 hS.cons hsk (KeysN.nil 4) (inv_nil T) (fun t ht => by cases ht)) ?_
    rintro _ H5 ⟨r, m', n5, rfl, hr, hn5, hH5, _, _, _⟩
    repeat' (first | refine zP ?_ | refine zA ?_ | (refine zM ?_; intro _ _) | refine zX ?_ | (refine zC ?_; intro _ _ _ _) | (refine zS ?_; intro _ _) | (apply Ws <;> intro hg))
    exact Ends.ret2 rfl rfl ⟨_, n5, by rw [h0], by omega, hH5.tail.tail, .inr ⟨h0, s, hgo', hr.everB⟩⟩
  · repeat' (first | refine zP ?_ | refine zA ?_ | (refine zM ?_; intro _ _) | refine zX ?_ | (refine zC ?_; intro _ _ _ _) | (refine zS ?_; intro _ _) | refine zO ?_ | (apply Ws <;> intro hg))
    exact Ends.ret2 rfl rfl ⟨false, n1 + 1, rfl, by omega, hH3.tail, .inl ⟨h0, rfl⟩⟩
end
end Go.Proofs.Ytnmlfjohoeebiaa.Wk

/- The first walk that goes on for ever, tide by tide. -/
namespace Go.Proofs.Ytnmlfjohoeebiaa.Wk
open Go Go.Abs Go.Mth
set_option linter.unusedVariables false
set_option linter.unusedSimpArgs false
def okJ (T s : List Int) (j : Nat) : Prop := goodS T.length (metS T s j) ∧ everS T (metS T s j)
/-- The first stretch after which a walk can go on for ever. -/
structure NextR (T s : List Int) (j : Nat) : Prop where
  lt : j < T.length
  ok : okJ T s j
  no : ∀ i, i < j → ¬ okJ T s i
theorem NextR.one {T s : List Int} {i j : Nat} (h : NextR T s i) (k : NextR T s j) : i = j := by
  rcases Nat.lt_trichotomy i j with h1 | h1 | h1
  · exact absurd h.ok (k.no i h1)
  · exact h1
  · exact absurd k.ok (h.no j h1)
theorem ever_some {T s : List Int} (h : everS T s) : ∃ j, j < T.length ∧ okJ T s j := by
  refine Classical.byContradiction fun hn => ?_
  have key : ∀ n, n ≤ T.length → ∃ K, ∀ j, j < n → goodS T.length (metS T s j) → ¬ canS T K (metS T s j) := by
    intro n
    induction n with
    | zero => exact fun _ => ⟨0, fun j hj => absurd hj (Nat.not_lt_zero _)⟩
    | succ n ih =>
      intro hnT
      obtain ⟨K, hK⟩ := ih (by omega)
      by_cases hg : goodS T.length (metS T s n)
      · have : ∃ k, ¬ canS T k (metS T s n) := Classical.byContradiction fun h2 => hn ⟨n, by omega, hg, fun k => Classical.byContradiction fun h3 => h2 ⟨k, h3⟩⟩
        obtain ⟨k, hk⟩ := this
        refine ⟨max K k, fun j hj hgj hc => ?_⟩
        rcases Nat.lt_or_ge j n with h1 | h1
        · exact hK j h1 hgj (canS_le hc (Nat.le_max_left _ _))
        · rw [show j = n by omega] at hc
          exact hk (canS_le hc (Nat.le_max_right _ _))
      · refine ⟨K, fun j hj hgj => ?_⟩
        rcases Nat.lt_or_ge j n with h1 | h1
        · exact hK j h1 hgj
        · rw [show j = n by omega] at hgj
          exact absurd hgj hg
  obtain ⟨K, hK⟩ := key T.length (Nat.le_refl _)
  obtain ⟨j, h1, h2, h3⟩ := h (K + 1)
  exact hK j h1 h2 h3
/-- A walk of first stretches. -/
inductive WalkR (T : List Int) (s : List Int) : List Int → List Int → Prop where
  | nil : WalkR T s [] s
  | snoc {W : List Int} {t : List Int} {j : Nat} (h : WalkR T s W t) (k : NextR T t j) : WalkR T s (W ++ [(j : Int)]) (metS T t j)
theorem WalkR.one {T s : List Int} : ∀ {W U t u : List Int}, W.length = U.length → WalkR T s W t → WalkR T s U u → W = U ∧ t = u := by
  intro W U t u hl h
  induction h generalizing U u with
  | nil =>
    intro k
    cases k with
    | nil => exact ⟨rfl, rfl⟩
    | snoc => simp at hl
  | @snoc W t j h hj ih =>
    intro k
    cases k with
    | nil => simp at hl
    | @snoc U u i k hi =>
      obtain ⟨rfl, rfl⟩ := ih (by simpa using hl) k
      have := hj.one hi
      subst this
      exact ⟨rfl, rfl⟩
theorem WalkR.go {T s W t : List Int} (h : WalkR T s W t) : goS T s W = some t ∧ WOK T.length W := by
  induction h with
  | nil => exact ⟨rfl, fun x hx => by cases hx⟩
  | @snoc W t j h hj ih =>
    refine ⟨?_, fun x hx => ?_⟩
    · rw [goS_snoc, ih.1, Option.bind_some, Int.toNat_natCast, if_pos hj.ok.1]
    · rcases List.mem_append.1 hx with hx | hx
      · exact ih.2 x hx
      · have := hj.lt
        rw [List.mem_singleton] at hx
        omega
theorem WalkR.ever {T s W t : List Int} (h : WalkR T s W t) (he : everS T s) : everS T t := by
  cases h with
  | nil => exact he
  | snoc h hj => exact hj.ok.2
structure NK where
  k : Nat
  m : MapI
  n : Nat
attribute [local irreducible] gOK WS WC WR WD Ends FS YS OpV seqK blockK loopK midK retK rdK asgK rangeEnd sat Cell
section
variable {M : HL} {n0 : Nat} {H : Heap} {v w : Value}
theorem next_fs {b : Nat} {m : MapI} (hH : hasH ((b, .map (ents m)) :: M) n0 H) {T s : List Int} (hS : Sl M 1 v (ints T)) (hT : TOK T) (hs : SOK T s) (he : everS T s) (hk : KeysN 4 m) (hI : MInv T [] m) :
    FS C 83 [.agg [v, .map (some b)].toArray, keyI s] H (fun e H' => ∃ j m' n', e = .tuple #[.int .i64 (j : Nat), keyI (metS T s j)] ∧ NextR T s j ∧ n0 ≤ n' ∧ hasH ((b, .map (ents m')) :: M) n' H' ∧ KeysN 4 m' ∧ MInv T [] m') := by
  have hv := hS.one_
  have hb1 : one (.map (some b)) = true := rfl
  have h1 := ints_one s
  have hli : (ints s).length = 4 := by simp [hs.len]
  have hTl := hT.len
  refine FS.intro (pf := pf83) rfl rfl rfl ?_
  refine WC.seq ?_
  refine WC.region ?_
  refine WR.boxA (cs := [v, .map (some b)]) (by first | exact gN | exact gS rfl) rfl hH rfl (by (repeat' (first | exact all_nil | refine all_cons (by first | rfl | assumption) ?_))) fun H1 hH1 => ?_
  refine WR.boxA (cs := ints s) (by first | exact gN | exact gS rfl) rfl hH1 rfl h1 fun H2 hH2 => ?_
  have hS2 := ((hS.cons (p := (b, .map (ents m)))).cons (p := (n0, .row 69 0 0 [v, .map (some b)]))).cons (p := (n0 + 1, .row 72 0 0 (ints s)))
  have hS3 := hS2.cons (p := (n0 + 1 + 1, .row 72 0 0 (ints [0, 0, 0, 0])))
  repeat' (first | refine zP ?_ | refine zA ?_ | (refine zM ?_; intro _ _) | refine zX ?_ | (refine zC ?_; intro _ _ _ _) | (refine zS ?_; intro _ _) | (apply Ws <;> intro hg))
  rename_i H3 hH3
  refine WC.loopX [(2, .pointer (some ⟨n0, 0, some 0⟩)), (3, .pointer (some ⟨n0 + 1, 0, some 0⟩)), (4, .int .i64 0), (5, .pointer (some ⟨n0 + 1 + 1, 0, some 0⟩)), (11, .int .i64 (T.length : Int))] (fun z : NK => [(12, .int .i64 (z.k : Int))]) []
    (fun z H' => z.k ≤ T.length ∧ n0 + 1 + 1 < z.n ∧ hasH ((n0 + 1 + 1, .row 72 0 0 (ints [0, 0, 0, 0])) :: (n0 + 1, .row 72 0 0 (ints s)) :: (n0, .row 69 0 0 [v, .map (some b)]) :: (b, .map (ents z.m)) :: M) z.n H' ∧ KeysN 4 z.m ∧ MInv T [] z.m ∧ (∀ i, i < z.k → ¬ okJ T s i))
    (fun z => T.length - z.k) ⟨0, m, n0 + 1 + 1 + 1⟩ (by repeat' (first | exact .nil | refine .cons rfl ?_)) rfl ⟨Nat.zero_le _, by simp only; omega, hH3, hk, hI, fun i h => absurd h (Nat.not_lt_zero _)⟩ ?_
  clear hS2 hS3 hH1 hH2 hH3 hH
  rintro ⟨k, m3, n3⟩ H4 ⟨hk3, hn3, hH4, hk4, hI4, hno⟩
  simp only at hk3 hn3 hH4 hk4 hI4 hno
  dsimp only [List.cons_append, List.nil_append]
  have hS4 := (((hS.cons (p := (b, .map (ents m3)))).cons (p := (n0, .row 69 0 0 [v, .map (some b)]))).cons (p := (n0 + 1, .row 72 0 0 (ints s)))).cons (p := (n0 + 1 + 1, .row 72 0 0 (ints [0, 0, 0, 0])))
  repeat' (first | refine zP ?_ | refine zA ?_ | (refine zM ?_; intro _ _) | refine zX ?_ | (refine zC ?_; intro _ _ _ _) | (refine zS ?_; intro _ _) | (apply Ws <;> intro hg))
  refine WC.condP rfl (fun hlt => ?_) (fun hlt => ?_)
  · have hk' : k < T.length := by omega
    repeat' (first | refine zP ?_ | refine zA ?_ | (refine zM ?_; intro _ _) | refine zX ?_ | (refine zC ?_; intro _ _ _ _) | (refine zS ?_; intro _ _) | (apply Ws <;> intro hg))
    have hml : (metS T s k).length = 4 := by rw [metS_len, hs.len]
    have hmi : (ints (metS T s k)).length = 4 := by simp [hml]
    refine WR.call (by first | exact gN | exact gS rfl) rfl rfl (meet_fs hH4 hS4 hT.len hs.len (hs.bnd hT) hk') ?_
    rintro _ H5 ⟨n5, hn5, rfl, hH5⟩
    clear hH4 hS4
    repeat' (first | refine zP ?_ | refine zA ?_ | (refine zM ?_; intro _ _) | refine zX ?_ | (refine zC ?_; intro _ _ _ _) | (refine zS ?_; intro _ _) | (apply Ws <;> intro hg))
    rename_i H6 hH6
    refine WR.storeA (by first | exact gN | exact gS rfl) hH6 rfl rfl hml .here rfl fun H7 hH7 => ?_
    clear hH5 hH6
    by_cases hg : goodS T.length (metS T s k)
    · rw [decide_eq_true hg]
      repeat' (first | refine zP ?_ | refine zA ?_ | (refine zM ?_; intro _ _) | refine zX ?_ | (refine zC ?_; intro _ _ _ _) | (refine zS ?_; intro _ _) | (apply Ws <;> intro hg))
      have hH8 := hH7.perm (M' := (b, .map (ents m3)) :: (n5, .row 72 0 0 (ints (metS T s k))) :: (n0 + 1 + 1, .row 72 0 0 (ints [0, 0, 0, 0])) :: (n0 + 1, .row 72 0 0 (ints s)) :: (n0, .row 69 0 0 [v, .map (some b)]) :: M) (List.perm_middle (l₁ := [_, _, _, _]))
      refine WR.call (by first | exact gN | exact gS rfl) rfl rfl (more_fs hT _ (Nat.lt_succ_self _) hH8 (((hS.cons).cons).cons).cons (met_ok hT hs hk' hg) hk4 hI4 (fun t ht => by cases ht)) ?_
      rintro _ H9 ⟨r, m4, n9, rfl, hr, hn9, hH9, hk9, hI9, hm9⟩
      have hlow := hr.low
      have hH10 := hH9.perm (M' := (n5, .row 72 0 0 (ints (metS T s k))) :: (n0 + 1 + 1, .row 72 0 0 (ints [0, 0, 0, 0])) :: (n0 + 1, .row 72 0 0 (ints s)) :: (n0, .row 69 0 0 [v, .map (some b)]) :: (b, .map (ents m4)) :: M) (List.perm_middle (l₁ := [_, _, _, _])).symm
      clear hH9 hH8 hH7
      rcases hr with ⟨rfl, hev⟩ | ⟨p, rfl, hp1, hp2⟩
      · repeat' (first | refine zP ?_ | refine zA ?_ | (refine zM ?_; intro _ _) | refine zX ?_ | (refine zC ?_; intro _ _ _ _) | (refine zS ?_; intro _ _) | refine zO ?_ | (apply Ws <;> intro hg))
        refine WR.storeA (s := metS T s k) (by first | exact gN | exact gS rfl) hH10 rfl rfl hml (.there .here) rfl fun H11 hH11 => ?_
        repeat' (first | refine zP ?_ | refine zA ?_ | (refine zM ?_; intro _ _) | refine zX ?_ | (refine zC ?_; intro _ _ _ _) | (refine zS ?_; intro _ _) | (apply Ws <;> intro hg))
        exact Ends.retT1CN rfl (readA hH11 (.tail _ (.head _)) hml) rfl ⟨k, m4, n9, rfl, ⟨hk', ⟨hg, hev⟩, hno⟩, by omega, hH11.tail.tail.tail.tail, hk9, hI9⟩
      · repeat' (first | refine zP ?_ | refine zA ?_ | (refine zM ?_; intro _ _) | refine zX ?_ | (refine zC ?_; intro _ _ _ _) | (refine zS ?_; intro _ _) | refine zO ?_ | (apply Ws <;> intro hg))
        refine Ends.loop ⟨k + 1, m4, n9⟩ (by simp only; omega) (by repeat' (first | exact .nil | refine .cons rfl ?_)) rfl ⟨hk', by simp only; omega, hH10.tail, hk9, hI9, fun i hi => ?_⟩
        rcases Nat.lt_or_ge i k with h | h
        · exact hno i h
        · rw [show i = k by simp only at hi; omega]
          exact fun h => hp2 (h.2 _)
    · rw [decide_eq_false hg]
      repeat' (first | refine zP ?_ | refine zA ?_ | (refine zM ?_; intro _ _) | refine zX ?_ | (refine zC ?_; intro _ _ _ _) | (refine zS ?_; intro _ _) | (apply Ws <;> intro hg))
      refine Ends.loop ⟨k + 1, m3, n5 + 1⟩ (by simp only; omega) (by repeat' (first | exact .nil | refine .cons rfl ?_)) rfl ⟨hk', by simp only; omega, hH7.tail, hk4, hI4, fun i hi => ?_⟩
      rcases Nat.lt_or_ge i k with h | h
      · exact hno i h
      · rw [show i = k by simp only at hi; omega]
        exact fun h => hg h.1
  · obtain ⟨j, hj, hok⟩ := ever_some he
    exact absurd hok (hno j (by omega))
structure WV where
  k : Nat
  v : Value
  W : List Int
  t : List Int
  Mx : HL
  m : MapI
  n : Nat
theorem walk_fs {b : Nat} {m : MapI} (hH : hasH ((b, .map (ents m)) :: M) n0 H) {T : List Int} (hS : Sl M 1 v (ints T)) (hT : TOK T) (h1 : 1 ≤ T.length) (he : everS T (startS T)) (hk : KeysN 4 m) (hI : MInv T [] m) {many : Nat} (hmany : many ≤ 60) :
    FS C 68 [.agg [v, .map (some b)].toArray, .int .i64 (many : Int)] H (fun e H' => ∃ W t Mx n', Own 3 1 e (ints W) Mx ∧ W.length = many ∧ WalkR T (startS T) W t ∧ n0 ≤ n' ∧ hasH (Mx ++ M) n' H' ∧ (many = 0 → e = .slice none 0 0)) := by
  have hv := hS.one_
  have hb1 : one (.map (some b)) = true := rfl
  have hsl := startS_len hT.len
  have hsli : (ints (startS T)).length = 4 := by simp [hsl]
  refine FS.intro (pf := pf68) rfl rfl rfl ?_
  refine WC.seq ?_
  refine WC.region ?_
  refine WR.boxA (cs := [v, .map (some b)]) (by first | exact gN | exact gS rfl) rfl hH rfl (by (repeat' (first | exact all_nil | refine all_cons (by first | rfl | assumption) ?_))) fun H1 hH1 => ?_
  repeat' (first | refine zP ?_ | refine zA ?_ | (refine zM ?_; intro _ _) | refine zX ?_ | (refine zC ?_; intro _ _ _ _) | (refine zS ?_; intro _ _) | (apply Ws <;> intro hg))
  refine WR.call (by first | exact gN | exact gS rfl) rfl rfl (start_fs hH1 hS.cons.cons hT.len h1) ?_
  rintro _ H2 ⟨n2, hn2, rfl, hH2⟩
  repeat' (first | refine zP ?_ | refine zA ?_ | (refine zM ?_; intro _ _) | refine zX ?_ | (refine zC ?_; intro _ _ _ _) | (refine zS ?_; intro _ _) | (apply Ws <;> intro hg))
  rename_i H3 hH3
  refine WR.storeA (by first | exact gN | exact gS rfl) hH3 rfl rfl hsl .here rfl fun H4 hH4 => ?_
  clear hH1 hH2 hH3 hH
  repeat' (first | refine zP ?_ | refine zA ?_ | (refine zM ?_; intro _ _) | refine zX ?_ | (refine zC ?_; intro _ _ _ _) | (refine zS ?_; intro _ _) | (apply Ws <;> intro hg))
  refine WC.loopX [(1, .int .i64 (many : Int)), (2, .pointer (some ⟨n0, 0, some 0⟩)), (4, .slice none 0 0), (6, .pointer (some ⟨n2, 0, some 0⟩)), (12, .int .i64 (many : Int))] (fun z : WV => [(5, z.v), (13, .int .i64 (z.k : Int))]) []
    (fun z H' => z.k ≤ many ∧ n2 < z.n ∧ z.W.length = z.k ∧ Own 3 1 z.v (ints z.W) z.Mx ∧ WalkR T (startS T) z.W z.t ∧ SOK T z.t ∧ KeysN 4 z.m ∧ MInv T [] z.m ∧ (z.k = 0 → z.v = .slice none 0 0) ∧ hasH ((n2, .row 72 0 0 (ints z.t)) :: (n0, .row 69 0 0 [v, .map (some b)]) :: (b, .map (ents z.m)) :: (z.Mx ++ M)) z.n H')
    (fun z => many - z.k) ⟨0, .slice none 0 0, [], startS T, [], m, n2 + 1⟩ (by repeat' (first | exact .nil | refine .cons rfl ?_)) rfl ⟨Nat.zero_le _, by simp only; omega, rfl, .nil, .nil, start_ok hT, hk, hI, fun _ => rfl, hH4⟩ ?_
  clear hH4 hk hI
  rintro ⟨k, wv, W, t, Mx, m3, n3⟩ H5 ⟨hk3, hn3, hWl, hO, hR, hs, hkm, hI, hv0, hH5⟩
  simp only at hk3 hn3 hWl hO hR hs hkm hI hv0 hH5
  have hti : (ints t).length = 4 := by simp [hs.len]
  dsimp only [List.cons_append, List.nil_append]
  repeat' (first | refine zP ?_ | refine zA ?_ | (refine zM ?_; intro _ _) | refine zX ?_ | (refine zC ?_; intro _ _ _ _) | (refine zS ?_; intro _ _) | (apply Ws <;> intro hg))
  refine WC.condP rfl (fun hlt => ?_) (fun hlt => ?_)
  · have hk' : k < many := by omega
    repeat' (first | refine zP ?_ | refine zA ?_ | (refine zM ?_; intro _ _) | refine zX ?_ | (refine zC ?_; intro _ _ _ _) | (refine zS ?_; intro _ _) | (apply Ws <;> intro hg))
    have hH6 := hH5.perm (M' := (b, .map (ents m3)) :: (n2, .row 72 0 0 (ints t)) :: (n0, .row 69 0 0 [v, .map (some b)]) :: (Mx ++ M)) (List.perm_middle (l₁ := [_, _]))
    refine WR.call (by first | exact gN | exact gS rfl) rfl rfl (next_fs hH6 ((hS.mono fun q hq => List.mem_append_right _ hq).cons).cons hT hs (hR.ever he) hkm hI) ?_
    rintro _ H7 ⟨j, m7, n7, rfl, hj, hn7, hH7, hk7, hI7⟩
    clear hH5 hH6
    have hml : (metS T t j).length = 4 := by rw [metS_len, hs.len]
    have hmi : (ints (metS T t j)).length = 4 := by simp [hml]
    repeat' (first | refine zP ?_ | refine zA ?_ | (refine zM ?_; intro _ _) | refine zX ?_ | (refine zC ?_; intro _ _ _ _) | (refine zS ?_; intro _ _) | (apply Ws <;> intro hg))
    rename_i H8 hH8
    refine WR.storeA (by first | exact gN | exact gS rfl) hH8 rfl rfl hml .here rfl fun H9 hH9 => ?_
    clear hH7 hH8
    repeat' (first | refine zP ?_ | refine zA ?_ | (refine zM ?_; intro _ _) | refine zX ?_ | (refine zC ?_; intro _ _ _ _) | (refine zS ?_; intro _ _) | (apply Ws <;> intro hg))
    refine WR.append1F [(n7, .row 72 0 0 (ints (metS T t j))), (b, .map (ents m7)), (n2, .row 72 0 0 (ints t)), (n0, .row 69 0 0 [v, .map (some b)])] Mx M rfl rfl rfl rfl hO hH9 (new := [.int .i64 (j : Int)]) (by rfl) rfl rfl (Nat.le_refl _) (by omega) (by simp; omega) fun v3 M3 n10 H10 hO3 hH10 hn10 => ?_
    replace hH10 : hasH ((n7, .row 72 0 0 (ints (metS T t j))) :: (b, .map (ents m7)) :: (n2, .row 72 0 0 (ints t)) :: (n0, .row 69 0 0 [v, .map (some b)]) :: (M3 ++ M)) n10 H10 := hH10
    clear hH9 hO
    repeat' (first | refine zP ?_ | refine zA ?_ | (refine zM ?_; intro _ _) | refine zX ?_ | (refine zC ?_; intro _ _ _ _) | (refine zS ?_; intro _ _) | (apply Ws <;> intro hg))
    refine WR.storeA (by first | exact gN | exact gS rfl) hH10 rfl rfl hml (.there (.there .here)) (by simp [hs.len]) fun H11 hH11 => ?_
    repeat' (first | refine zP ?_ | refine zA ?_ | (refine zM ?_; intro _ _) | refine zX ?_ | (refine zC ?_; intro _ _ _ _) | (refine zS ?_; intro _ _) | (apply Ws <;> intro hg))
    refine Ends.loop ⟨k + 1, v3, W ++ [(j : Int)], metS T t j, M3, m7, n10⟩ (by simp only; omega) (by repeat' (first | exact .nil | refine .cons rfl ?_)) rfl ⟨hk', by simp only; omega, by simp [hWl], ?_, .snoc hR hj, met_ok hT hs hj.lt hj.ok.1, hk7, hI7, fun h => by simp only at h; omega, ?_⟩
    · show Own _ 1 v3 (List.map (Value.int .i64) (W ++ [(j : Int)])) M3
      rw [List.map_append]
      exact hO3
    · exact hH11.tail.perm (List.perm_middle (l₁ := [_, _])).symm
  · have hkn : k = many := by omega
    subst hkn
    repeat' (first | refine zP ?_ | refine zA ?_ | (refine zM ?_; intro _ _) | refine zX ?_ | (refine zC ?_; intro _ _ _ _) | (refine zS ?_; intro _ _) | (apply Ws <;> intro hg))
    exact Ends.ret1 rfl ⟨W, t, Mx, n3, hO, hWl, hR, by omega, hH5.tail.tail.tail, hv0⟩
noncomputable def wlkE (T : List Int) (many : Int) : Int := if errT T ≠ 0 then errT T else if many < 0 ∨ 60 < many then 1 else if everB T (startS T) = false then 12 else 0
theorem Walk_fs (hH : hasH M n0 H) {T : List Int} (hS : Sl M 1 v (ints T)) (hTl : T.length ≤ 1000) (many : Int) :
    FS C 32 [v, .int .i64 many] H (fun e H' => ∃ u W Mx n', e = .tuple #[u, .int .i64 (wlkE T many)] ∧ Own 3 1 u (ints W) Mx ∧ n0 ≤ n' ∧ hasH (Mx ++ M) n' H' ∧ ((wlkE T many ≠ 0 ∧ W = []) ∨ (wlkE T many = 0 ∧ W.length = many.toNat ∧ ∃ t, WalkR T (startS T) W t))) := by
  have hv := hS.one_
  refine FS.intro (pf := pf32) rfl rfl rfl ?_
  repeat' (first | refine zP ?_ | refine zA ?_ | (refine zM ?_; intro _ _) | refine zX ?_ | (refine zC ?_; intro _ _ _ _) | (refine zS ?_; intro _ _) | (apply Ws <;> intro hg))
  refine WR.call (by first | exact gN | exact gS rfl) rfl rfl (Check_fs hH hS hTl) ?_
  rintro _ _ ⟨rfl, rfl⟩
  by_cases h0 : errT T = 0
  · obtain ⟨hT, h1⟩ := errT_ok h0
    by_cases hm : many < 0 ∨ 60 < many
    · have hE : wlkE T many = 1 := by unfold wlkE; rw [if_neg (by omega), if_pos hm]
      rcases hm with hm | hm
      · repeat' (first | refine zP ?_ | refine zA ?_ | (refine zM ?_; intro _ _) | refine zX ?_ | (refine zC ?_; intro _ _ _ _) | (refine zS ?_; intro _ _) | refine zO ?_ | (apply Ws <;> intro hg))
        exact Ends.ret2 rfl rfl ⟨_, [], [], n0, by rw [hE], .nil, Nat.le_refl _, hH, .inl ⟨by omega, rfl⟩⟩
      · repeat' (first | refine zP ?_ | refine zA ?_ | (refine zM ?_; intro _ _) | refine zX ?_ | (refine zC ?_; intro _ _ _ _) | (refine zS ?_; intro _ _) | refine zO ?_ | (apply Ws <;> intro hg))
        exact Ends.ret2 rfl rfl ⟨_, [], [], n0, by rw [hE], .nil, Nat.le_refl _, hH, .inl ⟨by omega, rfl⟩⟩
    · obtain ⟨mn, rfl⟩ : ∃ mn : Nat, many = mn := ⟨many.toNat, by omega⟩
      have hb1 : ∀ b, one (.map (some b)) = true := fun _ => rfl
      repeat' (first | refine zP ?_ | refine zA ?_ | (refine zM ?_; intro _ _) | refine zX ?_ | (refine zC ?_; intro _ _ _ _) | (refine zS ?_; intro _ _) | refine zO ?_ | (apply Ws <;> intro hg))
      refine WR.call (by first | exact gN | exact gS rfl) rfl rfl (look_fs hH hv) ?_
      rintro _ H1 ⟨b, n1, rfl, hb, hbn, hH1⟩
      repeat' (first | refine zP ?_ | refine zA ?_ | (refine zM ?_; intro _ _) | refine zX ?_ | (refine zC ?_; intro _ _ _ _) | (refine zS ?_; intro _ _) | (apply Ws <;> intro hg))
      rename_i H2 hH2
      refine WR.store2 (by first | exact gN | exact gS rfl) hH2 rfl rfl hv rfl .here fun H3 hH3 => ?_
      repeat' (first | refine zP ?_ | refine zA ?_ | (refine zM ?_; intro _ _) | refine zX ?_ | (refine zC ?_; intro _ _ _ _) | (refine zS ?_; intro _ _) | (apply Ws <;> intro hg))
      refine WR.call (by first | exact gN | exact gS rfl) rfl rfl (can_fs hH3.swap hS.cons hT h1 (KeysN.nil 4) (inv_nil T)) ?_
      rintro _ H4 ⟨m', n4, rfl, hn4, hH4, hk4, hI4⟩
      have hH4s := hH4.swap
      cases hev : everB T (startS T) with
      | false =>
        have hE : wlkE T mn = 12 := by unfold wlkE; rw [if_neg (by omega), if_neg hm, if_pos hev]
        repeat' (first | refine zP ?_ | refine zA ?_ | (refine zM ?_; intro _ _) | refine zX ?_ | (refine zC ?_; intro _ _ _ _) | (refine zS ?_; intro _ _) | (apply Ws <;> intro hg))
        exact Ends.ret2 rfl rfl ⟨_, [], [], n4, by rw [hE], .nil, by omega, hH4.tail.tail, .inl ⟨by omega, rfl⟩⟩
      | true =>
        have hE : wlkE T mn = 0 := by unfold wlkE; rw [if_neg (by omega), if_neg hm, if_neg (by rw [hev]; simp)]
        repeat' (first | refine zP ?_ | refine zA ?_ | (refine zM ?_; intro _ _) | refine zX ?_ | (refine zC ?_; intro _ _ _ _) | (refine zS ?_; intro _ _) | (apply Ws <;> intro hg))
        refine WR.call (by first | exact gN | exact gS rfl) rfl rfl (walk_fs hH4 hS.cons hT h1 (everB_true.1 hev) hk4 hI4 (many := mn) (by omega)) ?_
        rintro _ H5 ⟨W, t, Mx, n5, hO, hWl, hR, hn5, hH5, _⟩
        repeat' (first | refine zP ?_ | refine zA ?_ | (refine zM ?_; intro _ _) | refine zX ?_ | (refine zC ?_; intro _ _ _ _) | (refine zS ?_; intro _ _) | (apply Ws <;> intro hg))
        exact Ends.ret2 rfl rfl ⟨_, W, Mx, n5, by rw [hE], hO, by omega, hH5.sub (List.Sublist.append_left (List.sublist_cons_self _ _) _), .inr ⟨hE, by simpa using hWl, t, hR⟩⟩
  · have hE : wlkE T many = errT T := by unfold wlkE; rw [if_pos h0]
    repeat' (first | refine zP ?_ | refine zA ?_ | (refine zM ?_; intro _ _) | refine zX ?_ | (refine zC ?_; intro _ _ _ _) | (refine zS ?_; intro _ _) | refine zO ?_ | (apply Ws <;> intro hg))
    exact Ends.ret2 rfl rfl ⟨_, [], [], n0, by rw [hE], .nil, Nat.le_refl _, hH, .inl ⟨by omega, rfl⟩⟩
end
end Go.Proofs.Ytnmlfjohoeebiaa.Wk

/- Rows of elements of several cells each. -/
namespace Go.Abs
set_option linter.unusedSectionVars false
variable [Globs]
open Go Go.Mth
set_option linter.unusedVariables false
def cellsF {α : Type} (F : α → List Value) (l : List α) : List Value := (l.map F).flatten
section
variable {α : Type} {F : α → List Value} {K : Nat}
theorem cellsF_len (hF : ∀ a, (F a).length = K) : ∀ l : List α, (cellsF F l).length = l.length * K
  | [] => by simp [cellsF]
  | a :: l => by
    have := cellsF_len hF l
    simp only [cellsF, List.map_cons, List.flatten_cons, List.length_append, List.length_cons, hF] at this ⊢
    rw [this, Nat.succ_mul]; omega
theorem cellsF_drop (hF : ∀ a, (F a).length = K) : ∀ (l : List α) (m : Nat), (cellsF F l).drop (m * K) = cellsF F (l.drop m)
  | l, 0 => by simp
  | [], m + 1 => by simp [cellsF]
  | a :: l, m + 1 => by
    have := cellsF_drop hF l m
    simp only [cellsF, List.map_cons, List.flatten_cons, List.drop_succ_cons] at this ⊢
    rw [← this, Nat.succ_mul, Nat.add_comm, ← List.drop_drop, List.drop_left' (hF a)]
theorem cellsF_at (hF : ∀ a, (F a).length = K) {l : List α} {m : Nat} (h : m < l.length) : ((cellsF F l).drop (m * K)).take K = F l[m] := by
  rw [cellsF_drop hF, List.drop_eq_getElem_cons h]
  simp only [cellsF, List.map_cons, List.flatten_cons]
  exact List.take_left' (hF _)
/-- Several cells, one behind another. -/
def KCell (M : HL) (b o u : Nat) (vs : List Value) : Prop := ∃ ch lo cs, (b, ch) ∈ M ∧ ch.cellsAre u lo cs ∧ lo ≤ o ∧ o - lo + vs.length ≤ cs.length ∧ (cs.drop (o - lo)).take vs.length = vs
theorem KCell.at {M : HL} {b o u j : Nat} {vs : List Value} {v : Value} (h : KCell M b o u vs) (hv : vs[j]? = some v) : Cell M b (o + j) u v := by
  obtain ⟨ch, lo, cs, h1, h2, h3, h4, h5⟩ := h
  have hj : j < vs.length := (List.getElem?_eq_some_iff.1 hv).1
  refine ⟨ch, lo, cs, h1, h2, by omega, ?_⟩
  rw [← h5, List.getElem?_take_of_lt hj, List.getElem?_drop] at hv
  rw [← hv]; congr 1; omega
theorem KCell.mono {M M' : HL} {b o u : Nat} {vs : List Value} (h : KCell M b o u vs) (k : ∀ p ∈ M, p ∈ M') : KCell M' b o u vs := by
  obtain ⟨ch, lo, cs, h1, h2⟩ := h
  exact ⟨ch, lo, cs, k _ h1, h2⟩
theorem Sl.lenK {M : HL} {v : Value} {l : List α} (hF : ∀ a, (F a).length = K) (hK : 1 ≤ K) (h : Sl M K v (cellsF F l)) : ∃ a c, v = .slice a l.length c := by
  have hl := cellsF_len hF l
  generalize cellsF F l = cs at h hl
  have h0 : ∀ {n : Nat}, n * K = 0 → n = 0 := fun {n} h => by rcases Nat.mul_eq_zero.1 h with h | h <;> omega
  cases h with
  | nil c => have := h0 (n := l.length) (by simp at hl; omega)
             exact ⟨none, c, by rw [this]⟩
  | emp a => have := h0 (n := l.length) (by simp at hl; omega)
             exact ⟨some a, _, by rw [this]⟩
  | row hm hcl hlo hln hv hin hcap =>
    rename_i b o u lo len cap ch cs'
    have : l.length = len := Nat.eq_of_mul_eq_mul_right hK (by omega)
    exact ⟨_, _, by rw [this]⟩
end
section
variable {C : CW} {nt : Nat} {L : Env} {D : List Nat} {H : Heap} {K : St → Prop} {M M' : HL} {n i d : Nat} {gd : Option (Tmp × Bool)} {lo : List Nat} {l : List POp} {rs : List Rd}
variable {α : Type} {F : α → List Value} {z : Nat}
theorem OpV.lenK {x : Operand} {v : Value} {ps : List α} (hF : ∀ a, (F a).length = z) (hz : 1 ≤ z) (hx : ev L x = some v) (hS : Sl M z v (cellsF F ps)) : OpV C (.len x) L H (.int .i64 (ps.length : Int)) H := by
  obtain ⟨a, c, rfl⟩ := hS.lenK hF hz
  exact OpV.len hx
theorem OpV.idxK {x ix : Operand} {kd : IntKind} {m : Nat} {v : Value} {ps : List α} (hF : ∀ a, (F a).length = z) (hz : 1 ≤ z) (hx : ev L x = some v) (hS : Sl M z v (cellsF F ps)) (hi : ev L ix = some (.int kd (m : Int))) (hm : m < ps.length) :
    ∃ b o u, OpV C (.idxS x ix z) L H (.pointer (some ⟨b, o, some u⟩)) H ∧ KCell M b o u (F ps[m]) := by
  have hg := cellsF_at hF hm
  have hl := cellsF_len hF ps
  generalize cellsF F ps = cs at hS hg hl
  have hm1 : m * z + z ≤ ps.length * z := by
    have := Nat.mul_le_mul_right z (show m + 1 ≤ ps.length by omega)
    rwa [Nat.succ_mul] at this
  cases hS with
  | nil c =>
    have h : ps.length * z = 0 := by simp only [List.length_nil] at hl; omega
    rcases Nat.mul_eq_zero.1 h with h | h <;> omega
  | emp a =>
    have h : ps.length * z = 0 := by simp only [List.length_nil] at hl; omega
    rcases Nat.mul_eq_zero.1 h with h | h <;> omega
  | row hm2 hc hlo hln hv hin hp =>
    rename_i b o u lo' len cap ch cs'
    have hlen : ps.length = len := Nat.eq_of_mul_eq_mul_right hz (by omega)
    refine ⟨b, o + m * z, u, OpV.idxS hx hi rfl (by omega) rfl, ch, lo', cs', hm2, hc, by omega, by rw [hF]; omega, ?_⟩
    rw [hF, ← hg, ← hv, List.drop_take, List.take_take, List.drop_drop, show o + m * z - lo' = o - lo' + m * z by omega, Nat.min_eq_left (by omega)]
theorem WR.idxK {x ix : Operand} {kd : IntKind} {m : Nat} {v : Value} {ps : List α} (hF : ∀ a, (F a).length = z) (hz : 1 ≤ z) (hg : gOK L gd) (hd : Nat.blt d nt = true) (hx : ev L x = some v) (hS : Sl M z v (cellsF F ps)) (hi : ev L ix = some (.int kd (m : Int))) (hm : m < ps.length)
    (k : ∀ b o u, KCell M b o u (F ps[m]) → WR C nt l ((d, .pointer (some ⟨b, o, some u⟩)) :: L) D H K) : WR C nt (⟨i, some d, .idxS x ix z, gd, lo⟩ :: l) L D H K := by
  obtain ⟨b, o, u, h1, h2⟩ := OpV.idxK (C := C) (H := H) hF hz hx hS hi hm
  exact WR.op hg hd h1 (k b o u h2)
theorem OpV.loadK {x : Operand} {b o u k : Nat} {vs : List Value} (hx : ev L x = some (.pointer (some ⟨b, o, some u⟩))) (hP : KCell M b o u vs) (hH : hasH M n H) (hk : vs.length = k) : OpV C (.loadN x k) L H (.agg vs.toArray) H := by
  obtain ⟨ch, lo', cs, h1, h2, h3, h4, h5⟩ := hP
  subst hk
  exact OpV.loadN hx hH h1 h2 h3 h4 h5
end
end Go.Abs

/- The mathematics of the law's search: all that can be left, by numbers; and its helpers. -/
namespace Go.Proofs.Ytnmlfjohoeebiaa.Wk
open Go Go.Abs Go.Mth
set_option linter.unusedVariables false
set_option linter.unusedSimpArgs false
abbrev St4 := {s : List Int // s.length = 4}
def F4 (a : St4) : List Value := ints a.1
theorem F4_len (a : St4) : (F4 a).length = 4 := by simp [F4, a.2]
theorem F4_one (a : St4) : (F4 a).all one = true := ints_one a.1
theorem fill4 : ∀ {s : List Int}, s.length = 4 → Instr.fill (fun j => some (j * 4, 4)) [Value.int .i64 0, .int .i64 0, .int .i64 0, .int .i64 0].toArray [(0, keyI s)] = some (ints s).toArray
  | [a, b, c, d], _ => rfl
/-- What was found: each with its number. -/
structure Bfs (T : List Int) (A : List St4) (m : MapI) : Prop where
  ok : ∀ i (h : i < A.length), SOK T (A[i]).1
  num : ∀ i (h : i < A.length), findI m (A[i]).1 = some (i : Int)
  inv : ∀ s r, findI m s = some r → ∃ i, ∃ h : i < A.length, r = (i : Int) ∧ (A[i]).1 = s
  cnt : A.length + restM m ≤ 6561
  keys : KeysN 4 m
  first : ∃ h : 0 < A.length, (A[0]).1 = startS T
theorem rest_nil : restM [] = 6561 := by
  unfold restM
  have : (allS 4).filter (fun s => (findI [] s).isNone) = allS 4 := List.filter_eq_self.2 fun a _ => rfl
  rw [this, all_count]
theorem bfs_one {T : List Int} (hT : TOK T) : Bfs T [⟨startS T, startS_len hT.len⟩] [(startS T, 0)] where
  ok i h := by have : i = 0 := by simpa using h
               subst this; exact start_ok hT
  num i h := by have : i = 0 := by simpa using h
                subst this; simp [findI]
  inv s r h := by
    simp only [findI] at h
    split at h
    · rename_i e; cases h; exact ⟨0, by simp, rfl, e⟩
    · cases h
  cnt := by
    have := rest_put (m := []) (s := startS T) ((start_ok hT).mem hT) rfl 0
    rw [rest_nil] at this
    simp only [List.length_singleton, putI] at this ⊢
    omega
  keys p hp := by rw [List.mem_singleton] at hp; subst hp; exact startS_len hT.len
  first := ⟨by simp, rfl⟩
theorem bfs_more {T : List Int} (hT : TOK T) {A : List St4} {m : MapI} (h : Bfs T A m) {a : St4} (ha : SOK T a.1) (hn : findI m a.1 = none) : Bfs T (A ++ [a]) (putI m a.1 (A.length : Int)) where
  ok i hi := by
    by_cases e : i < A.length
    · rw [List.getElem_append_left e]; exact h.ok i e
    · have : i = A.length := by simp at hi; omega
      subst this; simpa using ha
  num i hi := by
    rw [findI_put]
    by_cases e : i < A.length
    · rw [List.getElem_append_left e, if_neg, h.num i e]
      intro e2; rw [← e2, h.num i e] at hn; cases hn
    · have : i = A.length := by simp at hi; omega
      subst this; simp
  inv s r hs := by
    rw [findI_put] at hs
    split at hs
    · rename_i e; cases hs; exact ⟨A.length, by simp, rfl, by simp [e]⟩
    · obtain ⟨i, hi, h1, h2⟩ := h.inv s r hs
      exact ⟨i, by simp; omega, h1, by rw [List.getElem_append_left hi]; exact h2⟩
  cnt := by
    have := rest_put (m := m) (ha.mem hT) hn (A.length : Int)
    have := h.cnt
    simp only [List.length_append, List.length_singleton]
    omega
  keys := h.keys.put ha.len _
  first := by
    obtain ⟨h0, h1⟩ := h.first
    exact ⟨by simp, by rw [List.getElem_append_left h0]; exact h1⟩
/-- What comes behind something, by the first stretches. -/
structure SuccR (T : List Int) (A : List St4) (s : List Int) (k : Nat) (own : List Int) : Prop where
  sound : ∀ x ∈ own, ∃ i j, ∃ h : i < A.length, x = (i : Int) ∧ j < k ∧ goodS T.length (metS T s j) ∧ (A[i]).1 = metS T s j
  full : ∀ j, j < k → goodS T.length (metS T s j) → ∃ i, ∃ h : i < A.length, (i : Int) ∈ own ∧ (A[i]).1 = metS T s j
theorem succ_nil (T : List Int) (A : List St4) (s : List Int) : SuccR T A s 0 [] := ⟨fun x hx => (by cases hx), fun j hj => absurd hj (Nat.not_lt_zero _)⟩
theorem SuccR.mono {T : List Int} {A : List St4} {s : List Int} {k : Nat} {own : List Int} (h : SuccR T A s k own) (X : List St4) : SuccR T (A ++ X) s k own where
  sound x hx := by
    obtain ⟨i, j, hi, h1, h2, h3, h4⟩ := h.sound x hx
    exact ⟨i, j, by simp; omega, h1, h2, h3, by rw [List.getElem_append_left hi]; exact h4⟩
  full j hj hg := by
    obtain ⟨i, hi, h1, h2⟩ := h.full j hj hg
    exact ⟨i, by simp; omega, h1, by rw [List.getElem_append_left hi]; exact h2⟩
theorem SuccR.bad {T : List Int} {A : List St4} {s : List Int} {k : Nat} {own : List Int} (h : SuccR T A s k own) (hb : ¬ goodS T.length (metS T s k)) : SuccR T A s (k + 1) own where
  sound x hx := by
    obtain ⟨i, j, hi, h1, h2, h3, h4⟩ := h.sound x hx
    exact ⟨i, j, hi, h1, by omega, h3, h4⟩
  full j hj hg := by
    rcases Nat.lt_or_ge j k with h1 | h1
    · exact h.full j h1 hg
    · rw [show j = k by omega] at hg; exact absurd hg hb
theorem SuccR.good {T : List Int} {A : List St4} {s : List Int} {k : Nat} {own : List Int} (h : SuccR T A s k own) (hb : goodS T.length (metS T s k)) {i : Nat} (hi : i < A.length) (he : (A[i]).1 = metS T s k) : SuccR T A s (k + 1) (own ++ [(i : Int)]) where
  sound x hx := by
    rcases List.mem_append.1 hx with hx | hx
    · obtain ⟨i, j, hi, h1, h2, h3, h4⟩ := h.sound x hx
      exact ⟨i, j, hi, h1, by omega, h3, h4⟩
    · rw [List.mem_singleton] at hx
      exact ⟨i, k, hi, hx, by omega, hb, he⟩
  full j hj hg := by
    rcases Nat.lt_or_ge j k with h1 | h1
    · obtain ⟨i, hi, h2, h3⟩ := h.full j h1 hg
      exact ⟨i, hi, List.mem_append_left _ h2, h3⟩
    · have : j = k := by omega
      subst this
      exact ⟨i, hi, by simp, he⟩
def BehR (T : List Int) (A : List St4) (B : List (List Int)) : Prop := ∀ i (h : i < A.length), i < B.length → SuccR T A (A[i]).1 T.length (B.getD i [])
theorem BehR.mono {T : List Int} {A : List St4} {B : List (List Int)} (h : BehR T A B) (hl : B.length ≤ A.length) (X : List St4) : BehR T (A ++ X) B := fun i hi hb => by
  rw [List.getElem_append_left (show i < A.length by omega)]
  exact (h i (by omega) hb).mono X
theorem BehR.snoc {T : List Int} {A : List St4} {B : List (List Int)} {own : List Int} (h : BehR T A B) (hl : B.length < A.length) (hn : SuccR T A (A[B.length]).1 T.length own) : BehR T A (B ++ [own]) := fun i hi hb => by
  by_cases e : i < B.length
  · rw [getD_app_l e]; exact h i hi e
  · have : i = B.length := by simp at hb; omega
    subst this
    rw [getD_snoc]; exact hn
open Classical in
/-- What is gone after so many rounds. -/
noncomputable def goneB (T : List Int) (k : Nat) (s : List Int) : Bool := !decide (canS T k s)
theorem goneB_false {T : List Int} {k : Nat} {s : List Int} : goneB T k s = false ↔ canS T k s := by unfold goneB; simp
theorem goneB_true {T : List Int} {k : Nat} {s : List Int} : goneB T k s = true ↔ ¬ canS T k s := by unfold goneB; simp
def GoneR (T : List Int) (A : List St4) (k : Nat) (G : List Bool) : Prop := G.length = A.length ∧ ∀ i (h : i < A.length), G.getD i false = goneB T k (A[i]).1
theorem gone_next {T : List Int} {A : List St4} {B : List (List Int)} {k : Nat} {G : List Bool} (hB : BehR T A B) (hG : GoneR T A k G) {i : Nat} (hi : i < A.length) (hb : i < B.length) :
    (!((B.getD i []).any fun x => !(G.getD x.toNat false))) = goneB T (k + 1) (A[i]).1 := by
  have hS := hB i hi hb
  cases hg : goneB T (k + 1) (A[i]).1 with
  | false =>
    obtain ⟨j, h1, h2, h3⟩ := goneB_false.1 hg
    obtain ⟨p, hp, h4, h5⟩ := hS.full j h1 h2
    rw [Bool.not_eq_false', List.any_eq_true]
    refine ⟨(p : Int), h4, ?_⟩
    rw [Int.toNat_natCast, hG.2 p hp, h5, goneB_false.2 h3]; rfl
  | true =>
    rw [Bool.not_eq_true', List.any_eq_false]
    intro x hx
    obtain ⟨p, j, hp, rfl, h1, h2, h3⟩ := hS.sound x hx
    rw [Int.toNat_natCast, hG.2 p hp, h3]
    cases h4 : goneB T k (metS T (A[i]).1 j) with
    | true => simp
    | false => exact absurd ⟨j, h1, h2, goneB_false.1 h4⟩ (goneB_true.1 hg)
/-- Nothing more goes: what is there goes on for ever. -/
theorem gone_stop {T : List Int} {A : List St4} {B : List (List Int)} {m : MapI} {k : Nat} (hA : Bfs T A m) (hB : BehR T A B) (hl : B.length = A.length) (h : ∀ i (h : i < A.length), goneB T (k + 1) (A[i]).1 = goneB T k (A[i]).1) (h0 : canS T k (startS T)) : everS T (startS T) := by
  have key : ∀ d i (hi : i < A.length), canS T k (A[i]).1 → canS T (k + d) (A[i]).1 := by
    intro d
    induction d with
    | zero => exact fun i hi hc => hc
    | succ d ih =>
      intro i hi hc
      have h1 : canS T (k + 1) (A[i]).1 := by rw [← goneB_false, h i hi, goneB_false]; exact hc
      obtain ⟨j, h2, h3, h4⟩ := h1
      obtain ⟨p, hp, _, h5⟩ := (hB i hi (by omega)).full j h2 h3
      rw [← h5] at h4
      have := ih p hp h4
      rw [h5] at this
      exact ⟨j, h2, h3, this⟩
  obtain ⟨h1, h2⟩ := hA.first
  intro n
  have := key n 0 h1 (by rw [h2]; exact h0)
  rw [h2] at this
  exact canS_le this (by omega)
theorem bools_one (l : List Bool) : (bools l).all one = true := by
  rw [List.all_eq_true]; intro q hq; obtain ⟨z, _, rfl⟩ := List.mem_map.1 hq; rfl
theorem neqB : ∀ a b : Bool, pureRun C.c.P (binOp .neq 4 (.bool a) (.bool b)) = some (.bool (a != b)) := by
  intro a b
  cases a <;> cases b <;> kernel_rfl
attribute [local irreducible] gOK WS WC WR WD Ends FS YS OpV seqK blockK loopK midK retK rdK asgK rangeEnd sat Cell
section
variable {M : HL} {n0 : Nat} {H : Heap} {v w : Value}
theorem IndexFunc_fs {g : FuncId} {vb : List Value} {P : Int → Bool} {ns : List Int} (hH : hasH M n0 H) (hS : Sl M 1 v (ints ns)) (hl : ns.length ≤ 1000)
    (hy : ∀ c ∈ ns, FS C g ([] ++ [.int .i64 c] ++ vb) H (fun e H' => e = .bool (P c) ∧ H' = H)) :
    FS C 86 [v, .func (.func g) [].toArray vb.toArray] H (fun e H' => (∃ r : Int, e = .int .i64 r ∧ (0 ≤ r ↔ ns.any P = true)) ∧ H' = H) := by
  refine FS.intro (pf := pf86) rfl rfl rfl ?_
  repeat' (first | refine zP ?_ | refine zA ?_ | (refine zM ?_; intro _ _) | refine zX ?_ | (refine zC ?_; intro _ _ _ _) | (refine zS ?_; intro _ _) | (apply Ws <;> intro hg))
  refine WC.loopX [(0, _), (1, _), (7, _)] (fun s : Nat => [(8, .int .i64 (s : Int))]) [] (fun s H' => H' = H ∧ s ≤ ns.length ∧ ∀ i, i < s → P (ns.getD i 0) = false) (fun s => ns.length - s) 0 (by repeat' (first | exact .nil | refine .cons rfl ?_)) rfl ⟨rfl, Nat.zero_le _, fun i h => absurd h (Nat.not_lt_zero _)⟩ ?_
  rintro s _ ⟨rfl, hs, hno⟩
  dsimp only [List.cons_append, List.nil_append]
  repeat' (first | refine zP ?_ | refine zA ?_ | (refine zM ?_; intro _ _) | refine zX ?_ | (refine zC ?_; intro _ _ _ _) | (refine zS ?_; intro _ _) | (apply Ws <;> intro hg))
  refine WC.condP rfl (fun hlt => ?_) (fun hlt => ?_)
  · have hs' : s < ns.length := by omega
    repeat' (first | refine zP ?_ | refine zA ?_ | (refine zM ?_; intro _ _) | refine zX ?_ | (refine zC ?_; intro _ _ _ _) | (refine zS ?_; intro _ _) | (apply Ws <;> intro hg))
    refine WR.callV (by first | exact gN | exact gS rfl) rfl rfl rfl (hy _ (getD_mem hs')) ?_
    rintro _ _ ⟨rfl, rfl⟩
    cases hP : P (ns.getD s 0) with
    | true =>
      repeat' (first | refine zP ?_ | refine zA ?_ | (refine zM ?_; intro _ _) | refine zX ?_ | (refine zC ?_; intro _ _ _ _) | (refine zS ?_; intro _ _) | (apply Ws <;> intro hg))
      refine Ends.ret1 rfl ⟨⟨_, rfl, ?_⟩, rfl⟩
      exact ⟨fun _ => List.any_eq_true.2 ⟨_, getD_mem hs', hP⟩, fun _ => by omega⟩
    | false =>
      repeat' (first | refine zP ?_ | refine zA ?_ | (refine zM ?_; intro _ _) | refine zX ?_ | (refine zC ?_; intro _ _ _ _) | (refine zS ?_; intro _ _) | (apply Ws <;> intro hg))
      refine Ends.loop (s + 1) (by omega) (by repeat' (first | exact .nil | refine .cons rfl ?_)) rfl ⟨rfl, hs', fun i hi => ?_⟩
      by_cases h : i = s
      · rw [h]; exact hP
      · exact hno i (by omega)
  have hsl : ns.length = s := by omega
  subst hsl
  repeat' (first | refine zP ?_ | refine zA ?_ | (refine zM ?_; intro _ _) | refine zX ?_ | (refine zC ?_; intro _ _ _ _) | (refine zS ?_; intro _ _) | (apply Ws <;> intro hg))
  refine Ends.ret1 rfl ⟨⟨_, rfl, ?_⟩, rfl⟩
  refine ⟨fun h => absurd h (by decide), fun h => ?_⟩
  obtain ⟨x, hx, hx2⟩ := List.any_eq_true.1 h
  obtain ⟨i, hi, rfl⟩ := List.mem_iff_getElem.1 hx
  have := hno i hi
  rw [getD_eq hi, hx2] at this
  cases this
theorem ContainsFunc_fs {g : FuncId} {vb : List Value} {P : Int → Bool} {ns : List Int} (hH : hasH M n0 H) (hS : Sl M 1 v (ints ns)) (hl : ns.length ≤ 1000)
    (hy : ∀ c ∈ ns, FS C g ([] ++ [.int .i64 c] ++ vb) H (fun e H' => e = .bool (P c) ∧ H' = H)) :
    FS C 76 [v, .func (.func g) [].toArray vb.toArray] H (fun e H' => e = .bool (ns.any P) ∧ H' = H) := by
  refine FS.intro (pf := pf76) rfl rfl rfl ?_
  repeat' (first | refine zP ?_ | refine zA ?_ | (refine zM ?_; intro _ _) | refine zX ?_ | (refine zC ?_; intro _ _ _ _) | (refine zS ?_; intro _ _) | (apply Ws <;> intro hg))
  refine WR.call (by first | exact gN | exact gS rfl) rfl rfl (IndexFunc_fs hH hS hl hy) ?_
  rintro _ _ ⟨⟨r, rfl, hr⟩, rfl⟩
  repeat' (first | refine zP ?_ | refine zA ?_ | (refine zM ?_; intro _ _) | refine zX ?_ | (refine zC ?_; intro _ _ _ _) | (refine zS ?_; intro _ _) | (apply Ws <;> intro hg))
  refine Ends.ret1 rfl ⟨?_, rfl⟩
  congr 1
  cases ha : ns.any P with
  | true => exact decide_eq_true (hr.2 ha)
  | false => exact decide_eq_false fun h => by rw [hr.1 h] at ha; cases ha
/-- Is it still there? -/
theorem there_fs {p : Nat} {gv : Value} {G : List Bool} (hH : hasH M n0 H) (hm : (p, Ch.row 60 0 0 [gv]) ∈ M) (hS : Sl M 1 gv (bools G)) {c : Int} (hc : 0 ≤ c ∧ c < (G.length : Int)) :
    FS C 77 ([] ++ [.int .i64 c] ++ [.pointer (some ⟨p, 0, some 0⟩)]) H (fun e H' => e = .bool (!(G.getD c.toNat false)) ∧ H' = H) := by
  obtain ⟨k, rfl⟩ : ∃ k : Nat, c = k := ⟨c.toNat, by omega⟩
  refine FS.intro (pf := pf77) rfl rfl rfl ?_
  repeat' (first | refine zP ?_ | refine zA ?_ | (refine zM ?_; intro _ _) | refine zX ?_ | (refine zC ?_; intro _ _ _ _) | (refine zS ?_; intro _ _) | (apply Ws <;> intro hg))
  exact Ends.ret1 rfl ⟨rfl, rfl⟩
theorem EqualB_fs (hH : hasH M n0 H) {xs ys : List Bool} (hS : Sl M 1 v (bools xs)) (hU : Sl M 1 w (bools ys)) (hx : xs.length ≤ 10000) (hy : ys.length ≤ 10000) :
    FS C 78 [v, w] H (fun e H' => e = .bool (decide (xs = ys)) ∧ H' = H) := by
  refine FS.intro (pf := pf78) rfl rfl rfl ?_
  repeat' (first | refine zP ?_ | refine zA ?_ | (refine zM ?_; intro _ _) | refine zX ?_ | (refine zC ?_; intro _ _ _ _) | (refine zS ?_; intro _ _) | (apply Ws <;> intro hg))
  refine WC.condP rfl (fun hne => ?_) (fun hne => ?_)
  · repeat' (first | refine zP ?_ | refine zA ?_ | (refine zM ?_; intro _ _) | refine zX ?_ | (refine zC ?_; intro _ _ _ _) | (refine zS ?_; intro _ _) | (apply Ws <;> intro hg))
    exact Ends.ret1 rfl ⟨by rw [decide_eq_false (fun h => hne (by rw [h]))], rfl⟩
  have hle : xs.length = ys.length := by omega
  repeat' (first | refine zP ?_ | refine zA ?_ | (refine zM ?_; intro _ _) | refine zX ?_ | (refine zC ?_; intro _ _ _ _) | (refine zS ?_; intro _ _) | (apply Ws <;> intro hg))
  refine WC.loopX [(0, _), (1, _), (12, _)] (fun k : Nat => [(13, .int .i64 (k : Int))]) [] (fun k H' => H' = H ∧ k ≤ xs.length ∧ ∀ j, j < k → xs.getD j false = ys.getD j false) (fun k => xs.length - k) 0 (by repeat' (first | exact .nil | refine .cons rfl ?_)) rfl ⟨rfl, Nat.zero_le _, fun j h => absurd h (Nat.not_lt_zero _)⟩ ?_
  rintro k H' ⟨rfl, hk, hno⟩
  dsimp only [List.cons_append, List.nil_append]
  repeat' (first | refine zP ?_ | refine zA ?_ | (refine zM ?_; intro _ _) | refine zX ?_ | (refine zC ?_; intro _ _ _ _) | (refine zS ?_; intro _ _) | (apply Ws <;> intro hg))
  refine WC.condP rfl (fun hlt => ?_) (fun hlt => ?_)
  · have hk' : k < xs.length := by omega
    have hk2 : k < ys.length := by omega
    repeat' (first | refine zP ?_ | refine zA ?_ | (refine zM ?_; intro _ _) | refine zX ?_ | (refine zC ?_; intro _ _ _ _) | (refine zS ?_; intro _ _) | (apply Ws <;> intro hg))
    refine WR.op (by first | exact gN | exact gS rfl) rfl (OpV.neB (neqB _ _) rfl rfl) ?_
    by_cases he : xs.getD k false = ys.getD k false
    · rw [show (xs.getD k false != ys.getD k false) = false by simpa using he]
      repeat' (first | refine zP ?_ | refine zA ?_ | (refine zM ?_; intro _ _) | refine zX ?_ | (refine zC ?_; intro _ _ _ _) | (refine zS ?_; intro _ _) | (apply Ws <;> intro hg))
      refine Ends.loop (k + 1) (by omega) (by repeat' (first | exact .nil | refine .cons rfl ?_)) rfl ⟨rfl, hk', fun j hj => ?_⟩
      rcases Nat.lt_or_ge j k with h | h
      · exact hno j h
      · have : j = k := by omega
        subst this; exact he
    · rw [show (xs.getD k false != ys.getD k false) = true by simpa using he]
      repeat' (first | refine zP ?_ | refine zA ?_ | (refine zM ?_; intro _ _) | refine zX ?_ | (refine zC ?_; intro _ _ _ _) | (refine zS ?_; intro _ _) | (apply Ws <;> intro hg))
      exact Ends.ret1 rfl ⟨by rw [decide_eq_false (fun h => he (by rw [h]))], rfl⟩
  · repeat' (first | refine zP ?_ | refine zA ?_ | (refine zM ?_; intro _ _) | refine zX ?_ | (refine zC ?_; intro _ _ _ _) | (refine zS ?_; intro _ _) | (apply Ws <;> intro hg))
    exact Ends.ret1 rfl ⟨by rw [decide_eq_true (ext_getD (a := false) hle fun i hi => hno i (by omega))], rfl⟩
theorem CloneB_fs (hH : hasH M n0 H) {xs : List Bool} (hS : Sl M 1 v (bools xs)) (hx : xs.length ≤ 10000) (h0 : 1 ≤ xs.length) :
    FS C 75 [v] H (fun e H' => ∃ b n', e = .slice (some ⟨b, 0, some 0⟩) xs.length (2 * 1) ∧ n0 ≤ n' ∧ hasH ((b, .row 4 0 0 (bools xs)) :: M) n' H') := by
  have hne : bools xs ≠ [] := fun h => by have h9 := congrArg List.length h; rw [List.length_map, List.length_nil] at h9; omega
  have hsm : ∃ a len cap, v = .slice (some a) len cap := by
    generalize bools xs = cs at hS hne
    cases hS with
    | nil c => exact absurd rfl hne
    | emp a => exact ⟨_, _, _, rfl⟩
    | row => exact ⟨_, _, _, rfl⟩
  obtain ⟨a, len, cap, rfl⟩ := hsm
  refine FS.intro (pf := pf75) rfl rfl rfl ?_
  repeat' (first | refine zP ?_ | refine zA ?_ | (refine zM ?_; intro _ _) | refine zX ?_ | (refine zC ?_; intro _ _ _ _) | (refine zS ?_; intro _ _) | (apply Ws <;> intro hg))
  refine WR.bldS (by first | exact gN | exact gS rfl) rfl hH (vs := []) rfl (cs := []) (by rfl) rfl fun H3 hH3 => ?_
  repeat' (first | refine zP ?_ | refine zA ?_ | (refine zM ?_; intro _ _) | refine zX ?_ | (refine zC ?_; intro _ _ _ _) | (refine zS ?_; intro _ _) | (apply Ws <;> intro hg))
  obtain ⟨hk, hsr⟩ := (hS.cons (p := (n0, .row 4 0 0 []))).src hH3 hne
  rw [show (bools xs).length = xs.length by simp] at hk
  refine WR.appendNew (by first | exact gN | exact gS rfl) rfl rfl rfl hH3 (.head _) (.row _ _ _ _) (Nat.zero_le _) (Nat.zero_le _) hk (by have := hsr _ (Nat.le_refl _); rw [List.take_length, show (bools xs).length = xs.length by simp] at this; exact this) (by simp) h0 (bools_one _) (by omega) (by omega) (by omega) fun H' hH' => ?_
  repeat' (first | refine zP ?_ | refine zA ?_ | (refine zM ?_; intro _ _) | refine zX ?_ | (refine zC ?_; intro _ _ _ _) | (refine zS ?_; intro _ _) | (apply Ws <;> intro hg))
  exact Ends.ret1 rfl ⟨n0 + 1, n0 + 2, rfl, by omega, hH'.sub (.cons_cons _ (List.sublist_cons_self _ _))⟩
end
end Go.Proofs.Ytnmlfjohoeebiaa.Wk

/- The law's search: how many tides the longest good walk has. -/
namespace Go.Proofs.Ytnmlfjohoeebiaa.Wk
open Go Go.Abs Go.Mth
set_option linter.unusedVariables false
set_option linter.unusedSimpArgs false
theorem mgetV {C : CW} {L : Env} {H : Heap} {M : HL} {n b : Nat} {x y : Operand} {m : MapI} {s : List Int} {r : Int} (hx : ev L x = some (.map (some b))) (hy : ev L y = some (keyI s)) (hH : hasH M n H) (hm : (b, .map (ents m)) ∈ M) (hk : KeysN 4 m) (hs : s.length = 4) (hf : findI m s = some r) :
    OpV C (.mget 7 (.int .i64 0) x y false) L H (.int .i64 r) H := fun t ht => by
  obtain ⟨e, he, hok⟩ := hH.mem hm
  cases e with
  | map l' c =>
    obtain ⟨rfl, _⟩ := hok
    have hb : isKeyK 7 (keyI s) = true := isKeyK_ints (k := 4) hs
    simp only [opA, ev_ok ht hx, ev_ok ht hy, oMget, hb, cond_true, withMap, he]
    rcases find_ents (k := 4) hs (b := 0) (i := 0) hk with ⟨h1, h2⟩ | ⟨v, j, c, h1, h2⟩
    · rw [h1] at hf; cases hf
    · rw [h1] at hf; cases hf
      have h2' : findM 7 (keyI s) (ents m) 0 = some (some (j, ⟨keyI s, .int .i64 r, c⟩)) := h2
      rw [h2']; rfl
  | _ => exact hok.elim
theorem goodS_dec {T s : List Int} {j : Nat} (hT : TOK T) (hs : SOK T s) (hj : j < T.length) : goodS T.length (metS T s j) ↔ ∀ i, i < T.length → i ≠ j → s.getD i 0 - 1 ≠ 0 := by
  rw [not_good (by rw [metS_len, hs.len]) hT.len]
  have get := metS_get (T := T) (s := s) (by rw [hs.len]; exact hT.len) hj
  constructor
  · intro h i hi hne
    have := h i hi
    rwa [get, if_neg hne, if_pos hi] at this
  · intro h i hi
    rw [get]
    by_cases e : i = j
    · rw [if_pos e]; have := hT.lo j hj; omega
    · rw [if_neg e, if_pos hi]; exact h i hi e
structure OV where
  k : Nat
  va : Value
  A : List St4
  MA : HL
  m : MapI
  vb : Value
  ws : List Value
  B : List (List Int)
  MB : HL
  Mi : HL
  n : Nat
structure IV where
  k : Nat
  va : Value
  A : List St4
  MA : HL
  m : MapI
  vo : Value
  own : List Int
  MO : HL
  n : Nat
structure DV where
  k : Nat
  g : Bool
structure GV where
  k : Nat
  gb : Nat
  cp : Nat
  G : List Bool
  n : Nat
def RowsB (M : HL) (ws : List Value) (B : List (List Int)) : Prop := ws.length = B.length ∧ ∀ i, i < B.length → Sl M 1 (ws.getD i undef) (ints (B.getD i []))
theorem rowsB_snoc {M Mi Mr : HL} {ws : List Value} {vs : List (List Int)} {w : Value} {l : List Int} (h : RowsB (Mi ++ M) ws vs) (hw : Sl (Mr ++ M) 1 w (ints l)) : RowsB ((Mr ++ Mi) ++ M) (ws ++ [w]) (vs ++ [l]) := by
  refine ⟨by simp [h.1], fun i hi => ?_⟩
  rw [List.length_append, List.length_singleton] at hi
  by_cases e : i < vs.length
  · rw [getD_app_l (by rw [h.1]; exact e), getD_app_l e]
    refine (h.2 i e).mono fun q hq => ?_
    rw [List.append_assoc]; exact List.mem_append_right _ hq
  · have : i = vs.length := by omega
    subst this
    rw [getD_snoc, show (ws ++ [w]).getD vs.length undef = w by rw [← h.1]; exact getD_snoc]
    refine hw.mono fun q hq => ?_
    rcases List.mem_append.1 hq with h | h
    · exact List.mem_append_left _ (List.mem_append_left _ h)
    · exact List.mem_append_right _ h
theorem RowsB.one {M : HL} {ws : List Value} {B : List (List Int)} (h : RowsB M ws B) : ws.all one = true := by
  rw [List.all_eq_true]
  intro q hq
  obtain ⟨i, hi, rfl⟩ := List.mem_iff_getElem.1 hq
  have := (h.2 i (by rw [← h.1]; exact hi)).one_
  rwa [getD_eq hi] at this
theorem fill1 {v : Value} (h : one v = true) : Instr.fill (fun j => some (j * 1, 1)) [Value.slice none 0 0].toArray [(0, v)] = some [v].toArray := by
  cases v <;> first | rfl | cases h
theorem cellsF_snoc (A : List St4) (a : St4) : cellsF F4 (A ++ [a]) = cellsF F4 A ++ ints a.1 := by simp [cellsF, F4]
attribute [local irreducible] gOK WS WC WR WD Ends FS YS OpV seqK blockK loopK midK retK rdK asgK rangeEnd sat Cell
section
variable {M : HL} {n0 : Nat} {H : Heap} {v w : Value}
set_option maxHeartbeats 2000000 in
theorem longest_fs (hH : hasH M n0 H) {T : List Int} (hS : Sl M 1 v (ints T)) (hT : TOK T) (h1 : 1 ≤ T.length) :
    FS C 42 [v] H (fun e H' => ∃ r n', e = .int .i64 r ∧ MoreR T (startS T) r ∧ n0 ≤ n' ∧ hasH M n' H') := by
  have hTl := hT.len
  have hsl := startS_len hTl
  have hsli : (ints (startS T)).length = 4 := by simp [hsl]
  refine FS.intro (pf := pf42) rfl rfl rfl ?_
  repeat' (first | refine zP ?_ | refine zA ?_ | (refine zM ?_; intro _ _) | refine zX ?_ | (refine zC ?_; intro _ _ _ _) | (refine zS ?_; intro _ _) | (apply Ws <;> intro hg))
  rename_i H1 hH1
  refine WR.op (by first | exact gN | exact gS rfl) rfl (OpV.slA rfl (by omega)) ?_
  repeat' (first | refine zP ?_ | refine zA ?_ | (refine zM ?_; intro _ _) | refine zX ?_ | (refine zC ?_; intro _ _ _ _) | (refine zS ?_; intro _ _) | (apply Ws <;> intro hg))
  refine WR.copyMin (by first | exact gN | exact gS rfl) rfl rfl rfl hS.cons hH1 .here (ints_one _) (Nat.le_refl _) (m := T.length) (by rw [List.length_map]; exact Nat.min_eq_left hTl) h1 (by simp only [List.length_cons, List.length_nil]; omega) rfl fun H3 hH3 => ?_
  rw [start_splice hTl] at hH3
  repeat' (first | refine zP ?_ | refine zA ?_ | (refine zM ?_; intro _ _) | refine zX ?_ | (refine zC ?_; intro _ _ _ _) | (refine zS ?_; intro _ _) | (apply Ws <;> intro hg))
  refine WR.bldS (by first | exact gN | exact gS rfl) rfl hH3 (vs := [(0, keyI (startS T))]) rfl (cs := ints (startS T)) (fill4 hsl) (ints_one _) fun H4 hH4 => ?_
  repeat' (first | refine zP ?_ | refine zA ?_ | (refine zM ?_; intro _ _) | refine zX ?_ | (refine zC ?_; intro _ _ _ _) | (refine zS ?_; intro _ _) | (apply Ws <;> intro hg))
  refine WR.mkM (by first | exact gN | exact gS rfl) rfl hH4 fun H5 hH5 => ?_
  repeat' (first | refine zP ?_ | refine zA ?_ | (refine zM ?_; intro _ _) | refine zX ?_ | (refine zC ?_; intro _ _ _ _) | (refine zS ?_; intro _ _) | (apply Ws <;> intro hg))
  refine WR.mput (kn := 4) (s := startS T) (v := 0) (by first | exact gN | exact gS rfl) rfl rfl rfl hH5 .here (KeysN.nil 4) hsl fun H6 hH6 => ?_
  replace hH6 : hasH ((n0 + 1 + 1, .map (ents [(startS T, 0)])) :: ((n0 + 1, .row 53 0 0 (ints (startS T))) :: M)) (n0 + 1 + 1 + 1) H6 := hH6.sub (.cons_cons _ (.cons_cons _ (List.sublist_cons_self _ _)))
  clear hH1 hH3 hH4 hH5 hH
  repeat' (first | refine zP ?_ | refine zA ?_ | (refine zM ?_; intro _ _) | refine zX ?_ | (refine zC ?_; intro _ _ _ _) | (refine zS ?_; intro _ _) | (apply Ws <;> intro hg))
  have hH7 : hasH ((n0 + 1 + 1, .map (ents [(startS T, 0)])) :: ([(n0 + 1, .inp 53 0 0 (cellsF F4 [⟨startS T, hsl⟩]))] ++ ([] ++ ([] ++ M)))) (n0 + 1 + 1 + 1) H6 := by
    have := hH6.asInp (.there .here)
    simpa [cellsF, F4] using this
  refine WC.loopX [(0, v), (5, .map (some (n0 + 1 + 1)))] (fun z : OV => [(7, .int .i64 (z.k : Int)), (4, z.va), (6, z.vb)]) []
    (fun z H' => z.k ≤ z.A.length ∧ z.B.length = z.k ∧ Bfs T z.A z.m ∧ BehR T z.A z.B ∧ (∀ l ∈ z.B, l.length ≤ 4) ∧ Own 53 4 z.va (cellsF F4 z.A) z.MA ∧ Own 22 1 z.vb z.ws z.MB ∧ RowsB (z.Mi ++ M) z.ws z.B ∧ n0 + 1 + 1 < z.n ∧ hasH ((n0 + 1 + 1, .map (ents z.m)) :: (z.MA ++ (z.MB ++ (z.Mi ++ M)))) z.n H')
    (fun z => 7000 - z.k) ⟨0, .slice (some ⟨n0 + 1, 0, some 0⟩) 1 (2 * 1 + 1), [⟨startS T, hsl⟩], [(n0 + 1, .inp 53 0 0 (cellsF F4 [⟨startS T, hsl⟩]))], [(startS T, 0)], .slice none 0 0, [], [], [], [], n0 + 1 + 1 + 1⟩ (by repeat' (first | exact .nil | refine .cons rfl ?_)) rfl
    ⟨Nat.zero_le _, rfl, bfs_one hT, fun i _ hb => absurd hb (Nat.not_lt_zero _), fun l hl => (by cases hl), .full (by simp [cellsF, F4, hsl]) (by simp only [cellsF, List.map_cons, List.map_nil, List.flatten_cons, List.flatten_nil, List.append_nil]; exact F4_one _), .nil, ⟨rfl, fun i hi => absurd hi (Nat.not_lt_zero _)⟩, by simp only; omega, hH7⟩ ?_
  clear hH6 hH7
  generalize hbb : n0 + 1 + 1 = b
  rintro ⟨k, va, A, MA, m, vb, ws, B, MB, Mi, n1⟩ H8 ⟨hk, hBl, hA, hB, hB4, hOA, hOB, hR, hn1, hH8⟩
  simp only at hk hBl hA hB hB4 hOA hOB hR hn1 hH8
  have hcnt := hA.cnt
  have hSA : Sl ((b, .map (ents m)) :: (MA ++ (MB ++ (Mi ++ M)))) 4 va (cellsF F4 A) := (hOA.sl _).cons
  dsimp only [List.cons_append, List.nil_append]
  repeat' (first | refine zP ?_ | refine zA ?_ | (refine zM ?_; intro _ _) | refine zX ?_ | (refine zC ?_; intro _ _ _ _) | (refine zS ?_; intro _ _) | (apply Ws <;> intro hg))
  refine WR.op (by first | exact gN | exact gS rfl) rfl (OpV.lenK F4_len (by decide) rfl hSA) ?_
  repeat' (first | refine zP ?_ | refine zA ?_ | (refine zM ?_; intro _ _) | refine zX ?_ | (refine zC ?_; intro _ _ _ _) | (refine zS ?_; intro _ _) | (apply Ws <;> intro hg))
  refine WC.condP rfl (fun hlt => ?_) (fun hlt => ?_)
  · have hk' : k < A.length := by omega
    have hST : Sl ((b, .map (ents m)) :: (MA ++ (MB ++ (Mi ++ M)))) 1 v (ints T) := (hS.mono fun q hq => List.mem_append_right _ (List.mem_append_right _ (List.mem_append_right _ hq))).cons
    repeat' (first | refine zP ?_ | refine zA ?_ | (refine zM ?_; intro _ _) | refine zX ?_ | (refine zC ?_; intro _ _ _ _) | (refine zS ?_; intro _ _) | (apply Ws <;> intro hg))
    refine WC.loopX [(0, v), (5, .map (some b)), (6, vb), (7, .int .i64 (k : Int)), (35, .int .i64 (T.length : Int))] (fun z : IV => [(36, .int .i64 (z.k : Int)), (4, z.va), (8, z.vo)]) []
      (fun z H' => z.k ≤ T.length ∧ k < z.A.length ∧ Bfs T z.A z.m ∧ BehR T z.A B ∧ Own 53 4 z.va (cellsF F4 z.A) z.MA ∧ Own 3 1 z.vo (ints z.own) z.MO ∧ z.own.length ≤ z.k ∧ (∀ h : k < z.A.length, SuccR T z.A (z.A[k]).1 z.k z.own) ∧ b < z.n ∧ hasH ((b, .map (ents z.m)) :: (z.MA ++ (z.MO ++ (MB ++ (Mi ++ M))))) z.n H')
      (fun z => T.length - z.k) ⟨0, va, A, MA, m, .slice none 0 0, [], [], n1⟩ (by repeat' (first | exact .nil | refine .cons rfl ?_)) rfl
      ⟨Nat.zero_le _, hk', hA, hB, hOA, .nil, Nat.le_refl _, fun _ => succ_nil _ _ _, by simp only; omega, hH8⟩ ?_
    clear hH8 hST hSA hOA hA hB hk hk' hcnt hlt
    rintro ⟨k2, va2, A2, MA2, m2, vo, own, MO, n2⟩ H9 ⟨hk2, hkA, hA2, hB2, hOA2, hOO, hol, hSu, hn2, hH9⟩
    simp only at hk2 hkA hA2 hB2 hOA2 hOO hol hSu hn2 hH9
    have hcnt2 := hA2.cnt
    have hST : Sl ((b, .map (ents m2)) :: (MA2 ++ (MO ++ (MB ++ (Mi ++ M))))) 1 v (ints T) := (hS.mono fun q hq => List.mem_append_right _ (List.mem_append_right _ (List.mem_append_right _ (List.mem_append_right _ hq)))).cons
    have hSA : Sl ((b, .map (ents m2)) :: (MA2 ++ (MO ++ (MB ++ (Mi ++ M))))) 4 va2 (cellsF F4 A2) := (hOA2.sl _).cons
    dsimp only [List.cons_append, List.nil_append]
    repeat' (first | refine zP ?_ | refine zA ?_ | (refine zM ?_; intro _ _) | refine zX ?_ | (refine zC ?_; intro _ _ _ _) | (refine zS ?_; intro _ _) | (apply Ws <;> intro hg))
    refine WC.condP rfl (fun hlt2 => ?_) (fun hlt2 => ?_)
    · have hk2' : k2 < T.length := by omega
      have hsk := hA2.ok k hkA
      repeat' (first | refine zP ?_ | refine zA ?_ | (refine zM ?_; intro _ _) | refine zX ?_ | (refine zC ?_; intro _ _ _ _) | (refine zS ?_; intro _ _) | (apply Ws <;> intro hg))
      refine WR.idxK F4_len (by decide) (by first | exact gN | exact gS rfl) rfl rfl hSA rfl hkA fun b3 o3 u3 hP => ?_
      refine WR.op (by first | exact gN | exact gS rfl) rfl (OpV.loadK rfl hP hH9 (F4_len _)) ?_
      obtain ⟨s, hse⟩ : ∃ s, (A2[k]).1 = s := ⟨_, rfl⟩
      have hF : F4 A2[k] = ints s := by rw [← hse]; rfl
      rw [hF]
      rw [hse] at hsk
      have hli : (ints s).length = 4 := by simp [hsk.len]
      repeat' (first | refine zP ?_ | refine zA ?_ | (refine zM ?_; intro _ _) | refine zX ?_ | (refine zC ?_; intro _ _ _ _) | (refine zS ?_; intro _ _) | (apply Ws <;> intro hg))
      rename_i H10 hH10
      refine WR.storeA (s := s) (by first | exact gN | exact gS rfl) hH10 rfl rfl hsk.len .here rfl fun H11 hH11 => ?_
      clear hH10 hH9
      replace hH11 : hasH ((n2, .row 53 0 0 (ints (decS 0 s))) :: (b, .map (ents m2)) :: (MA2 ++ (MO ++ (MB ++ (Mi ++ M))))) (n2 + 1) H11 := by simpa [decS] using hH11
      have hST' := hST.cons (p := (n2, .row 53 0 0 (ints (decS 0 s))))
      repeat' (first | refine zP ?_ | refine zA ?_ | (refine zM ?_; intro _ _) | refine zX ?_ | (refine zC ?_; intro _ _ _ _) | (refine zS ?_; intro _ _) | (apply Ws <;> intro hg))
      clear hST'
      refine WC.loopX [(0, v), (4, va2), (5, .map (some b)), (6, vb), (7, .int .i64 (k : Int)), (8, vo), (9, .int .i64 (k2 : Int)), (10, .pointer (some ⟨n2, 0, some 0⟩)), (35, .int .i64 (T.length : Int)), (36, .int .i64 (k2 : Int)), (44, .int .i64 (T.length : Int))] (fun z : DV => [(45, .int .i64 (z.k : Int)), (11, .bool z.g)]) []
        (fun z H' => z.k ≤ T.length ∧ (z.g = true ↔ ∀ i, i < z.k → i ≠ k2 → s.getD i 0 - 1 ≠ 0) ∧ hasH ((n2, .row 53 0 0 (ints (decS z.k s))) :: (b, .map (ents m2)) :: (MA2 ++ (MO ++ (MB ++ (Mi ++ M))))) (n2 + 1) H')
        (fun z => T.length - z.k) ⟨0, true⟩ (by repeat' (first | exact .nil | refine .cons rfl ?_)) rfl ⟨Nat.zero_le _, ⟨fun _ i hi => absurd hi (Nat.not_lt_zero _), fun _ => rfl⟩, hH11⟩ ?_
      clear hH11
      rintro ⟨k3, g⟩ H12 ⟨hk3, hg, hH12⟩
      simp only at hk3 hg hH12
      dsimp only [List.cons_append, List.nil_append]
      repeat' (first | refine zP ?_ | refine zA ?_ | (refine zM ?_; intro _ _) | refine zX ?_ | (refine zC ?_; intro _ _ _ _) | (refine zS ?_; intro _ _) | (apply Ws <;> intro hg))
      refine WC.condP rfl (fun hlt3 => ?_) (fun hlt3 => ?_)
      · have hk3' : k3 < T.length := by omega
        have hdl : (decS k3 s).length = 4 := by rw [decS_len, hsk.len]
        have hdg := decS_get (n := k3) (s := s) (by rw [hsk.len]; omega) k3
        rw [if_neg (Nat.lt_irrefl k3)] at hdg
        have hb8 := hsk.bnd hT k3 (by omega)
        have hdn := decS_next (k := k3) (s := s) (by rw [hsk.len]; omega)
        have hdl2 : (decS (k3 + 1) s).length = 4 := by rw [decS_len, hsk.len]
        have hdg2 := decS_get (n := k3 + 1) (s := s) (by rw [hsk.len]; omega) k3
        rw [if_pos (Nat.lt_succ_self k3)] at hdg2
        by_cases e1 : k3 = k2
        · repeat' (first | refine zP ?_ | refine zA ?_ | (refine zM ?_; intro _ _) | refine zX ?_ | (refine zC ?_; intro _ _ _ _) | (refine zS ?_; intro _ _) | refine zO ?_ | (apply Ws <;> intro hg))
          rename_i H13 hH13
          rw [hdn] at hH13
          refine Ends.loop ⟨k3 + 1, g⟩ (by simp only; omega) (by repeat' (first | exact .nil | refine .cons rfl ?_)) rfl ⟨hk3', ?_, hH13⟩
          show g = true ↔ ∀ i, i < k3 + 1 → i ≠ k2 → s.getD i 0 - 1 ≠ 0
          rw [hg]
          exact ⟨fun h i hi hne => h i (by omega) hne, fun h i hi hne => h i (by omega) hne⟩
        · have hvv : ((decS k3 s).set k3 ((decS k3 s).getD k3 0 - 1)).getD k3 0 = s.getD k3 0 - 1 := by rw [hdn, hdg2]
          have hsl9 : ((decS k3 s).set k3 ((decS k3 s).getD k3 0 - 1)).length = 4 := by rw [List.length_set, hdl]
          by_cases e2 : s.getD k3 0 - 1 = 0
          · repeat' (first | refine zP ?_ | refine zA ?_ | (refine zM ?_; intro _ _) | refine zX ?_ | (refine zC ?_; intro _ _ _ _) | (refine zS ?_; intro _ _) | refine zO ?_ | (apply Ws <;> intro hg))
            rename_i H13 hH13
            rw [hdn] at hH13
            refine Ends.loop ⟨k3 + 1, false⟩ (by simp only; omega) (by repeat' (first | exact .nil | refine .cons rfl ?_)) rfl ⟨hk3', ?_, hH13⟩
            show false = true ↔ ∀ i, i < k3 + 1 → i ≠ k2 → s.getD i 0 - 1 ≠ 0
            exact ⟨fun h => (by cases h), fun h => absurd e2 (h k3 (by omega) e1)⟩
          · repeat' (first | refine zP ?_ | refine zA ?_ | (refine zM ?_; intro _ _) | refine zX ?_ | (refine zC ?_; intro _ _ _ _) | (refine zS ?_; intro _ _) | refine zO ?_ | (apply Ws <;> intro hg))
            rename_i H13 hH13
            rw [hdn] at hH13
            refine Ends.loop ⟨k3 + 1, g⟩ (by simp only; omega) (by repeat' (first | exact .nil | refine .cons rfl ?_)) rfl ⟨hk3', ?_, hH13⟩
            show g = true ↔ ∀ i, i < k3 + 1 → i ≠ k2 → s.getD i 0 - 1 ≠ 0
            rw [hg]
            refine ⟨fun h i hi hne => ?_, fun h i hi hne => h i (by omega) hne⟩
            rcases Nat.lt_or_ge i k3 with h3 | h3
            · exact h i h3 hne
            · rw [show i = k3 by omega]; exact e2
      · have hk3n : k3 = T.length := by omega
        subst hk3n
        have hdl : (decS T.length s).length = 4 := by rw [decS_len, hsk.len]
        have hgood : g = true ↔ goodS T.length (metS T s k2) := by rw [hg, goodS_dec hT hsk hk2']
        have hST' := hST.cons (p := (n2, .row 53 0 0 (ints (decS T.length s))))
        repeat' (first | refine zP ?_ | refine zA ?_ | (refine zM ?_; intro _ _) | refine zX ?_ | (refine zC ?_; intro _ _ _ _) | (refine zS ?_; intro _ _) | (apply Ws <;> intro hg))
        rename_i H13 hH13
        clear hH12 hST'
        have hml : (metS T s k2).length = 4 := by rw [metS_len, hsk.len]
        have hmi : (ints (metS T s k2)).length = 4 := by simp [hml]
        replace hH13 : hasH ((n2, .row 53 0 0 (ints (metS T s k2))) :: (b, .map (ents m2)) :: (MA2 ++ (MO ++ (MB ++ (Mi ++ M))))) (n2 + 1) H13 := hH13
        cases hgv : g with
        | false =>
          have hbad : ¬ goodS T.length (metS T s k2) := fun h => by rw [hgood.2 h] at hgv; cases hgv
          repeat' (first | refine zP ?_ | refine zA ?_ | (refine zM ?_; intro _ _) | refine zX ?_ | (refine zC ?_; intro _ _ _ _) | (refine zS ?_; intro _ _) | (apply Ws <;> intro hg))
          refine Ends.loop ⟨k2 + 1, va2, A2, MA2, m2, vo, own, MO, n2 + 1⟩ (by simp only; omega) (by repeat' (first | exact .nil | refine .cons rfl ?_)) rfl ⟨hk2', hkA, hA2, hB2, hOA2, hOO, by simp only; omega, fun h => ?_, by simp only; omega, hH13.tail⟩
          have := (hSu h).bad (by rw [hse]; exact hbad)
          exact this
        | true =>
          have hgd : goodS T.length (metS T s k2) := hgood.1 hgv
          have hmok := met_ok hT hsk hk2' hgd
          have hone10 := ints_one (metS T s k2)
          repeat' (first | refine zP ?_ | refine zA ?_ | (refine zM ?_; intro _ _) | refine zX ?_ | (refine zC ?_; intro _ _ _ _) | (refine zS ?_; intro _ _) | (apply Ws <;> intro hg))
          cases hf : findI m2 (metS T s k2) with
          | some r =>
            obtain ⟨i, hi, rfl, he⟩ := hA2.inv _ _ hf
            refine WR.op (by first | exact gN | exact gS rfl) rfl (mgetS (s := metS T s k2) rfl rfl hH13 (.tail _ (.head _)) hA2.keys hml hf) ?_
            repeat' (first | refine zP ?_ | refine zA ?_ | (refine zM ?_; intro _ _) | refine zX ?_ | (refine zC ?_; intro _ _ _ _) | (refine zS ?_; intro _ _) | (apply Ws <;> intro hg))
            refine WR.op (by first | exact gN | exact gS rfl) rfl (mgetV (s := metS T s k2) rfl rfl hH13 (.tail _ (.head _)) hA2.keys hml hf) ?_
            refine WR.append1F ((n2, .row 53 0 0 (ints (metS T s k2))) :: (b, .map (ents m2)) :: MA2) MO (MB ++ (Mi ++ M)) rfl rfl rfl rfl hOO hH13 (new := [.int .i64 (i : Int)]) (by rfl) rfl rfl (Nat.le_refl _) (by omega) (by simp; omega) fun v3 M3 n4 H14 hO3 hH14 hn4 => ?_
            replace hH14 : hasH ((n2, .row 53 0 0 (ints (metS T s k2))) :: (b, .map (ents m2)) :: (MA2 ++ (M3 ++ (MB ++ (Mi ++ M))))) n4 H14 := hH14
            repeat' (first | refine zP ?_ | refine zA ?_ | (refine zM ?_; intro _ _) | refine zX ?_ | (refine zC ?_; intro _ _ _ _) | (refine zS ?_; intro _ _) | (apply Ws <;> intro hg))
            refine Ends.loop ⟨k2 + 1, va2, A2, MA2, m2, v3, own ++ [(i : Int)], M3, n4⟩ (by simp only; omega) (by repeat' (first | exact .nil | refine .cons rfl ?_)) rfl ⟨hk2', hkA, hA2, hB2, hOA2, ?_, by simp only [List.length_append, List.length_singleton]; omega, fun h => ?_, by simp only; omega, hH14.tail⟩
            · show Own _ 1 v3 (List.map (Value.int .i64) (own ++ [(i : Int)])) M3
              rw [List.map_append]; exact hO3
            · have := (hSu h).good (by rw [hse]; exact hgd) hi (by rw [hse]; exact he)
              exact this
          | none =>
            refine WR.op (by first | exact gN | exact gS rfl) rfl (mgetN (s := metS T s k2) rfl rfl hH13 (.tail _ (.head _)) hA2.keys hml hf) ?_
            repeat' (first | refine zP ?_ | refine zA ?_ | (refine zM ?_; intro _ _) | refine zX ?_ | (refine zC ?_; intro _ _ _ _) | (refine zS ?_; intro _ _) | (apply Ws <;> intro hg))
            refine WR.op (by first | exact gN | exact gS rfl) rfl (OpV.lenK F4_len (by decide) rfl (hSA.cons (p := (n2, .row 53 0 0 (ints (metS T s k2)))))) ?_
            refine WR.mput (kn := 4) (s := metS T s k2) (v := (A2.length : Int)) (by first | exact gN | exact gS rfl) rfl rfl rfl hH13 (.there .here) hA2.keys hml fun H14 hH14 => ?_
            obtain ⟨a, ha⟩ : ∃ a : St4, a.1 = metS T s k2 := ⟨⟨metS T s k2, hml⟩, rfl⟩
            have hA3 := bfs_more hT hA2 (a := a) (by rw [ha]; exact hmok) (by rw [ha]; exact hf)
            have hf3 : findI (putI m2 (metS T s k2) (A2.length : Int)) (metS T s k2) = some (A2.length : Int) := by rw [findI_put, if_pos rfl]
            have hk9 := hA2.keys.put hml (A2.length : Int)
            rw [ha] at hA3
            have hB3 := hB2.mono (by omega) [a]
            repeat' (first | refine zP ?_ | refine zA ?_ | (refine zM ?_; intro _ _) | refine zX ?_ | (refine zC ?_; intro _ _ _ _) | (refine zS ?_; intro _ _) | (apply Ws <;> intro hg))
            refine WR.append1F [(n2, .row 53 0 0 (ints (metS T s k2))), (b, .map (ents (putI m2 (metS T s k2) (A2.length : Int))))] MA2 (MO ++ (MB ++ (Mi ++ M))) rfl rfl rfl rfl hOA2 hH14 (new := ints (metS T s k2)) (fill4 hml) hone10 hmi (by omega) (by omega) (by rw [cellsF_len F4_len, hmi]; omega) fun v3 M3 n4 H15 hO3 hH15 hn4 => ?_
            replace hH15 : hasH ((n2, .row 53 0 0 (ints (metS T s k2))) :: (b, .map (ents (putI m2 (metS T s k2) (A2.length : Int)))) :: (M3 ++ (MO ++ (MB ++ (Mi ++ M))))) n4 H15 := hH15
            clear hH14 hH13
            generalize putI m2 (metS T s k2) (A2.length : Int) = m4 at *
            repeat' (first | refine zP ?_ | refine zA ?_ | (refine zM ?_; intro _ _) | refine zX ?_ | (refine zC ?_; intro _ _ _ _) | (refine zS ?_; intro _ _) | (apply Ws <;> intro hg))
            refine WR.op (by first | exact gN | exact gS rfl) rfl (mgetV (s := metS T s k2) rfl rfl hH15 (.tail _ (.head _)) hk9 hml hf3) ?_
            refine WR.append1F ((n2, .row 53 0 0 (ints (metS T s k2))) :: (b, .map (ents m4)) :: M3) MO (MB ++ (Mi ++ M)) rfl rfl rfl rfl hOO hH15 (new := [.int .i64 (A2.length : Int)]) (by rfl) rfl rfl (Nat.le_refl _) (by omega) (by simp; omega) fun v5 M5 n5 H16 hO5 hH16 hn5 => ?_
            replace hH16 : hasH ((n2, .row 53 0 0 (ints (metS T s k2))) :: (b, .map (ents m4)) :: (M3 ++ (M5 ++ (MB ++ (Mi ++ M))))) n5 H16 := hH16
            repeat' (first | refine zP ?_ | refine zA ?_ | (refine zM ?_; intro _ _) | refine zX ?_ | (refine zC ?_; intro _ _ _ _) | (refine zS ?_; intro _ _) | (apply Ws <;> intro hg))
            refine Ends.loop ⟨k2 + 1, v3, A2 ++ [a], M3, m4, v5, own ++ [(A2.length : Int)], M5, n5⟩ (by simp only; omega) (by repeat' (first | exact .nil | refine .cons rfl ?_)) rfl ⟨hk2', by simp only [List.length_append, List.length_singleton]; omega, hA3, hB3, ?_, ?_, by simp only [List.length_append, List.length_singleton]; omega, fun h => ?_, by simp only; omega, hH16.tail⟩
            · show Own _ 4 v3 (cellsF F4 (A2 ++ [a])) M3
              rw [cellsF_snoc, ha]; exact hO3
            · show Own _ 1 v5 (List.map (Value.int .i64) (own ++ [(A2.length : Int)])) M5
              rw [List.map_append]; exact hO5
            · show SuccR T (A2 ++ [a]) ((A2 ++ [a])[k]).1 (k2 + 1) (own ++ [(A2.length : Int)])
              rw [List.getElem_append_left hkA]
              exact ((hSu hkA).mono [a]).good (by rw [hse]; exact hgd) (by simp) (by rw [hse]; simpa using ha)
    · have hk2n : k2 = T.length := by omega
      subst hk2n
      have hvo1 := (hOO.sl (MB ++ (Mi ++ M))).one_
      have hwl := hR.1
      have hw1 := hR.one
      repeat' (first | refine zP ?_ | refine zA ?_ | (refine zM ?_; intro _ _) | refine zX ?_ | (refine zC ?_; intro _ _ _ _) | (refine zS ?_; intro _ _) | (apply Ws <;> intro hg))
      refine WR.append1F ((b, .map (ents m2)) :: (MA2 ++ MO)) MB (Mi ++ M) rfl rfl rfl rfl hOB (by have := hH9; rw [← List.append_assoc] at this; exact this) (new := [vo]) (fill1 hvo1) (by simp [hvo1]) rfl (Nat.le_refl _) (by omega) (by simp; omega) fun v3 M3 n4 H14 hO3 hH14 hn4 => ?_
      have hH15 : hasH ((b, .map (ents m2)) :: (MA2 ++ (M3 ++ ((MO ++ Mi) ++ M)))) n4 H14 := by
        refine hH14.perm (List.Perm.cons _ ?_)
        show (MA2 ++ MO ++ (M3 ++ (Mi ++ M))).Perm _
        rw [List.append_assoc, List.append_assoc MO]
        exact List.Perm.append_left _ (List.perm_append_comm_assoc _ _ _)
      repeat' (first | refine zP ?_ | refine zA ?_ | (refine zM ?_; intro _ _) | refine zX ?_ | (refine zC ?_; intro _ _ _ _) | (refine zS ?_; intro _ _) | (apply Ws <;> intro hg))
      refine Ends.loop ⟨k + 1, va2, A2, MA2, m2, v3, ws ++ [vo], B ++ [own], M3, MO ++ Mi, n4⟩ (by simp only; omega) (by repeat' (first | exact .nil | refine .cons rfl ?_)) rfl ⟨by simp only; omega, by simp [hBl], hA2, ?_, ?_, hOA2, hO3, rowsB_snoc hR (hOO.sl M), by simp only; omega, hH15⟩
      · refine hB2.snoc (by omega) ?_
        have := hSu hkA
        simpa only [hBl] using this
      · intro l hl
        rcases List.mem_append.1 hl with hl | hl
        · exact hB4 l hl
        · rw [List.mem_singleton] at hl; subst hl; omega
  · have hkn : k = A.length := by omega
    have hBA : B.length = A.length := by omega
    have hwl := hR.1
    have hZM : M.Sublist ((b, .map (ents m)) :: (MA ++ (MB ++ (Mi ++ M)))) := .cons _ (((List.sublist_append_right _ _).trans (List.sublist_append_right _ _)).trans (List.sublist_append_right _ _))
    have hSB : Sl ((b, .map (ents m)) :: (MA ++ (MB ++ (Mi ++ M)))) 1 vb ws := ((hOB.sl (Mi ++ M)).mono fun q hq => List.mem_append_right _ hq).cons
    have hRB : RowsB ((b, .map (ents m)) :: (MA ++ (MB ++ (Mi ++ M)))) ws B := ⟨hwl, fun i hi => (hR.2 i hi).mono fun q hq => List.mem_cons_of_mem _ (List.mem_append_right _ (List.mem_append_right _ hq))⟩
    obtain ⟨h0, hA0⟩ := hA.first
    obtain ⟨k0, hk0, hst⟩ := stab hT
    generalize (b, Ch.map (ents m)) :: (MA ++ (MB ++ (Mi ++ M))) = Z at hH8 hSA hZM hSB hRB
    clear hOA hOB hR
    repeat' (first | refine zP ?_ | refine zA ?_ | (refine zM ?_; intro _ _) | refine zX ?_ | (refine zC ?_; intro _ _ _ _) | (refine zS ?_; intro _ _) | (apply Ws <;> intro hg))
    refine WR.op (by first | exact gN | exact gS rfl) rfl (OpV.lenK F4_len (by decide) rfl hSA) ?_
    refine WR.mkS (m := A.length) (by first | exact gN | exact gS rfl) rfl hH8 rfl rfl (by omega) rfl fun H9 hH9 => ?_
    replace hH9 : hasH ((n1, .row 4 0 0 (bools (List.replicate A.length false))) :: Z) (n1 + 1) H9 := by rw [bools, List.map_replicate]; exact hH9
    repeat' (first | refine zP ?_ | refine zA ?_ | (refine zM ?_; intro _ _) | refine zX ?_ | (refine zC ?_; intro _ _ _ _) | (refine zS ?_; intro _ _) | (apply Ws <;> intro hg))
    rename_i H10 hH10 H11 hH11
    clear hH8 hH9 hH10
    refine WC.loopX [(6, vb), (15, .pointer (some ⟨n1 + 1, 0, some 0⟩))] (fun z : GV => [(16, .int .i64 (z.k : Int))]) []
      (fun z H' => z.k ≤ k0 ∧ canS T z.k (startS T) ∧ GoneR T A z.k z.G ∧ (z.cp = 2 * 1 ∨ z.cp = 2 * A.length + 1) ∧ n1 + 1 < z.n ∧ hasH ((n1 + 1, .row 60 0 0 [.slice (some ⟨z.gb, 0, some 0⟩) A.length z.cp]) :: (z.gb, .row 4 0 0 (bools z.G)) :: Z) z.n H')
      (fun z => k0 + 1 - z.k) ⟨0, n1, 2 * A.length + 1, List.replicate A.length false, n1 + 1 + 1⟩ (by repeat' (first | exact .nil | refine .cons rfl ?_)) rfl
      ⟨Nat.zero_le _, trivial, ⟨by simp, fun i hi => by
        rw [getD_eq (by simpa using hi), List.getElem_replicate]
        exact (goneB_false.2 (show canS T 0 _ from trivial)).symm⟩, .inr rfl, by simp only; omega, hH11⟩ ?_
    clear hH11
    rintro ⟨many, gb, cp, G, n3⟩ H12 ⟨hmk, hcan, hG, hcp, hn3, hH12⟩
    simp only at hmk hcan hG hcp hn3 hH12
    have hGl := hG.1
    have hgS : ∀ X : HL, Sl (X ++ ((n1 + 1, .row 60 0 0 [.slice (some ⟨gb, 0, some 0⟩) A.length cp]) :: (gb, .row 4 0 0 (bools G)) :: Z)) 1 (.slice (some ⟨gb, 0, some 0⟩) A.length cp) (bools G) := fun X =>
      .row (lo := 0) (cs := bools G) (List.mem_append_right _ (.tail _ (.head _))) (.row _ _ _ _) (Nat.zero_le _) (by simp [hGl]) (by rw [Nat.sub_zero, List.drop_zero, List.take_length]) (by simp) (by
        rcases hcp with rfl | rfl
        · exact .inl (.inl rfl)
        · exact .inr ⟨A.length, rfl, Nat.le_refl _⟩)
    dsimp only [List.cons_append, List.nil_append]
    repeat' (first | refine zP ?_ | refine zA ?_ | (refine zM ?_; intro _ _) | refine zX ?_ | (refine zC ?_; intro _ _ _ _) | (refine zS ?_; intro _ _) | (apply Ws <;> intro hg))
    refine WR.call (by first | exact gN | exact gS rfl) rfl rfl (CloneB_fs hH12 (hgS []) (by omega) (by omega)) ?_
    rintro _ H13 ⟨b1, n4, rfl, hn4, hH13⟩
    have hcS := hgS [(b1, .row 4 0 0 (bools G))]
    have hSB3 : Sl ((b1, Ch.row 4 0 0 (bools G)) :: (n1 + 1, .row 60 0 0 [.slice (some ⟨gb, 0, some 0⟩) A.length cp]) :: (gb, .row 4 0 0 (bools G)) :: Z) 1 vb ws := hSB.cons.cons.cons
    repeat' (first | refine zP ?_ | refine zA ?_ | (refine zM ?_; intro _ _) | refine zX ?_ | (refine zC ?_; intro _ _ _ _) | (refine zS ?_; intro _ _) | (apply Ws <;> intro hg))
    refine WC.loopX [(6, vb), (15, .pointer (some ⟨n1 + 1, 0, some 0⟩)), (16, .int .i64 (many : Int)), (17, .slice (some ⟨b1, 0, some 0⟩) G.length (2 * 1)), (105, vb), (106, .int .i64 (ws.length : Int))] (fun z : Nat × List Bool => [(107, .int .i64 (z.1 : Int))]) []
      (fun z H' => z.1 ≤ A.length ∧ z.2.length = A.length ∧ (∀ i (h : i < A.length), i < z.1 → z.2.getD i false = goneB T (many + 1) (A[i]).1) ∧ hasH ((b1, .row 4 0 0 (bools z.2)) :: (n1 + 1, .row 60 0 0 [.slice (some ⟨gb, 0, some 0⟩) A.length cp]) :: (gb, .row 4 0 0 (bools G)) :: Z) n4 H')
      (fun z => A.length - z.1) (0, G) (by repeat' (first | exact .nil | refine .cons rfl ?_)) rfl ⟨Nat.zero_le _, hGl, fun i _ h => absurd h (Nat.not_lt_zero _), hH13⟩ ?_
    clear hH12 hH13 hcS hSB3
    rintro ⟨i, nx⟩ H14 ⟨hi, hnl, hnx, hH14⟩
    simp only at hi hnl hnx hH14
    have hcS := hgS [(b1, .row 4 0 0 (bools nx))]
    have hSB3 : Sl ((b1, Ch.row 4 0 0 (bools nx)) :: (n1 + 1, .row 60 0 0 [.slice (some ⟨gb, 0, some 0⟩) A.length cp]) :: (gb, .row 4 0 0 (bools G)) :: Z) 1 vb ws := hSB.cons.cons.cons
    replace hcS : Sl ((b1, Ch.row 4 0 0 (bools nx)) :: (n1 + 1, .row 60 0 0 [.slice (some ⟨gb, 0, some 0⟩) A.length cp]) :: (gb, .row 4 0 0 (bools G)) :: Z) 1 (.slice (some ⟨gb, 0, some 0⟩) A.length cp) (bools G) := hcS
    dsimp only [List.cons_append, List.nil_append]
    repeat' (first | refine zP ?_ | refine zA ?_ | (refine zM ?_; intro _ _) | refine zX ?_ | (refine zC ?_; intro _ _ _ _) | (refine zS ?_; intro _ _) | (apply Ws <;> intro hg))
    refine WC.condP rfl (fun hlt => ?_) (fun hlt => ?_)
    · have hi' : i < A.length := by omega
      have hib : i < B.length := by omega
      have hiw : i < ws.length := by omega
      have hSr : Sl ((b1, Ch.row 4 0 0 (bools nx)) :: (n1 + 1, .row 60 0 0 [.slice (some ⟨gb, 0, some 0⟩) A.length cp]) :: (gb, .row 4 0 0 (bools G)) :: Z) 1 (ws.getD i undef) (ints (B.getD i [])) := (hRB.2 i hib).cons.cons.cons
      have hr1 := hSr.one_
      repeat' (first | refine zP ?_ | refine zA ?_ | (refine zM ?_; intro _ _) | refine zX ?_ | (refine zC ?_; intro _ _ _ _) | (refine zS ?_; intro _ _) | (apply Ws <;> intro hg))
      have hle4 : (B.getD i []).length ≤ 4 := hB4 _ (getD_mem hib)
      refine WR.call (by first | exact gN | exact gS rfl) rfl rfl (ContainsFunc_fs (P := fun c => !(G.getD c.toNat false)) (g := 77) (vb := [.pointer (some ⟨n1 + 1, 0, some 0⟩)]) hH14 hSr (by omega) (fun c hc => there_fs hH14 (.tail _ (.head _)) hcS (by
        obtain ⟨q, j, hq, rfl, _⟩ := (hB i hi' hib).sound c hc
        omega))) ?_
      rintro _ _ ⟨rfl, rfl⟩
      have hnext := gone_next hB hG hi' hib
      generalize (B.getD i []).any (fun c => !(G.getD c.toNat false)) = an at hnext ⊢
      repeat' (first | refine zP ?_ | refine zA ?_ | (refine zM ?_; intro _ _) | refine zX ?_ | (refine zC ?_; intro _ _ _ _) | (refine zS ?_; intro _ _) | (apply Ws <;> intro hg))
      rename_i H15 hH15
      rw [hnext] at hH15
      refine Ends.loop (i + 1, nx.set i (goneB T (many + 1) (A[i]).1)) (by simp only; omega) (by repeat' (first | exact .nil | refine .cons rfl ?_)) rfl ⟨hi', by simp [hnl], fun j hj hji => ?_, hH15⟩
      show (nx.set i (goneB T (many + 1) (A[i]).1)).getD j false = _
      rw [getD_set' (by omega)]
      by_cases e : j = i
      · subst e; rw [if_pos rfl]
      · rw [if_neg e]; exact hnx j hj (by simp only at hji; omega)
    · have hin : i = A.length := by omega
      subst hin
      have hG2 : GoneR T A (many + 1) nx := ⟨hnl, fun j hj => hnx j hj hj⟩
      have hn0 := hG2.2 0 h0
      rw [hA0] at hn0
      have hbS : Sl ((b1, Ch.row 4 0 0 (bools nx)) :: (n1 + 1, .row 60 0 0 [.slice (some ⟨gb, 0, some 0⟩) A.length cp]) :: (gb, .row 4 0 0 (bools G)) :: Z) 1 (.slice (some ⟨b1, 0, some 0⟩) G.length (2 * 1)) (bools nx) :=
        .row (lo := 0) (cs := bools nx) (.head _) (.row _ _ _ _) (Nat.zero_le _) (by simp [hnl, hGl]) (by rw [Nat.sub_zero, List.drop_zero, List.take_length]) (by simp) (.inl (.inl rfl))
      have hnl0 : 0 < nx.length := by omega
      repeat' (first | refine zP ?_ | refine zA ?_ | (refine zM ?_; intro _ _) | refine zX ?_ | (refine zC ?_; intro _ _ _ _) | (refine zS ?_; intro _ _) | (apply Ws <;> intro hg))
      rw [hn0]
      cases hg0 : goneB T (many + 1) (startS T) with
      | true =>
        repeat' (first | refine zP ?_ | refine zA ?_ | (refine zM ?_; intro _ _) | refine zX ?_ | (refine zC ?_; intro _ _ _ _) | (refine zS ?_; intro _ _) | (apply Ws <;> intro hg))
        exact Ends.ret1 rfl ⟨many, n4, rfl, .inr ⟨many, rfl, hcan, goneB_true.1 hg0⟩, by omega, hH14.sub ((hZM.cons _).cons _ |>.cons _)⟩
      | false =>
        repeat' (first | refine zP ?_ | refine zA ?_ | (refine zM ?_; intro _ _) | refine zX ?_ | (refine zC ?_; intro _ _ _ _) | (refine zS ?_; intro _ _) | (apply Ws <;> intro hg))
        refine WR.call (by first | exact gN | exact gS rfl) rfl rfl (EqualB_fs hH14 hbS hcS (by omega) (by omega)) ?_
        rintro _ _ ⟨rfl, rfl⟩
        by_cases he : nx = G
        · rw [decide_eq_true he]
          repeat' (first | refine zP ?_ | refine zA ?_ | (refine zM ?_; intro _ _) | refine zX ?_ | (refine zC ?_; intro _ _ _ _) | (refine zS ?_; intro _ _) | (apply Ws <;> intro hg))
          refine Ends.ret1 rfl ⟨-1, n4, rfl, .inl ⟨rfl, gone_stop hA hB hBA (fun j hj => ?_) hcan⟩, by omega, hH14.sub ((hZM.cons _).cons _ |>.cons _)⟩
          rw [← hG2.2 j hj, ← hG.2 j hj, he]
        · rw [decide_eq_false he]
          have hlt0 : many ≠ k0 := fun e => he (ext_getD (a := false) (by omega) fun j hj => by
            have hj' : j < A.length := by omega
            rw [hG2.2 j hj', hG.2 j hj']
            cases hc : goneB T many (A[j]).1 with
            | true => exact goneB_true.2 fun h => goneB_true.1 hc (canS_less h)
            | false => exact goneB_false.2 (by rw [e]; exact hst _ (hA.ok j hj') (by rw [← e]; exact goneB_false.1 hc)))
          repeat' (first | refine zP ?_ | refine zA ?_ | (refine zM ?_; intro _ _) | refine zX ?_ | (refine zC ?_; intro _ _ _ _) | (refine zS ?_; intro _ _) | (apply Ws <;> intro hg))
          rename_i H15 hH15
          refine Ends.loop ⟨many + 1, b1, 2 * 1, nx, n4⟩ (by simp only; omega) (by repeat' (first | exact .nil | refine .cons rfl ?_)) rfl ⟨by simp only; omega, goneB_false.1 hg0, hG2, .inl rfl, by simp only; omega, ?_⟩
          have := hH15.swap
          rw [hGl] at this
          exact this.sub (.cons_cons _ (.cons_cons _ (List.sublist_cons_self _ _)))
end
end Go.Proofs.Ytnmlfjohoeebiaa.Wk

/- The law WalkEven. -/
namespace Go.Proofs.Ytnmlfjohoeebiaa.Wk
open Go Go.Abs Go.Mth
set_option linter.unusedVariables false
set_option linter.unusedSimpArgs false
def evF (r y : Nat) : Nat := if 4 < r then [1, 2, 6, 6].getD (y % 4) 0 else if r = 4 then [1, 3, 3, 6].getD (y % 4) 0 else 2 ^ (y % 4)
def evT (r : Nat) (ys : List Nat) (n : Nat) : List Nat := (List.range n).map fun i => evF r (ys.getD i 0)
attribute [local irreducible] gOK WS WC WR WD Ends FS YS OpV seqK blockK loopK midK retK rdK asgK rangeEnd sat Cell
section
variable {M : HL} {n0 : Nat} {H : Heap} {v w : Value}
end
end Go.Proofs.Ytnmlfjohoeebiaa.Wk

/- The law WalkWalked. -/
namespace Go.Proofs.Ytnmlfjohoeebiaa.Wk
open Go Go.Abs Go.Mth
set_option linter.unusedVariables false
set_option linter.unusedSimpArgs false
def modF (N y : Nat) : Nat := y % N
theorem made_ok {ys : List Nat} {most n : Nat} (hn : n ≤ 4) (ho : 1 ≤ most ∧ most ≤ 8) : TOK (firstT (madeF most) ys n) :=
  firstT_ok hn fun y => by
    have := Nat.mod_lt y (show 0 < most by omega)
    unfold madeF; omega
attribute [local irreducible] gOK WS WC WR WD Ends FS YS OpV seqK blockK loopK midK retK rdK asgK rangeEnd sat Cell
section
variable {M : HL} {n0 : Nat} {H : Heap} {v w : Value}
end
end Go.Proofs.Ytnmlfjohoeebiaa.Wk
