/- Texts of the law, joined. -/
import Derived.Test.YtnmlfjohoeebiaaJ2
/- Left, Goes, and what the laws say of walks. -/
namespace Go.Abs
set_option linter.unusedSectionVars false
variable [Globs]
open Go
section
variable {C : CW} {nt : Nat} {L : Env} {D : List Nat} {H : Heap} {K : St → Prop} {M M' : HL} {n i d : Nat} {gd : Option (Tmp × Bool)} {lo' : List Nat} {l : List POp}
/-- A part of a slice. -/
theorem WR.cutI {x lo hi : Operand} {v : Value} {xs : List Int} {a b : Nat} {ka kb : IntKind} (hg : gOK L gd) (hd : Nat.blt d nt = true) (hx : ev L x = some v) (hS : Sl M 1 v (ints xs)) (h1 : ev L lo = some (.int ka (a : Int))) (h2 : ev L hi = some (.int kb (b : Int))) (hab : a ≤ b) (hb : b ≤ xs.length)
    (k : ∀ v', Sl M 1 v' (ints ((xs.drop a).take (b - a))) → WR C nt l ((d, v') :: L) D H K) : WR C nt (⟨i, some d, .slS x 1 (some lo) (some hi) none, gd, lo'⟩ :: l) L D H K := by
  refine WR.slS (vl := some (.int ka (a : Int))) (vh := some (.int kb (b : Int))) (a := a) (b := b) hg hd hx hS (by simp [bnd, h1]) (by simp [bnd, h2]) rfl (fun _ _ => rfl) hab (by simpa using hb) (Nat.le_refl _) fun v' h => k v' ?_
  simpa [List.map_take, List.map_drop] using h
end
end Go.Abs
namespace Go.Proofs.Ytnmlfjohoeebiaa.Wk
open Go Go.Abs Go.Mth
set_option linter.unusedVariables false
set_option linter.unusedSimpArgs false
open Classical in
noncomputable def goodB (T W : List Int) : Bool := decide (GoodW T W)
open Classical in
theorem goodB_true {T W : List Int} : goodB T W = true ↔ GoodW T W := by unfold goodB; exact decide_eq_true_iff
theorem goodB_false {T W : List Int} (h : ¬ GoodW T W) : goodB T W = false := by
  cases hb : goodB T W with
  | false => rfl
  | true => exact absurd (goodB_true.1 hb) h
/-- What the law says is left. -/
def lawLeft (T W : List Int) (k : Nat) : List Int := (List.range 4).map fun i => if i < k then T.getD i 0 - (sinceK W i W.length : Int) else 0
theorem lawLeft_len (T W : List Int) (k : Nat) : (lawLeft T W k).length = 4 := by simp [lawLeft]
theorem lawLeft_next {T W : List Int} {k : Nat} (hk : k < 4) : (lawLeft T W k).set k (T.getD k 0 - (sinceK W k W.length : Int)) = lawLeft T W (k + 1) := by
  refine ext_getD (a := 0) (by simp [lawLeft]) fun i hi => ?_
  have hi4 : i < 4 := by simpa [lawLeft] using hi
  have g : ∀ k, (lawLeft T W k).getD i 0 = if i < k then T.getD i 0 - (sinceK W i W.length : Int) else 0 := fun k => by
    rw [getD_eq (by rw [lawLeft_len]; exact hi4)]; simp [lawLeft]
  rw [getD_set' (by rw [lawLeft_len]; exact hk), g, g]
  by_cases h : i = k
  · subst h; rw [if_pos rfl, if_pos (by omega)]
  · rw [if_neg h]
    by_cases h2 : i < k
    · rw [if_pos h2, if_pos (by omega)]
    · rw [if_neg h2, if_neg (by omega)]
theorem lawLeft_eq {T W s : List Int} (hT : TOK T) (hs : SOK T s) (h : SinceS T W s W.length) : (lawLeft T W T.length).take T.length = s.take T.length := by
  have hTl := hT.len
  refine ext_getD (a := 0) (by simp [lawLeft_len, hs.len]) fun i hi => ?_
  have hi' : i < T.length := by simp [lawLeft_len] at hi; omega
  rw [getD_take hi', getD_take hi', h i hi', getD_eq (by rw [lawLeft_len]; omega)]
  simp [lawLeft, hi']
attribute [local irreducible] gOK WS WC WR WD Ends FS YS OpV seqK blockK loopK midK retK rdK asgK rangeEnd sat Cell
section
variable {M : HL} {n0 : Nat} {H : Heap} {v w : Value}
theorem same_fs (hH : hasH M n0 H) {xs ys : List Int} (hS : Sl M 1 v (ints xs)) (hU : Sl M 1 w (ints ys)) (hx : xs.length ≤ 1000) (hy : ys.length ≤ 1000) :
    FS C 29 [v, w] H (fun e H' => e = .bool (decide (xs = ys)) ∧ H' = H) := by
  refine FS.intro (pf := pf29) rfl rfl rfl ?_
  repeat' (first | refine zP ?_ | refine zA ?_ | (refine zM ?_; intro _ _) | refine zX ?_ | (refine zC ?_; intro _ _ _ _) | (refine zS ?_; intro _ _) | (apply Ws <;> intro hg))
  refine WC.condP rfl (fun hne => ?_) (fun hne => ?_)
  · repeat' (first | refine zP ?_ | refine zA ?_ | (refine zM ?_; intro _ _) | refine zX ?_ | (refine zC ?_; intro _ _ _ _) | (refine zS ?_; intro _ _) | (apply Ws <;> intro hg))
    exact Ends.ret1 rfl ⟨by rw [decide_eq_false (fun h => hne (by rw [h]))], rfl⟩
  have hle : xs.length = ys.length := by omega
  repeat' (first | refine zP ?_ | refine zA ?_ | (refine zM ?_; intro _ _) | refine zX ?_ | (refine zC ?_; intro _ _ _ _) | (refine zS ?_; intro _ _) | (apply Ws <;> intro hg))
  refine WC.loopX [(0, _), (1, _)] (fun k : Nat => [(5, .int .i64 (k : Int))]) [] (fun k H' => H' = H ∧ k ≤ xs.length ∧ ∀ j, j < k → xs.getD j 0 = ys.getD j 0) (fun k => xs.length - k) 0 (by repeat' (first | exact .nil | refine .cons rfl ?_)) rfl ⟨rfl, Nat.zero_le _, fun j h => absurd h (Nat.not_lt_zero _)⟩ ?_
  rintro k H' ⟨rfl, hk, hno⟩
  dsimp only [List.cons_append, List.nil_append]
  repeat' (first | refine zP ?_ | refine zA ?_ | (refine zM ?_; intro _ _) | refine zX ?_ | (refine zC ?_; intro _ _ _ _) | (refine zS ?_; intro _ _) | (apply Ws <;> intro hg))
  refine WC.condP rfl (fun hlt => ?_) (fun hlt => ?_)
  · have hk' : k < xs.length := by omega
    have hk2 : k < ys.length := by omega
    repeat' (first | refine zP ?_ | refine zA ?_ | (refine zM ?_; intro _ _) | refine zX ?_ | (refine zC ?_; intro _ _ _ _) | (refine zS ?_; intro _ _) | (apply Ws <;> intro hg))
    refine WC.condP rfl (fun hd => ?_) (fun hd => ?_)
    · repeat' (first | refine zP ?_ | refine zA ?_ | (refine zM ?_; intro _ _) | refine zX ?_ | (refine zC ?_; intro _ _ _ _) | (refine zS ?_; intro _ _) | (apply Ws <;> intro hg))
      exact Ends.ret1 rfl ⟨by rw [decide_eq_false (fun h => hd (by rw [h]))], rfl⟩
    · repeat' (first | refine zP ?_ | refine zA ?_ | (refine zM ?_; intro _ _) | refine zX ?_ | (refine zC ?_; intro _ _ _ _) | (refine zS ?_; intro _ _) | (apply Ws <;> intro hg))
      refine Ends.loop (k + 1) (by omega) (by repeat' (first | exact .nil | refine .cons rfl ?_)) rfl ⟨rfl, hk', fun j hj => ?_⟩
      rcases Nat.lt_or_ge j k with h | h
      · exact hno j h
      · have : j = k := by omega
        subst this; omega
  · repeat' (first | refine zP ?_ | refine zA ?_ | (refine zM ?_; intro _ _) | refine zX ?_ | (refine zC ?_; intro _ _ _ _) | (refine zS ?_; intro _ _) | (apply Ws <;> intro hg))
    exact Ends.ret1 rfl ⟨by rw [decide_eq_true (ext_getD (a := 0) hle fun i hi => hno i (by omega))], rfl⟩
theorem walked_fs (hH : hasH M n0 H) {T W : List Int} (hS : Sl M 1 v (ints T)) (hT : TOK T) (hU : Sl M 1 w (ints W)) (hW : W.length ≤ 1000) :
    FS C 40 [v, w] H (fun e H' => e = .bool (goodB T W) ∧ H' = H) := by
  have hTl := hT.len
  refine FS.intro (pf := pf40) rfl rfl rfl ?_
  repeat' (first | refine zP ?_ | refine zA ?_ | (refine zM ?_; intro _ _) | refine zX ?_ | (refine zC ?_; intro _ _ _ _) | (refine zS ?_; intro _ _) | (apply Ws <;> intro hg))
  refine WC.loopX [(0, _), (1, _), (8, _), (9, _)] (fun k : Nat => [(10, .int .i64 (k : Int))]) [] (fun k H' => H' = H ∧ k ≤ T.length ∧ ∀ i, i < k → ∀ f, f + (T.getD i 0).toNat ≤ W.length → (i : Int) ∈ (W.drop f).take (T.getD i 0).toNat) (fun k => T.length - k) 0 (by repeat' (first | exact .nil | refine .cons rfl ?_)) rfl ⟨rfl, Nat.zero_le _, fun j h => absurd h (Nat.not_lt_zero _)⟩ ?_
  rintro k H' ⟨rfl, hk, hno⟩
  dsimp only [List.cons_append, List.nil_append]
  repeat' (first | refine zP ?_ | refine zA ?_ | (refine zM ?_; intro _ _) | refine zX ?_ | (refine zC ?_; intro _ _ _ _) | (refine zS ?_; intro _ _) | (apply Ws <;> intro hg))
  refine WC.condP rfl (fun hlt => ?_) (fun hlt => ?_)
  · have hk' : k < T.length := by omega
    obtain ⟨t, ht⟩ : ∃ t : Nat, T.getD k 0 = (t : Int) := ⟨(T.getD k 0).toNat, by have := hT.lo k hk'; omega⟩
    have ht8 := hT.hi k hk'
    have ht1 := hT.lo k hk'
    repeat' (first | refine zP ?_ | refine zA ?_ | (refine zM ?_; intro _ _) | refine zX ?_ | (refine zC ?_; intro _ _ _ _) | (refine zS ?_; intro _ _) | (apply Ws <;> intro hg))
    rw [ht] at ht8 ht1 ⊢
    refine WC.loopX [(0, _), (1, _), (8, _), (9, _), (10, _), (5, .int .i64 (k : Int)), (6, .int .i64 (t : Int))] (fun f : Nat => [(7, .int .i64 (f : Int))]) [] (fun f H'' => H'' = H' ∧ f ≤ W.length + 1 ∧ ∀ g, g < f → g + t ≤ W.length → (k : Int) ∈ (W.drop g).take t) (fun f => W.length + 1 - f) 0 (by repeat' (first | exact .nil | refine .cons rfl ?_)) rfl ⟨rfl, by omega, fun j h => absurd h (Nat.not_lt_zero _)⟩ ?_
    rintro f H2 ⟨rfl, hf, hin⟩
    dsimp only [List.cons_append, List.nil_append]
    repeat' (first | refine zP ?_ | refine zA ?_ | (refine zM ?_; intro _ _) | refine zX ?_ | (refine zC ?_; intro _ _ _ _) | (refine zS ?_; intro _ _) | (apply Ws <;> intro hg))
    refine WC.condP rfl (fun hle => ?_) (fun hle => ?_)
    · have hle' : f + t ≤ W.length := by omega
      repeat' (first | refine zP ?_ | refine zA ?_ | (refine zM ?_; intro _ _) | refine zX ?_ | (refine zC ?_; intro _ _ _ _) | (refine zS ?_; intro _ _) | (apply Ws <;> intro hg))
      rw [show (f : Int) + (t : Int) = ((f + t : Nat) : Int) by omega]
      refine WR.cutI (a := f) (b := f + t) (by first | exact gN | exact gS rfl) rfl rfl hU rfl rfl (by omega) hle' fun v5 hS5 => ?_
      repeat' (first | refine zP ?_ | refine zA ?_ | (refine zM ?_; intro _ _) | refine zX ?_ | (refine zC ?_; intro _ _ _ _) | (refine zS ?_; intro _ _) | (apply Ws <;> intro hg))
      refine WR.call (by first | exact gN | exact gS rfl) rfl rfl (Contains_fs hH hS5 (by simp; omega) k) ?_
      rintro _ _ ⟨rfl, rfl⟩
      rw [Nat.add_sub_cancel_left]
      by_cases hm : (k : Int) ∈ (W.drop f).take t
      · rw [decide_eq_true hm]
        repeat' (first | refine zP ?_ | refine zA ?_ | (refine zM ?_; intro _ _) | refine zX ?_ | (refine zC ?_; intro _ _ _ _) | (refine zS ?_; intro _ _) | (apply Ws <;> intro hg))
        refine Ends.loop (f + 1) (by omega) (by repeat' (first | exact .nil | refine .cons rfl ?_)) rfl ⟨rfl, by omega, fun g hg => ?_⟩
        rcases Nat.lt_or_ge g f with h | h
        · exact hin g h
        · have : g = f := by omega
          subst this; exact fun _ => hm
      · rw [decide_eq_false hm]
        repeat' (first | refine zP ?_ | refine zA ?_ | (refine zM ?_; intro _ _) | refine zX ?_ | (refine zC ?_; intro _ _ _ _) | (refine zS ?_; intro _ _) | (apply Ws <;> intro hg))
        refine Ends.ret1 rfl ⟨?_, rfl⟩
        rw [goodB_false fun h => hm ?_]
        have := h k hk' f (by rw [ht, Int.toNat_natCast]; exact hle')
        rwa [ht, Int.toNat_natCast] at this
    · repeat' (first | refine zP ?_ | refine zA ?_ | (refine zM ?_; intro _ _) | refine zX ?_ | (refine zC ?_; intro _ _ _ _) | (refine zS ?_; intro _ _) | (apply Ws <;> intro hg))
      refine Ends.loop (k + 1) (by omega) (by repeat' (first | exact .nil | refine .cons rfl ?_)) rfl ⟨rfl, hk', fun i hi g hg => ?_⟩
      rcases Nat.lt_or_ge i k with h | h
      · exact hno i h g hg
      · have : i = k := by omega
        subst this
        rw [ht] at hg ⊢
        rw [Int.toNat_natCast] at hg ⊢
        exact hin g (by omega) hg
  · have hkn : k = T.length := by omega
    subst hkn
    repeat' (first | refine zP ?_ | refine zA ?_ | (refine zM ?_; intro _ _) | refine zX ?_ | (refine zC ?_; intro _ _ _ _) | (refine zS ?_; intro _ _) | (apply Ws <;> intro hg))
    exact Ends.ret1 rfl ⟨by rw [goodB_true.2 hno], rfl⟩
theorem left_fs (hH : hasH M n0 H) {T W : List Int} (hS : Sl M 1 v (ints T)) (hT : TOK T) (hU : Sl M 1 w (ints W)) (hW : W.length ≤ 1000) :
    FS C 44 [v, w] H (fun e H' => ∃ n', n0 ≤ n' ∧ e = keyI (lawLeft T W T.length) ∧ hasH M n' H') := by
  have hTl := hT.len
  refine FS.intro (pf := pf44) rfl rfl rfl ?_
  repeat' (first | refine zP ?_ | refine zA ?_ | (refine zM ?_; intro _ _) | refine zX ?_ | (refine zC ?_; intro _ _ _ _) | (refine zS ?_; intro _ _) | (apply Ws <;> intro hg))
  rename_i H1 hH1 H2 hH2
  replace hH2 : hasH ((n0 + 1, .row 53 0 0 (ints (lawLeft T W 0))) :: (n0, .row 53 0 0 (ints [0, 0, 0, 0])) :: M) (n0 + 1 + 1) H2 := hH2
  refine WC.loopX [(0, v), (1, w), (4, .pointer (some ⟨n0, 0, some 0⟩)), (5, .pointer (some ⟨n0 + 1, 0, some 0⟩)), (11, v), (12, .int .i64 (T.length : Int))] (fun k : Nat => [(13, .int .i64 (k : Int))]) []
    (fun k H' => k ≤ T.length ∧ hasH ((n0 + 1, .row 53 0 0 (ints (lawLeft T W k))) :: (n0, .row 53 0 0 (ints [0, 0, 0, 0])) :: M) (n0 + 1 + 1) H') (fun k => T.length - k) 0 (by repeat' (first | exact .nil | refine .cons rfl ?_)) rfl ⟨Nat.zero_le _, hH2⟩ ?_
  clear hH1 hH2
  rintro k H3 ⟨hk, hH3⟩
  have hll := lawLeft_len T W k
  dsimp only [List.cons_append, List.nil_append]
  repeat' (first | refine zP ?_ | refine zA ?_ | (refine zM ?_; intro _ _) | refine zX ?_ | (refine zC ?_; intro _ _ _ _) | (refine zS ?_; intro _ _) | (apply Ws <;> intro hg))
  refine WC.condP rfl (fun hlt => ?_) (fun hlt => ?_)
  · have hk' : k < T.length := by omega
    repeat' (first | refine zP ?_ | refine zA ?_ | (refine zM ?_; intro _ _) | refine zX ?_ | (refine zC ?_; intro _ _ _ _) | (refine zS ?_; intro _ _) | (apply Ws <;> intro hg))
    refine WC.loopX [(0, v), (1, w), (4, .pointer (some ⟨n0, 0, some 0⟩)), (5, .pointer (some ⟨n0 + 1, 0, some 0⟩)), (11, v), (12, .int .i64 (T.length : Int)), (13, .int .i64 (k : Int)), (6, .int .i64 (k : Int)), (7, .int .i64 (T.getD k 0)), (20, w), (21, .int .i64 (W.length : Int))] (fun j : Nat => [(8, .int .i64 ((sinceK W k j : Int) + ((W.length : Int) - j))), (22, .int .i64 (j : Int))]) []
      (fun j H' => j ≤ W.length ∧ H' = H3) (fun j => W.length - j) 0 (by refine .cons ?_ (by repeat' (first | exact .nil | refine .cons rfl ?_)); simp [sinceK]; rfl) rfl ⟨Nat.zero_le _, rfl⟩ ?_
    rintro j H4 ⟨hj, rfl⟩
    dsimp only [List.cons_append, List.nil_append]
    repeat' (first | refine zP ?_ | refine zA ?_ | (refine zM ?_; intro _ _) | refine zX ?_ | (refine zC ?_; intro _ _ _ _) | (refine zS ?_; intro _ _) | (apply Ws <;> intro hg))
    refine WC.condP rfl (fun hlt2 => ?_) (fun hlt2 => ?_)
    · have hj' : j < W.length := by omega
      have hsl := since_le W k j
      repeat' (first | refine zP ?_ | refine zA ?_ | (refine zM ?_; intro _ _) | refine zX ?_ | (refine zC ?_; intro _ _ _ _) | (refine zS ?_; intro _ _) | (apply Ws <;> intro hg))
      refine WC.condP rfl (fun he => ?_) (fun he => ?_)
      · repeat' (first | refine zP ?_ | refine zA ?_ | (refine zM ?_; intro _ _) | refine zX ?_ | (refine zC ?_; intro _ _ _ _) | (refine zS ?_; intro _ _) | (apply Ws <;> intro hg))
        rw [show (W.length : Int) - 1 - (j : Int) = (sinceK W k (j + 1) : Int) + ((W.length : Int) - ((j + 1 : Nat) : Int)) by simp only [sinceK]; rw [if_pos he]; omega]
        exact Ends.loop (j + 1) (by omega) (by repeat' (first | exact .nil | refine .cons rfl ?_)) rfl ⟨hj', rfl⟩
      · repeat' (first | refine zP ?_ | refine zA ?_ | (refine zM ?_; intro _ _) | refine zX ?_ | (refine zC ?_; intro _ _ _ _) | (refine zS ?_; intro _ _) | (apply Ws <;> intro hg))
        rw [show (sinceK W k j : Int) + ((W.length : Int) - (j : Int)) = (sinceK W k (j + 1) : Int) + ((W.length : Int) - ((j + 1 : Nat) : Int)) by simp only [sinceK]; rw [if_neg he]; omega]
        exact Ends.loop (j + 1) (by omega) (by repeat' (first | exact .nil | refine .cons rfl ?_)) rfl ⟨hj', rfl⟩
    · have hjn : j = W.length := by omega
      have hsl := since_le W k j
      have h1 := hT.lo k hk'
      have h8 := hT.hi k hk'
      repeat' (first | refine zP ?_ | refine zA ?_ | (refine zM ?_; intro _ _) | refine zX ?_ | (refine zC ?_; intro _ _ _ _) | (refine zS ?_; intro _ _) | (apply Ws <;> intro hg))
      rename_i H5 hH5
      refine Ends.loop (k + 1) (by omega) (by repeat' (first | exact .nil | refine .cons rfl ?_)) rfl ⟨hk', ?_⟩
      rw [← lawLeft_next (by omega), ← hjn]
      rwa [show T.getD k 0 - ((sinceK W k j : Int) + ((W.length : Int) - (j : Int))) = T.getD k 0 - (sinceK W k j : Int) by omega] at hH5
  · have hkn : k = T.length := by omega
    subst hkn
    have hli : (ints (lawLeft T W T.length)).length = 4 := by simp [hll]
    repeat' (first | refine zP ?_ | refine zA ?_ | (refine zM ?_; intro _ _) | refine zX ?_ | (refine zC ?_; intro _ _ _ _) | (refine zS ?_; intro _ _) | (apply Ws <;> intro hg))
    refine WR.storeA (by first | exact gN | exact gS rfl) hH3 rfl rfl hll (.there .here) rfl fun H4 hH4 => ?_
    repeat' (first | refine zP ?_ | refine zA ?_ | (refine zM ?_; intro _ _) | refine zX ?_ | (refine zC ?_; intro _ _ _ _) | (refine zS ?_; intro _ _) | (apply Ws <;> intro hg))
    exact Ends.retCN rfl (readA hH4 (.tail _ (.head _)) hll) ⟨n0 + 1 + 1, by omega, rfl, hH4.tail.tail⟩
theorem Clone_fs (hH : hasH M n0 H) {xs : List Int} (hS : Sl M 1 v (ints xs)) (hx : xs.length ≤ 1000) (h0 : xs ≠ [] ∨ v = .slice none 0 0) :
    FS C 43 [v] H (fun e H' => ∃ Mx n', Own 3 1 e (ints xs) Mx ∧ n0 ≤ n' ∧ hasH (Mx ++ M) n' H' ∧ (xs = [] → e = .slice none 0 0)) := by
  by_cases hne0 : xs = []
  · subst hne0
    rcases h0 with h0 | rfl
    · exact absurd rfl h0
    refine FS.intro (pf := pf43) rfl rfl rfl ?_
    repeat' (first | refine zP ?_ | refine zA ?_ | (refine zM ?_; intro _ _) | refine zX ?_ | (refine zC ?_; intro _ _ _ _) | (refine zS ?_; intro _ _) | (apply Ws <;> intro hg))
    exact Ends.ret1 rfl ⟨[], n0, .nil, Nat.le_refl _, hH, fun _ => rfl⟩
  · have hne : ints xs ≠ [] := fun h => hne0 (List.map_eq_nil_iff.1 h)
    have hl0 : 0 < xs.length := List.length_pos_iff.2 hne0
    have hsm : ∃ a len cap, v = .slice (some a) len cap := by
      generalize ints xs = cs at hS hne
      cases hS with
      | nil c => exact absurd rfl hne
      | emp a => exact ⟨_, _, _, rfl⟩
      | row => exact ⟨_, _, _, rfl⟩
    obtain ⟨a, len, cap, rfl⟩ := hsm
    refine FS.intro (pf := pf43) rfl rfl rfl ?_
    repeat' (first | refine zP ?_ | refine zA ?_ | (refine zM ?_; intro _ _) | refine zX ?_ | (refine zC ?_; intro _ _ _ _) | (refine zS ?_; intro _ _) | (apply Ws <;> intro hg))
    refine WR.bldS (by first | exact gN | exact gS rfl) rfl hH (vs := []) rfl (cs := []) (by rfl) rfl fun H3 hH3 => ?_
    repeat' (first | refine zP ?_ | refine zA ?_ | (refine zM ?_; intro _ _) | refine zX ?_ | (refine zC ?_; intro _ _ _ _) | (refine zS ?_; intro _ _) | (apply Ws <;> intro hg))
    obtain ⟨hk, hsr⟩ := (hS.cons (p := (n0, .row 3 0 0 []))).src hH3 hne
    refine WR.appendNew (by first | exact gN | exact gS rfl) rfl rfl rfl hH3 (.head _) (.row _ _ _ _) (Nat.zero_le _) (Nat.zero_le _) hk (by have := hsr _ (Nat.le_refl _); rw [List.take_length] at this; exact this) (by simp) (by simp; omega) (ints_one _) (by omega) (by omega) (by simp; omega) fun H' hH' => ?_
    repeat' (first | refine zP ?_ | refine zA ?_ | (refine zM ?_; intro _ _) | refine zX ?_ | (refine zC ?_; intro _ _ _ _) | (refine zS ?_; intro _ _) | (apply Ws <;> intro hg))
    exact Ends.ret1 rfl ⟨[(n0 + 1, .row 3 0 0 (ints xs))], n0 + 2, .row (by simp), by omega, hH'.sub (.cons_cons _ (List.sublist_cons_self _ _)), fun h => absurd h hne0⟩
theorem Left_fs (hH : hasH M n0 H) {T : List Int} (hS : Sl M 1 v (ints T)) (hTl : T.length ≤ 1000) {W : List Int} (hW : Sl M 1 w (ints W)) (hwl : W.length ≤ 1000) :
    FS C 25 [v, w] H (fun e H' => ∃ u xs Mx n', e = .tuple #[u, .int .i64 (leftE T W)] ∧ Own 3 1 u (ints xs) Mx ∧ n0 ≤ n' ∧ hasH (Mx ++ M) n' H' ∧ ((leftE T W ≠ 0 ∧ xs = []) ∨ (leftE T W = 0 ∧ ∃ s, goS T (startS T) W = some s ∧ xs = s.take T.length))) := by
  refine FS.intro (pf := pf25) rfl rfl rfl ?_
  repeat' (first | refine zP ?_ | refine zA ?_ | (refine zM ?_; intro _ _) | refine zX ?_ | (refine zC ?_; intro _ _ _ _) | (refine zS ?_; intro _ _) | (apply Ws <;> intro hg))
  refine WR.call (by first | exact gN | exact gS rfl) rfl rfl (checked_fs hH hS hTl hW hwl) ?_
  rintro _ H1 ⟨n1, s, hn1, hH1, rfl, hs, hgo⟩
  have hli : (ints s).length = 4 := by simp [hs]
  repeat' (first | refine zP ?_ | refine zA ?_ | (refine zM ?_; intro _ _) | refine zX ?_ | (refine zC ?_; intro _ _ _ _) | (refine zS ?_; intro _ _) | (apply Ws <;> intro hg))
  rename_i H2 hH2
  refine WR.storeA (by first | exact gN | exact gS rfl) hH2 rfl rfl hs .here rfl fun H3 hH3 => ?_
  by_cases h0 : leftE T W = 0
  · have hgo' := hgo h0
    have hE : errT T = 0 := by
      unfold leftE at h0
      split at h0
      · rename_i h; exact absurd h0 h
      · rename_i h; omega
    obtain ⟨hT, h1⟩ := errT_ok hE
    have hTl4 := hT.len
    have hSp : Sl ((n1, Ch.row 72 0 0 (ints s)) :: M) 1 (.slice (some ⟨n1, 0, some 0⟩) T.length (2 * 4 + 1)) (ints (s.take T.length)) :=
      .row (lo := 0) (cs := ints s) (.head _) (.row _ _ _ _) (Nat.zero_le _) (by simp; omega) (by simp [ints, List.map_take]) (by simp; omega) (.inr ⟨4, rfl, hTl4⟩)
    repeat' (first | refine zP ?_ | refine zA ?_ | (refine zM ?_; intro _ _) | refine zX ?_ | (refine zC ?_; intro _ _ _ _) | (refine zS ?_; intro _ _) | refine zO ?_ | (apply Ws <;> intro hg))
    refine WR.op (by first | exact gN | exact gS rfl) rfl (OpV.slAh rfl rfl hTl4 (by omega)) ?_
    refine WR.call (by first | exact gN | exact gS rfl) rfl rfl (Clone_fs hH3 hSp (by simp; omega) (.inl (fun h => by have h9 := congrArg List.length h; rw [List.length_take, hs, List.length_nil] at h9; omega))) ?_
    rintro _ H4 ⟨Mx, n4, hO, hn4, hH4, _⟩
    repeat' (first | refine zP ?_ | refine zA ?_ | (refine zM ?_; intro _ _) | refine zX ?_ | (refine zC ?_; intro _ _ _ _) | (refine zS ?_; intro _ _) | (apply Ws <;> intro hg))
    exact Ends.ret2 rfl rfl ⟨_, s.take T.length, Mx, n4, by rw [h0], hO, by omega, hH4.sub (List.Sublist.append_left (List.sublist_cons_self _ _) _), .inr ⟨h0, s, hgo', rfl⟩⟩
  · repeat' (first | refine zP ?_ | refine zA ?_ | (refine zM ?_; intro _ _) | refine zX ?_ | (refine zC ?_; intro _ _ _ _) | (refine zS ?_; intro _ _) | refine zO ?_ | (apply Ws <;> intro hg))
    exact Ends.ret2 rfl rfl ⟨_, [], [], n1 + 1, rfl, .nil, by omega, hH3.tail, .inl ⟨h0, rfl⟩⟩
theorem Goes_fs (hH : hasH M n0 H) {T : List Int} (hS : Sl M 1 v (ints T)) (hTl : T.length ≤ 1000) {W : List Int} (hW : Sl M 1 w (ints W)) (hwl : W.length ≤ 1000) :
    FS C 27 [v, w] H (fun e H' => ∃ g n', e = .tuple #[.bool g, .int .i64 (leftE T W)] ∧ n0 ≤ n' ∧ hasH M n' H' ∧ ((leftE T W ≠ 0 ∧ g = false) ∨ (leftE T W = 0 ∧ ∃ s, goS T (startS T) W = some s ∧ g = everB T s))) := by
  have hv := hS.one_
  refine FS.intro (pf := pf27) rfl rfl rfl ?_
  repeat' (first | refine zP ?_ | refine zA ?_ | (refine zM ?_; intro _ _) | refine zX ?_ | (refine zC ?_; intro _ _ _ _) | (refine zS ?_; intro _ _) | (apply Ws <;> intro hg))
  refine WR.call (by first | exact gN | exact gS rfl) rfl rfl (checked_fs hH hS hTl hW hwl) ?_
  rintro _ H1 ⟨n1, s, hn1, hH1, rfl, hs, hgo⟩
  have hli : (ints s).length = 4 := by simp [hs]
  repeat' (first | refine zP ?_ | refine zA ?_ | (refine zM ?_; intro _ _) | refine zX ?_ | (refine zC ?_; intro _ _ _ _) | (refine zS ?_; intro _ _) | (apply Ws <;> intro hg))
  rename_i H2 hH2
  refine WR.storeA (by first | exact gN | exact gS rfl) hH2 rfl rfl hs .here rfl fun H3 hH3 => ?_
  by_cases h0 : leftE T W = 0
  · have hgo' := hgo h0
    have hE : errT T = 0 := by
      unfold leftE at h0
      split at h0
      · rename_i h; exact absurd h0 h
      · rename_i h; omega
    have hWE : walkE T.length W = 0 := by
      unfold leftE at h0
      rw [if_neg (by omega)] at h0
      split at h0
      · rename_i h; exact absurd h0 h
      · rename_i h; omega
    obtain ⟨hT, h1⟩ := errT_ok hE
    have hsk := goS_ok hT (start_ok hT) (walkE_ok.1 hWE).2 hgo'
    repeat' (first | refine zP ?_ | refine zA ?_ | (refine zM ?_; intro _ _) | refine zX ?_ | (refine zC ?_; intro _ _ _ _) | (refine zS ?_; intro _ _) | refine zO ?_ | (apply Ws <;> intro hg))
    refine WC.regionD ?_
    repeat' (first | refine zD ?_ | (refine zE ?_; intro _ _ _ _))
    refine WD.call (by first | exact gN | exact gS rfl) rfl rfl (look_fs hH3 hv) ?_
    rintro _ H4 ⟨b, n4, rfl, hb, hbn, hH4⟩
    refine ⟨stands_cons (.inr (holdsN' (readA hH4 (.tail _ (.head _)) hs) (sameL_ints _))) stands_nil', ?_⟩
    refine WD.toWR rfl ?_
    refine WR.call (by first | exact gN | exact gS rfl) rfl rfl (more_fs hT _ (Nat.lt_succ_self _) hH4 hS.cons hsk (KeysN.nil 4) (inv_nil T) (fun t ht => by cases ht)) ?_
    rintro _ H5 ⟨r, m', n5, rfl, hr, hn5, hH5, _, _, _⟩
    repeat' (first | refine zP ?_ | refine zA ?_ | (refine zM ?_; intro _ _) | refine zX ?_ | (refine zC ?_; intro _ _ _ _) | (refine zS ?_; intro _ _) | (apply Ws <;> intro hg))
    exact Ends.ret2 rfl rfl ⟨_, n5, by rw [h0], by omega, hH5.tail.tail, .inr ⟨h0, s, hgo', hr.everB⟩⟩
  · repeat' (first | refine zP ?_ | refine zA ?_ | (refine zM ?_; intro _ _) | refine zX ?_ | (refine zC ?_; intro _ _ _ _) | (refine zS ?_; intro _ _) | refine zO ?_ | (apply Ws <;> intro hg))
    exact Ends.ret2 rfl rfl ⟨false, n1 + 1, rfl, by omega, hH3.tail, .inl ⟨h0, rfl⟩⟩
end
end Go.Proofs.Ytnmlfjohoeebiaa.Wk

/- The law WalkEven. -/
namespace Go.Proofs.Ytnmlfjohoeebiaa.Wk
open Go Go.Abs Go.Mth
set_option linter.unusedVariables false
set_option linter.unusedSimpArgs false
def evF (r y : Nat) : Nat := if 4 < r then [1, 2, 6, 6].getD (y % 4) 0 else if r = 4 then [1, 3, 3, 6].getD (y % 4) 0 else 2 ^ (y % 4)
def evT (r : Nat) (ys : List Nat) (n : Nat) : List Nat := (List.range n).map fun i => evF r (ys.getD i 0)
attribute [local irreducible] gOK WS WC WR WD Ends FS YS OpV seqK blockK loopK midK retK rdK asgK rangeEnd sat Cell
section
variable {M : HL} {n0 : Nat} {H : Heap} {v w : Value}
end
end Go.Proofs.Ytnmlfjohoeebiaa.Wk

/- The law WalkWalked. -/
namespace Go.Proofs.Ytnmlfjohoeebiaa.Wk
open Go Go.Abs Go.Mth
set_option linter.unusedVariables false
set_option linter.unusedSimpArgs false
theorem bytes_nat {zs : List Int} (h : ∀ z ∈ zs, 0 ≤ z ∧ z ≤ 255) : ∃ ys : List Nat, zs.map (Value.int .u8) = numsK .u8 ys ∧ ys.length = zs.length ∧ ∀ y ∈ ys, y ≤ 255 := by
  refine ⟨zs.map Int.toNat, ?_, by simp, fun y hy => ?_⟩
  · rw [numsK, List.map_map]
    refine List.map_congr_left fun z hz => ?_
    show Value.int .u8 z = Value.int .u8 ((z.toNat : Nat) : Int)
    rw [Int.toNat_of_nonneg (h z hz).1]
  · obtain ⟨z, hz, rfl⟩ := List.mem_map.1 hy
    have := h z hz
    omega
def modF (N y : Nat) : Nat := y % N
theorem firstT_wok {N m : Nat} {zs : List Nat} (hN : 1 ≤ N) : WOK N (firstT (modF N) zs m) := fun x hx => by
  obtain ⟨i, _, rfl⟩ := List.mem_map.1 hx
  have := Nat.mod_lt (zs.getD i 0) (show 0 < N by omega)
  simp only [modF]
  omega
theorem numsK_one (kk : IntKind) (l : List Nat) : (numsK kk l).all one = true := by
  rw [List.all_eq_true]; intro q hq; obtain ⟨z, _, rfl⟩ := List.mem_map.1 hq; rfl
theorem made_ok {ys : List Nat} {most n : Nat} (hn : n ≤ 4) (ho : 1 ≤ most ∧ most ≤ 8) : TOK (firstT (madeF most) ys n) :=
  firstT_ok hn fun y => by
    have := Nat.mod_lt y (show 0 < most by omega)
    unfold madeF; omega
attribute [local irreducible] gOK WS WC WR WD Ends FS YS OpV seqK blockK loopK midK retK rdK asgK rangeEnd sat Cell
section
variable {M : HL} {n0 : Nat} {H : Heap} {v w : Value}
set_option maxHeartbeats 1000000 in
theorem WalkWalked_fs (hH : hasH M n0 H) {a b c : Int} {hs : List Int} (ha : 0 ≤ a ∧ a ≤ 255) (hb : 0 ≤ b ∧ b ≤ 255) (hc : 0 ≤ c ∧ c ≤ 255) (hl : hs.length = 2) (hu : ∀ x ∈ hs, 0 ≤ x ∧ x ≤ 255) {many : Int} (hm : 0 ≤ many ∧ many ≤ 255) {by' : List Int} (hbl : by'.length = 12) (hbu : ∀ x ∈ by', 0 ≤ x ∧ x ≤ 255) :
    FS C 11 [.agg (trayV a b c hs).toArray, .int .u8 many, .agg (by'.map (Value.int .u8)).toArray] H (fun e H' => e = .bool true) := by
  obtain ⟨x, ys, hE, hx, hyl, hy⟩ := tray_beach ha hb hc hl hu
  obtain ⟨zs, hZ, hzl, hz⟩ := bytes_nat hbu
  obtain ⟨mn, rfl⟩ : ∃ mn : Nat, many = mn := ⟨many.toNat, by omega⟩
  rw [hE, hZ]
  rw [hbl] at hzl
  clear hE ha hb hc hl hu hZ hbu hbl
  have hone := beach_one x ys
  have hone2 := numsK_one .u8 zs
  have hbl : (beachC x ys).length = 5 := by simp [beachC, hyl]
  have hzl2 : (numsK .u8 zs).length = 12 := by simp [hzl]
  refine FS.intro (pf := pf11) rfl rfl rfl ?_
  repeat' (first | refine zP ?_ | refine zA ?_ | (refine zM ?_; intro _ _) | refine zX ?_ | (refine zC ?_; intro _ _ _ _) | (refine zS ?_; intro _ _) | (apply Ws <;> intro hg))
  rename_i H1 hH1 H1' hH1'
  refine WR.call (by first | exact gN | exact gS rfl) rfl rfl (made_fs (many := 4) (most := 8) hH1' hx hyl hy (by omega) (by omega)) ?_
  rintro tv H2 ⟨MT, n2, hOT, hn2, hH2⟩
  have hST := hOT.sl ((n0 + 1, .row 56 0 0 (numsK .u8 zs)) :: (n0, .row 45 0 0 (beachC x ys)) :: M)
  have hmem : (n0 + 1, Ch.row 56 0 0 (numsK .u8 zs)) ∈ MT ++ ((n0 + 1, .row 56 0 0 (numsK .u8 zs)) :: (n0, .row 45 0 0 (beachC x ys)) :: M) := List.mem_append_right _ (.head _)
  clear hOT hH1 hH1'
  generalize MT ++ ((n0 + 1, .row 56 0 0 (numsK .u8 zs)) :: (n0, .row 45 0 0 (beachC x ys)) :: M) = T0 at hH2 hST hmem
  obtain ⟨N, hN⟩ : ∃ N, 1 + x % 4 = N := ⟨_, rfl⟩
  have hN4 : 1 ≤ N ∧ N ≤ 4 := by omega
  rw [hN] at hST
  have hTok := made_ok (ys := ys) (most := 8) hN4.2 (by omega)
  have hTl : (firstT (madeF 8) ys N).length = N := firstT_len _ _ _
  generalize firstT (madeF 8) ys N = T at hST hTok hTl
  generalize n0 + 1 = nb at *
  repeat' (first | refine zP ?_ | refine zA ?_ | (refine zM ?_; intro _ _) | refine zX ?_ | (refine zC ?_; intro _ _ _ _) | (refine zS ?_; intro _ _) | (apply Ws <;> intro hg))
  refine WR.op (by first | exact gN | exact gS rfl) rfl (OpV.conv u8k i64k rfl (c := (mn : Int)) (IntWalk.i64_in _ (by omega))) ?_
  repeat' (first | refine zP ?_ | refine zA ?_ | (refine zM ?_; intro _ _) | refine zX ?_ | (refine zC ?_; intro _ _ _ _) | (refine zS ?_; intro _ _) | (apply Ws <;> intro hg))
  rw [show (mn : Int) % 13 = ((mn % 13 : Nat) : Int) by simp]
  obtain ⟨m, hmm⟩ : ∃ m, mn % 13 = m := ⟨_, rfl⟩
  have hm12 : m ≤ 12 := by omega
  rw [hmm]
  refine WR.op (by first | exact gN | exact gS rfl) rfl (OpV.slAh rfl rfl hm12 (by decide)) ?_
  repeat' (first | refine zP ?_ | refine zA ?_ | (refine zM ?_; intro _ _) | refine zX ?_ | (refine zC ?_; intro _ _ _ _) | (refine zS ?_; intro _ _) | (apply Ws <;> intro hg))
  refine WC.loopX [(7, _), (25, _), (26, _)] (fun s : AV => [(8, s.v), (27, .int .i64 (s.k : Int))]) []
    (fun s H' => s.k ≤ m ∧ n2 ≤ s.n ∧ Own 3 1 s.v (ints (firstT (modF N) zs s.k)) s.Mx ∧ hasH (s.Mx ++ T0) s.n H' ∧ (s.k = 0 → s.v = .slice none 0 0)) (fun s => m - s.k) ⟨0, .slice none 0 0, [], n2⟩ (by repeat' (first | exact .nil | refine .cons rfl ?_)) rfl
    ⟨Nat.zero_le _, Nat.le_refl _, .nil, hH2, fun _ => rfl⟩ ?_
  clear hH2
  rintro ⟨k, wv, MW, n3⟩ H3 ⟨hk, hn3, hO, hH3, hv0⟩
  simp only at hk hn3 hO hH3 hv0
  have hST3 : Sl (MW ++ T0) 1 tv (ints T) := hST.mono fun q hq => List.mem_append_right _ hq
  have hTlI : ((T.length : Nat) : Int) = (N : Int) := by rw [hTl]
  dsimp only [List.cons_append, List.nil_append]
  repeat' (first | refine zP ?_ | refine zA ?_ | (refine zM ?_; intro _ _) | refine zX ?_ | (refine zC ?_; intro _ _ _ _) | (refine zS ?_; intro _ _) | (apply Ws <;> intro hg))
  refine WC.condP rfl (fun hlt => ?_) (fun hlt => ?_)
  · have hk' : k < m := by omega
    have hzk : zs.getD k 0 ≤ 255 := hz _ (getD_mem (by omega))
    have hcell : (numsK .u8 zs)[k - 0]? = some (.int .u8 ((zs.getD k 0 : Nat) : Int)) := nodes_get (by omega)
    repeat' (first | refine zP ?_ | refine zA ?_ | (refine zM ?_; intro _ _) | refine zX ?_ | (refine zC ?_; intro _ _ _ _) | (refine zS ?_; intro _ _) | (apply Ws <;> intro hg))
    refine WR.op (by first | exact gN | exact gS rfl) rfl (OpV.load1 rfl hH3 (List.mem_append_right _ hmem) (.row _ _ _ _) (Nat.zero_le _) hcell) ?_
    repeat' (first | refine zP ?_ | refine zA ?_ | (refine zM ?_; intro _ _) | refine zX ?_ | (refine zC ?_; intro _ _ _ _) | (refine zS ?_; intro _ _) | (apply Ws <;> intro hg))
    refine WR.op (by first | exact gN | exact gS rfl) rfl (OpV.conv u8k i64k rfl (c := ((zs.getD k 0 : Nat) : Int)) (IntWalk.i64_in _ (by omega))) ?_
    repeat' (first | refine zP ?_ | refine zA ?_ | (refine zM ?_; intro _ _) | refine zX ?_ | (refine zC ?_; intro _ _ _ _) | (refine zS ?_; intro _ _) | (apply Ws <;> intro hg))
    rw [hTlI, show ((zs.getD k 0 : Nat) : Int) % (N : Int) = ((modF N (zs.getD k 0) : Nat) : Int) by simp [modF]]
    have hmm' := Nat.mod_lt (zs.getD k 0) (show 0 < N by omega)
    refine WR.append1F [] MW T0 rfl rfl rfl rfl hO hH3 (new := [.int .i64 ((modF N (zs.getD k 0) : Nat) : Int)]) (by rfl) rfl rfl (Nat.le_refl _) (by omega) (by simp [firstT_len]; omega) fun v3 M3 n4 H6 hO3 hH6 hn4 => ?_
    replace hH6 : hasH (M3 ++ T0) n4 H6 := hH6
    repeat' (first | refine zP ?_ | refine zA ?_ | (refine zM ?_; intro _ _) | refine zX ?_ | (refine zC ?_; intro _ _ _ _) | (refine zS ?_; intro _ _) | (apply Ws <;> intro hg))
    refine Ends.loop ⟨k + 1, v3, M3, n4⟩ (by simp only; omega) (by repeat' (first | exact .nil | refine .cons rfl ?_)) rfl ⟨hk', by simp only; omega, ?_, hH6, fun h => by simp only at h; omega⟩
    show Own _ 1 v3 (List.map (Value.int .i64) (firstT (modF N) zs (k + 1))) M3
    rw [firstT_succ, List.map_append]
    exact hO3
  · have hkm : k = m := by omega
    subst hkm
    have hwok := firstT_wok (N := N) (m := k) (zs := zs) hN4.1
    have hwl : (firstT (modF N) zs k).length = k := firstT_len _ _ _
    have hnil : firstT (modF N) zs k ≠ [] ∨ wv = .slice none 0 0 := by
      by_cases h0 : k = 0
      · exact .inr (hv0 h0)
      · exact .inl fun h => by rw [h] at hwl; simp at hwl; omega
    have hSW := hO.sl T0
    generalize MW ++ T0 = T1 at hH3 hST3 hSW
    generalize firstT (modF N) zs k = W at hSW hwok hwl hnil
    rw [← hTl] at hwok
    have hE := errT_of hTok (by omega)
    have hWE : walkE T.length W = 0 := walkE_ok.2 ⟨by omega, hwok⟩
    have hLE : leftE T W = if goS T (startS T) W = none then 12 else 0 := by unfold leftE; rw [if_neg (by omega), if_neg (by omega)]
    repeat' (first | refine zP ?_ | refine zA ?_ | (refine zM ?_; intro _ _) | refine zX ?_ | (refine zC ?_; intro _ _ _ _) | (refine zS ?_; intro _ _) | (apply Ws <;> intro hg))
    refine WR.call (by first | exact gN | exact gS rfl) rfl rfl (Left_fs hH3 hST3 (by omega) hSW (by omega)) ?_
    rintro _ H4 ⟨u, xs, MU, n4, rfl, hOU, hn4, hH4, hcase⟩
    have hSU := hOU.sl T1
    have hST4 : Sl (MU ++ T1) 1 tv (ints T) := hST3.mono fun q hq => List.mem_append_right _ hq
    have hSW4 : Sl (MU ++ T1) 1 wv (ints W) := hSW.mono fun q hq => List.mem_append_right _ hq
    clear hOU hH3 hST3 hSW
    generalize MU ++ T1 = T2 at hH4 hSU hST4 hSW4
    repeat' (first | refine zP ?_ | refine zA ?_ | (refine zM ?_; intro _ _) | refine zX ?_ | (refine zC ?_; intro _ _ _ _) | (refine zS ?_; intro _ _) | (apply Ws <;> intro hg))
    refine WR.call (by first | exact gN | exact gS rfl) rfl rfl (Goes_fs hH4 hST4 (by omega) hSW4 (by omega)) ?_
    rintro _ H5 ⟨g, n5, rfl, hn5, hH5, hcase2⟩
    repeat' (first | refine zP ?_ | refine zA ?_ | (refine zM ?_; intro _ _) | refine zX ?_ | (refine zC ?_; intro _ _ _ _) | (refine zS ?_; intro _ _) | (apply Ws <;> intro hg))
    refine WR.call (by first | exact gN | exact gS rfl) rfl rfl (walked_fs hH5 hST4 hTok hSW4 (by omega)) ?_
    rintro _ _ ⟨rfl, rfl⟩
    rcases go_good hTok hwok with ⟨h1, h2⟩ | ⟨h1, s, h2, h3⟩
    · have hL12 : leftE T W = 12 := by rw [hLE, if_pos h1]
      rw [goodB_false h2]
      rcases hcase with ⟨_, rfl⟩ | ⟨h, _⟩
      · rcases hcase2 with ⟨_, rfl⟩ | ⟨h, _⟩
        · rw [hL12]
          repeat' (first | refine zP ?_ | refine zA ?_ | (refine zM ?_; intro _ _) | refine zX ?_ | (refine zC ?_; intro _ _ _ _) | (refine zS ?_; intro _ _) | refine zO ?_ | (apply Ws <;> intro hg))
          refine WR.call (by first | exact gN | exact gS rfl) rfl rfl (FS.works (C := C) (R := fun v H' => v = .bool true) rfl) ?_
          rintro _ _ rfl
          repeat' (first | refine zP ?_ | refine zA ?_ | (refine zM ?_; intro _ _) | refine zX ?_ | (refine zC ?_; intro _ _ _ _) | (refine zS ?_; intro _ _) | (apply Ws <;> intro hg))
          exact Ends.ret1 rfl rfl
        · omega
      · omega
    · have hL0 : leftE T W = 0 := by rw [hLE, if_neg (by rw [h2]; simp)]
      rw [goodB_true.2 h1]
      rcases hcase with ⟨h, _⟩ | ⟨_, s', h4, rfl⟩
      · omega
      rw [h2] at h4
      cases h4
      have hs := goS_ok hTok (start_ok hTok) hwok h2
      have hll := lawLeft_len T W T.length
      have hlq := lawLeft_eq hTok hs h3
      rw [hL0]
      repeat' (first | refine zP ?_ | refine zA ?_ | (refine zM ?_; intro _ _) | refine zX ?_ | (refine zC ?_; intro _ _ _ _) | (refine zS ?_; intro _ _) | refine zO ?_ | (apply Ws <;> intro hg))
      refine WR.call (by first | exact gN | exact gS rfl) rfl rfl (left_fs hH5 hST4 hTok hSW4 (by omega)) ?_
      rintro _ H6 ⟨n6, hn6, rfl, hH6⟩
      repeat' (first | refine zP ?_ | refine zA ?_ | (refine zM ?_; intro _ _) | refine zX ?_ | (refine zC ?_; intro _ _ _ _) | (refine zS ?_; intro _ _) | (apply Ws <;> intro hg))
      rename_i H7 hH7
      refine WR.storeA (by first | exact gN | exact gS rfl) hH7 rfl rfl hll .here rfl fun H8 hH8 => ?_
      have hSp : Sl ((n6, Ch.row 53 0 0 (ints (lawLeft T W T.length))) :: T2) 1 (.slice (some ⟨n6, 0, some 0⟩) T.length (2 * 4 + 1)) (ints ((lawLeft T W T.length).take T.length)) :=
        .row (lo := 0) (cs := ints (lawLeft T W T.length)) (.head _) (.row _ _ _ _) (Nat.zero_le _) (by simp; omega) (by simp [ints, List.map_take]) (by simp; omega) (.inr ⟨4, rfl, by omega⟩)
      repeat' (first | refine zP ?_ | refine zA ?_ | (refine zM ?_; intro _ _) | refine zX ?_ | (refine zC ?_; intro _ _ _ _) | (refine zS ?_; intro _ _) | refine zO ?_ | (apply Ws <;> intro hg))
      refine WR.op (by first | exact gN | exact gS rfl) rfl (OpV.slAh rfl rfl (by omega) (by decide)) ?_
      refine WR.call (by first | exact gN | exact gS rfl) rfl rfl (same_fs hH8 hSU.cons hSp (by simp; omega) (by simp; omega)) ?_
      rintro _ _ ⟨rfl, rfl⟩
      rw [decide_eq_true hlq.symm]
      repeat' (first | refine zP ?_ | refine zA ?_ | (refine zM ?_; intro _ _) | refine zX ?_ | (refine zC ?_; intro _ _ _ _) | (refine zS ?_; intro _ _) | refine zO ?_ | (apply Ws <;> intro hg))
      refine WR.call (by first | exact gN | exact gS rfl) rfl rfl (Clone_fs hH8 hSW4.cons (by omega) hnil) ?_
      rintro cv H9 ⟨MC, n9, hOC, hn9, hH9, _⟩
      have hSTc : Sl (MC ++ (n6, Ch.row 53 0 0 (ints (lawLeft T W T.length))) :: T2) 1 tv (ints T) := hST4.mono fun q hq => List.mem_append_right _ (List.mem_cons_of_mem _ hq)
      repeat' (first | refine zP ?_ | refine zA ?_ | (refine zM ?_; intro _ _) | refine zX ?_ | (refine zC ?_; intro _ _ _ _) | (refine zS ?_; intro _ _) | refine zO ?_ | (apply Ws <;> intro hg))
      refine WR.append1F [] MC _ rfl rfl rfl rfl hOC hH9 (new := [.int .i64 ((T.length : Nat) : Int)]) (by rfl) rfl rfl (Nat.le_refl _) (by omega) (by simp; omega) fun v3 M3 n10 H10 hO3 hH10 hn10 => ?_
      replace hH10 : hasH (M3 ++ ((n6, Ch.row 53 0 0 (ints (lawLeft T W T.length))) :: T2)) n10 H10 := hH10
      have hST10 : Sl (M3 ++ ((n6, Ch.row 53 0 0 (ints (lawLeft T W T.length))) :: T2)) 1 tv (ints T) := hST4.mono fun q hq => List.mem_append_right _ (List.mem_cons_of_mem _ hq)
      have hSv3 : Sl (M3 ++ ((n6, Ch.row 53 0 0 (ints (lawLeft T W T.length))) :: T2)) 1 v3 (ints (W ++ [((T.length : Nat) : Int)])) := by
        have := hO3.sl ((n6, Ch.row 53 0 0 (ints (lawLeft T W T.length))) :: T2)
        rwa [show ints (W ++ [((T.length : Nat) : Int)]) = ints W ++ [.int .i64 ((T.length : Nat) : Int)] by rw [ints, List.map_append]; rfl]
      clear hO3 hOC hH9 hSTc
      generalize M3 ++ ((n6, Ch.row 53 0 0 (ints (lawLeft T W T.length))) :: T2) = T3 at hH10 hST10 hSv3
      have hW2 : walkE T.length (W ++ [((T.length : Nat) : Int)]) = 2 := by
        unfold walkE
        rw [if_neg (by simp; omega)]
        have h5 : firstE (fun i => strE T.length ((W ++ [((T.length : Nat) : Int)]).getD i 0)) W.length = 0 := firstE_zero.2 fun i hi => by
          have := hwok _ (getD_mem (a := 0) hi)
          show strE _ _ = 0
          rw [getD_app_l hi]
          unfold strE
          rw [if_neg (by omega)]
        have h6 : strE T.length ((W ++ [((T.length : Nat) : Int)]).getD W.length 0) = 2 := by
          rw [getD_snoc]; unfold strE; rw [if_pos (.inr (Int.le_refl _))]
        rw [firstE_at h5 (by show strE _ _ ≠ 0; rw [h6]; decide) (by simp), h6]
      have hL2 : leftE T (W ++ [((T.length : Nat) : Int)]) = 2 := by unfold leftE; rw [if_neg (by omega), if_pos (by omega), hW2]
      repeat' (first | refine zP ?_ | refine zA ?_ | (refine zM ?_; intro _ _) | refine zX ?_ | (refine zC ?_; intro _ _ _ _) | (refine zS ?_; intro _ _) | refine zO ?_ | (apply Ws <;> intro hg))
      refine WR.call (by first | exact gN | exact gS rfl) rfl rfl (Left_fs hH10 hST10 (by omega) hSv3 (by simp; omega)) ?_
      rintro _ H11 ⟨u2, xs2, MU2, n11, rfl, hOU2, hn11, hH11, _⟩
      have hST11 : Sl (MU2 ++ T3) 1 tv (ints T) := hST10.mono fun q hq => List.mem_append_right _ hq
      clear hOU2 hH10 hST10 hSv3
      generalize MU2 ++ T3 = T4 at hH11 hST11
      rw [hL2]
      repeat' (first | refine zP ?_ | refine zA ?_ | (refine zM ?_; intro _ _) | refine zX ?_ | (refine zC ?_; intro _ _ _ _) | (refine zS ?_; intro _ _) | refine zO ?_ | (apply Ws <;> intro hg))
      refine WR.mkS (m := 61) (by first | exact gN | exact gS rfl) rfl hH11 rfl rfl (by omega) rfl fun H12 hH12 => ?_
      have hS61 : Sl ((n11, Ch.row 3 0 0 (List.replicate 61 (Value.int .i64 0))) :: T4) 1 (.slice (some ⟨n11, 0, some 0⟩) 61 (2 * 61 + 1)) (ints (List.replicate 61 0)) :=
        .row (lo := 0) (cs := List.replicate 61 (Value.int .i64 0)) (.head _) (.row _ _ _ _) (Nat.zero_le _) (by simp) (by simp) (by simp) (.inr ⟨61, rfl, Nat.le_refl _⟩)
      have hW19 : walkE T.length (List.replicate 61 0) = 19 := by unfold walkE; rw [if_pos (by simp)]
      have hL19 : leftE T (List.replicate 61 0) = 19 := by unfold leftE; rw [if_neg (by omega), if_pos (by omega), hW19]
      refine WR.call (by first | exact gN | exact gS rfl) rfl rfl (Left_fs hH12 hST11.cons (by omega) hS61 (by simp)) ?_
      rintro _ H13 ⟨u3, xs3, MU3, n13, rfl, hOU3, hn13, hH13, _⟩
      rw [hL19]
      repeat' (first | refine zP ?_ | refine zA ?_ | (refine zM ?_; intro _ _) | refine zX ?_ | (refine zC ?_; intro _ _ _ _) | (refine zS ?_; intro _ _) | refine zO ?_ | (apply Ws <;> intro hg))
      refine WR.call (by first | exact gN | exact gS rfl) rfl rfl (FS.works (C := C) (R := fun v H' => v = .bool true) rfl) ?_
      rintro _ _ rfl
      repeat' (first | refine zP ?_ | refine zA ?_ | (refine zM ?_; intro _ _) | refine zX ?_ | (refine zC ?_; intro _ _ _ _) | (refine zS ?_; intro _ _) | (apply Ws <;> intro hg))
      exact Ends.ret1 rfl rfl
end
end Go.Proofs.Ytnmlfjohoeebiaa.Wk
