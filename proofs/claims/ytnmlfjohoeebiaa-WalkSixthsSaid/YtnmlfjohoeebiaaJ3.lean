/- Texts of the law, joined. -/
import Derived.Test.YtnmlfjohoeebiaaJ2
import Derived.Test.YtnmlfjohoeebiaaJ1
/- Left, Goes, and what the laws say of walks. -/
namespace Go.Abs
set_option linter.unusedSectionVars false
variable [Globs]
open Go
section
variable {C : CW} {nt : Nat} {L : Env} {D : List Nat} {H : Heap} {K : St → Prop} {M M' : HL} {n i d : Nat} {gd : Option (Tmp × Bool)} {lo' : List Nat} {l : List POp}
/-- A part of a slice. -/
theorem WR.cutI {x lo hi : Operand} {v : Value} {xs : List Int} {a b : Nat} {ka kb : IntKind} (hg : gOK L gd) (hd : Nat.blt d nt = true) (hx : ev L x = some v) (hS : Sl M 1 v (ints xs)) (h1 : ev L lo = some (.int ka (a : Int))) (h2 : ev L hi = some (.int kb (b : Int))) (hab : a ≤ b) (hb : b ≤ xs.length)
    (k : ∀ v', Sl M 1 v' (ints ((xs.drop a).take (b - a))) → WR C nt l ((d, v') :: L) D H K) : WR C nt (⟨i, some d, .slS x 1 (some lo) (some hi) none, gd, lo'⟩ :: l) L D H K := by
  refine WR.slS (vl := some (.int ka (a : Int))) (vh := some (.int kb (b : Int))) (a := a) (b := b) hg hd hx hS (by simp [bnd, h1]) (by simp [bnd, h2]) rfl (fun _ _ => rfl) hab (by simpa using hb) (Nat.le_refl _) fun v' h => k v' ?_
  simpa [List.map_take, List.map_drop] using h
theorem WR.cutLo {x lo : Operand} {v : Value} {xs : List Int} {a : Nat} {ka : IntKind} (hg : gOK L gd) (hd : Nat.blt d nt = true) (hx : ev L x = some v) (hS : Sl M 1 v (ints xs)) (h1 : ev L lo = some (.int ka (a : Int))) (hab : a ≤ xs.length)
    (k : ∀ v', Sl M 1 v' (ints (xs.drop a)) → WR C nt l ((d, v') :: L) D H K) : WR C nt (⟨i, some d, .slS x 1 (some lo) none none, gd, lo'⟩ :: l) L D H K := by
  refine WR.slS (vl := some (.int ka (a : Int))) (vh := none) (a := a) (b := xs.length) hg hd hx hS (by simp [bnd, h1]) rfl rfl (fun len h => by simp [hiOf]; simpa using h) hab (by simp) (Nat.le_refl _) fun v' h => k v' ?_
  have e : ((ints xs).drop (a * 1)).take ((xs.length - a) * 1) = ints (xs.drop a) := by
    rw [Nat.mul_one, Nat.mul_one, List.take_of_length_le (by simp), ints, ints, List.map_drop]
  rwa [e] at h
end
end Go.Abs
namespace Go.Proofs.Ytnmlfjohoeebiaa.Wk
open Go Go.Abs Go.Mth
set_option linter.unusedVariables false
set_option linter.unusedSimpArgs false
open Classical in
noncomputable def goodB (T W : List Int) : Bool := decide (GoodW T W)
open Classical in
theorem goodB_true {T W : List Int} : goodB T W = true ↔ GoodW T W := by unfold goodB; exact decide_eq_true_iff
theorem goodB_false {T W : List Int} (h : ¬ GoodW T W) : goodB T W = false := by
  cases hb : goodB T W with
  | false => rfl
  | true => exact absurd (goodB_true.1 hb) h
/-- What the law says is left. -/
def lawLeft (T W : List Int) (k : Nat) : List Int := (List.range 4).map fun i => if i < k then T.getD i 0 - (sinceK W i W.length : Int) else 0
attribute [local irreducible] gOK WS WC WR WD Ends FS YS OpV seqK blockK loopK midK retK rdK asgK rangeEnd sat Cell
section
variable {M : HL} {n0 : Nat} {H : Heap} {v w : Value}
theorem walked_fs (hH : hasH M n0 H) {T W : List Int} (hS : Sl M 1 v (ints T)) (hT : TOK T) (hU : Sl M 1 w (ints W)) (hW : W.length ≤ 1000) :
    FS C 40 [v, w] H (fun e H' => e = .bool (goodB T W) ∧ H' = H) := by
  have hTl := hT.len
  refine FS.intro (pf := pf40) rfl rfl rfl ?_
  repeat' (first | refine zP ?_ | refine zA ?_ | (refine zM ?_; intro _ _) | refine zX ?_ | (refine zC ?_; intro _ _ _ _) | (refine zS ?_; intro _ _) | (apply Ws <;> intro hg))
  refine WC.loopX [(0, _), (1, _), (8, _), (9, _)] (fun k : Nat => [(10, .int .i64 (k : Int))]) [] (fun k H' => H' = H ∧ k ≤ T.length ∧ ∀ i, i < k → ∀ f, f + (T.getD i 0).toNat ≤ W.length → (i : Int) ∈ (W.drop f).take (T.getD i 0).toNat) (fun k => T.length - k) 0 (by repeat' (first | exact .nil | refine .cons rfl ?_)) rfl ⟨rfl, Nat.zero_le _, fun j h => absurd h (Nat.not_lt_zero _)⟩ ?_
  rintro k H' ⟨rfl, hk, hno⟩
  dsimp only [List.cons_append, List.nil_append]
  repeat' (first | refine zP ?_ | refine zA ?_ | (refine zM ?_; intro _ _) | refine zX ?_ | (refine zC ?_; intro _ _ _ _) | (refine zS ?_; intro _ _) | (apply Ws <;> intro hg))
  refine WC.condP rfl (fun hlt => ?_) (fun hlt => ?_)
  · have hk' : k < T.length := by omega
    obtain ⟨t, ht⟩ : ∃ t : Nat, T.getD k 0 = (t : Int) := ⟨(T.getD k 0).toNat, by have := hT.lo k hk'; omega⟩
    have ht8 := hT.hi k hk'
    have ht1 := hT.lo k hk'
    repeat' (first | refine zP ?_ | refine zA ?_ | (refine zM ?_; intro _ _) | refine zX ?_ | (refine zC ?_; intro _ _ _ _) | (refine zS ?_; intro _ _) | (apply Ws <;> intro hg))
    rw [ht] at ht8 ht1 ⊢
    refine WC.loopX [(0, _), (1, _), (8, _), (9, _), (10, _), (5, .int .i64 (k : Int)), (6, .int .i64 (t : Int))] (fun f : Nat => [(7, .int .i64 (f : Int))]) [] (fun f H'' => H'' = H' ∧ f ≤ W.length + 1 ∧ ∀ g, g < f → g + t ≤ W.length → (k : Int) ∈ (W.drop g).take t) (fun f => W.length + 1 - f) 0 (by repeat' (first | exact .nil | refine .cons rfl ?_)) rfl ⟨rfl, by omega, fun j h => absurd h (Nat.not_lt_zero _)⟩ ?_
    rintro f H2 ⟨rfl, hf, hin⟩
    dsimp only [List.cons_append, List.nil_append]
    repeat' (first | refine zP ?_ | refine zA ?_ | (refine zM ?_; intro _ _) | refine zX ?_ | (refine zC ?_; intro _ _ _ _) | (refine zS ?_; intro _ _) | (apply Ws <;> intro hg))
    refine WC.condP rfl (fun hle => ?_) (fun hle => ?_)
    · have hle' : f + t ≤ W.length := by omega
      repeat' (first | refine zP ?_ | refine zA ?_ | (refine zM ?_; intro _ _) | refine zX ?_ | (refine zC ?_; intro _ _ _ _) | (refine zS ?_; intro _ _) | (apply Ws <;> intro hg))
      rw [show (f : Int) + (t : Int) = ((f + t : Nat) : Int) by omega]
      refine WR.cutI (a := f) (b := f + t) (by first | exact gN | exact gS rfl) rfl rfl hU rfl rfl (by omega) hle' fun v5 hS5 => ?_
      repeat' (first | refine zP ?_ | refine zA ?_ | (refine zM ?_; intro _ _) | refine zX ?_ | (refine zC ?_; intro _ _ _ _) | (refine zS ?_; intro _ _) | (apply Ws <;> intro hg))
      refine WR.call (by first | exact gN | exact gS rfl) rfl rfl (Contains_fs hH hS5 (by simp; omega) k) ?_
      rintro _ _ ⟨rfl, rfl⟩
      rw [Nat.add_sub_cancel_left]
      by_cases hm : (k : Int) ∈ (W.drop f).take t
      · rw [decide_eq_true hm]
        repeat' (first | refine zP ?_ | refine zA ?_ | (refine zM ?_; intro _ _) | refine zX ?_ | (refine zC ?_; intro _ _ _ _) | (refine zS ?_; intro _ _) | (apply Ws <;> intro hg))
        refine Ends.loop (f + 1) (by omega) (by repeat' (first | exact .nil | refine .cons rfl ?_)) rfl ⟨rfl, by omega, fun g hg => ?_⟩
        rcases Nat.lt_or_ge g f with h | h
        · exact hin g h
        · have : g = f := by omega
          subst this; exact fun _ => hm
      · rw [decide_eq_false hm]
        repeat' (first | refine zP ?_ | refine zA ?_ | (refine zM ?_; intro _ _) | refine zX ?_ | (refine zC ?_; intro _ _ _ _) | (refine zS ?_; intro _ _) | (apply Ws <;> intro hg))
        refine Ends.ret1 rfl ⟨?_, rfl⟩
        rw [goodB_false fun h => hm ?_]
        have := h k hk' f (by rw [ht, Int.toNat_natCast]; exact hle')
        rwa [ht, Int.toNat_natCast] at this
    · repeat' (first | refine zP ?_ | refine zA ?_ | (refine zM ?_; intro _ _) | refine zX ?_ | (refine zC ?_; intro _ _ _ _) | (refine zS ?_; intro _ _) | (apply Ws <;> intro hg))
      refine Ends.loop (k + 1) (by omega) (by repeat' (first | exact .nil | refine .cons rfl ?_)) rfl ⟨rfl, hk', fun i hi g hg => ?_⟩
      rcases Nat.lt_or_ge i k with h | h
      · exact hno i h g hg
      · have : i = k := by omega
        subst this
        rw [ht] at hg ⊢
        rw [Int.toNat_natCast] at hg ⊢
        exact hin g (by omega) hg
  · have hkn : k = T.length := by omega
    subst hkn
    repeat' (first | refine zP ?_ | refine zA ?_ | (refine zM ?_; intro _ _) | refine zX ?_ | (refine zC ?_; intro _ _ _ _) | (refine zS ?_; intro _ _) | (apply Ws <;> intro hg))
    exact Ends.ret1 rfl ⟨by rw [goodB_true.2 hno], rfl⟩
end
end Go.Proofs.Ytnmlfjohoeebiaa.Wk

/- The law WalkEven. -/
namespace Go.Proofs.Ytnmlfjohoeebiaa.Wk
open Go Go.Abs Go.Mth
set_option linter.unusedVariables false
set_option linter.unusedSimpArgs false
def evF (r y : Nat) : Nat := if 4 < r then [1, 2, 6, 6].getD (y % 4) 0 else if r = 4 then [1, 3, 3, 6].getD (y % 4) 0 else 2 ^ (y % 4)
def evT (r : Nat) (ys : List Nat) (n : Nat) : List Nat := (List.range n).map fun i => evF r (ys.getD i 0)
attribute [local irreducible] gOK WS WC WR WD Ends FS YS OpV seqK blockK loopK midK retK rdK asgK rangeEnd sat Cell
section
variable {M : HL} {n0 : Nat} {H : Heap} {v w : Value}
end
end Go.Proofs.Ytnmlfjohoeebiaa.Wk

/- A plan, repeated nine times. -/
namespace Go.Proofs.Ytnmlfjohoeebiaa.Wk
open Go Go.Abs Go.Mth
set_option linter.unusedVariables false
set_option linter.unusedSimpArgs false
set_option maxRecDepth 100000 in
theorem mul64_nine (H : Heap) : ∀ p : Nat, p < 61 → ∃ k, runW C k (.call 82 [.int .u64 (p : Int), .int .u64 9] H) = some (.val (.tuple #[.int .u64 0, .int .u64 ((p * 9 : Nat) : Int)]) H)
  | 0, _ => ⟨100, by kernel_rfl⟩
  | 1, _ => ⟨100, by kernel_rfl⟩
  | 2, _ => ⟨100, by kernel_rfl⟩
  | 3, _ => ⟨100, by kernel_rfl⟩
  | 4, _ => ⟨100, by kernel_rfl⟩
  | 5, _ => ⟨100, by kernel_rfl⟩
  | 6, _ => ⟨100, by kernel_rfl⟩
  | 7, _ => ⟨100, by kernel_rfl⟩
  | 8, _ => ⟨100, by kernel_rfl⟩
  | 9, _ => ⟨100, by kernel_rfl⟩
  | 10, _ => ⟨100, by kernel_rfl⟩
  | 11, _ => ⟨100, by kernel_rfl⟩
  | 12, _ => ⟨100, by kernel_rfl⟩
  | 13, _ => ⟨100, by kernel_rfl⟩
  | 14, _ => ⟨100, by kernel_rfl⟩
  | 15, _ => ⟨100, by kernel_rfl⟩
  | 16, _ => ⟨100, by kernel_rfl⟩
  | 17, _ => ⟨100, by kernel_rfl⟩
  | 18, _ => ⟨100, by kernel_rfl⟩
  | 19, _ => ⟨100, by kernel_rfl⟩
  | 20, _ => ⟨100, by kernel_rfl⟩
  | 21, _ => ⟨100, by kernel_rfl⟩
  | 22, _ => ⟨100, by kernel_rfl⟩
  | 23, _ => ⟨100, by kernel_rfl⟩
  | 24, _ => ⟨100, by kernel_rfl⟩
  | 25, _ => ⟨100, by kernel_rfl⟩
  | 26, _ => ⟨100, by kernel_rfl⟩
  | 27, _ => ⟨100, by kernel_rfl⟩
  | 28, _ => ⟨100, by kernel_rfl⟩
  | 29, _ => ⟨100, by kernel_rfl⟩
  | 30, _ => ⟨100, by kernel_rfl⟩
  | 31, _ => ⟨100, by kernel_rfl⟩
  | 32, _ => ⟨100, by kernel_rfl⟩
  | 33, _ => ⟨100, by kernel_rfl⟩
  | 34, _ => ⟨100, by kernel_rfl⟩
  | 35, _ => ⟨100, by kernel_rfl⟩
  | 36, _ => ⟨100, by kernel_rfl⟩
  | 37, _ => ⟨100, by kernel_rfl⟩
  | 38, _ => ⟨100, by kernel_rfl⟩
  | 39, _ => ⟨100, by kernel_rfl⟩
  | 40, _ => ⟨100, by kernel_rfl⟩
  | 41, _ => ⟨100, by kernel_rfl⟩
  | 42, _ => ⟨100, by kernel_rfl⟩
  | 43, _ => ⟨100, by kernel_rfl⟩
  | 44, _ => ⟨100, by kernel_rfl⟩
  | 45, _ => ⟨100, by kernel_rfl⟩
  | 46, _ => ⟨100, by kernel_rfl⟩
  | 47, _ => ⟨100, by kernel_rfl⟩
  | 48, _ => ⟨100, by kernel_rfl⟩
  | 49, _ => ⟨100, by kernel_rfl⟩
  | 50, _ => ⟨100, by kernel_rfl⟩
  | 51, _ => ⟨100, by kernel_rfl⟩
  | 52, _ => ⟨100, by kernel_rfl⟩
  | 53, _ => ⟨100, by kernel_rfl⟩
  | 54, _ => ⟨100, by kernel_rfl⟩
  | 55, _ => ⟨100, by kernel_rfl⟩
  | 56, _ => ⟨100, by kernel_rfl⟩
  | 57, _ => ⟨100, by kernel_rfl⟩
  | 58, _ => ⟨100, by kernel_rfl⟩
  | 59, _ => ⟨100, by kernel_rfl⟩
  | 60, _ => ⟨100, by kernel_rfl⟩
  | p + 61, h => absurd h (by omega)
theorem Mul_fs {H : Heap} {p : Nat} (h : p < 61) : FS C 82 [.int .u64 (p : Int), .int .u64 9] H (fun v H' => v = .tuple #[.int .u64 0, .int .u64 ((p * 9 : Nat) : Int)] ∧ H' = H) := by
  obtain ⟨k, hk⟩ := mul64_nine H p h
  exact ⟨_, _, ⟨k, hk⟩, rfl, rfl⟩
theorem uk : C.c.P.underlying 101 = some (.int .u64) := by kernel_rfl
/-- So many times the same. -/
def repI (P : List Int) (m : Nat) : List Int := (List.replicate m P).flatten
theorem repI_len (P : List Int) : ∀ m, (repI P m).length = m * P.length
  | 0 => by simp [repI]
  | m + 1 => by
    have := repI_len P m
    simp only [repI, List.replicate_succ, List.flatten_cons, List.length_append] at this ⊢
    rw [this, Nat.succ_mul]; omega
theorem repI_get (P : List Int) : ∀ {m j : Nat}, j < m * P.length → (repI P m).getD j 0 = P.getD (j % P.length) 0
  | 0, j, h => by simp at h
  | m + 1, j, h => by
    have e : repI P (m + 1) = P ++ repI P m := by simp [repI, List.replicate_succ]
    rw [e]
    by_cases h1 : j < P.length
    · rw [getD_app_l h1, Nat.mod_eq_of_lt h1]
    · rw [List.getD_eq_getElem?_getD, List.getElem?_append_right (by omega), ← List.getD_eq_getElem?_getD, repI_get P (by rw [Nat.succ_mul] at h; omega)]
      congr 1
      rw [Nat.mod_eq_sub_mod (by omega : j ≥ P.length)]
structure KR where
  k : Nat
  ys : List Int
attribute [local irreducible] gOK WS WC WR WD Ends FS YS OpV seqK blockK loopK midK retK rdK asgK rangeEnd sat Cell
section
variable {M : HL} {n0 : Nat} {H : Heap} {v w : Value}
set_option maxHeartbeats 1000000 in
theorem Repeat_fs (hH : hasH M n0 H) {P : List Int} (hS : Sl M 1 v (ints P)) (hp1 : 1 ≤ P.length) (hp : P.length ≤ 60) :
    FS C 66 [v, .int .i64 9] H (fun e H' => ∃ b n', e = .slice (some ⟨b, 0, some 0⟩) (P.length * 9) (2 * (P.length * 9) + 1) ∧ n0 ≤ n' ∧ hasH ((b, .row 3 0 0 (ints (repI P 9))) :: M) n' H') := by
  have h1 := hS.one_
  obtain ⟨p, hpe⟩ : ∃ p, P.length = p := ⟨_, rfl⟩
  refine FS.intro (pf := pf66) rfl rfl rfl ?_
  repeat' (first | refine zP ?_ | refine zA ?_ | (refine zM ?_; intro _ _) | refine zX ?_ | (refine zC ?_; intro _ _ _ _) | (refine zS ?_; intro _ _) | refine zO ?_ | (apply Ws <;> intro hg))
  rw [hpe] at hp1 hp ⊢
  refine WR.op (by first | exact gN | exact gS rfl) rfl (OpV.conv i64k uk rfl (c := (p : Int)) (IntWalk.u64_in _ (by omega))) ?_
  repeat' (first | refine zP ?_ | refine zA ?_ | (refine zM ?_; intro _ _) | refine zX ?_ | (refine zC ?_; intro _ _ _ _) | (refine zS ?_; intro _ _) | (apply Ws <;> intro hg))
  refine WR.op (by first | exact gN | exact gS rfl) rfl (OpV.conv i64k uk rfl (c := (9 : Int)) rfl) ?_
  refine WR.call (by first | exact gN | exact gS rfl) rfl rfl (Mul_fs (by omega)) ?_
  rintro _ _ ⟨rfl, rfl⟩
  repeat' (first | refine zP ?_ | refine zA ?_ | (refine zM ?_; intro _ _) | refine zX ?_ | (refine zC ?_; intro _ _ _ _) | (refine zS ?_; intro _ _) | refine zO ?_ | (apply Ws <;> intro hg))
  refine WR.op (by first | exact gN | exact gS rfl) rfl (OpV.conv uk i64k rfl (c := ((p * 9 : Nat) : Int)) (IntWalk.i64_in _ (by omega))) ?_
  obtain ⟨m, hm⟩ : ∃ m, p * 9 = m := ⟨_, rfl⟩
  rw [hm]
  refine WR.mkS (by first | exact gN | exact gS rfl) rfl hH rfl rfl (by omega) rfl fun H2 hH2 => ?_
  replace hH2 : hasH ((n0, .row 3 0 0 (ints (List.replicate m 0))) :: M) (n0 + 1) H2 := by rw [ints, List.map_replicate]; exact hH2
  have hS2 := hS.cons (p := (n0, .row 3 0 0 (ints (List.replicate m 0))))
  repeat' (first | refine zP ?_ | refine zA ?_ | (refine zM ?_; intro _ _) | refine zX ?_ | (refine zC ?_; intro _ _ _ _) | (refine zS ?_; intro _ _) | (apply Ws <;> intro hg))
  refine WR.copyMin (by first | exact gN | exact gS rfl) rfl rfl rfl hS2 hH2 .here (ints_one _) (Nat.le_refl _) (m := p) (by rw [List.length_map, hpe]; exact Nat.min_eq_left (by omega)) (by omega) (by simp; omega) rfl fun H3 hH3 => ?_
  rw [show (ints P).take p = ints (P.take p) by simp [ints, List.map_take], List.take_of_length_le (by omega), splice_ints] at hH3
  have hget0 := fun j => splice_get (cs := List.replicate m 0) (l := P) (i := 0 - 0) (by simp; omega) j
  have hl0 : ((List.replicate m (0 : Int)).take (0 - 0) ++ P ++ (List.replicate m 0).drop (0 - 0 + P.length)).length = m := by simp; omega
  have ha0 : ∀ j, j < p → ((List.replicate m (0 : Int)).take (0 - 0) ++ P ++ (List.replicate m 0).drop (0 - 0 + P.length)).getD j 0 = P.getD (j % p) 0 := fun j hj => by
    rw [hget0, if_neg (by omega), if_pos (by omega), Nat.mod_eq_of_lt hj]; rfl
  generalize (List.replicate m (0 : Int)).take (0 - 0) ++ P ++ (List.replicate m 0).drop (0 - 0 + P.length) = ys0 at hH3 hl0 ha0
  clear hget0 hS2
  repeat' (first | refine zP ?_ | refine zA ?_ | (refine zM ?_; intro _ _) | refine zX ?_ | (refine zC ?_; intro _ _ _ _) | (refine zS ?_; intro _ _) | (apply Ws <;> intro hg))
  refine WC.loopX [(7, .slice (some ⟨n0, 0, some 0⟩) m (2 * m + 1))] (fun s : KR => [(8, .int .i64 (s.k : Int))]) []
    (fun s H' => p ≤ s.k ∧ s.k ≤ m ∧ s.k % p = 0 ∧ s.ys.length = m ∧ (∀ j, j < s.k → s.ys.getD j 0 = P.getD (j % p) 0) ∧ hasH ((n0, .row 3 0 0 (ints s.ys)) :: M) (n0 + 1) H') (fun s => m - s.k) ⟨p, ys0⟩ (by repeat' (first | exact .nil | refine .cons rfl ?_)) rfl ⟨Nat.le_refl _, by simp only; omega, by simp, hl0, ha0, hH3⟩ ?_
  clear hH3 hH2 ha0 hl0
  rintro ⟨k, ys⟩ H4 ⟨hk1, hk, hkp, hl, ha, hH4⟩
  simp only at hk1 hk hkp hl ha hH4
  dsimp only [List.cons_append, List.nil_append]
  repeat' (first | refine zP ?_ | refine zA ?_ | (refine zM ?_; intro _ _) | refine zX ?_ | (refine zC ?_; intro _ _ _ _) | (refine zS ?_; intro _ _) | (apply Ws <;> intro hg))
  refine WC.condP rfl (fun hlt => ?_) (fun hlt => ?_)
  · have hk' : k < m := by omega
    repeat' (first | refine zP ?_ | refine zA ?_ | (refine zM ?_; intro _ _) | refine zX ?_ | (refine zC ?_; intro _ _ _ _) | (refine zS ?_; intro _ _) | (apply Ws <;> intro hg))
    refine WR.op (by first | exact gN | exact gS rfl) rfl (OpV.slLoK rfl rfl (by omega) (Nat.le_refl _) hk') ?_
    repeat' (first | refine zP ?_ | refine zA ?_ | (refine zM ?_; intro _ _) | refine zX ?_ | (refine zC ?_; intro _ _ _ _) | (refine zS ?_; intro _ _) | (apply Ws <;> intro hg))
    refine WR.op (by first | exact gN | exact gS rfl) rfl (OpV.slHiK rfl rfl (by omega) (by omega)) ?_
    have hSl : Sl ((n0, .row 3 0 0 (ints ys)) :: M) 1 (.slice (some ⟨n0, 0, some 0⟩) k (2 * m + 1)) (ints (ys.take k)) :=
      .row (lo := 0) (cs := ints ys) (.head _) (.row _ _ _ _) (Nat.zero_le _) (by simp; omega) (by simp [ints, List.map_take]) (by simp; omega) (.inr ⟨m, rfl, by omega⟩)
    obtain ⟨d, hd⟩ : ∃ d, min k (m - k) = d := ⟨_, rfl⟩
    have hmp : m % p = 0 := by rw [← hm]; exact Nat.mul_mod_right p 9
    have hdp : d % p = 0 := by
      have hd1 := Nat.dvd_of_mod_eq_zero hkp
      have hd2 := Nat.dvd_of_mod_eq_zero hmp
      rcases Nat.le_total k (m - k) with h | h
      · rw [← hd, Nat.min_eq_left h]; exact hkp
      · rw [← hd, Nat.min_eq_right h]; exact Nat.mod_eq_zero_of_dvd (Nat.dvd_sub hd2 hd1)
    refine WR.copyMin (by first | exact gN | exact gS rfl) rfl rfl rfl hSl hH4 .here (ints_one _) (Nat.zero_le _) (m := d) (by rw [show (ints (ys.take k)).length = k by simp; omega]; exact hd) (by omega) (by simp; omega) rfl fun H5 hH5 => ?_
    rw [show (ints (ys.take k)).take d = ints ((ys.take k).take d) by simp [ints, List.map_take], show splice (ints ys) (0 + k - 0) (ints ((ys.take k).take d)) = ints (ys.take (0 + k - 0) ++ (ys.take k).take d ++ ys.drop ((0 + k - 0) + ((ys.take k).take d).length)) from splice_ints] at hH5
    have htl : ((ys.take k).take d).length = d := by simp; omega
    have hget := fun j => splice_get (cs := ys) (l := (ys.take k).take d) (i := 0 + k - 0) (by omega) j
    have hnl : (ys.take (0 + k - 0) ++ (ys.take k).take d ++ ys.drop ((0 + k - 0) + ((ys.take k).take d).length)).length = m := by simp; omega
    generalize ys.take (0 + k - 0) ++ (ys.take k).take d ++ ys.drop ((0 + k - 0) + ((ys.take k).take d).length) = ys2 at hH5 hget hnl
    repeat' (first | refine zP ?_ | refine zA ?_ | (refine zM ?_; intro _ _) | refine zX ?_ | (refine zC ?_; intro _ _ _ _) | (refine zS ?_; intro _ _) | (apply Ws <;> intro hg))
    refine Ends.loop ⟨k + d, ys2⟩ (by simp only; omega) (by repeat' (first | exact .nil | refine .cons rfl ?_)) rfl ⟨by simp only; omega, by simp only; omega, by simp only; rw [Nat.add_mod, hkp, hdp]; simp, hnl, fun j hj => ?_, hH5⟩
    simp only at hj ⊢
    rw [hget, htl]
    split
    · exact ha j (by omega)
    · rw [if_pos (by omega), List.getD_eq_getElem?_getD, List.getElem?_take_of_lt (by omega), List.getElem?_take_of_lt (by omega), ← List.getD_eq_getElem?_getD, ha _ (by omega)]
      congr 1
      have : j = k + (j - k) := by omega
      rw [show 0 + k - 0 = k by omega]
      conv => rhs; rw [this, Nat.add_mod, hkp, Nat.zero_add, Nat.mod_mod]
  have hkn : k = m := by omega
  subst hkn
  have : ys = repI P 9 := ext_getD (a := 0) (by rw [repI_len]; omega) fun j hj => by rw [ha j (by omega), repI_get P (by omega), hpe]
  subst this
  repeat' (first | refine zP ?_ | refine zA ?_ | (refine zM ?_; intro _ _) | refine zX ?_ | (refine zC ?_; intro _ _ _ _) | (refine zS ?_; intro _ _) | (apply Ws <;> intro hg))
  exact Ends.ret1 rfl ⟨n0, n0 + 1, rfl, by omega, hH4⟩
end
end Go.Proofs.Ytnmlfjohoeebiaa.Wk

/- A plan that is repeated meets all. -/
namespace Go.Proofs.Ytnmlfjohoeebiaa.Wk
open Go Go.Abs Go.Mth
set_option linter.unusedVariables false
set_option linter.unusedSimpArgs false
/-- A plan, around its end. -/
def CycG (T P : List Int) : Prop := ∀ i, i < T.length → ∀ f, ∃ k, k < (T.getD i 0).toNat ∧ P.getD ((f + k) % P.length) 0 = (i : Int)
theorem cyc_good {T P : List Int} (hT : TOK T) (hp : 1 ≤ P.length) : GoodW T (repI P 9) ↔ CycG T P := by
  have hl := repI_len P 9
  constructor
  · intro h i hi f
    have h1 : 1 ≤ T.getD i 0 ∧ T.getD i 0 ≤ 8 := ⟨hT.lo i hi, hT.hi i hi⟩
    have hfm := Nat.mod_lt f (show 0 < P.length by omega)
    have hw := h i hi (f % P.length) (by rw [hl]; omega)
    obtain ⟨j, h2, h3, h4⟩ := (mem_cut (by rw [hl]; omega)).1 hw
    refine ⟨j - f % P.length, by omega, ?_⟩
    rw [repI_get P (by omega)] at h4
    rw [← h4]
    congr 1
    rw [← Nat.mod_add_mod, show f % P.length + (j - f % P.length) = j by omega]
  · intro h i hi f hf
    obtain ⟨k, h1, h2⟩ := h i hi f
    rw [hl] at hf
    refine (mem_cut (by rw [hl]; exact hf)).2 ⟨f + k, by omega, by omega, ?_⟩
    rw [repI_get P (by omega)]; exact h2
noncomputable def meetE (T P : List Int) : Int := if errT T ≠ 0 then errT T else if P.length = 0 then 4 else if walkE T.length P ≠ 0 then walkE T.length P else if goodB T (repI P 9) = true then 0 else 14
theorem rep_wok {n : Nat} {P : List Int} (h : WOK n P) (m : Nat) : WOK n (repI P m) := fun x hx => by
  obtain ⟨l, hl, hx⟩ := List.mem_flatten.1 hx
  rw [(List.mem_replicate.1 hl).2] at hx
  exact h x hx
attribute [local irreducible] gOK WS WC WR WD Ends FS YS OpV seqK blockK loopK midK retK rdK asgK rangeEnd sat Cell
section
variable {M : HL} {n0 : Nat} {H : Heap} {v w : Value}
theorem Meets_fs (hH : hasH M n0 H) {T : List Int} (hS : Sl M 1 v (ints T)) (hTl : T.length ≤ 1000) {P : List Int} (hW : Sl M 1 w (ints P)) (hwl : P.length ≤ 1000) :
    FS C 30 [v, w] H (fun e H' => ∃ n', n0 ≤ n' ∧ hasH M n' H' ∧ e = .int .i64 (meetE T P)) := by
  refine FS.intro (pf := pf30) rfl rfl rfl ?_
  repeat' (first | refine zP ?_ | refine zA ?_ | (refine zM ?_; intro _ _) | refine zX ?_ | (refine zC ?_; intro _ _ _ _) | (refine zS ?_; intro _ _) | (apply Ws <;> intro hg))
  refine WR.call (by first | exact gN | exact gS rfl) rfl rfl (Check_fs hH hS hTl) ?_
  rintro _ _ ⟨rfl, rfl⟩
  by_cases h0 : errT T = 0
  · obtain ⟨hT, h1⟩ := errT_ok h0
    by_cases hp0 : P.length = 0
    · have hE : meetE T P = 4 := by unfold meetE; rw [if_neg (by omega), if_pos hp0]
      repeat' (first | refine zP ?_ | refine zA ?_ | (refine zM ?_; intro _ _) | refine zX ?_ | (refine zC ?_; intro _ _ _ _) | (refine zS ?_; intro _ _) | refine zO ?_ | (apply Ws <;> intro hg))
      exact Ends.ret1 rfl ⟨n0, Nat.le_refl _, hH, by rw [hE]⟩
    · repeat' (first | refine zP ?_ | refine zA ?_ | (refine zM ?_; intro _ _) | refine zX ?_ | (refine zC ?_; intro _ _ _ _) | (refine zS ?_; intro _ _) | refine zO ?_ | (apply Ws <;> intro hg))
      refine WR.call (by first | exact gN | exact gS rfl) rfl rfl (strs_fs hH hS hTl hW hwl) ?_
      rintro _ _ ⟨rfl, rfl⟩
      by_cases h2 : walkE T.length P = 0
      · have hwk := walkE_ok.1 h2
        repeat' (first | refine zP ?_ | refine zA ?_ | (refine zM ?_; intro _ _) | refine zX ?_ | (refine zC ?_; intro _ _ _ _) | (refine zS ?_; intro _ _) | refine zO ?_ | (apply Ws <;> intro hg))
        refine WR.call (by first | exact gN | exact gS rfl) rfl rfl (Repeat_fs hH hW (by omega) hwk.1) ?_
        rintro _ H1 ⟨b, n1, rfl, hn1, hH1⟩
        have hrl := repI_len P 9
        have hSR : Sl ((b, Ch.row 3 0 0 (ints (repI P 9))) :: M) 1 (.slice (some ⟨b, 0, some 0⟩) (P.length * 9) (2 * (P.length * 9) + 1)) (ints (repI P 9)) :=
          .row (lo := 0) (cs := ints (repI P 9)) (.head _) (.row _ _ _ _) (Nat.zero_le _) (by simp [hrl]; omega) (by rw [Nat.sub_zero, List.drop_zero, List.take_length]) (by simp) (.inr ⟨P.length * 9, rfl, Nat.le_refl _⟩)
        have hgg := go_good hT (rep_wok hwk.2 9)
        repeat' (first | refine zP ?_ | refine zA ?_ | (refine zM ?_; intro _ _) | refine zX ?_ | (refine zC ?_; intro _ _ _ _) | (refine zS ?_; intro _ _) | (apply Ws <;> intro hg))
        refine WR.call (by first | exact gN | exact gS rfl) rfl rfl (follow_fs hH1 hS.cons hT h1 hSR (rep_wok hwk.2 9) (by omega)) ?_
        rintro _ H2 ⟨n2, hn2, hH2, ⟨s, hgo, rfl⟩ | ⟨hgo, rfl⟩⟩
        · have hsl : s.length = 4 := (goS_ok hT (start_ok hT) (rep_wok hwk.2 9) hgo).len
          have hE : meetE T P = 0 := by
            rcases hgg with ⟨h, _⟩ | ⟨h, _⟩
            · rw [hgo] at h; cases h
            · unfold meetE; rw [if_neg (by omega), if_neg hp0, if_neg (by omega), if_pos (goodB_true.2 h)]
          repeat' (first | refine zP ?_ | refine zA ?_ | (refine zM ?_; intro _ _) | refine zX ?_ | (refine zC ?_; intro _ _ _ _) | (refine zS ?_; intro _ _) | (apply Ws <;> intro hg))
          rename_i H3 hH3
          refine WR.storeA (by first | exact gN | exact gS rfl) hH3 rfl rfl hsl .here rfl fun H4 hH4 => ?_
          repeat' (first | refine zP ?_ | refine zA ?_ | (refine zM ?_; intro _ _) | refine zX ?_ | (refine zC ?_; intro _ _ _ _) | (refine zS ?_; intro _ _) | (apply Ws <;> intro hg))
          exact Ends.ret1 rfl ⟨n2 + 1, by omega, hH4.tail.tail, by rw [hE]⟩
        · have hE : meetE T P = 14 := by
            rcases hgg with ⟨_, h⟩ | ⟨_, s, h, _⟩
            · unfold meetE; rw [if_neg (by omega), if_neg hp0, if_neg (by omega), if_neg (by rw [goodB_false h]; simp)]
            · rw [hgo] at h; cases h
          repeat' (first | refine zP ?_ | refine zA ?_ | (refine zM ?_; intro _ _) | refine zX ?_ | (refine zC ?_; intro _ _ _ _) | (refine zS ?_; intro _ _) | (apply Ws <;> intro hg))
          rename_i H3 hH3
          refine WR.storeA (s := [0, 0, 0, 0]) (by first | exact gN | exact gS rfl) hH3 rfl rfl rfl .here rfl fun H4 hH4 => ?_
          repeat' (first | refine zP ?_ | refine zA ?_ | (refine zM ?_; intro _ _) | refine zX ?_ | (refine zC ?_; intro _ _ _ _) | (refine zS ?_; intro _ _) | (apply Ws <;> intro hg))
          exact Ends.ret1 rfl ⟨n2 + 1, by omega, hH4.tail.tail, by rw [hE]⟩
      · have hE : meetE T P = walkE T.length P := by unfold meetE; rw [if_neg (by omega), if_neg hp0, if_pos h2]
        repeat' (first | refine zP ?_ | refine zA ?_ | (refine zM ?_; intro _ _) | refine zX ?_ | (refine zC ?_; intro _ _ _ _) | (refine zS ?_; intro _ _) | refine zO ?_ | (apply Ws <;> intro hg))
        exact Ends.ret1 rfl ⟨n0, Nat.le_refl _, hH, by rw [hE]⟩
  · have hE : meetE T P = errT T := by unfold meetE; rw [if_pos h0]
    repeat' (first | refine zP ?_ | refine zA ?_ | (refine zM ?_; intro _ _) | refine zX ?_ | (refine zC ?_; intro _ _ _ _) | (refine zS ?_; intro _ _) | refine zO ?_ | (apply Ws <;> intro hg))
    exact Ends.ret1 rfl ⟨n0, Nat.le_refl _, hH, by rw [hE]⟩
end
end Go.Proofs.Ytnmlfjohoeebiaa.Wk

/- The first walk that goes on for ever, tide by tide. -/
namespace Go.Proofs.Ytnmlfjohoeebiaa.Wk
open Go Go.Abs Go.Mth
set_option linter.unusedVariables false
set_option linter.unusedSimpArgs false
def okJ (T s : List Int) (j : Nat) : Prop := goodS T.length (metS T s j) ∧ everS T (metS T s j)
/-- The first stretch after which a walk can go on for ever. -/
structure NextR (T s : List Int) (j : Nat) : Prop where
  lt : j < T.length
  ok : okJ T s j
  no : ∀ i, i < j → ¬ okJ T s i
theorem NextR.one {T s : List Int} {i j : Nat} (h : NextR T s i) (k : NextR T s j) : i = j := by
  rcases Nat.lt_trichotomy i j with h1 | h1 | h1
  · exact absurd h.ok (k.no i h1)
  · exact h1
  · exact absurd k.ok (h.no j h1)
theorem ever_some {T s : List Int} (h : everS T s) : ∃ j, j < T.length ∧ okJ T s j := by
  refine Classical.byContradiction fun hn => ?_
  have key : ∀ n, n ≤ T.length → ∃ K, ∀ j, j < n → goodS T.length (metS T s j) → ¬ canS T K (metS T s j) := by
    intro n
    induction n with
    | zero => exact fun _ => ⟨0, fun j hj => absurd hj (Nat.not_lt_zero _)⟩
    | succ n ih =>
      intro hnT
      obtain ⟨K, hK⟩ := ih (by omega)
      by_cases hg : goodS T.length (metS T s n)
      · have : ∃ k, ¬ canS T k (metS T s n) := Classical.byContradiction fun h2 => hn ⟨n, by omega, hg, fun k => Classical.byContradiction fun h3 => h2 ⟨k, h3⟩⟩
        obtain ⟨k, hk⟩ := this
        refine ⟨max K k, fun j hj hgj hc => ?_⟩
        rcases Nat.lt_or_ge j n with h1 | h1
        · exact hK j h1 hgj (canS_le hc (Nat.le_max_left _ _))
        · rw [show j = n by omega] at hc
          exact hk (canS_le hc (Nat.le_max_right _ _))
      · refine ⟨K, fun j hj hgj => ?_⟩
        rcases Nat.lt_or_ge j n with h1 | h1
        · exact hK j h1 hgj
        · rw [show j = n by omega] at hgj
          exact absurd hgj hg
  obtain ⟨K, hK⟩ := key T.length (Nat.le_refl _)
  obtain ⟨j, h1, h2, h3⟩ := h (K + 1)
  exact hK j h1 h2 h3
/-- A walk of first stretches. -/
inductive WalkR (T : List Int) (s : List Int) : List Int → List Int → Prop where
  | nil : WalkR T s [] s
  | snoc {W : List Int} {t : List Int} {j : Nat} (h : WalkR T s W t) (k : NextR T t j) : WalkR T s (W ++ [(j : Int)]) (metS T t j)
theorem WalkR.one {T s : List Int} : ∀ {W U t u : List Int}, W.length = U.length → WalkR T s W t → WalkR T s U u → W = U ∧ t = u := by
  intro W U t u hl h
  induction h generalizing U u with
  | nil =>
    intro k
    cases k with
    | nil => exact ⟨rfl, rfl⟩
    | snoc => simp at hl
  | @snoc W t j h hj ih =>
    intro k
    cases k with
    | nil => simp at hl
    | @snoc U u i k hi =>
      obtain ⟨rfl, rfl⟩ := ih (by simpa using hl) k
      have := hj.one hi
      subst this
      exact ⟨rfl, rfl⟩
theorem WalkR.go {T s W t : List Int} (h : WalkR T s W t) : goS T s W = some t ∧ WOK T.length W := by
  induction h with
  | nil => exact ⟨rfl, fun x hx => by cases hx⟩
  | @snoc W t j h hj ih =>
    refine ⟨?_, fun x hx => ?_⟩
    · rw [goS_snoc, ih.1, Option.bind_some, Int.toNat_natCast, if_pos hj.ok.1]
    · rcases List.mem_append.1 hx with hx | hx
      · exact ih.2 x hx
      · have := hj.lt
        rw [List.mem_singleton] at hx
        omega
theorem WalkR.ever {T s W t : List Int} (h : WalkR T s W t) (he : everS T s) : everS T t := by
  cases h with
  | nil => exact he
  | snoc h hj => exact hj.ok.2
structure NK where
  k : Nat
  m : MapI
  n : Nat
attribute [local irreducible] gOK WS WC WR WD Ends FS YS OpV seqK blockK loopK midK retK rdK asgK rangeEnd sat Cell
section
variable {M : HL} {n0 : Nat} {H : Heap} {v w : Value}
theorem next_fs {b : Nat} {m : MapI} (hH : hasH ((b, .map (ents m)) :: M) n0 H) {T s : List Int} (hS : Sl M 1 v (ints T)) (hT : TOK T) (hs : SOK T s) (he : everS T s) (hk : KeysN 4 m) (hI : MInv T [] m) :
    FS C 83 [.agg [v, .map (some b)].toArray, keyI s] H (fun e H' => ∃ j m' n', e = .tuple #[.int .i64 (j : Nat), keyI (metS T s j)] ∧ NextR T s j ∧ n0 ≤ n' ∧ hasH ((b, .map (ents m')) :: M) n' H' ∧ KeysN 4 m' ∧ MInv T [] m') := by
  have hv := hS.one_
  have hb1 : one (.map (some b)) = true := rfl
  have h1 := ints_one s
  have hli : (ints s).length = 4 := by simp [hs.len]
  have hTl := hT.len
  refine FS.intro (pf := pf83) rfl rfl rfl ?_
  refine WC.seq ?_
  refine WC.region ?_
  refine WR.boxA (cs := [v, .map (some b)]) (by first | exact gN | exact gS rfl) rfl hH rfl (by (repeat' (first | exact all_nil | refine all_cons (by first | rfl | assumption) ?_))) fun H1 hH1 => ?_
  refine WR.boxA (cs := ints s) (by first | exact gN | exact gS rfl) rfl hH1 rfl h1 fun H2 hH2 => ?_
  have hS2 := ((hS.cons (p := (b, .map (ents m)))).cons (p := (n0, .row 69 0 0 [v, .map (some b)]))).cons (p := (n0 + 1, .row 72 0 0 (ints s)))
  have hS3 := hS2.cons (p := (n0 + 1 + 1, .row 72 0 0 (ints [0, 0, 0, 0])))
  repeat' (first | refine zP ?_ | refine zA ?_ | (refine zM ?_; intro _ _) | refine zX ?_ | (refine zC ?_; intro _ _ _ _) | (refine zS ?_; intro _ _) | (apply Ws <;> intro hg))
  rename_i H3 hH3
  refine WC.loopX [(2, .pointer (some ⟨n0, 0, some 0⟩)), (3, .pointer (some ⟨n0 + 1, 0, some 0⟩)), (4, .int .i64 0), (5, .pointer (some ⟨n0 + 1 + 1, 0, some 0⟩)), (11, .int .i64 (T.length : Int))] (fun z : NK => [(12, .int .i64 (z.k : Int))]) []
    (fun z H' => z.k ≤ T.length ∧ n0 + 1 + 1 < z.n ∧ hasH ((n0 + 1 + 1, .row 72 0 0 (ints [0, 0, 0, 0])) :: (n0 + 1, .row 72 0 0 (ints s)) :: (n0, .row 69 0 0 [v, .map (some b)]) :: (b, .map (ents z.m)) :: M) z.n H' ∧ KeysN 4 z.m ∧ MInv T [] z.m ∧ (∀ i, i < z.k → ¬ okJ T s i))
    (fun z => T.length - z.k) ⟨0, m, n0 + 1 + 1 + 1⟩ (by repeat' (first | exact .nil | refine .cons rfl ?_)) rfl ⟨Nat.zero_le _, by simp only; omega, hH3, hk, hI, fun i h => absurd h (Nat.not_lt_zero _)⟩ ?_
  clear hS2 hS3 hH1 hH2 hH3 hH
  rintro ⟨k, m3, n3⟩ H4 ⟨hk3, hn3, hH4, hk4, hI4, hno⟩
  simp only at hk3 hn3 hH4 hk4 hI4 hno
  dsimp only [List.cons_append, List.nil_append]
  have hS4 := (((hS.cons (p := (b, .map (ents m3)))).cons (p := (n0, .row 69 0 0 [v, .map (some b)]))).cons (p := (n0 + 1, .row 72 0 0 (ints s)))).cons (p := (n0 + 1 + 1, .row 72 0 0 (ints [0, 0, 0, 0])))
  repeat' (first | refine zP ?_ | refine zA ?_ | (refine zM ?_; intro _ _) | refine zX ?_ | (refine zC ?_; intro _ _ _ _) | (refine zS ?_; intro _ _) | (apply Ws <;> intro hg))
  refine WC.condP rfl (fun hlt => ?_) (fun hlt => ?_)
  · have hk' : k < T.length := by omega
    repeat' (first | refine zP ?_ | refine zA ?_ | (refine zM ?_; intro _ _) | refine zX ?_ | (refine zC ?_; intro _ _ _ _) | (refine zS ?_; intro _ _) | (apply Ws <;> intro hg))
    have hml : (metS T s k).length = 4 := by rw [metS_len, hs.len]
    have hmi : (ints (metS T s k)).length = 4 := by simp [hml]
    refine WR.call (by first | exact gN | exact gS rfl) rfl rfl (meet_fs hH4 hS4 hT.len hs.len (hs.bnd hT) hk') ?_
    rintro _ H5 ⟨n5, hn5, rfl, hH5⟩
    clear hH4 hS4
    repeat' (first | refine zP ?_ | refine zA ?_ | (refine zM ?_; intro _ _) | refine zX ?_ | (refine zC ?_; intro _ _ _ _) | (refine zS ?_; intro _ _) | (apply Ws <;> intro hg))
    rename_i H6 hH6
    refine WR.storeA (by first | exact gN | exact gS rfl) hH6 rfl rfl hml .here rfl fun H7 hH7 => ?_
    clear hH5 hH6
    by_cases hg : goodS T.length (metS T s k)
    · rw [decide_eq_true hg]
      repeat' (first | refine zP ?_ | refine zA ?_ | (refine zM ?_; intro _ _) | refine zX ?_ | (refine zC ?_; intro _ _ _ _) | (refine zS ?_; intro _ _) | (apply Ws <;> intro hg))
      have hH8 := hH7.perm (M' := (b, .map (ents m3)) :: (n5, .row 72 0 0 (ints (metS T s k))) :: (n0 + 1 + 1, .row 72 0 0 (ints [0, 0, 0, 0])) :: (n0 + 1, .row 72 0 0 (ints s)) :: (n0, .row 69 0 0 [v, .map (some b)]) :: M) (List.perm_middle (l₁ := [_, _, _, _]))
      refine WR.call (by first | exact gN | exact gS rfl) rfl rfl (more_fs hT _ (Nat.lt_succ_self _) hH8 (((hS.cons).cons).cons).cons (met_ok hT hs hk' hg) hk4 hI4 (fun t ht => by cases ht)) ?_
      rintro _ H9 ⟨r, m4, n9, rfl, hr, hn9, hH9, hk9, hI9, hm9⟩
      have hlow := hr.low
      have hH10 := hH9.perm (M' := (n5, .row 72 0 0 (ints (metS T s k))) :: (n0 + 1 + 1, .row 72 0 0 (ints [0, 0, 0, 0])) :: (n0 + 1, .row 72 0 0 (ints s)) :: (n0, .row 69 0 0 [v, .map (some b)]) :: (b, .map (ents m4)) :: M) (List.perm_middle (l₁ := [_, _, _, _])).symm
      clear hH9 hH8 hH7
      rcases hr with ⟨rfl, hev⟩ | ⟨p, rfl, hp1, hp2⟩
      · repeat' (first | refine zP ?_ | refine zA ?_ | (refine zM ?_; intro _ _) | refine zX ?_ | (refine zC ?_; intro _ _ _ _) | (refine zS ?_; intro _ _) | refine zO ?_ | (apply Ws <;> intro hg))
        refine WR.storeA (s := metS T s k) (by first | exact gN | exact gS rfl) hH10 rfl rfl hml (.there .here) rfl fun H11 hH11 => ?_
        repeat' (first | refine zP ?_ | refine zA ?_ | (refine zM ?_; intro _ _) | refine zX ?_ | (refine zC ?_; intro _ _ _ _) | (refine zS ?_; intro _ _) | (apply Ws <;> intro hg))
        exact Ends.retT1CN rfl (readA hH11 (.tail _ (.head _)) hml) rfl ⟨k, m4, n9, rfl, ⟨hk', ⟨hg, hev⟩, hno⟩, by omega, hH11.tail.tail.tail.tail, hk9, hI9⟩
      · repeat' (first | refine zP ?_ | refine zA ?_ | (refine zM ?_; intro _ _) | refine zX ?_ | (refine zC ?_; intro _ _ _ _) | (refine zS ?_; intro _ _) | refine zO ?_ | (apply Ws <;> intro hg))
        refine Ends.loop ⟨k + 1, m4, n9⟩ (by simp only; omega) (by repeat' (first | exact .nil | refine .cons rfl ?_)) rfl ⟨hk', by simp only; omega, hH10.tail, hk9, hI9, fun i hi => ?_⟩
        rcases Nat.lt_or_ge i k with h | h
        · exact hno i h
        · rw [show i = k by simp only at hi; omega]
          exact fun h => hp2 (h.2 _)
    · rw [decide_eq_false hg]
      repeat' (first | refine zP ?_ | refine zA ?_ | (refine zM ?_; intro _ _) | refine zX ?_ | (refine zC ?_; intro _ _ _ _) | (refine zS ?_; intro _ _) | (apply Ws <;> intro hg))
      refine Ends.loop ⟨k + 1, m3, n5 + 1⟩ (by simp only; omega) (by repeat' (first | exact .nil | refine .cons rfl ?_)) rfl ⟨hk', by simp only; omega, hH7.tail, hk4, hI4, fun i hi => ?_⟩
      rcases Nat.lt_or_ge i k with h | h
      · exact hno i h
      · rw [show i = k by simp only at hi; omega]
        exact fun h => hg h.1
  · obtain ⟨j, hj, hok⟩ := ever_some he
    exact absurd hok (hno j (by omega))
structure WV where
  k : Nat
  v : Value
  W : List Int
  t : List Int
  Mx : HL
  m : MapI
  n : Nat
theorem walk_fs {b : Nat} {m : MapI} (hH : hasH ((b, .map (ents m)) :: M) n0 H) {T : List Int} (hS : Sl M 1 v (ints T)) (hT : TOK T) (h1 : 1 ≤ T.length) (he : everS T (startS T)) (hk : KeysN 4 m) (hI : MInv T [] m) {many : Nat} (hmany : many ≤ 60) :
    FS C 68 [.agg [v, .map (some b)].toArray, .int .i64 (many : Int)] H (fun e H' => ∃ W t Mx n', Own 3 1 e (ints W) Mx ∧ W.length = many ∧ WalkR T (startS T) W t ∧ n0 ≤ n' ∧ hasH (Mx ++ M) n' H' ∧ (many = 0 → e = .slice none 0 0)) := by
  have hv := hS.one_
  have hb1 : one (.map (some b)) = true := rfl
  have hsl := startS_len hT.len
  have hsli : (ints (startS T)).length = 4 := by simp [hsl]
  refine FS.intro (pf := pf68) rfl rfl rfl ?_
  refine WC.seq ?_
  refine WC.region ?_
  refine WR.boxA (cs := [v, .map (some b)]) (by first | exact gN | exact gS rfl) rfl hH rfl (by (repeat' (first | exact all_nil | refine all_cons (by first | rfl | assumption) ?_))) fun H1 hH1 => ?_
  repeat' (first | refine zP ?_ | refine zA ?_ | (refine zM ?_; intro _ _) | refine zX ?_ | (refine zC ?_; intro _ _ _ _) | (refine zS ?_; intro _ _) | (apply Ws <;> intro hg))
  refine WR.call (by first | exact gN | exact gS rfl) rfl rfl (start_fs hH1 hS.cons.cons hT.len h1) ?_
  rintro _ H2 ⟨n2, hn2, rfl, hH2⟩
  repeat' (first | refine zP ?_ | refine zA ?_ | (refine zM ?_; intro _ _) | refine zX ?_ | (refine zC ?_; intro _ _ _ _) | (refine zS ?_; intro _ _) | (apply Ws <;> intro hg))
  rename_i H3 hH3
  refine WR.storeA (by first | exact gN | exact gS rfl) hH3 rfl rfl hsl .here rfl fun H4 hH4 => ?_
  clear hH1 hH2 hH3 hH
  repeat' (first | refine zP ?_ | refine zA ?_ | (refine zM ?_; intro _ _) | refine zX ?_ | (refine zC ?_; intro _ _ _ _) | (refine zS ?_; intro _ _) | (apply Ws <;> intro hg))
  refine WC.loopX [(1, .int .i64 (many : Int)), (2, .pointer (some ⟨n0, 0, some 0⟩)), (4, .slice none 0 0), (6, .pointer (some ⟨n2, 0, some 0⟩)), (12, .int .i64 (many : Int))] (fun z : WV => [(5, z.v), (13, .int .i64 (z.k : Int))]) []
    (fun z H' => z.k ≤ many ∧ n2 < z.n ∧ z.W.length = z.k ∧ Own 3 1 z.v (ints z.W) z.Mx ∧ WalkR T (startS T) z.W z.t ∧ SOK T z.t ∧ KeysN 4 z.m ∧ MInv T [] z.m ∧ (z.k = 0 → z.v = .slice none 0 0) ∧ hasH ((n2, .row 72 0 0 (ints z.t)) :: (n0, .row 69 0 0 [v, .map (some b)]) :: (b, .map (ents z.m)) :: (z.Mx ++ M)) z.n H')
    (fun z => many - z.k) ⟨0, .slice none 0 0, [], startS T, [], m, n2 + 1⟩ (by repeat' (first | exact .nil | refine .cons rfl ?_)) rfl ⟨Nat.zero_le _, by simp only; omega, rfl, .nil, .nil, start_ok hT, hk, hI, fun _ => rfl, hH4⟩ ?_
  clear hH4 hk hI
  rintro ⟨k, wv, W, t, Mx, m3, n3⟩ H5 ⟨hk3, hn3, hWl, hO, hR, hs, hkm, hI, hv0, hH5⟩
  simp only at hk3 hn3 hWl hO hR hs hkm hI hv0 hH5
  have hti : (ints t).length = 4 := by simp [hs.len]
  dsimp only [List.cons_append, List.nil_append]
  repeat' (first | refine zP ?_ | refine zA ?_ | (refine zM ?_; intro _ _) | refine zX ?_ | (refine zC ?_; intro _ _ _ _) | (refine zS ?_; intro _ _) | (apply Ws <;> intro hg))
  refine WC.condP rfl (fun hlt => ?_) (fun hlt => ?_)
  · have hk' : k < many := by omega
    repeat' (first | refine zP ?_ | refine zA ?_ | (refine zM ?_; intro _ _) | refine zX ?_ | (refine zC ?_; intro _ _ _ _) | (refine zS ?_; intro _ _) | (apply Ws <;> intro hg))
    have hH6 := hH5.perm (M' := (b, .map (ents m3)) :: (n2, .row 72 0 0 (ints t)) :: (n0, .row 69 0 0 [v, .map (some b)]) :: (Mx ++ M)) (List.perm_middle (l₁ := [_, _]))
    refine WR.call (by first | exact gN | exact gS rfl) rfl rfl (next_fs hH6 ((hS.mono fun q hq => List.mem_append_right _ hq).cons).cons hT hs (hR.ever he) hkm hI) ?_
    rintro _ H7 ⟨j, m7, n7, rfl, hj, hn7, hH7, hk7, hI7⟩
    clear hH5 hH6
    have hml : (metS T t j).length = 4 := by rw [metS_len, hs.len]
    have hmi : (ints (metS T t j)).length = 4 := by simp [hml]
    repeat' (first | refine zP ?_ | refine zA ?_ | (refine zM ?_; intro _ _) | refine zX ?_ | (refine zC ?_; intro _ _ _ _) | (refine zS ?_; intro _ _) | (apply Ws <;> intro hg))
    rename_i H8 hH8
    refine WR.storeA (by first | exact gN | exact gS rfl) hH8 rfl rfl hml .here rfl fun H9 hH9 => ?_
    clear hH7 hH8
    repeat' (first | refine zP ?_ | refine zA ?_ | (refine zM ?_; intro _ _) | refine zX ?_ | (refine zC ?_; intro _ _ _ _) | (refine zS ?_; intro _ _) | (apply Ws <;> intro hg))
    refine WR.append1F [(n7, .row 72 0 0 (ints (metS T t j))), (b, .map (ents m7)), (n2, .row 72 0 0 (ints t)), (n0, .row 69 0 0 [v, .map (some b)])] Mx M rfl rfl rfl rfl hO hH9 (new := [.int .i64 (j : Int)]) (by rfl) rfl rfl (Nat.le_refl _) (by omega) (by simp; omega) fun v3 M3 n10 H10 hO3 hH10 hn10 => ?_
    replace hH10 : hasH ((n7, .row 72 0 0 (ints (metS T t j))) :: (b, .map (ents m7)) :: (n2, .row 72 0 0 (ints t)) :: (n0, .row 69 0 0 [v, .map (some b)]) :: (M3 ++ M)) n10 H10 := hH10
    clear hH9 hO
    repeat' (first | refine zP ?_ | refine zA ?_ | (refine zM ?_; intro _ _) | refine zX ?_ | (refine zC ?_; intro _ _ _ _) | (refine zS ?_; intro _ _) | (apply Ws <;> intro hg))
    refine WR.storeA (by first | exact gN | exact gS rfl) hH10 rfl rfl hml (.there (.there .here)) (by simp [hs.len]) fun H11 hH11 => ?_
    repeat' (first | refine zP ?_ | refine zA ?_ | (refine zM ?_; intro _ _) | refine zX ?_ | (refine zC ?_; intro _ _ _ _) | (refine zS ?_; intro _ _) | (apply Ws <;> intro hg))
    refine Ends.loop ⟨k + 1, v3, W ++ [(j : Int)], metS T t j, M3, m7, n10⟩ (by simp only; omega) (by repeat' (first | exact .nil | refine .cons rfl ?_)) rfl ⟨hk', by simp only; omega, by simp [hWl], ?_, .snoc hR hj, met_ok hT hs hj.lt hj.ok.1, hk7, hI7, fun h => by simp only at h; omega, ?_⟩
    · show Own _ 1 v3 (List.map (Value.int .i64) (W ++ [(j : Int)])) M3
      rw [List.map_append]
      exact hO3
    · exact hH11.tail.perm (List.perm_middle (l₁ := [_, _])).symm
  · have hkn : k = many := by omega
    subst hkn
    repeat' (first | refine zP ?_ | refine zA ?_ | (refine zM ?_; intro _ _) | refine zX ?_ | (refine zC ?_; intro _ _ _ _) | (refine zS ?_; intro _ _) | (apply Ws <;> intro hg))
    exact Ends.ret1 rfl ⟨W, t, Mx, n3, hO, hWl, hR, by omega, hH5.tail.tail.tail, hv0⟩
noncomputable def wlkE (T : List Int) (many : Int) : Int := if errT T ≠ 0 then errT T else if many < 0 ∨ 60 < many then 1 else if everB T (startS T) = false then 12 else 0
theorem Walk_fs (hH : hasH M n0 H) {T : List Int} (hS : Sl M 1 v (ints T)) (hTl : T.length ≤ 1000) (many : Int) :
    FS C 32 [v, .int .i64 many] H (fun e H' => ∃ u W Mx n', e = .tuple #[u, .int .i64 (wlkE T many)] ∧ Own 3 1 u (ints W) Mx ∧ n0 ≤ n' ∧ hasH (Mx ++ M) n' H' ∧ ((wlkE T many ≠ 0 ∧ W = []) ∨ (wlkE T many = 0 ∧ W.length = many.toNat ∧ ∃ t, WalkR T (startS T) W t))) := by
  have hv := hS.one_
  refine FS.intro (pf := pf32) rfl rfl rfl ?_
  repeat' (first | refine zP ?_ | refine zA ?_ | (refine zM ?_; intro _ _) | refine zX ?_ | (refine zC ?_; intro _ _ _ _) | (refine zS ?_; intro _ _) | (apply Ws <;> intro hg))
  refine WR.call (by first | exact gN | exact gS rfl) rfl rfl (Check_fs hH hS hTl) ?_
  rintro _ _ ⟨rfl, rfl⟩
  by_cases h0 : errT T = 0
  · obtain ⟨hT, h1⟩ := errT_ok h0
    by_cases hm : many < 0 ∨ 60 < many
    · have hE : wlkE T many = 1 := by unfold wlkE; rw [if_neg (by omega), if_pos hm]
      rcases hm with hm | hm
      · repeat' (first | refine zP ?_ | refine zA ?_ | (refine zM ?_; intro _ _) | refine zX ?_ | (refine zC ?_; intro _ _ _ _) | (refine zS ?_; intro _ _) | refine zO ?_ | (apply Ws <;> intro hg))
        exact Ends.ret2 rfl rfl ⟨_, [], [], n0, by rw [hE], .nil, Nat.le_refl _, hH, .inl ⟨by omega, rfl⟩⟩
      · repeat' (first | refine zP ?_ | refine zA ?_ | (refine zM ?_; intro _ _) | refine zX ?_ | (refine zC ?_; intro _ _ _ _) | (refine zS ?_; intro _ _) | refine zO ?_ | (apply Ws <;> intro hg))
        exact Ends.ret2 rfl rfl ⟨_, [], [], n0, by rw [hE], .nil, Nat.le_refl _, hH, .inl ⟨by omega, rfl⟩⟩
    · obtain ⟨mn, rfl⟩ : ∃ mn : Nat, many = mn := ⟨many.toNat, by omega⟩
      have hb1 : ∀ b, one (.map (some b)) = true := fun _ => rfl
      repeat' (first | refine zP ?_ | refine zA ?_ | (refine zM ?_; intro _ _) | refine zX ?_ | (refine zC ?_; intro _ _ _ _) | (refine zS ?_; intro _ _) | refine zO ?_ | (apply Ws <;> intro hg))
      refine WR.call (by first | exact gN | exact gS rfl) rfl rfl (look_fs hH hv) ?_
      rintro _ H1 ⟨b, n1, rfl, hb, hbn, hH1⟩
      repeat' (first | refine zP ?_ | refine zA ?_ | (refine zM ?_; intro _ _) | refine zX ?_ | (refine zC ?_; intro _ _ _ _) | (refine zS ?_; intro _ _) | (apply Ws <;> intro hg))
      rename_i H2 hH2
      refine WR.store2 (by first | exact gN | exact gS rfl) hH2 rfl rfl hv rfl .here fun H3 hH3 => ?_
      repeat' (first | refine zP ?_ | refine zA ?_ | (refine zM ?_; intro _ _) | refine zX ?_ | (refine zC ?_; intro _ _ _ _) | (refine zS ?_; intro _ _) | (apply Ws <;> intro hg))
      refine WR.call (by first | exact gN | exact gS rfl) rfl rfl (can_fs hH3.swap hS.cons hT h1 (KeysN.nil 4) (inv_nil T)) ?_
      rintro _ H4 ⟨m', n4, rfl, hn4, hH4, hk4, hI4⟩
      have hH4s := hH4.swap
      cases hev : everB T (startS T) with
      | false =>
        have hE : wlkE T mn = 12 := by unfold wlkE; rw [if_neg (by omega), if_neg hm, if_pos hev]
        repeat' (first | refine zP ?_ | refine zA ?_ | (refine zM ?_; intro _ _) | refine zX ?_ | (refine zC ?_; intro _ _ _ _) | (refine zS ?_; intro _ _) | (apply Ws <;> intro hg))
        exact Ends.ret2 rfl rfl ⟨_, [], [], n4, by rw [hE], .nil, by omega, hH4.tail.tail, .inl ⟨by omega, rfl⟩⟩
      | true =>
        have hE : wlkE T mn = 0 := by unfold wlkE; rw [if_neg (by omega), if_neg hm, if_neg (by rw [hev]; simp)]
        repeat' (first | refine zP ?_ | refine zA ?_ | (refine zM ?_; intro _ _) | refine zX ?_ | (refine zC ?_; intro _ _ _ _) | (refine zS ?_; intro _ _) | (apply Ws <;> intro hg))
        refine WR.call (by first | exact gN | exact gS rfl) rfl rfl (walk_fs hH4 hS.cons hT h1 (everB_true.1 hev) hk4 hI4 (many := mn) (by omega)) ?_
        rintro _ H5 ⟨W, t, Mx, n5, hO, hWl, hR, hn5, hH5, _⟩
        repeat' (first | refine zP ?_ | refine zA ?_ | (refine zM ?_; intro _ _) | refine zX ?_ | (refine zC ?_; intro _ _ _ _) | (refine zS ?_; intro _ _) | (apply Ws <;> intro hg))
        exact Ends.ret2 rfl rfl ⟨_, W, Mx, n5, by rw [hE], hO, by omega, hH5.sub (List.Sublist.append_left (List.sublist_cons_self _ _) _), .inr ⟨hE, by simpa using hWl, t, hR⟩⟩
  · have hE : wlkE T many = errT T := by unfold wlkE; rw [if_pos h0]
    repeat' (first | refine zP ?_ | refine zA ?_ | (refine zM ?_; intro _ _) | refine zX ?_ | (refine zC ?_; intro _ _ _ _) | (refine zS ?_; intro _ _) | refine zO ?_ | (apply Ws <;> intro hg))
    exact Ends.ret2 rfl rfl ⟨_, [], [], n0, by rw [hE], .nil, Nat.le_refl _, hH, .inl ⟨by omega, rfl⟩⟩
end
end Go.Proofs.Ytnmlfjohoeebiaa.Wk

/- Rows of elements of several cells each. -/
namespace Go.Abs
set_option linter.unusedSectionVars false
variable [Globs]
open Go Go.Mth
set_option linter.unusedVariables false
def cellsF {α : Type} (F : α → List Value) (l : List α) : List Value := (l.map F).flatten
section
variable {α : Type} {F : α → List Value} {K : Nat}
theorem cellsF_len (hF : ∀ a, (F a).length = K) : ∀ l : List α, (cellsF F l).length = l.length * K
  | [] => by simp [cellsF]
  | a :: l => by
    have := cellsF_len hF l
    simp only [cellsF, List.map_cons, List.flatten_cons, List.length_append, List.length_cons, hF] at this ⊢
    rw [this, Nat.succ_mul]; omega
theorem cellsF_drop (hF : ∀ a, (F a).length = K) : ∀ (l : List α) (m : Nat), (cellsF F l).drop (m * K) = cellsF F (l.drop m)
  | l, 0 => by simp
  | [], m + 1 => by simp [cellsF]
  | a :: l, m + 1 => by
    have := cellsF_drop hF l m
    simp only [cellsF, List.map_cons, List.flatten_cons, List.drop_succ_cons] at this ⊢
    rw [← this, Nat.succ_mul, Nat.add_comm, ← List.drop_drop, List.drop_left' (hF a)]
theorem cellsF_at (hF : ∀ a, (F a).length = K) {l : List α} {m : Nat} (h : m < l.length) : ((cellsF F l).drop (m * K)).take K = F l[m] := by
  rw [cellsF_drop hF, List.drop_eq_getElem_cons h]
  simp only [cellsF, List.map_cons, List.flatten_cons]
  exact List.take_left' (hF _)
/-- Several cells, one behind another. -/
def KCell (M : HL) (b o u : Nat) (vs : List Value) : Prop := ∃ ch lo cs, (b, ch) ∈ M ∧ ch.cellsAre u lo cs ∧ lo ≤ o ∧ o - lo + vs.length ≤ cs.length ∧ (cs.drop (o - lo)).take vs.length = vs
theorem KCell.at {M : HL} {b o u j : Nat} {vs : List Value} {v : Value} (h : KCell M b o u vs) (hv : vs[j]? = some v) : Cell M b (o + j) u v := by
  obtain ⟨ch, lo, cs, h1, h2, h3, h4, h5⟩ := h
  have hj : j < vs.length := (List.getElem?_eq_some_iff.1 hv).1
  refine ⟨ch, lo, cs, h1, h2, by omega, ?_⟩
  rw [← h5, List.getElem?_take_of_lt hj, List.getElem?_drop] at hv
  rw [← hv]; congr 1; omega
theorem KCell.mono {M M' : HL} {b o u : Nat} {vs : List Value} (h : KCell M b o u vs) (k : ∀ p ∈ M, p ∈ M') : KCell M' b o u vs := by
  obtain ⟨ch, lo, cs, h1, h2⟩ := h
  exact ⟨ch, lo, cs, k _ h1, h2⟩
theorem Sl.lenK {M : HL} {v : Value} {l : List α} (hF : ∀ a, (F a).length = K) (hK : 1 ≤ K) (h : Sl M K v (cellsF F l)) : ∃ a c, v = .slice a l.length c := by
  have hl := cellsF_len hF l
  generalize cellsF F l = cs at h hl
  have h0 : ∀ {n : Nat}, n * K = 0 → n = 0 := fun {n} h => by rcases Nat.mul_eq_zero.1 h with h | h <;> omega
  cases h with
  | nil c => have := h0 (n := l.length) (by simp at hl; omega)
             exact ⟨none, c, by rw [this]⟩
  | emp a => have := h0 (n := l.length) (by simp at hl; omega)
             exact ⟨some a, _, by rw [this]⟩
  | row hm hcl hlo hln hv hin hcap =>
    rename_i b o u lo len cap ch cs'
    have : l.length = len := Nat.eq_of_mul_eq_mul_right hK (by omega)
    exact ⟨_, _, by rw [this]⟩
end
section
variable {C : CW} {nt : Nat} {L : Env} {D : List Nat} {H : Heap} {K : St → Prop} {M M' : HL} {n i d : Nat} {gd : Option (Tmp × Bool)} {lo : List Nat} {l : List POp} {rs : List Rd}
variable {α : Type} {F : α → List Value} {z : Nat}
theorem OpV.lenK {x : Operand} {v : Value} {ps : List α} (hF : ∀ a, (F a).length = z) (hz : 1 ≤ z) (hx : ev L x = some v) (hS : Sl M z v (cellsF F ps)) : OpV C (.len x) L H (.int .i64 (ps.length : Int)) H := by
  obtain ⟨a, c, rfl⟩ := hS.lenK hF hz
  exact OpV.len hx
theorem OpV.idxK {x ix : Operand} {kd : IntKind} {m : Nat} {v : Value} {ps : List α} (hF : ∀ a, (F a).length = z) (hz : 1 ≤ z) (hx : ev L x = some v) (hS : Sl M z v (cellsF F ps)) (hi : ev L ix = some (.int kd (m : Int))) (hm : m < ps.length) :
    ∃ b o u, OpV C (.idxS x ix z) L H (.pointer (some ⟨b, o, some u⟩)) H ∧ KCell M b o u (F ps[m]) := by
  have hg := cellsF_at hF hm
  have hl := cellsF_len hF ps
  generalize cellsF F ps = cs at hS hg hl
  have hm1 : m * z + z ≤ ps.length * z := by
    have := Nat.mul_le_mul_right z (show m + 1 ≤ ps.length by omega)
    rwa [Nat.succ_mul] at this
  cases hS with
  | nil c =>
    have h : ps.length * z = 0 := by simp only [List.length_nil] at hl; omega
    rcases Nat.mul_eq_zero.1 h with h | h <;> omega
  | emp a =>
    have h : ps.length * z = 0 := by simp only [List.length_nil] at hl; omega
    rcases Nat.mul_eq_zero.1 h with h | h <;> omega
  | row hm2 hc hlo hln hv hin hp =>
    rename_i b o u lo' len cap ch cs'
    have hlen : ps.length = len := Nat.eq_of_mul_eq_mul_right hz (by omega)
    refine ⟨b, o + m * z, u, OpV.idxS hx hi rfl (by omega) rfl, ch, lo', cs', hm2, hc, by omega, by rw [hF]; omega, ?_⟩
    rw [hF, ← hg, ← hv, List.drop_take, List.take_take, List.drop_drop, show o + m * z - lo' = o - lo' + m * z by omega, Nat.min_eq_left (by omega)]
theorem WR.idxK {x ix : Operand} {kd : IntKind} {m : Nat} {v : Value} {ps : List α} (hF : ∀ a, (F a).length = z) (hz : 1 ≤ z) (hg : gOK L gd) (hd : Nat.blt d nt = true) (hx : ev L x = some v) (hS : Sl M z v (cellsF F ps)) (hi : ev L ix = some (.int kd (m : Int))) (hm : m < ps.length)
    (k : ∀ b o u, KCell M b o u (F ps[m]) → WR C nt l ((d, .pointer (some ⟨b, o, some u⟩)) :: L) D H K) : WR C nt (⟨i, some d, .idxS x ix z, gd, lo⟩ :: l) L D H K := by
  obtain ⟨b, o, u, h1, h2⟩ := OpV.idxK (C := C) (H := H) hF hz hx hS hi hm
  exact WR.op hg hd h1 (k b o u h2)
theorem OpV.loadK {x : Operand} {b o u k : Nat} {vs : List Value} (hx : ev L x = some (.pointer (some ⟨b, o, some u⟩))) (hP : KCell M b o u vs) (hH : hasH M n H) (hk : vs.length = k) : OpV C (.loadN x k) L H (.agg vs.toArray) H := by
  obtain ⟨ch, lo', cs, h1, h2, h3, h4, h5⟩ := hP
  subst hk
  exact OpV.loadN hx hH h1 h2 h3 h4 h5
end
end Go.Abs

/- The mathematics of the law's search: all that can be left, by numbers; and its helpers. -/
namespace Go.Proofs.Ytnmlfjohoeebiaa.Wk
open Go Go.Abs Go.Mth
set_option linter.unusedVariables false
set_option linter.unusedSimpArgs false
abbrev St4 := {s : List Int // s.length = 4}
def F4 (a : St4) : List Value := ints a.1
theorem F4_len (a : St4) : (F4 a).length = 4 := by simp [F4, a.2]
theorem F4_one (a : St4) : (F4 a).all one = true := ints_one a.1
theorem fill4 : ∀ {s : List Int}, s.length = 4 → Instr.fill (fun j => some (j * 4, 4)) [Value.int .i64 0, .int .i64 0, .int .i64 0, .int .i64 0].toArray [(0, keyI s)] = some (ints s).toArray
  | [a, b, c, d], _ => rfl
/-- What was found: each with its number. -/
structure Bfs (T : List Int) (A : List St4) (m : MapI) : Prop where
  ok : ∀ i (h : i < A.length), SOK T (A[i]).1
  num : ∀ i (h : i < A.length), findI m (A[i]).1 = some (i : Int)
  inv : ∀ s r, findI m s = some r → ∃ i, ∃ h : i < A.length, r = (i : Int) ∧ (A[i]).1 = s
  cnt : A.length + restM m ≤ 6561
  keys : KeysN 4 m
  first : ∃ h : 0 < A.length, (A[0]).1 = startS T
theorem rest_nil : restM [] = 6561 := by
  unfold restM
  have : (allS 4).filter (fun s => (findI [] s).isNone) = allS 4 := List.filter_eq_self.2 fun a _ => rfl
  rw [this, all_count]
theorem bfs_one {T : List Int} (hT : TOK T) : Bfs T [⟨startS T, startS_len hT.len⟩] [(startS T, 0)] where
  ok i h := by have : i = 0 := by simpa using h
               subst this; exact start_ok hT
  num i h := by have : i = 0 := by simpa using h
                subst this; simp [findI]
  inv s r h := by
    simp only [findI] at h
    split at h
    · rename_i e; cases h; exact ⟨0, by simp, rfl, e⟩
    · cases h
  cnt := by
    have := rest_put (m := []) (s := startS T) ((start_ok hT).mem hT) rfl 0
    rw [rest_nil] at this
    simp only [List.length_singleton, putI] at this ⊢
    omega
  keys p hp := by rw [List.mem_singleton] at hp; subst hp; exact startS_len hT.len
  first := ⟨by simp, rfl⟩
theorem bfs_more {T : List Int} (hT : TOK T) {A : List St4} {m : MapI} (h : Bfs T A m) {a : St4} (ha : SOK T a.1) (hn : findI m a.1 = none) : Bfs T (A ++ [a]) (putI m a.1 (A.length : Int)) where
  ok i hi := by
    by_cases e : i < A.length
    · rw [List.getElem_append_left e]; exact h.ok i e
    · have : i = A.length := by simp at hi; omega
      subst this; simpa using ha
  num i hi := by
    rw [findI_put]
    by_cases e : i < A.length
    · rw [List.getElem_append_left e, if_neg, h.num i e]
      intro e2; rw [← e2, h.num i e] at hn; cases hn
    · have : i = A.length := by simp at hi; omega
      subst this; simp
  inv s r hs := by
    rw [findI_put] at hs
    split at hs
    · rename_i e; cases hs; exact ⟨A.length, by simp, rfl, by simp [e]⟩
    · obtain ⟨i, hi, h1, h2⟩ := h.inv s r hs
      exact ⟨i, by simp; omega, h1, by rw [List.getElem_append_left hi]; exact h2⟩
  cnt := by
    have := rest_put (m := m) (ha.mem hT) hn (A.length : Int)
    have := h.cnt
    simp only [List.length_append, List.length_singleton]
    omega
  keys := h.keys.put ha.len _
  first := by
    obtain ⟨h0, h1⟩ := h.first
    exact ⟨by simp, by rw [List.getElem_append_left h0]; exact h1⟩
/-- What comes behind something, by the first stretches. -/
structure SuccR (T : List Int) (A : List St4) (s : List Int) (k : Nat) (own : List Int) : Prop where
  sound : ∀ x ∈ own, ∃ i j, ∃ h : i < A.length, x = (i : Int) ∧ j < k ∧ goodS T.length (metS T s j) ∧ (A[i]).1 = metS T s j
  full : ∀ j, j < k → goodS T.length (metS T s j) → ∃ i, ∃ h : i < A.length, (i : Int) ∈ own ∧ (A[i]).1 = metS T s j
theorem SuccR.mono {T : List Int} {A : List St4} {s : List Int} {k : Nat} {own : List Int} (h : SuccR T A s k own) (X : List St4) : SuccR T (A ++ X) s k own where
  sound x hx := by
    obtain ⟨i, j, hi, h1, h2, h3, h4⟩ := h.sound x hx
    exact ⟨i, j, by simp; omega, h1, h2, h3, by rw [List.getElem_append_left hi]; exact h4⟩
  full j hj hg := by
    obtain ⟨i, hi, h1, h2⟩ := h.full j hj hg
    exact ⟨i, by simp; omega, h1, by rw [List.getElem_append_left hi]; exact h2⟩
theorem SuccR.bad {T : List Int} {A : List St4} {s : List Int} {k : Nat} {own : List Int} (h : SuccR T A s k own) (hb : ¬ goodS T.length (metS T s k)) : SuccR T A s (k + 1) own where
  sound x hx := by
    obtain ⟨i, j, hi, h1, h2, h3, h4⟩ := h.sound x hx
    exact ⟨i, j, hi, h1, by omega, h3, h4⟩
  full j hj hg := by
    rcases Nat.lt_or_ge j k with h1 | h1
    · exact h.full j h1 hg
    · rw [show j = k by omega] at hg; exact absurd hg hb
theorem SuccR.good {T : List Int} {A : List St4} {s : List Int} {k : Nat} {own : List Int} (h : SuccR T A s k own) (hb : goodS T.length (metS T s k)) {i : Nat} (hi : i < A.length) (he : (A[i]).1 = metS T s k) : SuccR T A s (k + 1) (own ++ [(i : Int)]) where
  sound x hx := by
    rcases List.mem_append.1 hx with hx | hx
    · obtain ⟨i, j, hi, h1, h2, h3, h4⟩ := h.sound x hx
      exact ⟨i, j, hi, h1, by omega, h3, h4⟩
    · rw [List.mem_singleton] at hx
      exact ⟨i, k, hi, hx, by omega, hb, he⟩
  full j hj hg := by
    rcases Nat.lt_or_ge j k with h1 | h1
    · obtain ⟨i, hi, h2, h3⟩ := h.full j h1 hg
      exact ⟨i, hi, List.mem_append_left _ h2, h3⟩
    · have : j = k := by omega
      subst this
      exact ⟨i, hi, by simp, he⟩
def BehR (T : List Int) (A : List St4) (B : List (List Int)) : Prop := ∀ i (h : i < A.length), i < B.length → SuccR T A (A[i]).1 T.length (B.getD i [])
theorem BehR.mono {T : List Int} {A : List St4} {B : List (List Int)} (h : BehR T A B) (hl : B.length ≤ A.length) (X : List St4) : BehR T (A ++ X) B := fun i hi hb => by
  rw [List.getElem_append_left (show i < A.length by omega)]
  exact (h i (by omega) hb).mono X
theorem BehR.snoc {T : List Int} {A : List St4} {B : List (List Int)} {own : List Int} (h : BehR T A B) (hl : B.length < A.length) (hn : SuccR T A (A[B.length]).1 T.length own) : BehR T A (B ++ [own]) := fun i hi hb => by
  by_cases e : i < B.length
  · rw [getD_app_l e]; exact h i hi e
  · have : i = B.length := by simp at hb; omega
    subst this
    rw [getD_snoc]; exact hn
open Classical in
/-- What is gone after so many rounds. -/
noncomputable def goneB (T : List Int) (k : Nat) (s : List Int) : Bool := !decide (canS T k s)
def GoneR (T : List Int) (A : List St4) (k : Nat) (G : List Bool) : Prop := G.length = A.length ∧ ∀ i (h : i < A.length), G.getD i false = goneB T k (A[i]).1
attribute [local irreducible] gOK WS WC WR WD Ends FS YS OpV seqK blockK loopK midK retK rdK asgK rangeEnd sat Cell
section
variable {M : HL} {n0 : Nat} {H : Heap} {v w : Value}
end
end Go.Proofs.Ytnmlfjohoeebiaa.Wk

/- The law's search: how many tides the longest good walk has. -/
namespace Go.Proofs.Ytnmlfjohoeebiaa.Wk
open Go Go.Abs Go.Mth
set_option linter.unusedVariables false
set_option linter.unusedSimpArgs false
structure OV where
  k : Nat
  va : Value
  A : List St4
  MA : HL
  m : MapI
  vb : Value
  ws : List Value
  B : List (List Int)
  MB : HL
  Mi : HL
  n : Nat
structure IV where
  k : Nat
  va : Value
  A : List St4
  MA : HL
  m : MapI
  vo : Value
  own : List Int
  MO : HL
  n : Nat
structure DV where
  k : Nat
  g : Bool
structure GV where
  k : Nat
  gb : Nat
  cp : Nat
  G : List Bool
  n : Nat
def RowsB (M : HL) (ws : List Value) (B : List (List Int)) : Prop := ws.length = B.length ∧ ∀ i, i < B.length → Sl M 1 (ws.getD i undef) (ints (B.getD i []))
theorem RowsB.one {M : HL} {ws : List Value} {B : List (List Int)} (h : RowsB M ws B) : ws.all one = true := by
  rw [List.all_eq_true]
  intro q hq
  obtain ⟨i, hi, rfl⟩ := List.mem_iff_getElem.1 hq
  have := (h.2 i (by rw [← h.1]; exact hi)).one_
  rwa [getD_eq hi] at this
theorem cellsF_snoc (A : List St4) (a : St4) : cellsF F4 (A ++ [a]) = cellsF F4 A ++ ints a.1 := by simp [cellsF, F4]
attribute [local irreducible] gOK WS WC WR WD Ends FS YS OpV seqK blockK loopK midK retK rdK asgK rangeEnd sat Cell
section
variable {M : HL} {n0 : Nat} {H : Heap} {v w : Value}
end
end Go.Proofs.Ytnmlfjohoeebiaa.Wk

/- The law WalkWalked. -/
namespace Go.Proofs.Ytnmlfjohoeebiaa.Wk
open Go Go.Abs Go.Mth
set_option linter.unusedVariables false
set_option linter.unusedSimpArgs false
def modF (N y : Nat) : Nat := y % N
theorem made_ok {ys : List Nat} {most n : Nat} (hn : n ≤ 4) (ho : 1 ≤ most ∧ most ≤ 8) : TOK (firstT (madeF most) ys n) :=
  firstT_ok hn fun y => by
    have := Nat.mod_lt y (show 0 < most by omega)
    unfold madeF; omega
attribute [local irreducible] gOK WS WC WR WD Ends FS YS OpV seqK blockK loopK midK retK rdK asgK rangeEnd sat Cell
section
variable {M : HL} {n0 : Nat} {H : Heap} {v w : Value}
end
end Go.Proofs.Ytnmlfjohoeebiaa.Wk

/- Beginnings of a slice, that may be empty, are copied. -/
namespace Go.Abs
set_option linter.unusedSectionVars false
variable [Globs]
open Go
section
variable {C : CW} {nt : Nat} {L : Env} {D : List Nat} {H : Heap} {K : St → Prop} {M M' : HL} {n i d : Nat} {gd : Option (Tmp × Bool)} {lo' : List Nat} {l : List POp}
/-- A slice that can be read, though it is empty. -/
def RdS (M : HL) (v : Value) : Prop := v = .slice none 0 0 ∨ ∃ (b u o lo len cap : Nat) (ch : Ch) (cs : List Value), v = .slice (some ⟨b, o, some u⟩) len cap ∧ (b, ch) ∈ M ∧ ch.cellsAre u lo cs ∧ lo ≤ o ∧ o - lo ≤ cs.length
theorem RdS.mono {M M' : HL} {v : Value} (h : RdS M v) (k : ∀ q ∈ M, q ∈ M') : RdS M' v := by
  rcases h with h | ⟨b, u, o, lo, len, cap, ch, cs, h1, h2, h3⟩
  · exact .inl h
  · exact .inr ⟨b, u, o, lo, len, cap, ch, cs, h1, k _ h2, h3⟩
end
end Go.Abs
namespace Go.Proofs.Ytnmlfjohoeebiaa.Wk
open Go Go.Abs Go.Mth
set_option linter.unusedVariables false
set_option linter.unusedSimpArgs false
attribute [local irreducible] gOK WS WC WR WD Ends FS YS OpV seqK blockK loopK midK retK rdK asgK rangeEnd sat Cell
section
variable {M : HL} {n0 : Nat} {H : Heap} {v w : Value}
end
/-- The first walk, and each of its beginnings. -/
theorem WalkR.take {T s W t : List Int} (h : WalkR T s W t) : ∀ i (hi : i < W.length), ∃ u j, WalkR T s (W.take i) u ∧ NextR T u j ∧ W.getD i 0 = (j : Int) := by
  induction h with
  | nil => intro i hi; simp at hi
  | @snoc W t j h hj ih =>
    intro i hi
    rcases Nat.lt_or_ge i W.length with h1 | h1
    · obtain ⟨u, k, h2, h3, h4⟩ := ih i h1
      exact ⟨u, k, by rw [List.take_append_of_le_length (by omega)]; exact h2, h3, by rw [getD_app_l h1]; exact h4⟩
    · have : i = W.length := by simp at hi; omega
      subst this
      exact ⟨t, j, by rw [List.take_append_of_le_length (Nat.le_refl _), List.take_length]; exact h, hj, getD_snoc⟩
end Go.Proofs.Ytnmlfjohoeebiaa.Wk

/- Slices joined. -/
namespace Go.Abs
set_option linter.unusedSectionVars false
set_option linter.unusedSimpArgs false
set_option linter.unusedVariables false
variable [Globs]
open Go
section
variable {C : CW} {nt : Nat} {L : Env} {D : List Nat} {H : Heap} {K : St → Prop} {M M' : HL} {n i d : Nat} {gd : Option (Tmp × Bool)} {lo' : List Nat} {l : List POp}
theorem OpV.capNil {x : Operand} {c k : Nat} (hx : ev L x = some (.slice none k c)) : OpV C (.cap x) L H (.int .i64 (c : Int)) H := fun t ht => by
  simp only [opA, ev_ok ht hx, oCap, goInt]
theorem OpV.cutNil {x hi : Operand} {c : Nat} {kd : IntKind} (hx : ev L x = some (.slice none 0 c)) (hh : ev L hi = some (.int kd 0)) : OpV C (.slS x 1 none (some hi) none) L H (.slice none 0 c) H := fun t ht => by
  simp only [opA, ev_ok ht hx, Option.map_none, Option.map_some, ev_ok ht hh, oSlS, sliceA, loOf, hiOf, natOf, Option.isSome_none, Bool.false_and, cond_false, capOf, sliceTo]
  rfl
theorem WR.appZ {e m : Nat} {z : Value} {s x : Operand} (hg : gOK L gd) (hd : Nat.blt d nt = true) (hs : ev L s = some (.slice none 0 0)) (hx : ev L x = some (.int .i64 (m : Int))) (hH : hasH M n H) (hm : 1 ≤ m) (hm2 : m ≤ 70000) (hz : one z = true)
    (kk : ∀ H', hasH ((n, .row e 0 0 (List.replicate m z)) :: M) (n + 1) H' → WR C nt l ((d, .slice (some ⟨n, 0, some 0⟩) m (2 * 1)) :: L) D H' K) : WR C nt (⟨i, some d, .appZ e 1 [z] s x, gd, lo'⟩ :: l) L D H K := by
  have hf : (List.replicate m [z]).flatten = List.replicate m z := by
    clear hx hm hm2 kk
    induction m with
    | zero => rfl
    | succ m ih => simp [List.replicate_succ, ih]
  refine WR.op hg hd (H' := H.row e (List.replicate m z)) (v := .slice (some ⟨n, 0, some 0⟩) m (2 * 1)) (fun t ht => ?_) (kk _ (hH.row e (by rw [List.all_eq_true]; intro q hq; rw [(List.mem_replicate.1 hq).2]; exact hz)))
  have b1 : Nat.ble 1 m = true := Nat.ble_eq_true_of_le hm
  have b2 : small 1 m = true := by unfold small; rw [Nat.ble_eq_true_of_le (show m ≤ 100000 by omega)]; rfl
  have hmi : ((m : Nat) : Int) = Int.ofNat m := rfl
  rw [hmi] at hx
  simp only [opA, ev_ok ht hs, ev_ok ht hx, oAppZ, b1, b2, Bool.and_self, cond_true, newAddr, hH.next, hf]
/-- Appended within the room. -/
theorem WR.appendRX {e : TypeId} {s x : Operand} {y : Value} {b u o len R k : Nat} {ys new : List Int} (hg : gOK L gd) (hd : Nat.blt d nt = true) (hs : ev L s = some (.slice (some ⟨b, o, some u⟩) len (roomCode 1 R))) (hx : ev L x = some y)
    (hk : srcLen y = some k) (hc : srcCells H 1 k y = some (new.map (Value.int .i64))) (hl : new.length = k)
    (hH : hasH M n H) (hu : Upd M b (.row e u o (ys.map (Value.int .i64))) (.row e u o ((ys.take len ++ new ++ ys.drop (len + k)).map (Value.int .i64))) M') (hlk : len + k ≤ R) (hly : len + k ≤ ys.length)
    (kk : ∀ H', hasH M' n H' → WR C nt l ((d, .slice (some ⟨b, o, some u⟩) (len + k) (roomCode 1 R)) :: L) D H' K) : WR C nt (⟨i, some d, .append e 1 s x, gd, lo'⟩ :: l) L D H K := by
  have hcs : (ys.take len ++ new ++ ys.drop (len + k)).map (Value.int .i64) = splice (ys.map (Value.int .i64)) (o + len - o) (new.map (Value.int .i64)) := by
    rw [show o + len - o = len by omega]
    unfold splice
    rw [List.length_map, hl]
    simp only [List.map_append, List.map_take, List.map_drop]
  obtain ⟨H', h5, h6⟩ := hH.writeN (l := new.map (Value.int .i64)) hu (by rw [List.all_eq_true]; intro q hq; obtain ⟨z, _, rfl⟩ := List.mem_map.1 hq; rfl) (Nat.le_add_right o len) (by simp; omega) hcs
  by_cases hk0 : k = 0
  · subst hk0
    have hn0 : new = [] := List.length_eq_zero_iff.1 hl
    subst hn0
    have hsame : ys.take len ++ [] ++ ys.drop (len + 0) = ys := by simp
    rw [hsame] at hu
    have hMM : M' = M := hu.same rfl
    subst hMM
    refine WR.op hg hd (v := .slice (some ⟨b, o, some u⟩) (len + 0) (roomCode 1 R)) (fun t ht => ?_) (kk H hH)
    simp only [opA, ev_ok ht hs, ev_ok ht hx, appendA, hk, Nat.zero_mul, hc, appWith, capOf_room _ (show 1 ≤ 1000 by decide), Nat.beq_refl, cond_true]
    rfl
  · refine WR.op hg hd (v := .slice (some ⟨b, o, some u⟩) (len + k) (roomCode 1 R)) (fun t ht => ?_) (kk H' h6)
    have hb : Nat.beq k 0 = false := by cases hb : Nat.beq k 0 with | false => rfl | true => exact absurd (Nat.eq_of_beq_eq_true hb) hk0
    have hb2 : Nat.ble (len + k) R = true := Nat.ble_eq_true_of_le hlk
    simp only [opA, ev_ok ht hs, ev_ok ht hx, appendA, hk, Nat.mul_one, hc, appWith, capOf_room _ (show 1 ≤ 1000 by decide), Nat.beq_refl, cond_true, hb, hb2, cond_false, appIn, Addr.plus, h5]
theorem src_of {y : Value} {xs : List Int} (hS : Sl M 1 y (xs.map (Value.int .i64))) (hr : xs = [] → RdS M y) (hH : hasH M n H) : srcLen y = some xs.length ∧ srcCells H 1 xs.length y = some (xs.map (Value.int .i64)) := by
  by_cases h0 : xs = []
  · subst h0
    rcases hr rfl with rfl | ⟨b, u, o, lo, len, cap, ch, cs, rfl, hm, hc, hlo, hin⟩
    · exact ⟨rfl, rfl⟩
    · have hlen : len = 0 := by
        generalize hw : Value.slice (some ⟨b, o, some u⟩) len cap = w at hS
        generalize hz : ([] : List Int).map (Value.int .i64) = z at hS
        cases hS with
        | nil c => cases hw
        | emp a => injection hw
        | row _ _ _ g1 =>
          injection hw with _ g2 _
          rw [← hz] at g1
          simp at g1
          omega
      subst hlen
      refine ⟨rfl, ?_⟩
      have := hH.readN (k := 0) hm hc hlo (by omega)
      simpa [srcCells] using this
  · obtain ⟨h1, h2⟩ := hS.src hH (fun h => h0 (List.map_eq_nil_iff.1 h))
    have h3 := h2 _ (Nat.le_refl _)
    rw [List.take_length, List.length_map] at h3
    rw [List.length_map] at h1
    exact ⟨h1, h3⟩
end
end Go.Abs
namespace Go.Proofs.Ytnmlfjohoeebiaa.Wk
open Go Go.Abs Go.Mth
set_option linter.unusedVariables false
set_option linter.unusedSimpArgs false
def lenS (Ls : List (List Int)) : Nat := (Ls.map List.length).sum
theorem lenS_snoc (Ls : List (List Int)) (l : List Int) : lenS (Ls ++ [l]) = lenS Ls + l.length := by simp [lenS]
theorem lenS_flat (Ls : List (List Int)) : Ls.flatten.length = lenS Ls := by simp [lenS, List.length_flatten]
theorem lenS_take (Ls : List (List Int)) (k : Nat) : lenS (Ls.take k) ≤ lenS Ls := by
  have h : lenS Ls = lenS (Ls.take k) + lenS (Ls.drop k) := by
    unfold lenS
    rw [← List.sum_append, ← List.map_append, List.take_append_drop]
  omega
structure PartsM (M : HL) (ws : List Value) (Ls : List (List Int)) : Prop where
  len : ws.length = Ls.length
  sl : ∀ i, i < Ls.length → Sl M 1 (ws.getD i undef) (ints (Ls.getD i []))
  rd : ∀ i, i < Ls.length → Ls.getD i [] = [] → RdS M (ws.getD i undef)
theorem PartsM.mono {M M' : HL} {ws : List Value} {Ls : List (List Int)} (h : PartsM M ws Ls) (k : ∀ q ∈ M, q ∈ M') : PartsM M' ws Ls := ⟨h.len, fun i hi => (h.sl i hi).mono k, fun i hi h0 => (h.rd i hi h0).mono k⟩
attribute [local irreducible] gOK WS WC WR WD Ends FS YS OpV seqK blockK loopK midK retK rdK asgK rangeEnd sat Cell
section
variable {M : HL} {n0 : Nat} {H : Heap} {v w : Value}
theorem Grow_fs (hH : hasH M n0 H) {m : Nat} (h1 : 1 ≤ m) (h2 : m ≤ 70000) :
    FS C 74 [.slice none 0 0, .int .i64 (m : Int)] H (fun e H' => e = .slice (some ⟨n0, 0, some 0⟩) 0 (roomCode 1 m) ∧ hasH ((n0, .row 3 0 0 (ints (List.replicate m 0))) :: M) (n0 + 1) H') := by
  refine FS.intro (pf := pf74) rfl rfl rfl ?_
  repeat' (first | refine zP ?_ | refine zA ?_ | (refine zM ?_; intro _ _) | refine zX ?_ | (refine zC ?_; intro _ _ _ _) | (refine zS ?_; intro _ _) | refine zO ?_ | (apply Ws <;> intro hg))
  refine WR.op (by first | exact gN | exact gS rfl) rfl (OpV.capNil rfl) ?_
  repeat' (first | refine zP ?_ | refine zA ?_ | (refine zM ?_; intro _ _) | refine zX ?_ | (refine zC ?_; intro _ _ _ _) | (refine zS ?_; intro _ _) | refine zO ?_ | (apply Ws <;> intro hg))
  refine WR.op (by first | exact gN | exact gS rfl) rfl (OpV.capNil rfl) ?_
  refine WR.op (by first | exact gN | exact gS rfl) rfl (OpV.cutNil rfl rfl) ?_
  repeat' (first | refine zP ?_ | refine zA ?_ | (refine zM ?_; intro _ _) | refine zX ?_ | (refine zC ?_; intro _ _ _ _) | (refine zS ?_; intro _ _) | refine zO ?_ | (apply Ws <;> intro hg))
  refine WR.appZ (m := m) (by first | exact gN | exact gS rfl) rfl rfl (by show some _ = some _; congr 2) hH h1 h2 rfl fun H2 hH2 => ?_
  replace hH2 : hasH ((n0, .row 3 0 0 (ints (List.replicate m 0))) :: M) (n0 + 1) H2 := by rw [ints, List.map_replicate]; exact hH2
  repeat' (first | refine zP ?_ | refine zA ?_ | (refine zM ?_; intro _ _) | refine zX ?_ | (refine zC ?_; intro _ _ _ _) | (refine zS ?_; intro _ _) | refine zO ?_ | (apply Ws <;> intro hg))
  refine WR.op (by first | exact gN | exact gS rfl) rfl (OpV.cutPre (R := m) (m := 0) rfl (.inl ⟨rfl, rfl⟩) rfl (Nat.zero_le _) (by omega)) ?_
  repeat' (first | refine zP ?_ | refine zA ?_ | (refine zM ?_; intro _ _) | refine zX ?_ | (refine zC ?_; intro _ _ _ _) | (refine zS ?_; intro _ _) | refine zO ?_ | (apply Ws <;> intro hg))
  exact Ends.ret1 rfl ⟨rfl, hH2⟩
set_option maxHeartbeats 1000000 in
theorem Concat_fs (hH : hasH M n0 H) {ws : List Value} {Ls : List (List Int)} (hS : Sl M 1 v ws) (hP : PartsM M ws Ls) (hm : Ls.length ≤ 100) (h1 : 1 ≤ lenS Ls) (h2 : lenS Ls ≤ 70000) :
    FS C 41 [v] H (fun e H' => ∃ b n', e = .slice (some ⟨b, 0, some 0⟩) (lenS Ls) (roomCode 1 (lenS Ls)) ∧ n0 ≤ n' ∧ hasH ((b, .row 3 0 0 (ints Ls.flatten)) :: M) n' H') := by
  have hwl := hP.len
  refine FS.intro (pf := pf41) rfl rfl rfl ?_
  repeat' (first | refine zP ?_ | refine zA ?_ | (refine zM ?_; intro _ _) | refine zX ?_ | (refine zC ?_; intro _ _ _ _) | (refine zS ?_; intro _ _) | (apply Ws <;> intro hg))
  refine WC.loopX [(0, v), (9, v), (10, .int .i64 (ws.length : Int))] (fun k : Nat => [(3, .int .i64 (lenS (Ls.take k) : Int)), (11, .int .i64 (k : Int))]) []
    (fun k H' => k ≤ Ls.length ∧ H' = H) (fun k => Ls.length - k) 0 (by repeat' (first | exact .nil | refine .cons rfl ?_)) rfl ⟨Nat.zero_le _, rfl⟩ ?_
  rintro k _ ⟨hk, rfl⟩
  have hle := lenS_take Ls k
  dsimp only [List.cons_append, List.nil_append]
  repeat' (first | refine zP ?_ | refine zA ?_ | (refine zM ?_; intro _ _) | refine zX ?_ | (refine zC ?_; intro _ _ _ _) | (refine zS ?_; intro _ _) | (apply Ws <;> intro hg))
  refine WC.condP rfl (fun hlt => ?_) (fun hlt => ?_)
  · have hk' : k < Ls.length := by omega
    have hkw : k < ws.length := by omega
    have hSk := hP.sl k hk'
    have htk : Ls.take (k + 1) = Ls.take k ++ [Ls.getD k []] := by rw [List.take_succ_eq_append_getElem hk', getD_eq hk']
    have hle1 := lenS_take Ls (k + 1)
    rw [htk, lenS_snoc] at hle1
    repeat' (first | refine zP ?_ | refine zA ?_ | (refine zM ?_; intro _ _) | refine zX ?_ | (refine zC ?_; intro _ _ _ _) | (refine zS ?_; intro _ _) | refine zO ?_ | (apply Ws <;> intro hg))
    rw [show (lenS (Ls.take k) : Int) + ((Ls.getD k []).length : Int) = (lenS (Ls.take (k + 1)) : Int) by rw [htk, lenS_snoc]; omega]
    exact Ends.loop (k + 1) (by omega) (by repeat' (first | exact .nil | refine .cons rfl ?_)) rfl ⟨hk', rfl⟩
  · have hkn : k = Ls.length := by omega
    subst hkn
    rw [List.take_length]
    repeat' (first | refine zP ?_ | refine zA ?_ | (refine zM ?_; intro _ _) | refine zX ?_ | (refine zC ?_; intro _ _ _ _) | (refine zS ?_; intro _ _) | (apply Ws <;> intro hg))
    refine WR.call (by first | exact gN | exact gS rfl) rfl rfl (Grow_fs hH h1 h2) ?_
    rintro _ H2 ⟨rfl, hH2⟩
    obtain ⟨N, hN⟩ : ∃ N, lenS Ls = N := ⟨_, rfl⟩
    rw [hN] at h1 h2 hH2 hle ⊢
    have hS2 := hS.cons (p := (n0, .row 3 0 0 (ints (List.replicate N 0))))
    repeat' (first | refine zP ?_ | refine zA ?_ | (refine zM ?_; intro _ _) | refine zX ?_ | (refine zC ?_; intro _ _ _ _) | (refine zS ?_; intro _ _) | (apply Ws <;> intro hg))
    refine WC.loopX [(25, v), (26, .int .i64 (ws.length : Int))] (fun k : Nat => [(6, .slice (some ⟨n0, 0, some 0⟩) (lenS (Ls.take k)) (roomCode 1 N)), (27, .int .i64 (k : Int))]) []
      (fun k H' => k ≤ Ls.length ∧ hasH ((n0, .row 3 0 0 (ints ((Ls.take k).flatten ++ List.replicate (N - lenS (Ls.take k)) 0))) :: M) (n0 + 1) H') (fun k => Ls.length - k) 0 (by repeat' (first | exact .nil | refine .cons rfl ?_)) rfl ⟨Nat.zero_le _, by simpa [lenS] using hH2⟩ ?_
    clear hH2 hS2
    rintro k H3 ⟨hk, hH3⟩
    have hle := lenS_take Ls k
    have hS3 := hS.cons (p := (n0, .row 3 0 0 (ints ((Ls.take k).flatten ++ List.replicate (N - lenS (Ls.take k)) 0))))
    dsimp only [List.cons_append, List.nil_append]
    repeat' (first | refine zP ?_ | refine zA ?_ | (refine zM ?_; intro _ _) | refine zX ?_ | (refine zC ?_; intro _ _ _ _) | (refine zS ?_; intro _ _) | (apply Ws <;> intro hg))
    refine WC.condP rfl (fun hlt2 => ?_) (fun hlt2 => ?_)
    · have hk' : k < Ls.length := by omega
      have hkw : k < ws.length := by omega
      have hP3 := hP.mono (M' := (n0, .row 3 0 0 (ints ((Ls.take k).flatten ++ List.replicate (N - lenS (Ls.take k)) 0))) :: M) fun q hq => List.mem_cons_of_mem _ hq
      have hSk := hP3.sl k hk'
      have htk : Ls.take (k + 1) = Ls.take k ++ [Ls.getD k []] := by rw [List.take_succ_eq_append_getElem hk', getD_eq hk']
      have hle1 := lenS_take Ls (k + 1)
      have hls : lenS (Ls.take (k + 1)) = lenS (Ls.take k) + (Ls.getD k []).length := by rw [htk, lenS_snoc]
      obtain ⟨q1', q2'⟩ := src_of hSk (hP3.rd k hk') hH3
      have hfl := lenS_flat (Ls.take k)
      have hrow : ((Ls.take k).flatten ++ List.replicate (N - lenS (Ls.take k)) 0).take (lenS (Ls.take k)) ++ Ls.getD k [] ++ ((Ls.take k).flatten ++ List.replicate (N - lenS (Ls.take k)) 0).drop (lenS (Ls.take k) + (Ls.getD k []).length) = (Ls.take (k + 1)).flatten ++ List.replicate (N - lenS (Ls.take (k + 1))) 0 := by
        rw [List.take_append_of_le_length (by omega), List.take_of_length_le (by omega), List.drop_append, List.drop_of_length_le (by omega), List.nil_append, List.drop_replicate, htk, lenS_snoc, hfl, List.flatten_append, List.flatten_singleton, show N - (lenS (Ls.take k) + (Ls.getD k []).length) = N - lenS (Ls.take k) - (lenS (Ls.take k) + (Ls.getD k []).length - lenS (Ls.take k)) by omega]
      repeat' (first | refine zP ?_ | refine zA ?_ | (refine zM ?_; intro _ _) | refine zX ?_ | (refine zC ?_; intro _ _ _ _) | (refine zS ?_; intro _ _) | (apply Ws <;> intro hg))
      refine WR.appendRX (R := N) (by first | exact gN | exact gS rfl) rfl rfl rfl q1' q2' rfl hH3 .here (by omega) (by rw [List.length_append, hfl, List.length_replicate]; omega) fun H4 hH4 => ?_
      rw [hrow] at hH4
      repeat' (first | refine zP ?_ | refine zA ?_ | (refine zM ?_; intro _ _) | refine zX ?_ | (refine zC ?_; intro _ _ _ _) | (refine zS ?_; intro _ _) | (apply Ws <;> intro hg))
      rw [← hls]
      exact Ends.loop (k + 1) (by omega) (by repeat' (first | exact .nil | refine .cons rfl ?_)) rfl ⟨hk', hH4⟩
    · have hkn : k = Ls.length := by omega
      subst hkn
      rw [List.take_length] at hH3 hle ⊢
      rw [hN, Nat.sub_self, List.replicate_zero, List.append_nil] at hH3
      repeat' (first | refine zP ?_ | refine zA ?_ | (refine zM ?_; intro _ _) | refine zX ?_ | (refine zC ?_; intro _ _ _ _) | (refine zS ?_; intro _ _) | (apply Ws <;> intro hg))
      exact Ends.ret1 rfl ⟨n0, n0 + 1, by rw [hN], by omega, hH3⟩
end
end Go.Proofs.Ytnmlfjohoeebiaa.Wk

/- The law WalkFirst. -/
namespace Go.Proofs.Ytnmlfjohoeebiaa.Wk
open Go Go.Abs Go.Mth
set_option linter.unusedVariables false
set_option linter.unusedSimpArgs false
theorem WalkR.good {T W t : List Int} (hT : TOK T) (h : WalkR T (startS T) W t) : GoodW T W := by
  rcases go_good hT h.go.2 with ⟨h1, _⟩ | ⟨h1, _⟩
  · rw [h.go.1] at h1; cases h1
  · exact h1
attribute [local irreducible] gOK WS WC WR WD Ends FS YS OpV seqK blockK loopK midK retK rdK asgK rangeEnd sat Cell
section
variable {M : HL} {n0 : Nat} {H : Heap} {v w : Value}
end
end Go.Proofs.Ytnmlfjohoeebiaa.Wk

/- The weight of numbers of tides; long walks. -/
namespace Go.Proofs.Ytnmlfjohoeebiaa.Wk
open Go Go.Abs Go.Mth
set_option linter.unusedVariables false
set_option linter.unusedSimpArgs false
structure GP where
  a : Nat
  b : Nat
structure WP3 where
  k : Nat
  a : Nat
  b : Nat
/-- What the weight is. -/
structure WghtR (T : List Int) (a b : Nat) : Prop where
  a1 : 1 ≤ a
  b1 : 1 ≤ b
  le : a ≤ 4 * b
  dv : b ∣ 840
  cop : Nat.Coprime a b
  eq : sumW T * (b : Int) = 840 * (a : Int)
theorem wght_of {T : List Int} {A B : Nat} (h0 : 0 ≤ sumW T) (hA : 1 ≤ A) (hB : 1 ≤ B) (hle : A ≤ 4 * B) (h : sumW T * (B : Int) = 840 * (A : Int)) : WghtR T (A / Nat.gcd A B) (B / Nat.gcd A B) := by
  obtain ⟨S, hS⟩ : ∃ S : Nat, sumW T = S := ⟨(sumW T).toNat, by omega⟩
  have hN : S * B = 840 * A := by
    rw [hS] at h
    refine Int.ofNat_inj.1 ?_
    rw [Int.natCast_mul, Int.natCast_mul]
    exact h
  have hg : 0 < Nat.gcd A B := Nat.gcd_pos_of_pos_left _ hA
  have ea := Nat.div_mul_cancel (Nat.gcd_dvd_left A B)
  have eb := Nat.div_mul_cancel (Nat.gcd_dvd_right A B)
  have hc := Nat.coprime_div_gcd_div_gcd hg
  generalize Nat.gcd A B = g at hg ea eb hc
  generalize A / g = a at ea hc
  generalize B / g = b at eb hc
  subst ea eb
  have e : S * b = 840 * a := Nat.eq_of_mul_eq_mul_right hg (by rw [Nat.mul_assoc, Nat.mul_assoc]; exact hN)
  refine ⟨Nat.pos_of_mul_pos_right hA, Nat.pos_of_mul_pos_right hB, ?_, ?_, hc, ?_⟩
  · exact Nat.le_of_mul_le_mul_right (by rw [Nat.mul_assoc]; exact hle) hg
  · exact hc.symm.dvd_of_dvd_mul_right ⟨S, by rw [← e, Nat.mul_comm]⟩
  · rw [hS]
    have := congrArg (fun n : Nat => (n : Int)) e
    simp only [Int.natCast_mul] at this
    exact this
attribute [local irreducible] gOK WS WC WR WD Ends FS YS OpV seqK blockK loopK midK retK rdK asgK rangeEnd sat Cell
section
variable {M : HL} {n0 : Nat} {H : Heap} {v w : Value}
theorem gcd_fs {a b : Nat} (ha : a ≤ 100000) (hb : b ≤ 100000) :
    FS C 53 [.int .i64 (a : Int), .int .i64 (b : Int)] H (fun e H' => e = .int .i64 ((Nat.gcd a b : Nat) : Int) ∧ H' = H) := by
  refine FS.intro (pf := pf53) rfl rfl rfl ?_
  repeat' (first | refine zP ?_ | refine zA ?_ | (refine zM ?_; intro _ _) | refine zX ?_ | (refine zC ?_; intro _ _ _ _) | (refine zS ?_; intro _ _) | (apply Ws <;> intro hg))
  refine WC.loopX [] (fun z : GP => [(0, .int .i64 (z.a : Int)), (1, .int .i64 (z.b : Int))]) []
    (fun z H' => H' = H ∧ Nat.gcd z.a z.b = Nat.gcd a b ∧ z.a ≤ 100000 ∧ z.b ≤ 100000) (fun z => z.b) ⟨a, b⟩ (by repeat' (first | exact .nil | refine .cons rfl ?_)) rfl ⟨rfl, rfl, ha, hb⟩ ?_
  rintro ⟨x, y⟩ _ ⟨rfl, hg, hx, hy⟩
  simp only at hg hx hy
  dsimp only [List.cons_append, List.nil_append]
  repeat' (first | refine zP ?_ | refine zA ?_ | (refine zM ?_; intro _ _) | refine zX ?_ | (refine zC ?_; intro _ _ _ _) | (refine zS ?_; intro _ _) | (apply Ws <;> intro hg))
  refine WC.condP rfl (fun hne => ?_) (fun hne => ?_)
  · have hlt := Nat.mod_lt x (show 0 < y by omega)
    repeat' (first | refine zP ?_ | refine zA ?_ | (refine zM ?_; intro _ _) | refine zX ?_ | (refine zC ?_; intro _ _ _ _) | (refine zS ?_; intro _ _) | (apply Ws <;> intro hg))
    rw [show (x : Int) % (y : Int) = ((x % y : Nat) : Int) by simp]
    exact Ends.loop ⟨y, x % y⟩ hlt (by repeat' (first | exact .nil | refine .cons rfl ?_)) rfl ⟨rfl, by rw [← hg]; show Nat.gcd y (x % y) = _; rw [Nat.gcd_comm, ← Nat.gcd_rec, Nat.gcd_comm], hy, by simp only; omega⟩
  · have hy0 : y = 0 := by omega
    subst hy0
    rw [Nat.gcd_zero_right] at hg
    subst hg
    repeat' (first | refine zP ?_ | refine zA ?_ | (refine zM ?_; intro _ _) | refine zX ?_ | (refine zC ?_; intro _ _ _ _) | (refine zS ?_; intro _ _) | (apply Ws <;> intro hg))
    exact Ends.ret1 rfl ⟨rfl, rfl⟩
theorem Weight_fs (hH : hasH M n0 H) {T : List Int} (hS : Sl M 1 v (ints T)) (hT : TOK T) (h1 : 1 ≤ T.length) :
    FS C 17 [v] H (fun e H' => ∃ a b : Nat, e = .tuple #[.int .i64 (a : Int), .int .i64 (b : Int), .int .i64 0] ∧ WghtR T a b ∧ H' = H) := by
  have hTl := hT.len
  have hE := errT_of hT h1
  refine FS.intro (pf := pf17) rfl rfl rfl ?_
  repeat' (first | refine zP ?_ | refine zA ?_ | (refine zM ?_; intro _ _) | refine zX ?_ | (refine zC ?_; intro _ _ _ _) | (refine zS ?_; intro _ _) | (apply Ws <;> intro hg))
  refine WR.call (by first | exact gN | exact gS rfl) rfl rfl (Check_fs hH hS (by omega)) ?_
  rintro _ H1 ⟨rfl, rfl⟩
  rw [hE]
  repeat' (first | refine zP ?_ | refine zA ?_ | (refine zM ?_; intro _ _) | refine zX ?_ | (refine zC ?_; intro _ _ _ _) | (refine zS ?_; intro _ _) | (apply Ws <;> intro hg))
  refine WC.loopX [(14, v), (15, .int .i64 (T.length : Int))] (fun z : WP3 => [(2, .int .i64 (z.a : Int)), (3, .int .i64 (z.b : Int)), (16, .int .i64 (z.k : Int))]) []
    (fun z H' => H' = H1 ∧ z.k ≤ T.length ∧ 1 ≤ z.b ∧ z.b ≤ 8 ^ z.k ∧ z.a ≤ z.k * z.b ∧ (1 ≤ z.k → 1 ≤ z.a) ∧ sumW (T.take z.k) * (z.b : Int) = 840 * (z.a : Int)) (fun z => T.length - z.k) ⟨0, 0, 1⟩ (by repeat' (first | exact .nil | refine .cons rfl ?_)) rfl
    ⟨rfl, Nat.zero_le _, Nat.le_refl _, Nat.le_refl _, Nat.le_refl _, fun h => absurd h (by decide), by simp [sumW]⟩ ?_
  rintro ⟨k, a, b⟩ _ ⟨rfl, hk, hb1, hb8, hak, ha1, hq⟩
  simp only at hk hb1 hb8 hak ha1 hq
  dsimp only [List.cons_append, List.nil_append]
  repeat' (first | refine zP ?_ | refine zA ?_ | (refine zM ?_; intro _ _) | refine zX ?_ | (refine zC ?_; intro _ _ _ _) | (refine zS ?_; intro _ _) | (apply Ws <;> intro hg))
  have h8 : 8 ^ k ≤ 4096 := Nat.le_trans (Nat.pow_le_pow_right (by omega) (show k ≤ 4 by omega)) (by decide)
  have hk4 : k * b ≤ 4 * b := Nat.mul_le_mul_right _ (by omega)
  refine WC.condP rfl (fun hlt => ?_) (fun hlt => ?_)
  · have hk' : k < T.length := by omega
    have h83 : 8 ^ k ≤ 512 := Nat.le_trans (Nat.pow_le_pow_right (by omega) (show k ≤ 3 by omega)) (by decide)
    obtain ⟨t, ht⟩ : ∃ t : Nat, T.getD k 0 = (t : Int) := ⟨(T.getD k 0).toNat, by have := hT.lo k hk'; omega⟩
    have htl := hT.lo k hk'
    have hth := hT.hi k hk'
    rw [ht] at htl hth
    have htk : T.take (k + 1) = T.take k ++ [T.getD k 0] := by rw [List.take_succ_eq_append_getElem hk', getD_eq hk']
    have hdv : 840 / t * t = 840 := Nat.div_mul_cancel (by
      have : t = 1 ∨ t = 2 ∨ t = 3 ∨ t = 4 ∨ t = 5 ∨ t = 6 ∨ t = 7 ∨ t = 8 := by omega
      rcases this with rfl | rfl | rfl | rfl | rfl | rfl | rfl | rfl <;> decide)
    have hat : a * t ≤ 2048 * 8 := Nat.mul_le_mul (by omega) (by omega)
    have hbt : b * t ≤ 512 * 8 := Nat.mul_le_mul (by omega) (by omega)
    have hpa : 0 ≤ (a : Int) * (t : Int) ∧ (a : Int) * (t : Int) ≤ 100000 := by
      have : (a : Int) * (t : Int) = ((a * t : Nat) : Int) := by simp
      omega
    have hpb : 0 ≤ (b : Int) * (t : Int) ∧ (b : Int) * (t : Int) ≤ 100000 := by
      have : (b : Int) * (t : Int) = ((b * t : Nat) : Int) := by simp
      omega
    repeat' (first | refine zP ?_ | refine zA ?_ | (refine zM ?_; intro _ _) | refine zX ?_ | (refine zC ?_; intro _ _ _ _) | (refine zS ?_; intro _ _) | (apply Ws <;> intro hg))
    rw [ht]
    repeat' (first | refine zP ?_ | refine zA ?_ | (refine zM ?_; intro _ _) | refine zX ?_ | (refine zC ?_; intro _ _ _ _) | (refine zS ?_; intro _ _) | (apply Ws <;> intro hg))
    rw [show (a : Int) * (t : Int) + (b : Int) = ((a * t + b : Nat) : Int) by simp, show (b : Int) * (t : Int) = ((b * t : Nat) : Int) by simp]
    refine Ends.loop ⟨k + 1, a * t + b, b * t⟩ (by simp only; omega) (by repeat' (first | exact .nil | refine .cons rfl ?_)) rfl ⟨rfl, hk', Nat.mul_pos hb1 (by omega), ?_, ?_, fun _ => by simp only; omega, ?_⟩
    · show b * t ≤ 8 ^ k * 8
      exact Nat.mul_le_mul hb8 (by omega)
    · show a * t + b ≤ (k + 1) * (b * t)
      have e1 : a * t ≤ k * (b * t) := by rw [← Nat.mul_assoc]; exact Nat.mul_le_mul_right _ hak
      have e2 : b ≤ b * t := Nat.le_mul_of_pos_right _ (by omega)
      rw [Nat.succ_mul]; omega
    · show sumW (T.take (k + 1)) * ((b * t : Nat) : Int) = 840 * ((a * t + b : Nat) : Int)
      rw [htk, sumW_snoc, ht]
      have e3 : (840 : Int) / (t : Int) * (t : Int) = 840 := by
        have := congrArg (fun n : Nat => (n : Int)) hdv
        simp only [Int.natCast_mul, Int.natCast_ediv] at this
        exact this
      have e4 : (sumW (T.take k) + 840 / (t : Int)) * ((b : Int) * (t : Int)) = (sumW (T.take k) * (b : Int)) * (t : Int) + (840 / (t : Int) * (t : Int)) * (b : Int) := by
        rw [Int.add_mul, ← Int.mul_assoc, Int.mul_comm (b : Int) (t : Int), ← Int.mul_assoc]
      rw [show ((b * t : Nat) : Int) = (b : Int) * (t : Int) by simp, e4, e3, hq, show ((a * t + b : Nat) : Int) = (a : Int) * (t : Int) + (b : Int) by simp, Int.mul_add, Int.mul_assoc]
  · have hkn : k = T.length := by omega
    subst hkn
    rw [List.take_length] at hq
    have hs := sumW_bd (T := T) fun t ht => div_bd hT ht
    have hW := wght_of hs.1 (ha1 h1) hb1 (by omega) hq
    have hg : 0 < Nat.gcd a b := Nat.gcd_pos_of_pos_left _ (ha1 h1)
    have hga := Nat.gcd_le_left b (ha1 h1)
    repeat' (first | refine zP ?_ | refine zA ?_ | (refine zM ?_; intro _ _) | refine zX ?_ | (refine zC ?_; intro _ _ _ _) | (refine zS ?_; intro _ _) | (apply Ws <;> intro hg))
    refine WR.call (by first | exact gN | exact gS rfl) rfl rfl (gcd_fs (a := a) (b := b) (by omega) (by omega)) ?_
    rintro _ _ ⟨rfl, rfl⟩
    generalize Nat.gcd a b = g at hW hg hga
    repeat' (first | refine zP ?_ | refine zA ?_ | (refine zM ?_; intro _ _) | refine zX ?_ | (refine zC ?_; intro _ _ _ _) | (refine zS ?_; intro _ _) | (apply Ws <;> intro hg))
    rw [show (a : Int) / (g : Int) = ((a / g : Nat) : Int) by simp, show (b : Int) / (g : Int) = ((b / g : Nat) : Int) by simp]
    exact Ends.ret3 rfl rfl rfl ⟨a / g, b / g, rfl, hW, rfl⟩
theorem walkedL_fs (hH : hasH M n0 H) {T W : List Int} (hS : Sl M 1 v (ints T)) (hT : TOK T) (hU : Sl M 1 w (ints W)) (hW : W.length ≤ 70000) :
    FS C 40 [v, w] H (fun e H' => e = .bool (goodB T W) ∧ H' = H) := by
  have hTl := hT.len
  refine FS.intro (pf := pf40) rfl rfl rfl ?_
  repeat' (first | refine zP ?_ | refine zA ?_ | (refine zM ?_; intro _ _) | refine zX ?_ | (refine zC ?_; intro _ _ _ _) | (refine zS ?_; intro _ _) | (apply Ws <;> intro hg))
  refine WC.loopX [(0, _), (1, _), (8, _), (9, _)] (fun k : Nat => [(10, .int .i64 (k : Int))]) [] (fun k H' => H' = H ∧ k ≤ T.length ∧ ∀ i, i < k → ∀ f, f + (T.getD i 0).toNat ≤ W.length → (i : Int) ∈ (W.drop f).take (T.getD i 0).toNat) (fun k => T.length - k) 0 (by repeat' (first | exact .nil | refine .cons rfl ?_)) rfl ⟨rfl, Nat.zero_le _, fun j h => absurd h (Nat.not_lt_zero _)⟩ ?_
  rintro k H' ⟨rfl, hk, hno⟩
  dsimp only [List.cons_append, List.nil_append]
  repeat' (first | refine zP ?_ | refine zA ?_ | (refine zM ?_; intro _ _) | refine zX ?_ | (refine zC ?_; intro _ _ _ _) | (refine zS ?_; intro _ _) | (apply Ws <;> intro hg))
  refine WC.condP rfl (fun hlt => ?_) (fun hlt => ?_)
  · have hk' : k < T.length := by omega
    obtain ⟨t, ht⟩ : ∃ t : Nat, T.getD k 0 = (t : Int) := ⟨(T.getD k 0).toNat, by have := hT.lo k hk'; omega⟩
    have ht8 := hT.hi k hk'
    have ht1 := hT.lo k hk'
    repeat' (first | refine zP ?_ | refine zA ?_ | (refine zM ?_; intro _ _) | refine zX ?_ | (refine zC ?_; intro _ _ _ _) | (refine zS ?_; intro _ _) | (apply Ws <;> intro hg))
    rw [ht] at ht8 ht1 ⊢
    refine WC.loopX [(0, _), (1, _), (8, _), (9, _), (10, _), (5, .int .i64 (k : Int)), (6, .int .i64 (t : Int))] (fun f : Nat => [(7, .int .i64 (f : Int))]) [] (fun f H'' => H'' = H' ∧ f ≤ W.length + 1 ∧ ∀ g, g < f → g + t ≤ W.length → (k : Int) ∈ (W.drop g).take t) (fun f => W.length + 1 - f) 0 (by repeat' (first | exact .nil | refine .cons rfl ?_)) rfl ⟨rfl, by omega, fun j h => absurd h (Nat.not_lt_zero _)⟩ ?_
    rintro f H2 ⟨rfl, hf, hin⟩
    dsimp only [List.cons_append, List.nil_append]
    repeat' (first | refine zP ?_ | refine zA ?_ | (refine zM ?_; intro _ _) | refine zX ?_ | (refine zC ?_; intro _ _ _ _) | (refine zS ?_; intro _ _) | (apply Ws <;> intro hg))
    refine WC.condP rfl (fun hle => ?_) (fun hle => ?_)
    · have hle' : f + t ≤ W.length := by omega
      repeat' (first | refine zP ?_ | refine zA ?_ | (refine zM ?_; intro _ _) | refine zX ?_ | (refine zC ?_; intro _ _ _ _) | (refine zS ?_; intro _ _) | (apply Ws <;> intro hg))
      rw [show (f : Int) + (t : Int) = ((f + t : Nat) : Int) by omega]
      refine WR.cutI (a := f) (b := f + t) (by first | exact gN | exact gS rfl) rfl rfl hU rfl rfl (by omega) hle' fun v5 hS5 => ?_
      repeat' (first | refine zP ?_ | refine zA ?_ | (refine zM ?_; intro _ _) | refine zX ?_ | (refine zC ?_; intro _ _ _ _) | (refine zS ?_; intro _ _) | (apply Ws <;> intro hg))
      refine WR.call (by first | exact gN | exact gS rfl) rfl rfl (Contains_fs hH hS5 (by simp; omega) k) ?_
      rintro _ _ ⟨rfl, rfl⟩
      rw [Nat.add_sub_cancel_left]
      by_cases hm : (k : Int) ∈ (W.drop f).take t
      · rw [decide_eq_true hm]
        repeat' (first | refine zP ?_ | refine zA ?_ | (refine zM ?_; intro _ _) | refine zX ?_ | (refine zC ?_; intro _ _ _ _) | (refine zS ?_; intro _ _) | (apply Ws <;> intro hg))
        refine Ends.loop (f + 1) (by omega) (by repeat' (first | exact .nil | refine .cons rfl ?_)) rfl ⟨rfl, by omega, fun g hg => ?_⟩
        rcases Nat.lt_or_ge g f with h | h
        · exact hin g h
        · have : g = f := by omega
          subst this; exact fun _ => hm
      · rw [decide_eq_false hm]
        repeat' (first | refine zP ?_ | refine zA ?_ | (refine zM ?_; intro _ _) | refine zX ?_ | (refine zC ?_; intro _ _ _ _) | (refine zS ?_; intro _ _) | (apply Ws <;> intro hg))
        refine Ends.ret1 rfl ⟨?_, rfl⟩
        rw [goodB_false fun h => hm ?_]
        have := h k hk' f (by rw [ht, Int.toNat_natCast]; exact hle')
        rwa [ht, Int.toNat_natCast] at this
    · repeat' (first | refine zP ?_ | refine zA ?_ | (refine zM ?_; intro _ _) | refine zX ?_ | (refine zC ?_; intro _ _ _ _) | (refine zS ?_; intro _ _) | (apply Ws <;> intro hg))
      refine Ends.loop (k + 1) (by omega) (by repeat' (first | exact .nil | refine .cons rfl ?_)) rfl ⟨rfl, hk', fun i hi g hg => ?_⟩
      rcases Nat.lt_or_ge i k with h | h
      · exact hno i h g hg
      · have : i = k := by omega
        subst this
        rw [ht] at hg ⊢
        rw [Int.toNat_natCast] at hg ⊢
        exact hin g (by omega) hg
  · have hkn : k = T.length := by omega
    subst hkn
    repeat' (first | refine zP ?_ | refine zA ?_ | (refine zM ?_; intro _ _) | refine zX ?_ | (refine zC ?_; intro _ _ _ _) | (refine zS ?_; intro _ _) | (apply Ws <;> intro hg))
    exact Ends.ret1 rfl ⟨by rw [goodB_true.2 hno], rfl⟩
end
end Go.Proofs.Ytnmlfjohoeebiaa.Wk

/- How inspectors divide the stretches: all lists, by their numbers. -/
namespace Go.Proofs.Ytnmlfjohoeebiaa.Wk
open Go Go.Abs Go.Mth
set_option linter.unusedVariables false
set_option linter.unusedSimpArgs false
/-- The division of a number: the thing that comes last changes first. -/
def divK (n : Nat) : Nat → Nat → List Nat
  | 0, _ => []
  | m + 1, k => divK n m (k / n) ++ [k % n]
theorem divK_len (n : Nat) : ∀ m k, (divK n m k).length = m
  | 0, _ => rfl
  | m + 1, k => by simp [divK, divK_len n m]
theorem divK_lt {n : Nat} (hn : 1 ≤ n) : ∀ m k, ∀ x ∈ divK n m k, x < n
  | 0, _, x, h => by cases h
  | m + 1, k, x, h => by
    rcases List.mem_append.1 h with h | h
    · exact divK_lt hn m _ x h
    · rw [List.mem_singleton.1 h]; exact Nat.mod_lt _ (by omega)
theorem div_up {n K : Nat} (h : K % n + 1 < n) : (K + 1) / n = K / n ∧ (K + 1) % n = K % n + 1 := by
  have h1 := Nat.div_add_mod K n
  have h2 : K + 1 = n * (K / n) + (K % n + 1) := by omega
  constructor
  · rw [h2, Nat.mul_add_div (by omega), Nat.div_eq_of_lt h]; omega
  · rw [h2, Nat.mul_add_mod, Nat.mod_eq_of_lt h]
theorem div_carry {n K : Nat} (hn : 1 ≤ n) (h : ¬ K % n + 1 < n) : (K + 1) / n = K / n + 1 ∧ (K + 1) % n = 0 ∧ K + 1 = (K / n + 1) * n := by
  have h1 := Nat.div_add_mod K n
  have h3 := Nat.mod_lt K (show 0 < n by omega)
  have h2 : K + 1 = n * (K / n + 1) := by rw [Nat.mul_add, Nat.mul_one]; omega
  refine ⟨?_, ?_, by rw [Nat.mul_comm]; exact h2⟩
  · rw [h2, Nat.mul_div_cancel_left _ (by omega)]
  · rw [h2, Nat.mul_mod_right]
/-- What stands while the next one is made: so many things, the last ones, have been set back. -/
structure Carry (n m k t K : Nat) : Prop where
  tm : t ≤ m
  nxt : divK n m (k + 1) = divK n (m - t) (K + 1) ++ List.replicate t 0
  num : k + 1 = (K + 1) * n ^ t
theorem Carry.start (n m k : Nat) : Carry n m k 0 k := ⟨Nat.zero_le _, by simp, by simp⟩
theorem Carry.step {n m k t K : Nat} (hn : 1 ≤ n) (h : Carry n m k t K) (ht : t < m) (hc : ¬ K % n + 1 < n) : Carry n m k (t + 1) (K / n) := by
  obtain ⟨d, hd⟩ : ∃ d, m - t = d + 1 := ⟨m - t - 1, by omega⟩
  obtain ⟨c1, c2, c3⟩ := div_carry hn hc
  refine ⟨by omega, ?_, ?_⟩
  · rw [h.nxt, hd, show m - (t + 1) = d by omega, divK, c1, c2, List.append_assoc]
    congr 1
  · rw [h.num, c3, Nat.pow_succ, Nat.mul_assoc, Nat.mul_comm n]
theorem Carry.done {n m k t K : Nat} (h : Carry n m k t K) (ht : t < m) (hc : K % n + 1 < n) : divK n m (k + 1) = divK n (m - t - 1) (K / n) ++ (K % n + 1) :: List.replicate t 0 := by
  obtain ⟨d, hd⟩ : ∃ d, m - t = d + 1 := ⟨m - t - 1, by omega⟩
  obtain ⟨c1, c2⟩ := div_up hc
  rw [h.nxt, hd, show d + 1 - 1 = d by omega, divK, c1, c2, List.append_assoc]
  rfl
theorem Carry.more {n m k t K : Nat} (h : Carry n m k t K) (ht : t < m) (hc : K % n + 1 < n) (hk : k < n ^ m) : k + 1 < n ^ m := by
  refine Nat.lt_of_le_of_ne hk fun e => ?_
  rw [h.num, show n ^ m = n ^ (m - t) * n ^ t by rw [← Nat.pow_add]; congr 1; omega] at e
  have hp : 0 < n ^ t := Nat.pow_pos (by omega)
  have e2 := Nat.eq_of_mul_eq_mul_right hp e
  obtain ⟨d, hd⟩ : ∃ d, m - t = d + 1 := ⟨m - t - 1, by omega⟩
  obtain ⟨_, c2⟩ := div_up hc
  rw [e2, hd, Nat.pow_succ, Nat.mul_mod_left] at c2
  omega
theorem Carry.end_ {n m k K : Nat} (h : Carry n m k m K) (hk : k < n ^ m) (hn : 1 ≤ n) : k + 1 = n ^ m := by
  have h1 := h.num
  have : 1 * n ^ m ≤ (K + 1) * n ^ m := Nat.mul_le_mul_right _ (by omega)
  rw [Nat.one_mul] at this
  omega
/-- What stands in the row then. -/
def carryL (n m t K : Nat) : List Nat := divK n (m - t) K ++ List.replicate t 0
/-- Each division has a number. -/
theorem divK_all {n : Nat} (hn : 1 ≤ n) : ∀ m {o : List Nat}, o.length = m → (∀ x ∈ o, x < n) → ∃ k, k < n ^ m ∧ divK n m k = o
  | 0, o, h, _ => ⟨0, by simp, by rw [List.length_eq_zero_iff.1 h]; rfl⟩
  | m + 1, o, h, hb => by
    rcases List.eq_nil_or_concat o with rfl | ⟨q, x, rfl⟩
    · simp at h
    · rw [List.concat_eq_append] at h hb ⊢
      obtain ⟨k, hk, rfl⟩ := divK_all hn m (o := q) (by simpa using h) fun y hy => hb y (by simp [hy])
      have hx := hb x (by simp)
      refine ⟨k * n + x, ?_, ?_⟩
      · rw [Nat.pow_succ]
        have := Nat.mul_le_mul_right n (show k + 1 ≤ n ^ m from hk)
        rw [Nat.add_mul, Nat.one_mul] at this
        omega
      · rw [show divK n (m + 1) (k * n + x) = divK n m ((k * n + x) / n) ++ [(k * n + x) % n] from rfl, Nat.mul_comm, Nat.mul_add_div (by omega), Nat.div_eq_of_lt hx, Nat.add_zero, Nat.mul_add_mod, Nat.mod_eq_of_lt hx]

/-- An inspector's numbers. -/
def ownK (T : List Int) (l : List Nat) (j : Nat) : Nat → List Int
  | 0 => []
  | k + 1 => if l.getD k 0 = j then ownK T l j k ++ [T.getD k 0] else ownK T l j k
theorem TOK.mem {T : List Int} (h : TOK T) {i : Nat} (hi : i < T.length) : 1 ≤ T.getD i 0 ∧ T.getD i 0 ≤ 8 := ⟨h.lo i hi, h.hi i hi⟩
noncomputable def goJ (T : List Int) (l : List Nat) (j : Nat) : Bool := everB (ownK T l j T.length) (startS (ownK T l j T.length))
noncomputable def validB (T : List Int) (g : Nat) (l : List Nat) : Bool := (List.range g).all (goJ T l)
theorem valid_iff {T : List Int} {g : Nat} {l : List Nat} : validB T g l = true ↔ ∀ j, j < g → goJ T l j = true := by
  unfold validB
  rw [List.all_eq_true]
  exact ⟨fun h j hj => h j (List.mem_range.2 hj), fun h j hj => h j (List.mem_range.1 hj)⟩
/-- The list that is returned: the first of those with the fewest inspectors. -/
structure FirstG (T : List Int) (g k : Nat) : Prop where
  g1 : 1 ≤ g
  gn : g ≤ T.length
  kn : k < g ^ T.length
  ok : validB T g (divK g T.length k) = true
  no : ∀ i, i < k → validB T g (divK g T.length i) = false
  few : ∀ f, 1 ≤ f → f < g → ∀ i, i < f ^ T.length → validB T f (divK f T.length i) = false
structure GK where
  k : Nat
  n : Nat
structure GS where
  g : Nat
  k : Nat
  n : Nat
structure TK where
  t : Nat
  K : Nat
attribute [local irreducible] gOK WS WC WR WD Ends FS YS OpV seqK blockK loopK midK retK rdK asgK rangeEnd sat Cell
section
variable {M : HL} {n0 : Nat} {H : Heap} {v w : Value}
end
end Go.Proofs.Ytnmlfjohoeebiaa.Wk

/- How inspectors divide the stretches: the first list of the fewest. -/
namespace Go.Abs
set_option linter.unusedSectionVars false
variable [Globs]
open Go
section
variable {C : CW} {ro : Option Nat} {fn : FuncId} {nt : Nat} {L : Env} {D : List Nat} {H : Heap} {K : Ex → St → Prop}
/-- A body with labels to which nothing goes. -/
def scopeK (K : Ex → St → Prop) : Ex → St → Prop
  | .goto _, _ => False
  | e, s => K e s
theorem WC.scope {b : PC} (h : WC C ro fn nt b L D H (scopeK K)) : WC C ro fn nt (.scope b) L D H K := by
  intro t ht
  obtain ⟨n, e, s1, h1, h2⟩ := h t ht
  cases e with
  | goto l => exact h2.elim
  | normal => exact ⟨n, _, s1, by simp only [stepC, h1, scopeC], h2⟩
  | ret => exact ⟨n, _, s1, by simp only [stepC, h1, scopeC], h2⟩
  | exit j => exact ⟨n, _, s1, by simp only [stepC, h1, scopeC], h2⟩
theorem Ends.scope_ret (h : Ends K .ret L D H) : Ends (scopeK K) .ret L D H := h
theorem Ends.scope (h : Ends K .normal L D H) : Ends (scopeK K) .normal L D H := h
end
end Go.Abs
namespace Go.Proofs.Ytnmlfjohoeebiaa.Wk
open Go Go.Abs Go.Mth
set_option linter.unusedVariables false
set_option linter.unusedSimpArgs false
def grpE (T : List Int) : Int := errT T
attribute [local irreducible] gOK WS WC WR WD Ends FS YS OpV seqK blockK loopK midK retK rdK asgK rangeEnd sat Cell
section
variable {M : HL} {n0 : Nat} {H : Heap} {v w : Value}
end
end Go.Proofs.Ytnmlfjohoeebiaa.Wk
