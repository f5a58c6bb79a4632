/- Texts of the law, joined. -/
import Derived.Test.YtaipmdhnhffckaaJ3
namespace Go.Proofs.Ytaipmdhnhffckaa.Sh
open Go Go.Abs Go.Mth
set_option linter.unusedVariables false
set_option linter.unusedSimpArgs false
structure KE where
  k : Nat
  M : HL
  n : Nat
structure KP where
  k : Nat
  n : Nat
def ownL (vs : List (List Nat)) (ss : List Nat) (n : Nat) : List Nat := (List.range n).map fun i => wor (vs.getD i []) (ss.getD i 0)
theorem ownL_len (vs : List (List Nat)) (ss : List Nat) (n : Nat) : (ownL vs ss n).length = n := by simp [ownL]
theorem ownL_get {vs : List (List Nat)} {ss : List Nat} {n i : Nat} (h : i < n) : (ownL vs ss n).getD i 0 = wor (vs.getD i []) (ss.getD i 0) := by
  have h1 : (List.range n).getD i 0 = i := by rw [getD_eq (by simpa using h), List.getElem_range]
  unfold ownL
  rw [map_getD (l := List.range n) (a := 0) (by simpa using h), h1]
theorem prodW_le {w : Nat → Nat} (h : ∀ i, w i ≤ 120) : ∀ k, prodW w k ≤ 120 ^ k
  | 0 => Nat.le_refl _
  | k + 1 => by
    have ih := prodW_le h k
    show prodW w k * posQ w k ≤ 120 ^ k * 120
    refine Nat.mul_le_mul ih ?_
    have := h k
    unfold posQ
    split <;> omega
theorem manyW_le (w : Nat → Nat) : ∀ k, manyW w k ≤ k
  | 0 => Nat.le_refl _
  | k + 1 => by
    have ih := manyW_le w k
    show manyW w k + posC w k ≤ k + 1
    have : posC w k ≤ 1 := by unfold posC; split <;> omega
    omega
/-- Better for somebody, worse for nobody. -/
def betB (a b : Nat → Nat) (n : Nat) : Bool := (List.range n).all (fun i => !decide (a i < b i)) && (List.range n).any fun i => decide (b i < a i)
def anyTo (a b : Nat → Nat) (k : Nat) : Bool := (List.range k).any fun i => decide (b i < a i)
theorem anyTo_succ (a b : Nat → Nat) (k : Nat) : anyTo a b (k + 1) = (anyTo a b k || decide (b k < a k)) := by simp [anyTo, List.range_succ]
theorem bet_iff {a b : Nat → Nat} {n : Nat} : betB a b n = true ↔ (∀ i, i < n → b i ≤ a i) ∧ ∃ i, i < n ∧ b i < a i := by
  simp only [betB, Bool.and_eq_true, List.all_eq_true, List.any_eq_true, List.mem_range, Bool.not_eq_true', decide_eq_false_iff_not, decide_eq_true_eq, Nat.not_lt]
theorem bet_no {a b : Nat → Nat} {n k : Nat} (hk : k < n) (h : a k < b k) : betB a b n = false := by
  rw [← Bool.not_eq_true, bet_iff]
  rintro ⟨h1, _⟩
  have := h1 k hk
  omega
theorem bet_end {a b : Nat → Nat} {n : Nat} (h : ∀ i, i < n → b i ≤ a i) : betB a b n = anyTo a b n := by
  rw [Bool.eq_iff_iff, bet_iff]
  simp only [anyTo, List.any_eq_true, List.mem_range, decide_eq_true_eq]
  exact ⟨fun ⟨_, h2⟩ => h2, fun h2 => ⟨h, h2⟩⟩
attribute [local irreducible] gOK WS WC WR WD Ends FS YS OpV seqK blockK loopK midK retK rdK asgK rangeEnd sat Cell
section
variable {M B : HL} {n0 : Nat} {H : Heap} {v w vv sv : Value} {vs : List (List Nat)} {ss : List Nat} {n m : Nat}
theorem allOwners_fs (hH : hasH M n0 H) (hv : one v = true) : FS C 91 [v] H (fun e H' => e = .func (.func 121) [].toArray [.pointer (some ⟨n0, 0, some 0⟩)].toArray ∧ hasH ((n0, .row 22 0 0 [v]) :: M) (n0 + 1) H') := by
  refine FS.intro (pf := pf91) rfl rfl rfl ?_
  repeat' (first | refine zP ?_ | refine zA ?_ | (refine zM ?_; intro _ _) | refine zX ?_ | (refine zC ?_; intro _ _ _ _) | (refine zS ?_; intro _ _) | (apply Ws <;> intro hg))
  refine WR.box1 (by first | exact gN | exact gS rfl) rfl hH rfl hv fun H1 hH1 => ?_
  repeat' (first | refine zP ?_ | refine zA ?_ | (refine zM ?_; intro _ _) | refine zX ?_ | (refine zC ?_; intro _ _ _ _) | (refine zS ?_; intro _ _) | (apply Ws <;> intro hg))
  exact Ends.ret1 rfl ⟨rfl, hH1⟩
set_option maxHeartbeats 1000000 in
/-- All divisions are handed over, one after another, in one row, as long as more are asked for. -/
theorem allOwners1_fs {lY nv : Nat} {J : Nat → HL → Nat → Prop} {S : HL → Nat → Prop} (hV : OKV vs n m) (hB : ∀ k M' n', J k M' n' → (nv, Ch.row 22 0 0 [v]) ∈ M' ∧ ValsN M' v vs) (hJn : ∀ k M' n' n'', J k M' n' → n' ≤ n'' → J k M' n'')
    (hy : ∀ k M' n' H', J k M' n' → k < n ^ m → hasH ((n0, .row 3 0 0 (nodes (divK n m k))) :: M') n' H' → YS C lY [.slice (some ⟨n0, 0, some 0⟩) m (2 * m + 1)] H' (fun w H2 => ∃ M2 n2, hasH ((n0, .row 3 0 0 (nodes (divK n m k))) :: M2) n2 H2 ∧ ((w = .bool true ∧ J (k + 1) M2 n2) ∨ (w = .bool false ∧ S M2 n2))))
    (hH : hasH M n0 H) (hJ : J 0 M n0) :
    FS C 121 [.func (.yield lY) [].toArray [].toArray, .pointer (some ⟨nv, 0, some 0⟩)] H (fun _ H' => ∃ M' n', hasH M' n' H' ∧ (J (n ^ m) M' n' ∨ S M' n')) := by
  have hm6 := hV.m6
  have hn4 := hV.n4
  have hn1 := hV.pos
  have hvl := hV.len
  have hrl := hV.rowLen hn1
  obtain ⟨hmv, hR⟩ := hB _ _ _ hJ
  obtain ⟨ws, hW, hwl, hws⟩ := hR.ex
  have h0 := hws 0 (by omega)
  refine FS.intro (pf := pf121) rfl rfl rfl ?_
  repeat' (first | refine zP ?_ | refine zA ?_ | (refine zM ?_; intro _ _) | refine zX ?_ | (refine zC ?_; intro _ _ _ _) | (refine zS ?_; intro _ _) | (apply Ws <;> intro hg))
  rw [hrl]
  refine WR.mkSL (by first | exact gN | exact gS rfl) rfl hH rfl rfl (by omega) rfl fun H1 hH1 => ?_
  rw [nodes_rep, ← divK_zero (n := n) m] at hH1
  clear h0 hW hws hmv hR
  repeat' (first | refine zP ?_ | refine zA ?_ | (refine zM ?_; intro _ _) | refine zX ?_ | (refine zC ?_; intro _ _ _ _) | (refine zS ?_; intro _ _) | (apply Ws <;> intro hg))
  refine WC.loopX [(0, _), (1, _), (3, _)] (fun s : KE => []) []
    (fun s H' => s.k < n ^ m ∧ J s.k s.M s.n ∧ hasH ((n0, .row 3 0 0 (nodes (divK n m s.k))) :: s.M) s.n H') (fun s => n ^ m - s.k) ⟨0, M, n0 + 1⟩ (by repeat' (first | exact .nil | refine .cons rfl ?_)) rfl
    ⟨Nat.pow_pos (by omega), hJn _ _ _ _ hJ (by simp only; omega), hH1⟩ ?_
  clear hH1 hH hJ
  rintro ⟨k, M1, n1⟩ H2 ⟨hk, hJ1, hH2⟩
  simp only at hk hJ1 hH2
  dsimp only [List.cons_append, List.nil_append]
  repeat' (first | refine zP ?_ | refine zA ?_ | (refine zM ?_; intro _ _) | refine zX ?_ | (refine zC ?_; intro _ _ _ _) | (refine zS ?_; intro _ _) | (apply Ws <;> intro hg))
  refine WR.yield (by first | exact gN | exact gS rfl) rfl rfl rfl (hy k M1 n1 _ hJ1 hk hH2) ?_
  rintro _ H3 ⟨M3, n3, hH3, ⟨rfl, hJ3⟩ | ⟨rfl, hS3⟩⟩
  · obtain ⟨hmv3, hR3⟩ := hB _ _ _ hJ3
    obtain ⟨ws3, hW3, hwl3, hws3⟩ := hR3.ex
    have hW3c := hW3.cons (p := (n0, .row 3 0 0 (nodes (divK n m k))))
    repeat' (first | refine zP ?_ | refine zA ?_ | (refine zM ?_; intro _ _) | refine zX ?_ | (refine zC ?_; intro _ _ _ _) | (refine zS ?_; intro _ _) | (apply Ws <;> intro hg))
    rw [hwl3, hvl]
    refine WR.call (by first | exact gN | exact gS rfl) rfl rfl (goOn_fs hH3 ⟨hn1, hn4⟩ hm6 hk) ?_
    rintro _ H4 ⟨n4, hn4', ⟨rfl, hmore, hH4⟩ | ⟨rfl, hend, hH4⟩⟩
    · repeat' (first | refine zP ?_ | refine zA ?_ | (refine zM ?_; intro _ _) | refine zX ?_ | (refine zC ?_; intro _ _ _ _) | (refine zS ?_; intro _ _) | (apply Ws <;> intro hg))
      exact Ends.loop ⟨k + 1, M3, n4⟩ (by simp only; omega) (by repeat' (first | exact .nil | refine .cons rfl ?_)) rfl ⟨hmore, hJn _ _ _ _ hJ3 (by simp only; omega), hH4⟩
    · rw [hend] at hJ3
      repeat' (first | refine zP ?_ | refine zA ?_ | (refine zM ?_; intro _ _) | refine zX ?_ | (refine zC ?_; intro _ _ _ _) | (refine zS ?_; intro _ _) | (apply Ws <;> intro hg))
      exact Ends.end0 ⟨M3, n4, hH4, .inl (hJn _ _ _ _ hJ3 (by omega))⟩
  · repeat' (first | refine zP ?_ | refine zA ?_ | (refine zM ?_; intro _ _) | refine zX ?_ | (refine zC ?_; intro _ _ _ _) | (refine zS ?_; intro _ _) | (apply Ws <;> intro hg))
    exact Ends.end0 ⟨M3, n3, hH3.tail, .inr hS3⟩
theorem own_fs (hD : DivM M vv sv vs ss n m) (hH : hasH M n0 H) :
    FS C 97 [.agg [vv, sv].toArray] H (fun e H' => e = .slice (some ⟨n0 + 1, 0, some 0⟩) n (2 * n + 1) ∧ ∃ n', n0 ≤ n' ∧ hasH ((n0 + 1, .row 3 0 0 (nodes (ownL vs ss n))) :: M) n' H') := by
  have hv1 := hD.vals.one_
  have hs1 := hD.shar.one_
  have hone : [vv, sv].all one = true := by simp [hv1, hs1]
  have hsl := hD.len
  have hn4 := hD.ok.n4
  have hm6 := hD.ok.m6
  have hvl := hD.ok.len
  obtain ⟨ws, hW, hwl, hws⟩ := hD.vals.ex
  refine FS.intro (pf := pf97) rfl rfl rfl ?_
  repeat' (first | refine zP ?_ | refine zA ?_ | (refine zM ?_; intro _ _) | refine zX ?_ | (refine zC ?_; intro _ _ _ _) | (refine zS ?_; intro _ _) | (apply Ws <;> intro hg))
  rename_i H1 hH1
  have hS1 := hD.shar.cons (p := (n0, .row 78 0 0 [vv, sv]))
  repeat' (first | refine zP ?_ | refine zA ?_ | (refine zM ?_; intro _ _) | refine zX ?_ | (refine zC ?_; intro _ _ _ _) | (refine zS ?_; intro _ _) | (apply Ws <;> intro hg))
  rw [hsl]
  refine WR.mkSL (by first | exact gN | exact gS rfl) rfl hH1 rfl rfl (by omega) rfl fun H2 hH2 => ?_
  rw [nodes_rep] at hH2
  have hS2 := hS1.cons (p := (n0 + 1, .row 3 0 0 (nodes (List.replicate n 0))))
  clear hH hH1 hS1
  repeat' (first | refine zP ?_ | refine zA ?_ | (refine zM ?_; intro _ _) | refine zX ?_ | (refine zC ?_; intro _ _ _ _) | (refine zS ?_; intro _ _) | (apply Ws <;> intro hg))
  rw [hsl]
  clear hS2
  refine WC.loopX [(1, _), (3, _), (11, _), (12, _)] (fun s : KL2 => [(13, .int .i64 (s.k : Int))]) []
    (fun s H' => s.k ≤ n ∧ s.l.length = n ∧ (∀ i, i < s.k → s.l.getD i 0 = wor (vs.getD i []) (ss.getD i 0)) ∧ hasH ((n0 + 1, .row 3 0 0 (nodes s.l)) :: (n0, .row 78 0 0 [vv, sv]) :: M) (n0 + 2) H') (fun s => n - s.k) ⟨0, List.replicate n 0⟩ (by repeat' (first | exact .nil | refine .cons rfl ?_)) rfl
    ⟨Nat.zero_le _, by simp, fun i h => absurd h (Nat.not_lt_zero _), hH2⟩ ?_
  clear hH2
  rintro ⟨k, l⟩ H3 ⟨hk, hll, hd, hH3⟩
  simp only at hk hll hd hH3
  have hS3 : Sl ((n0 + 1, .row 3 0 0 (nodes l)) :: (n0, .row 78 0 0 [vv, sv]) :: M) 1 sv (u64s ss) := hD.shar.cons.cons
  have hW3 : Sl ((n0 + 1, .row 3 0 0 (nodes l)) :: (n0, .row 78 0 0 [vv, sv]) :: M) 1 vv ws := hW.cons.cons
  dsimp only [List.cons_append, List.nil_append]
  repeat' (first | refine zP ?_ | refine zA ?_ | (refine zM ?_; intro _ _) | refine zX ?_ | (refine zC ?_; intro _ _ _ _) | (refine zS ?_; intro _ _) | (apply Ws <;> intro hg))
  refine WC.condP rfl (fun hlt => ?_) (fun hlt => ?_)
  · have hk' : k < n := by omega
    have hf : Sl ((n0 + 1, .row 3 0 0 (nodes l)) :: (n0, .row 78 0 0 [vv, sv]) :: M) 1 (ws.getD k undef) (nodes (vs.getD k [])) := (hws k (by omega)).cons.cons
    have hrl := hD.ok.rowLen hk'
    have hsb := lt_pow (hD.bd _ (getD_mem (a := 0) (show k < ss.length by omega))) (by omega)
    repeat' (first | refine zP ?_ | refine zA ?_ | (refine zM ?_; intro _ _) | refine zX ?_ | (refine zC ?_; intro _ _ _ _) | (refine zS ?_; intro _ _) | (apply Ws <;> intro hg))
    refine WR.call (by first | exact gN | exact gS rfl) rfl rfl (worth_fs hH3 hf (by omega) (hD.ok.rowBd hk') hsb) ?_
    rintro _ _ ⟨rfl, rfl⟩
    repeat' (first | refine zP ?_ | refine zA ?_ | (refine zM ?_; intro _ _) | refine zX ?_ | (refine zC ?_; intro _ _ _ _) | (refine zS ?_; intro _ _) | (apply Ws <;> intro hg))
    rename_i H4 hH4
    rw [show (k : Int) + 1 = ((k + 1 : Nat) : Int) by omega]
    refine Ends.loop ⟨k + 1, l.set k (wor (vs.getD k []) (ss.getD k 0))⟩ (by simp only; omega) (by repeat' (first | exact .nil | refine .cons rfl ?_)) rfl ⟨hk', by simpa using hll, fun i hi => ?_, hH4⟩
    simp only at hi ⊢
    rw [getD_set' (by omega)]
    split
    · rename_i h; rw [h]
    · exact hd i (by omega)
  · have hkn : k = n := by omega
    subst hkn
    have : l = ownL vs ss k := ext_getD (a := 0) (by rw [hll, ownL_len]) fun i hi => by rw [hd i (by omega), ownL_get (by omega)]
    subst this
    repeat' (first | refine zP ?_ | refine zA ?_ | (refine zM ?_; intro _ _) | refine zX ?_ | (refine zC ?_; intro _ _ _ _) | (refine zS ?_; intro _ _) | (apply Ws <;> intro hg))
    exact Ends.ret1 rfl ⟨rfl, n0 + 2, by omega, hH3.sub (.cons_cons _ (List.sublist_cons_self _ _))⟩
theorem isNaN_fs (a : Int) (H : Heap) : FS C 135 [.int .i64 a] H (fun e H' => e = .bool false ∧ H' = H) := by
  refine FS.intro (pf := pf135) rfl rfl rfl ?_
  repeat' (first | refine zP ?_ | refine zA ?_ | (refine zM ?_; intro _ _) | refine zX ?_ | (refine zC ?_; intro _ _ _ _) | (refine zS ?_; intro _ _) | (apply Ws <;> intro hg))
  exact Ends.ret1 rfl ⟨by rw [decide_eq_false (by omega)], rfl⟩
theorem cmpI_fs (a b : Int) (H : Heap) : FS C 133 [.int .i64 a, .int .i64 b] H (fun e H' => e = .int .i64 (cmpI a b) ∧ H' = H) := by
  refine FS.intro (pf := pf133) rfl rfl rfl ?_
  repeat' (first | refine zP ?_ | refine zA ?_ | (refine zM ?_; intro _ _) | refine zX ?_ | (refine zC ?_; intro _ _ _ _) | (refine zS ?_; intro _ _) | (apply Ws <;> intro hg))
  refine WR.call (by first | exact gN | exact gS rfl) rfl rfl (isNaN_fs a _) ?_
  rintro _ _ ⟨rfl, rfl⟩
  repeat' (first | refine zP ?_ | refine zA ?_ | (refine zM ?_; intro _ _) | refine zX ?_ | (refine zC ?_; intro _ _ _ _) | (refine zS ?_; intro _ _) | (apply Ws <;> intro hg))
  refine WR.call (by first | exact gN | exact gS rfl) rfl rfl (isNaN_fs b _) ?_
  rintro _ _ ⟨rfl, rfl⟩
  unfold cmpI
  by_cases h1 : a < b
  · rw [if_pos h1]
    repeat' (first | refine zP ?_ | refine zA ?_ | (refine zM ?_; intro _ _) | refine zX ?_ | (refine zC ?_; intro _ _ _ _) | (refine zS ?_; intro _ _) | refine zO ?_ | (apply Ws <;> intro hg))
    exact Ends.ret1 rfl ⟨rfl, rfl⟩
  · rw [if_neg h1]
    by_cases h2 : b < a
    · rw [if_pos h2]
      repeat' (first | refine zP ?_ | refine zA ?_ | (refine zM ?_; intro _ _) | refine zX ?_ | (refine zC ?_; intro _ _ _ _) | (refine zS ?_; intro _ _) | refine zO ?_ | (apply Ws <;> intro hg))
      exact Ends.ret1 rfl ⟨rfl, rfl⟩
    · rw [if_neg h2]
      repeat' (first | refine zP ?_ | refine zA ?_ | (refine zM ?_; intro _ _) | refine zX ?_ | (refine zC ?_; intro _ _ _ _) | (refine zS ?_; intro _ _) | refine zO ?_ | (apply Ws <;> intro hg))
      exact Ends.ret1 rfl ⟨rfl, rfl⟩
theorem Or_fs (hH : hasH M n0 H) {x y : Int} (hS : Sl M 1 v (ints [x, y])) : FS C 132 [v] H (fun e H' => e = .int .i64 (if x ≠ 0 then x else y) ∧ H' = H) := by
  refine FS.intro (pf := pf132) rfl rfl rfl ?_
  repeat' (first | refine zP ?_ | refine zA ?_ | (refine zM ?_; intro _ _) | refine zX ?_ | (refine zC ?_; intro _ _ _ _) | (refine zS ?_; intro _ _) | (apply Ws <;> intro hg))
  have h2 : [x, y].length = 2 := rfl
  refine WC.loopX [(3, .int .i64 0), (6, _), (7, _)] (fun k : Nat => [(8, .int .i64 (k : Int))]) [] (fun k H' => H' = H ∧ k ≤ 2 ∧ (1 ≤ k → x = 0) ∧ (2 ≤ k → y = 0)) (fun k => 2 - k) 0 (by repeat' (first | exact .nil | refine .cons rfl ?_)) rfl ⟨rfl, by omega, fun h => by omega, fun h => by omega⟩ ?_
  rintro k _ ⟨rfl, hk, hx, hy⟩
  dsimp only [List.cons_append, List.nil_append]
  repeat' (first | refine zP ?_ | refine zA ?_ | (refine zM ?_; intro _ _) | refine zX ?_ | (refine zC ?_; intro _ _ _ _) | (refine zS ?_; intro _ _) | (apply Ws <;> intro hg))
  refine WC.condP rfl (fun hlt => ?_) (fun hlt => ?_)
  · have hk' : k < 2 := by omega
    repeat' (first | refine zP ?_ | refine zA ?_ | (refine zM ?_; intro _ _) | refine zX ?_ | (refine zC ?_; intro _ _ _ _) | (refine zS ?_; intro _ _) | (apply Ws <;> intro hg))
    have hq : [x, y].getD k 0 = if k = 0 then x else y := by
      rcases (show k = 0 ∨ k = 1 by omega) with rfl | rfl <;> rfl
    rw [hq]
    refine WC.condP rfl (fun hne => ?_) (fun hne => ?_)
    · repeat' (first | refine zP ?_ | refine zA ?_ | (refine zM ?_; intro _ _) | refine zX ?_ | (refine zC ?_; intro _ _ _ _) | (refine zS ?_; intro _ _) | (apply Ws <;> intro hg))
      refine Ends.ret1 rfl ⟨?_, rfl⟩
      by_cases h : k = 0
      · rw [if_pos h] at hne ⊢; rw [if_pos hne]
      · rw [if_neg h, hx (by omega)]; simp
    · repeat' (first | refine zP ?_ | refine zA ?_ | (refine zM ?_; intro _ _) | refine zX ?_ | (refine zC ?_; intro _ _ _ _) | (refine zS ?_; intro _ _) | (apply Ws <;> intro hg))
      refine Ends.loop (k + 1) (by omega) (by repeat' (first | exact .nil | refine .cons rfl ?_)) rfl ⟨rfl, by omega, fun h => ?_, fun h => ?_⟩
      · by_cases h : k = 0
        · rw [if_pos h] at hne; exact Decidable.not_not.1 hne
        · exact hx (by omega)
      · rw [if_neg (by omega)] at hne; exact Decidable.not_not.1 hne
  · have hk2 : k = 2 := by omega
    repeat' (first | refine zP ?_ | refine zA ?_ | (refine zM ?_; intro _ _) | refine zX ?_ | (refine zC ?_; intro _ _ _ _) | (refine zS ?_; intro _ _) | (apply Ws <;> intro hg))
    refine Ends.ret1 rfl ⟨?_, rfl⟩
    rw [hx (by omega), hy (by omega)]; simp
theorem exceeds_fs (hH : hasH M n0 H) (a b c d : Int) : FS C 124 [.agg [.int .i64 a, .int .i64 b].toArray, .agg [.int .i64 c, .int .i64 d].toArray] H (fun e H' => e = .bool (decide (c < a ∨ c = a ∧ d < b)) ∧ ∃ n', n0 ≤ n' ∧ hasH M n' H') := by
  refine FS.intro (pf := pf124) rfl rfl rfl ?_
  repeat' (first | refine zP ?_ | refine zA ?_ | (refine zM ?_; intro _ _) | refine zX ?_ | (refine zC ?_; intro _ _ _ _) | (refine zS ?_; intro _ _) | (apply Ws <;> intro hg))
  rename_i H1 hH1 H2 hH2
  clear hH1
  refine WC.regionD ?_
  repeat' (first | refine zD ?_ | (refine zE ?_; intro _ _ _ _))
  refine WD.call (by first | exact gN | exact gS rfl) rfl rfl (cmpI_fs a c _) ?_
  rintro _ _ ⟨rfl, rfl⟩
  refine ⟨zSt, ?_⟩
  refine WD.call (by first | exact gN | exact gS rfl) rfl rfl (cmpI_fs b d _) ?_
  rintro _ _ ⟨rfl, rfl⟩
  refine ⟨zSt, ?_⟩
  refine WD.bldS (by first | exact gN | exact gS rfl) rfl hH2 (vs := [(0, .int .i64 (cmpI a c)), (1, .int .i64 (cmpI b d))]) rfl (cs := ints [cmpI a c, cmpI b d]) (by rfl) rfl (fun H3 hH3 => zSt) fun H3 hH3 => ?_
  refine WD.toWR rfl ?_
  refine WR.call (by first | exact gN | exact gS rfl) rfl rfl (Or_fs hH3 (x := cmpI a c) (y := cmpI b d) (Sl.mkd rfl)) ?_
  rintro _ _ ⟨rfl, rfl⟩
  repeat' (first | refine zP ?_ | refine zA ?_ | (refine zM ?_; intro _ _) | refine zX ?_ | (refine zC ?_; intro _ _ _ _) | (refine zS ?_; intro _ _) | (apply Ws <;> intro hg))
  refine Ends.ret1 rfl ⟨?_, n0 + 3, by omega, hH3.tail.tail.tail⟩
  congr 1
  rw [decide_eq_decide]
  unfold cmpI
  split <;> (try split) <;> (try split) <;> (try split) <;> omega
set_option maxHeartbeats 1000000 in
theorem gainOf_fs (hH : hasH M n0 H) {l : List Nat} (hS : Sl M 1 v (nodes l)) (hl : l.length ≤ 4) (hb : ∀ i, l.getD i 0 ≤ 120) :
    FS C 123 [v] H (fun e H' => e = .agg [.int .i64 (manyW (fun i => l.getD i 0) l.length : Nat), .int .i64 (prodW (fun i => l.getD i 0) l.length : Nat)].toArray ∧ ∃ n', n0 ≤ n' ∧ hasH M n' H') := by
  refine FS.intro (pf := pf123) rfl rfl rfl ?_
  repeat' (first | refine zP ?_ | refine zA ?_ | (refine zM ?_; intro _ _) | refine zX ?_ | (refine zC ?_; intro _ _ _ _) | (refine zS ?_; intro _ _) | (apply Ws <;> intro hg))
  rename_i H1 hH1
  refine WR.op (by first | exact gN | exact gS rfl) rfl (OpV.bldT (cs := [.int .i64 0, .int .i64 1].toArray) rfl rfl) ?_
  repeat' (first | refine zP ?_ | refine zA ?_ | (refine zM ?_; intro _ _) | refine zX ?_ | (refine zC ?_; intro _ _ _ _) | (refine zS ?_; intro _ _) | (apply Ws <;> intro hg))
  rename_i H2 hH2
  refine WR.store2 (by first | exact gN | exact gS rfl) hH2 rfl rfl rfl rfl .here fun H3 hH3 => ?_
  have hS3 := (hS.cons (p := (n0, .row 130 0 0 [.int .i64 0, .int .i64 0]))).cons (p := (n0 + 1, .row 130 0 0 [.int .i64 0, .int .i64 1]))
  clear hH1 hH2
  repeat' (first | refine zP ?_ | refine zA ?_ | (refine zM ?_; intro _ _) | refine zX ?_ | (refine zC ?_; intro _ _ _ _) | (refine zS ?_; intro _ _) | (apply Ws <;> intro hg))
  clear hS3
  refine WC.loopX [(2, _), (3, _), (7, _), (8, _)] (fun s : Nat => [(9, .int .i64 (s : Int))]) []
    (fun s H' => s ≤ l.length ∧ hasH ((n0 + 1, .row 130 0 0 [.int .i64 (manyW (fun i => l.getD i 0) s : Nat), .int .i64 (prodW (fun i => l.getD i 0) s : Nat)]) :: (n0, .row 130 0 0 [.int .i64 0, .int .i64 0]) :: M) (n0 + 2) H') (fun s => l.length - s) 0 (by repeat' (first | exact .nil | refine .cons rfl ?_)) rfl ⟨Nat.zero_le _, hH3⟩ ?_
  clear hH3
  rintro k H4 ⟨hk, hH4⟩
  have hS4 : Sl ((n0 + 1, .row 130 0 0 [.int .i64 (manyW (fun i => l.getD i 0) k : Nat), .int .i64 (prodW (fun i => l.getD i 0) k : Nat)]) :: (n0, .row 130 0 0 [.int .i64 0, .int .i64 0]) :: M) 1 v (nodes l) := hS.cons.cons
  have hml := manyW_le (fun i => l.getD i 0) k
  have hpl := prodW_le (w := fun i => l.getD i 0) hb k
  have hp4 : 120 ^ k ≤ 120 ^ 4 := Nat.pow_le_pow_right (by omega) (by omega)
  have hp4' : (120 : Nat) ^ 4 = 207360000 := by decide
  have hms : manyW (fun i => l.getD i 0) (k + 1) = manyW (fun i => l.getD i 0) k + (if 0 < l.getD k 0 then 1 else 0) := rfl
  have hps : prodW (fun i => l.getD i 0) (k + 1) = prodW (fun i => l.getD i 0) k * (if 0 < l.getD k 0 then l.getD k 0 else 1) := rfl
  have hx := hb k
  obtain ⟨a, hae⟩ : ∃ a, a = manyW (fun i => l.getD i 0) k := ⟨_, rfl⟩
  obtain ⟨p, hpe⟩ : ∃ p, p = prodW (fun i => l.getD i 0) k := ⟨_, rfl⟩
  rw [← hae] at hH4 hS4 hml hms
  rw [← hpe] at hH4 hS4 hpl hps
  dsimp only [List.cons_append, List.nil_append]
  repeat' (first | refine zP ?_ | refine zA ?_ | (refine zM ?_; intro _ _) | refine zX ?_ | (refine zC ?_; intro _ _ _ _) | (refine zS ?_; intro _ _) | (apply Ws <;> intro hg))
  refine WC.condP rfl (fun hlt => ?_) (fun hlt => ?_)
  · have hk' : k < l.length := by omega
    repeat' (first | refine zP ?_ | refine zA ?_ | (refine zM ?_; intro _ _) | refine zX ?_ | (refine zC ?_; intro _ _ _ _) | (refine zS ?_; intro _ _) | (apply Ws <;> intro hg))
    refine WC.condP rfl (fun hpos => ?_) (fun hpos => ?_)
    · rw [if_pos (by omega)] at hms hps
      have hmul : p * l.getD k 0 ≤ 207360000 * 120 := Nat.mul_le_mul (by omega) hx
      repeat' (first | refine zP ?_ | refine zA ?_ | (refine zM ?_; intro _ _) | refine zX ?_ | (refine zC ?_; intro _ _ _ _) | (refine zS ?_; intro _ _) | (apply Ws <;> intro hg))
      refine WR.store1 (cs' := [.int .i64 ((a : Int) + 1), .int .i64 (p : Nat)]) (by first | exact gN | exact gS rfl) hH4 rfl rfl rfl .here (Nat.zero_le _) (by simp) rfl fun H5 hH5 => ?_
      repeat' (first | refine zP ?_ | refine zA ?_ | (refine zM ?_; intro _ _) | refine zX ?_ | (refine zC ?_; intro _ _ _ _) | (refine zS ?_; intro _ _) | (apply Ws <;> intro hg))
      try rw [show (p : Int) * ((l.getD k 0 : Nat) : Int) = ((p * l.getD k 0 : Nat) : Int) by rw [Int.natCast_mul]]
      try refine WR.op (by first | exact gN | exact gS rfl) rfl (OpV.mul' (c := ((p * l.getD k 0 : Nat) : Int)) rfl rfl (by rw [Int.natCast_mul]) (by omega)) ?_
      repeat' (first | refine zP ?_ | refine zA ?_ | (refine zM ?_; intro _ _) | refine zX ?_ | (refine zC ?_; intro _ _ _ _) | (refine zS ?_; intro _ _) | (apply Ws <;> intro hg))
      refine WR.store1 (cs' := [.int .i64 ((a : Int) + 1), .int .i64 (p * l.getD k 0 : Nat)]) (by first | exact gN | exact gS rfl) hH5 rfl rfl rfl .here (Nat.zero_le _) (by simp) rfl fun H6 hH6 => ?_
      repeat' (first | refine zP ?_ | refine zA ?_ | (refine zM ?_; intro _ _) | refine zX ?_ | (refine zC ?_; intro _ _ _ _) | (refine zS ?_; intro _ _) | (apply Ws <;> intro hg))
      rw [show (k : Int) + 1 = ((k + 1 : Nat) : Int) by omega]
      refine Ends.loop (k + 1) (by omega) (by repeat' (first | exact .nil | refine .cons rfl ?_)) rfl ⟨hk', ?_⟩
      rw [hms, hps, show ((a + 1 : Nat) : Int) = (a : Int) + 1 by omega]
      exact hH6
    · rw [if_neg (by omega)] at hms hps
      repeat' (first | refine zP ?_ | refine zA ?_ | (refine zM ?_; intro _ _) | refine zX ?_ | (refine zC ?_; intro _ _ _ _) | (refine zS ?_; intro _ _) | (apply Ws <;> intro hg))
      rw [show (k : Int) + 1 = ((k + 1 : Nat) : Int) by omega]
      refine Ends.loop (k + 1) (by omega) (by repeat' (first | exact .nil | refine .cons rfl ?_)) rfl ⟨hk', ?_⟩
      rw [hms, hps, Nat.add_zero, Nat.mul_one]
      exact hH4
  · have hkl : k = l.length := by omega
    subst hkl
    repeat' (first | refine zP ?_ | refine zA ?_ | (refine zM ?_; intro _ _) | refine zX ?_ | (refine zC ?_; intro _ _ _ _) | (refine zS ?_; intro _ _) | (apply Ws <;> intro hg))
    refine WR.store2 (by first | exact gN | exact gS rfl) hH4 rfl rfl rfl rfl (.there .here) fun H5 hH5 => ?_
    repeat' (first | refine zP ?_ | refine zA ?_ | (refine zM ?_; intro _ _) | refine zX ?_ | (refine zC ?_; intro _ _ _ _) | (refine zS ?_; intro _ _) | (apply Ws <;> intro hg))
    exact Ends.retCN rfl (read2 hH5 (.tail _ (.head _))) ⟨by rw [hae, hpe], n0 + 2, by omega, hH5.tail.tail⟩
theorem isBetter_fs (hH : hasH M n0 H) {a b : List Nat} (hS : Sl M 1 v (nodes a)) (hU : Sl M 1 w (nodes b)) (ha : a.length = n) (hb : b.length = n) (hn : n ≤ 100) :
    FS C 98 [v, w] H (fun e H' => e = .bool (betB (fun i => a.getD i 0) (fun i => b.getD i 0) n) ∧ H' = H) := by
  refine FS.intro (pf := pf98) rfl rfl rfl ?_
  repeat' (first | refine zP ?_ | refine zA ?_ | (refine zM ?_; intro _ _) | refine zX ?_ | (refine zC ?_; intro _ _ _ _) | (refine zS ?_; intro _ _) | (apply Ws <;> intro hg))
  rw [ha]
  refine WC.loopX [(0, _), (1, _), (8, _), (9, _)] (fun k : Nat => [(5, .bool (anyTo (fun i => a.getD i 0) (fun i => b.getD i 0) k)), (10, .int .i64 (k : Int))]) [] (fun k H' => H' = H ∧ k ≤ n ∧ ∀ j, j < k → b.getD j 0 ≤ a.getD j 0) (fun k => n - k) 0 (by repeat' (first | exact .nil | refine .cons rfl ?_)) rfl ⟨rfl, Nat.zero_le _, fun j h => absurd h (Nat.not_lt_zero _)⟩ ?_
  rintro k _ ⟨rfl, hk, hno⟩
  have hs := anyTo_succ (fun i => a.getD i 0) (fun i => b.getD i 0) k
  dsimp only [List.cons_append, List.nil_append]
  repeat' (first | refine zP ?_ | refine zA ?_ | (refine zM ?_; intro _ _) | refine zX ?_ | (refine zC ?_; intro _ _ _ _) | (refine zS ?_; intro _ _) | (apply Ws <;> intro hg))
  refine WC.condP rfl (fun hlt => ?_) (fun hlt => ?_)
  · have hk' : k < n := by omega
    by_cases h1 : a.getD k 0 < b.getD k 0
    · repeat' (first | refine zP ?_ | refine zA ?_ | (refine zM ?_; intro _ _) | refine zX ?_ | (refine zC ?_; intro _ _ _ _) | (refine zS ?_; intro _ _) | refine zO ?_ | (apply Ws <;> intro hg))
      exact Ends.ret1 rfl ⟨by rw [bet_no (a := fun i => a.getD i 0) (b := fun i => b.getD i 0) hk' h1], rfl⟩
    · have hle : ∀ j, j < k + 1 → b.getD j 0 ≤ a.getD j 0 := fun j hj => by
        by_cases e : j = k
        · rw [e]; omega
        · exact hno j (by omega)
      cases hx : anyTo (fun i => a.getD i 0) (fun i => b.getD i 0) k with
      | true =>
        rw [hx, Bool.true_or] at hs
        repeat' (first | refine zP ?_ | refine zA ?_ | (refine zM ?_; intro _ _) | refine zX ?_ | (refine zC ?_; intro _ _ _ _) | (refine zS ?_; intro _ _) | refine zO ?_ | (apply Ws <;> intro hg))
        rw [show (k : Int) + 1 = ((k + 1 : Nat) : Int) by omega]
        exact Ends.loop (k + 1) (by omega) (by simp only [hs]; exact (by repeat' (first | exact .nil | refine .cons rfl ?_))) rfl ⟨rfl, hk', hle⟩
      | false =>
        rw [hx, Bool.false_or] at hs
        by_cases h2 : b.getD k 0 < a.getD k 0
        · rw [decide_eq_true h2] at hs
          repeat' (first | refine zP ?_ | refine zA ?_ | (refine zM ?_; intro _ _) | refine zX ?_ | (refine zC ?_; intro _ _ _ _) | (refine zS ?_; intro _ _) | refine zO ?_ | (apply Ws <;> intro hg))
          rw [show (k : Int) + 1 = ((k + 1 : Nat) : Int) by omega, decide_eq_true (show ((b.getD k 0 : Nat) : Int) < ((a.getD k 0 : Nat) : Int) by omega)]
          exact Ends.loop (k + 1) (by omega) (by simp only [hs]; exact (by repeat' (first | exact .nil | refine .cons rfl ?_))) rfl ⟨rfl, hk', hle⟩
        · rw [decide_eq_false h2] at hs
          repeat' (first | refine zP ?_ | refine zA ?_ | (refine zM ?_; intro _ _) | refine zX ?_ | (refine zC ?_; intro _ _ _ _) | (refine zS ?_; intro _ _) | refine zO ?_ | (apply Ws <;> intro hg))
          rw [show (k : Int) + 1 = ((k + 1 : Nat) : Int) by omega, decide_eq_false (show ¬ ((b.getD k 0 : Nat) : Int) < ((a.getD k 0 : Nat) : Int) by omega)]
          exact Ends.loop (k + 1) (by omega) (by simp only [hs]; exact (by repeat' (first | exact .nil | refine .cons rfl ?_))) rfl ⟨rfl, hk', hle⟩
  · have hkn : k = n := by omega
    rw [hkn] at hno ⊢
    repeat' (first | refine zP ?_ | refine zA ?_ | (refine zM ?_; intro _ _) | refine zX ?_ | (refine zC ?_; intro _ _ _ _) | (refine zS ?_; intro _ _) | (apply Ws <;> intro hg))
    exact Ends.ret1 rfl ⟨by rw [bet_end hno], rfl⟩
end
end Go.Proofs.Ytaipmdhnhffckaa.Sh

namespace Go.Abs
set_option linter.unusedSectionVars false
variable [Globs]
open Go
section
variable {C : CW} {nt : Nat} {L : Env} {D : List Nat} {H : Heap} {K : St → Prop} {M M' : HL} {n i d : Nat} {gd : Option (Tmp × Bool)} {lo : List Nat} {l : List POp}
/-- Nothing of a slice without elements appended to another one. -/
theorem WR.appEmp {e b u o : Nat} {s x : Operand} {y : Value} {cs : List Value} (hg : gOK L gd) (hd : Nat.blt d nt = true) (hs : ev L s = some (.slice (some ⟨b, o, some u⟩) 0 1)) (hy : ev L x = some y) (hH : hasH M n H) (hm : (b, .row e u o cs) ∈ M) (hk : srcLen y = some 0) (hx : srcCells H 1 0 y = some [])
    (kk : ∀ H', hasH M n H' → WR C nt l ((d, .slice (some ⟨b, o, some u⟩) 0 1) :: L) D H' K) : WR C nt (⟨i, some d, .append e 1 s x, gd, lo⟩ :: l) L D H K := by
  obtain ⟨H', h5, h6⟩ := hH.writeN (o := o) (l := []) (Upd.self hm) rfl (Nat.le_refl _) (by simp) (by simp [splice])
  refine WR.op hg hd (H' := H') (v := .slice (some ⟨b, o, some u⟩) 0 1) (fun t ht => ?_) (kk H' h6)
  have hcap : capOf (some ⟨b, o, some u⟩) 1 = .known 0 := rfl
  have hb : Nat.ble (0 + 0) 0 = true := rfl
  have hp : Addr.plus ⟨b, o, some u⟩ (0 * 1) = ⟨b, o, some u⟩ := rfl
  simp only [opA, ev_ok ht hs, ev_ok ht hy, appendA, hk, hx, appWith, hcap, hb, cond_true, appIn, hp, h5, Nat.add_zero]
theorem retC2D {a b : Nat} {p r : Addr} {v w : Value} {R : Value → Heap → Prop} {M0 : HL} {e : Ex} (he : (match e with | .normal => True | .ret => True | _ => False)) (hx : ev L (.tmp a) = some (.pointer (some p))) (hy : ev L (.tmp b) = some (.pointer (some r))) (hH : hasH M n H) (hM : M'.Sublist M)
    (hp : M'.Perm (D.map (fun b => (b, Ch.defd false)) ++ M0)) (k2 : ∀ H', hasH M0 n H' → H'.read p = some v ∧ H'.read r = some w ∧ R (.tuple #[v, w]) H') : Abs.Ends (retK [.cell a none, .cell b none] R) e L D H :=
  Abs.Ends.retD he hH hM hp fun H' h' t ht => by
    obtain ⟨h1, h2, h3⟩ := k2 H' h'
    exact ⟨_, H', by simp only [leaveC, resultOf, ev_ok ht hx, ev_ok ht hy, h1, h2, retVal], h3⟩
end
end Go.Abs
namespace Go.Proofs.Ytaipmdhnhffckaa.Sh
open Go Go.Abs Go.Mth
set_option linter.unusedVariables false
set_option linter.unusedSimpArgs false
/-- A division's number is of a fair one. -/
def fairK (vs : List (List Nat)) (n m k : Nat) : Bool := (pairsL (envP vs (shs n (IL (divK n m k)))) n).isEmpty
def cntK (p : Nat → Bool) (N : Nat) : Nat := sumN (fun k => if p k = true then 1 else 0) N
theorem pow_4096 {n m : Nat} (hn : n ≤ 4) (hm : m ≤ 6) (h1 : 1 ≤ n) : n ^ m ≤ 4096 := by
  have h1 : n ^ m ≤ 4 ^ m := Nat.pow_le_pow_left hn m
  have h2 : 4 ^ m ≤ 4 ^ 6 := Nat.pow_le_pow_right (by omega) hm
  have : (4 : Nat) ^ 6 = 4096 := by decide
  omega
attribute [local irreducible] gOK WS WC WR WD Ends FS YS OpV seqK blockK loopK midK retK rdK asgK rangeEnd sat Cell
section
variable {M B : HL} {n0 : Nat} {H : Heap} {v w vv sv : Value} {vs : List (List Nat)} {ss : List Nat} {n m : Nat}
theorem cloneR_fs {rb : Nat} {l : List Nat} (hH : hasH M n0 H) (hm : (rb, Ch.row 3 0 0 (nodes l)) ∈ M) (hl : l.length = m) (hm6 : m ≤ 1000) :
    FS C 62 [.slice (some ⟨rb, 0, some 0⟩) m (2 * m + 1)] H (fun e H' => ∃ b cp' n', e = .slice (some ⟨b, 0, some 0⟩) m cp' ∧ Sl [(b, .row 3 0 0 (nodes l))] 1 e (nodes l) ∧ n0 ≤ n' ∧ hasH ((b, .row 3 0 0 (nodes l)) :: M) n' H') := by
  refine FS.intro (pf := pf62) rfl rfl rfl ?_
  repeat' (first | refine zP ?_ | refine zA ?_ | (refine zM ?_; intro _ _) | refine zX ?_ | (refine zC ?_; intro _ _ _ _) | (refine zS ?_; intro _ _) | (apply Ws <;> intro hg))
  refine WR.bldS (by first | exact gN | exact gS rfl) rfl hH (vs := []) rfl (cs := []) (by rfl) rfl fun H3 hH3 => ?_
  repeat' (first | refine zP ?_ | refine zA ?_ | (refine zM ?_; intro _ _) | refine zX ?_ | (refine zC ?_; intro _ _ _ _) | (refine zS ?_; intro _ _) | (apply Ws <;> intro hg))
  by_cases h0 : m = 0
  · subst h0
    have hln : l = [] := List.length_eq_zero_iff.1 hl
    subst hln
    refine WR.appEmp (by first | exact gN | exact gS rfl) rfl rfl rfl hH3 (.head _) rfl (by
      have := hH3.readN (b := rb) (u := 0) (lo := 0) (o := 0) (k := 0) (.tail _ hm) (.row _ _ _ _) (Nat.le_refl _) (by simp)
      simpa [srcCells] using this) fun H4 hH4 => ?_
    repeat' (first | refine zP ?_ | refine zA ?_ | (refine zM ?_; intro _ _) | refine zX ?_ | (refine zC ?_; intro _ _ _ _) | (refine zS ?_; intro _ _) | (apply Ws <;> intro hg))
    exact Ends.ret1 rfl ⟨n0, 1, n0 + 1, rfl, Sl.mkd (k := 0) rfl, by omega, hH4⟩
  · have hS : Sl ((n0, .row 3 0 0 []) :: M) 1 (.slice (some ⟨rb, 0, some 0⟩) m (2 * m + 1)) (nodes l) :=
      (Sl.row (lo := 0) hm (.row _ _ _ _) (Nat.le_refl _) (by simp [hl]) (by rw [Nat.sub_self, List.drop_zero, List.take_length]) (by simp) (.inr ⟨_, rfl, Nat.le_refl _⟩)).cons
    have hne : nodes l ≠ [] := fun h => by have := List.map_eq_nil_iff.1 h; subst this; simp at hl; omega
    obtain ⟨hk, hsr⟩ := hS.src hH3 hne
    refine WR.appendNew (by first | exact gN | exact gS rfl) rfl rfl rfl hH3 (.head _) (.row _ _ _ _) (Nat.zero_le _) (Nat.zero_le _) hk (by have := hsr _ (Nat.le_refl _); rw [List.take_length] at this; exact this) (by simp) (by simp [hl]; omega) (nodes_one' _) (by omega) (by omega) (by simp; omega) fun H' hH' => ?_
    repeat' (first | refine zP ?_ | refine zA ?_ | (refine zM ?_; intro _ _) | refine zX ?_ | (refine zC ?_; intro _ _ _ _) | (refine zS ?_; intro _ _) | (apply Ws <;> intro hg))
    refine Ends.ret1 rfl ⟨n0 + 1, 2 * 1, n0 + 2, by rw [List.length_map, hl], ?_, by omega, hH'.sub (.cons_cons _ (List.sublist_cons_self _ _))⟩
    rw [List.length_map, hl]
    exact sl_row (by simp [hl])
end
end Go.Proofs.Ytaipmdhnhffckaa.Sh

namespace Go.Abs
set_option linter.unusedSectionVars false
variable [Globs]
open Go
section
variable {C : CW} {nt : Nat} {L : Env} {D : List Nat} {H H' : Heap} {K : St → Prop} {M M' : HL} {n i : Nat} {gd : Option (Tmp × Bool)} {lo : List Nat} {l : List POp} {rs : List Rd}
theorem WD.op0 {op : AOp} {v : Value} (hg : gOK L gd) (hv : OpV C op L H v H') (hn : reads op = false) (hs : stands H' lo rs = true) (k : WD C nt l rs L D H' K) : WD C nt (⟨i, none, op, gd, lo⟩ :: l) rs L D H K := by
  intro t ht
  obtain ⟨m, s', h1, h2⟩ := k _ ht
  refine ⟨m, s', ?_, h2⟩
  have e1 : doOp C.c (runW C m) nt ⟨i, none, op, gd, lo⟩ ⟨t, D, H⟩ = some ⟨t, D, H'⟩ := by simp only [doOp, hg.wanted ht, cond_true, hv t ht, ans, afterOp, putT, stOf]
  have e2 : noteRd ⟨i, none, op, gd, lo⟩ ⟨t, D, H⟩ ⟨t, D, H'⟩ rs = rs := by
    unfold noteRd
    rw [hg.wanted ht, cond_true]
    cases op <;> first | rfl | cases hn
  simp only [stepOpsD, e1, hs, cond_true, e2]; exact h1
/-- One cell is stored to while a read is still looked at. -/
theorem WD.storeBox {x y : Operand} {v w : Value} {b e u : Nat} (hg : gOK L gd) (hH : hasH M n H) (hx : ev L x = some (.pointer (some ⟨b, 0, some u⟩))) (hy : ev L y = some v) (h1 : one v = true) (hu : Upd M b (.row e u 0 [w]) (.row e u 0 [v]) M')
    (k : ∀ H', hasH M' n H' → stands H' lo rs = true ∧ WD C nt l rs L D H' K) : WD C nt (⟨i, none, .store x y 1, gd, lo⟩ :: l) rs L D H K := by
  obtain ⟨H', g1, g2⟩ := hH.writeN (l := [v]) hu (by simp [h1]) (Nat.le_refl _) (by simp) (by simp [splice])
  obtain ⟨k1, k2⟩ := k H' g2
  have hc : v.cells.toList = [v] := by cases v <;> first | rfl | cases h1
  refine WD.op0 hg (v := undef) (H' := H') (fun t ht => ?_) rfl k1 k2
  have hb : Nat.beq [v].length 1 = true := rfl
  simp only [opA, ev_ok ht hx, ev_ok ht hy, hc, oStore, hb, cond_true, g1, asSkip]
end
end Go.Abs
namespace Go.Proofs.Ytaipmdhnhffckaa.Sh
open Go Go.Abs Go.Mth
set_option linter.unusedVariables false
set_option linter.unusedSimpArgs false
def gainK (vs : List (List Nat)) (n m k : Nat) : Nat × Nat := gainW (fun i => (ownL vs (shs n (IL (divK n m k))) n).getD i 0) n
/-- The first one with the greatest gain. -/
def bestK (g : Nat → Nat × Nat) : Nat → Nat
  | 0 => 0
  | k + 1 => if k = 0 then 0 else if gtG (g k) (g (bestK g k)) = true then k else bestK g k
theorem bestK_lt (g : Nat → Nat × Nat) : ∀ k, 1 ≤ k → bestK g k < k
  | 0, h => absurd h (by omega)
  | k + 1, _ => by
    unfold bestK
    split
    · omega
    · split
      · omega
      · have := bestK_lt g k (by omega); omega
theorem gtG_trans {a b c : Nat × Nat} (h1 : gtG a b = true) (h2 : gtG c b = false) : gtG c a = false := by
  rw [gt_iff] at h1
  rw [← Bool.not_eq_true, gt_iff] at h2 ⊢
  omega
theorem gtG_irr (a : Nat × Nat) : gtG a a = false := by rw [← Bool.not_eq_true, gt_iff]; omega
theorem bestK_max (g : Nat → Nat × Nat) : ∀ k, ∀ i, i < k → gtG (g i) (g (bestK g k)) = false
  | 0, i, h => absurd h (Nat.not_lt_zero _)
  | k + 1, i, h => by
    have ih := bestK_max g k
    unfold bestK
    split
    · have : i = 0 := by omega
      rw [this]; exact gtG_irr _
    · split
      · rename_i hg
        by_cases e : i = k
        · rw [e]; exact gtG_irr _
        · exact gtG_trans hg (ih i (by omega))
      · rename_i hg
        by_cases e : i = k
        · rw [e]; exact Bool.not_eq_true _ ▸ hg
        · exact ih i (by omega)
theorem ownL_le {vs : List (List Nat)} {n m : Nat} (hV : OKV vs n m) (ss : List Nat) (i : Nat) : (ownL vs ss n).getD i 0 ≤ 120 := by
  by_cases h : i < n
  · rw [ownL_get h]; exact hV.wor h
  · rw [List.getD_eq_getElem?_getD, List.getElem?_eq_none (by rw [ownL_len]; omega)]; exact Nat.zero_le _
attribute [local irreducible] gOK WS WC WR WD Ends FS YS OpV seqK blockK loopK midK retK rdK asgK rangeEnd sat Cell
section
variable {M B : HL} {n0 : Nat} {H : Heap} {v w vv sv : Value} {vs : List (List Nat)} {ss : List Nat} {n m : Nat}
set_option maxHeartbeats 4000000 in
theorem most_fs (hH : hasH M n0 H) (hV : OKV vs n m) (hVal : ValsN M v vs) :
    FS C 94 [v] H (fun e H' => ∃ Mx n', n0 ≤ n' ∧ Sl Mx 1 e (nodes (divK n m (bestK (gainK vs n m) (n ^ m)))) ∧ hasH (Mx ++ M) n' H') := by
  have hv1 := hVal.one_
  have hvl := hV.len
  have hm6 := hV.m6
  have hn4 := hV.n4
  have hn1 := hV.pos
  refine FS.intro (pf := pf94) rfl rfl rfl ?_
  repeat' (first | refine zP ?_ | refine zA ?_ | (refine zM ?_; intro _ _) | refine zX ?_ | (refine zC ?_; intro _ _ _ _) | (refine zS ?_; intro _ _) | (apply Ws <;> intro hg))
  refine WR.box1 (by first | exact gN | exact gS rfl) rfl hH rfl hv1 fun H1 hH1 => ?_
  repeat' (first | refine zP ?_ | refine zA ?_ | (refine zM ?_; intro _ _) | refine zX ?_ | (refine zC ?_; intro _ _ _ _) | (refine zS ?_; intro _ _) | (apply Ws <;> intro hg))
  rename_i H2 hH2
  refine WR.op (by first | exact gN | exact gS rfl) rfl (OpV.bldT (cs := [.int .i64 (-1), .int .i64 0].toArray) rfl rfl) ?_
  repeat' (first | refine zP ?_ | refine zA ?_ | (refine zM ?_; intro _ _) | refine zX ?_ | (refine zC ?_; intro _ _ _ _) | (refine zS ?_; intro _ _) | (apply Ws <;> intro hg))
  rename_i H3 hH3
  refine WR.store2 (by first | exact gN | exact gS rfl) hH3 rfl rfl rfl rfl .here fun H4 hH4 => ?_
  clear hH1 hH2 hH3
  repeat' (first | refine zP ?_ | refine zA ?_ | (refine zM ?_; intro _ _) | refine zX ?_ | (refine zC ?_; intro _ _ _ _) | (refine zS ?_; intro _ _) | (apply Ws <;> intro hg))
  refine WR.call (by first | exact gN | exact gS rfl) rfl rfl (allOwners_fs hH4 hv1) ?_
  rintro _ H5 ⟨rfl, hH5⟩
  clear hH4
  repeat' (first | refine zP ?_ | refine zA ?_ | (refine zM ?_; intro _ _) | refine zX ?_ | (refine zC ?_; intro _ _ _ _) | (refine zS ?_; intro _ _) | (apply Ws <;> intro hg))
  refine WC.range0 (va := []) (vb := [.pointer (some ⟨n0 + 1 + 1 + 1, 0, some 0⟩)]) rfl hH5 fun t ht H6 hH6 => ?_
  clear hH5
  generalize hR2 : ({ state := .ready, pending := none, fn := 94, tmps := t, params := [10], assign := _, body := _, nt := _ } : LoopE) = R at hH6
  refine FS.mono (allOwners1_fs (lY := n0 + 1 + 1 + 1 + 1 + 1) (nv := n0 + 1 + 1 + 1) (v := v) (vs := vs) (n := n) (m := m) (n0 := n0 + 1 + 1 + 1 + 1 + 2)
    (M := (n0 + 1 + 1 + 1 + 1 + 1, .loop R) :: (n0 + 1 + 1 + 1 + 1, .defd false) :: (n0 + 1 + 1 + 1, .row 22 0 0 [v]) :: (n0 + 1 + 1, .row 130 0 0 [.int .i64 (-1), .int .i64 0]) :: (n0 + 1, .row 23 0 0 [.slice none 0 0]) :: (n0, .row 22 0 0 [v]) :: M)
    (J := fun k M' n' => ∃ (bs : Value) (g1 g2 : Int) (Cx : HL), n0 ≤ n' ∧ one bs = true ∧ ((k = 0 ∧ g1 = -1 ∧ g2 = 0 ∧ bs = .slice none 0 0 ∧ Cx = []) ∨ (1 ≤ k ∧ g1 = ((gainK vs n m (bestK (gainK vs n m) k)).1 : Nat) ∧ g2 = ((gainK vs n m (bestK (gainK vs n m) k)).2 : Nat) ∧ Sl Cx 1 bs (nodes (divK n m (bestK (gainK vs n m) k))))) ∧
      M' = (n0 + 1 + 1 + 1 + 1 + 1, .loop R) :: (n0 + 1 + 1 + 1 + 1, .defd false) :: (n0 + 1 + 1 + 1, .row 22 0 0 [v]) :: (n0 + 1 + 1, .row 130 0 0 [.int .i64 g1, .int .i64 g2]) :: (n0 + 1, .row 23 0 0 [bs]) :: (n0, .row 22 0 0 [v]) :: (Cx ++ M))
    (S := fun M' n' => False)
    hV ?_ (fun k M' n' n'' ⟨bs, g1, g2, Cx, h1, h2⟩ h3 => ⟨bs, g1, g2, Cx, by omega, h2⟩) ?_ hH6 ⟨_, _, _, [], by omega, rfl, .inl ⟨rfl, rfl, rfl, rfl, rfl⟩, rfl⟩) ?_
  · rintro k M' n' ⟨bs, g1, g2, Cx, _, _, _, rfl⟩
    exact ⟨by simp, hVal.mono fun q hq => by simp [hq]⟩
  · rintro k _ n' H6 ⟨bs, g1, g2, Cx, hn', hb1, hst, rfl⟩ hk hH6
    refine YS.intro hH6 (.tail _ (.head _)) (by rw [← hR2]) (by rw [← hR2]) (by rw [← hR2]; rfl) (by rw [← hR2]; exact ht) ?_
    subst hR2
    dsimp only
    repeat' (first | refine zA ?_ | (refine zM ?_; intro _ _) | (apply Ws <;> intro hg))
    refine Ends.asg hH6 (.there .here) fun H7 hH7 => ?_
    dsimp only
    clear hH6
    have hok := divK_ok (m := m) (k := k) hn1
    have hbs : bestK (gainK vs n m) (k + 1) = if k = 0 then 0 else if gtG (gainK vs n m k) (gainK vs n m (bestK (gainK vs n m) k)) = true then k else bestK (gainK vs n m) k := rfl
    repeat' (first | refine zP ?_ | refine zA ?_ | (refine zM ?_; intro _ _) | refine zX ?_ | (refine zC ?_; intro _ _ _ _) | (refine zS ?_; intro _ _) | (apply Ws <;> intro hg))
    have hrow : ∀ {X : HL}, Sl ((n0 + 1 + 1 + 1 + 1 + 2, .row 3 0 0 (nodes (divK n m k))) :: X) 1 (.slice (some ⟨n0 + 1 + 1 + 1 + 1 + 2, 0, some 0⟩) m (2 * m + 1)) (ints (IL (divK n m k))) := Sl.asInts (Sl.mkd (by simp [divK_len]))
    obtain ⟨ws, hW, hwl, hws⟩ := hVal.ex
    refine WR.call (by first | exact gN | exact gS rfl) rfl rfl (divide_fs hH7 (hW.mono fun q hq => by simp [hq]) (by omega) hrow (by simp [divK_len]; omega) (by rw [hwl, hvl]; exact hok.bd)) ?_
    rintro _ H8 ⟨b, n8, hn8, rfl, hH8⟩
    rw [hwl, hvl] at hH8
    rw [hwl, hvl]
    refine WR.call (by first | exact gN | exact gS rfl) rfl rfl (own_fs (vs := vs) (ss := shs n (IL (divK n m k))) (n := n) (m := m) ⟨hV, hVal.mono fun q hq => by simp [hq], Sl.mkd (by simp [shs]), shs_len _ _, shs_bd hok.len⟩ hH8) ?_
    rintro _ H9 ⟨rfl, n9, hn9, hH9⟩
    clear hH7 hH8
    refine WR.call (by first | exact gN | exact gS rfl) rfl rfl (gainOf_fs hH9 (Sl.mkd (by simp [ownL_len])) (by rw [ownL_len]; omega) (ownL_le hV _)) ?_
    rintro _ HA ⟨rfl, nA, hnA, hHA⟩
    clear hH9
    rw [ownL_len, show manyW (fun i => (ownL vs (shs n (IL (divK n m k))) n).getD i 0) n = (gainK vs n m k).1 from rfl, show prodW (fun i => (ownL vs (shs n (IL (divK n m k))) n).getD i 0) n = (gainK vs n m k).2 from rfl]
    replace hHA := hHA.tail.tail
    repeat' (first | refine zP ?_ | refine zA ?_ | (refine zM ?_; intro _ _) | refine zX ?_ | (refine zC ?_; intro _ _ _ _) | (refine zS ?_; intro _ _) | (apply Ws <;> intro hg))
    rename_i HB hHB
    refine WR.store2 (by first | exact gN | exact gS rfl) hHB rfl rfl rfl rfl .here fun HC hHC => ?_
    clear hHA hHB
    repeat' (first | refine zP ?_ | refine zA ?_ | (refine zM ?_; intro _ _) | refine zX ?_ | (refine zC ?_; intro _ _ _ _) | (refine zS ?_; intro _ _) | (apply Ws <;> intro hg))
    refine WR.call (by first | exact gN | exact gS rfl) rfl rfl (exceeds_fs hHC _ _ _ _) ?_
    rintro _ HD ⟨rfl, nD, hnD, hHD⟩
    clear hHC
    repeat' (first | refine zP ?_ | refine zA ?_ | (refine zM ?_; intro _ _) | refine zX ?_ | (refine zC ?_; intro _ _ _ _) | (refine zS ?_; intro _ _))
    refine WC.condP rfl (fun hex => ?_) (fun hex => ?_)
    · repeat' (first | refine zP ?_ | refine zA ?_ | (refine zM ?_; intro _ _) | refine zX ?_ | (refine zC ?_; intro _ _ _ _) | (refine zS ?_; intro _ _) | (apply Ws <;> intro hg))
      refine WC.regionD ?_
      repeat' (first | refine zD ?_ | (refine zE ?_; intro _ _ _ _))
      refine WD.call (by first | exact gN | exact gS rfl) rfl rfl (cloneR_fs (m := m) hHD (.tail _ (.head _)) (divK_len n m k) (by omega)) ?_
      rintro _ HE ⟨cb, cp, nE, rfl, hSc, hnE, hHE⟩
      refine ⟨stands_cons (.inr (holdsN' (read2 hHE (.tail _ (.head _))) (by simp [sameL, same_int]))) stands_nil', ?_⟩
      refine WD.storeBox (by first | exact gN | exact gS rfl) hHE rfl rfl rfl (.there (.there (.there (.there (.there (.there (.there .here))))))) fun HF hHF => ⟨stands_cons (.inr (holdsN' (read2 hHF (.tail _ (.head _))) (by simp [sameL, same_int]))) stands_nil', ?_⟩
      refine WD.toWR rfl ?_
      refine WR.store2 (by first | exact gN | exact gS rfl) hHF rfl rfl rfl rfl (.there (.there (.there (.there (.there (.there .here)))))) fun HG hHG => ?_
      repeat' (first | refine zP ?_ | refine zA ?_ | (refine zM ?_; intro _ _) | refine zX ?_ | (refine zC ?_; intro _ _ _ _) | (refine zS ?_; intro _ _) | (apply Ws <;> intro hg))
      have hbk : bestK (gainK vs n m) (k + 1) = k := by
        rw [hbs]
        split
        · omega
        · rename_i hk0
          rcases hst with ⟨h, _⟩ | ⟨_, e1, e2, _⟩
          · exact absurd h hk0
          · rw [if_pos (gt_iff.2 (by omega))]
      exact Ends.rd rfl rfl rfl hHG (.there (.there (.there .here))) fun H' h' => ⟨_, nE, (h'.sub (.cons_cons _ (.cons _ (List.Sublist.refl _)))).perm (List.perm_middle (l₁ := [_, _, _, _, _, _, _])).symm, .inl ⟨rfl, .slice (some ⟨cb, 0, some 0⟩) m cp, _, _, (cb, .row 3 0 0 (nodes (divK n m k))) :: Cx, by omega, rfl, .inr ⟨by omega, by rw [hbk], by rw [hbk], by rw [hbk]; exact hSc.mono fun q hq => by rw [List.mem_singleton.1 hq]; exact .head _⟩, rfl⟩⟩
    · repeat' (first | refine zP ?_ | refine zA ?_ | (refine zM ?_; intro _ _) | refine zX ?_ | (refine zC ?_; intro _ _ _ _) | (refine zS ?_; intro _ _) | (apply Ws <;> intro hg))
      refine Ends.rd rfl rfl rfl hHD (.there (.there .here)) fun H' h' => ⟨_, nD, h'.tail, .inl ⟨rfl, bs, g1, g2, Cx, by omega, hb1, ?_, rfl⟩⟩
      rcases hst with ⟨rfl, rfl, rfl, _, _⟩ | ⟨h1, e1, e2, e3⟩
      · omega
      · have hbk : bestK (gainK vs n m) (k + 1) = bestK (gainK vs n m) k := by
          rw [hbs, if_neg (by omega), if_neg]
          rw [gt_iff]; omega
        exact .inr ⟨by omega, by rw [hbk]; exact e1, by rw [hbk]; exact e2, by rw [hbk]; exact e3⟩
  · rintro _ H7 ⟨M7, n7, hH7, ⟨bs, g1, g2, Cx, hn7, hb1, hst, rfl⟩ | h⟩
    · refine rangeEnd_of hH7 .here (by rw [← hR2]; simp) (by rw [← hR2]; rfl) fun H8 hH8 => ?_
      have hpp : 0 < n ^ m := Nat.pow_pos (by omega)
      rcases hst with ⟨h, _⟩ | ⟨_, _, _, hSb⟩
      · omega
      · repeat' (first | refine zP ?_ | refine zA ?_ | (refine zM ?_; intro _ _) | refine zX ?_ | (refine zC ?_; intro _ _ _ _) | (refine zS ?_; intro _ _) | (apply Ws <;> intro hg))
        exact Ends.ret1D rfl hH8 (.cons _ (List.Sublist.refl _)) (List.Perm.refl _) fun H' h' => ⟨Cx, n7, hn7, hSb, h'.sub (.cons _ (.cons _ (.cons _ (.cons _ (List.Sublist.refl _)))))⟩
    · exact h.elim
end
end Go.Proofs.Ytaipmdhnhffckaa.Sh

namespace Go.Proofs.Ytaipmdhnhffckaa.Sh
open Go Go.Abs Go.Mth
set_option linter.unusedVariables false
set_option linter.unusedSimpArgs false
structure KTK where
  t : Nat
  K : Nat
attribute [local irreducible] gOK WS WC WR WD Ends FS YS OpV seqK blockK loopK midK retK rdK asgK rangeEnd sat Cell
section
variable {M B : HL} {n0 : Nat} {H : Heap} {v w vv sv : Value} {vs : List (List Nat)} {ss : List Nat} {n m : Nat}
set_option maxHeartbeats 2000000 in
theorem ldivisions_fs {g : FuncId} {vb : List Value} {J : Nat → HL → Nat → Prop} (hV : OKV vs n m) (hR : ValsN M v vs) (hB : ∀ k M' n', J k M' n' → ValsN M' v vs) (hJn : ∀ k M' n' n'', J k M' n' → n' ≤ n'' → J k M' n'')
    (hy : ∀ k M' n' H', J k M' n' → k < n ^ m → hasH ((n0, .row 3 0 0 (nodes (divK n m k))) :: M') n' H' → FS C g ([] ++ [.slice (some ⟨n0, 0, some 0⟩) m (2 * m + 1)] ++ vb) H' (fun _ H2 => ∃ M2 n2, hasH ((n0, .row 3 0 0 (nodes (divK n m k))) :: M2) n2 H2 ∧ J (k + 1) M2 n2))
    (hH : hasH M n0 H) (hJ : J 0 M n0) :
    FS C 59 [v, .func (.func g) [].toArray vb.toArray] H (fun _ H' => ∃ M' n', hasH M' n' H' ∧ J (n ^ m) M' n') := by
  have hm6 := hV.m6
  have hn4 := hV.n4
  have hn1 := hV.pos
  have hvl := hV.len
  have hrl := hV.rowLen hn1
  obtain ⟨ws, hW, hwl, hws⟩ := hR.ex
  have h0 := hws 0 (by omega)
  refine FS.intro (pf := pf59) rfl rfl rfl ?_
  repeat' (first | refine zP ?_ | refine zA ?_ | (refine zM ?_; intro _ _) | refine zX ?_ | (refine zC ?_; intro _ _ _ _) | (refine zS ?_; intro _ _) | (apply Ws <;> intro hg))
  rw [hrl]
  refine WR.mkSL (by first | exact gN | exact gS rfl) rfl hH rfl rfl (by omega) rfl fun H1 hH1 => ?_
  rw [nodes_rep, ← divK_zero (n := n) m] at hH1
  clear h0 hW hws hwl hR
  repeat' (first | refine zP ?_ | refine zA ?_ | (refine zM ?_; intro _ _) | refine zX ?_ | (refine zC ?_; intro _ _ _ _) | (refine zS ?_; intro _ _) | (apply Ws <;> intro hg))
  refine WC.loopX [(0, _), (1, _), (4, _)] (fun s : KE => []) []
    (fun s H' => s.k < n ^ m ∧ J s.k s.M s.n ∧ hasH ((n0, .row 3 0 0 (nodes (divK n m s.k))) :: s.M) s.n H') (fun s => n ^ m - s.k) ⟨0, M, n0 + 1⟩ (by repeat' (first | exact .nil | refine .cons rfl ?_)) rfl
    ⟨Nat.pow_pos (by omega), hJn _ _ _ _ hJ (by simp only; omega), hH1⟩ ?_
  clear hH1 hH hJ
  rintro ⟨k, M1, n1⟩ H2 ⟨hk, hJ1, hH2⟩
  simp only at hk hJ1 hH2
  dsimp only [List.cons_append, List.nil_append]
  repeat' (first | refine zP ?_ | refine zA ?_ | (refine zM ?_; intro _ _) | refine zX ?_ | (refine zC ?_; intro _ _ _ _) | (refine zS ?_; intro _ _) | (apply Ws <;> intro hg))
  refine WR.callV (va := []) (by first | exact gN | exact gS rfl) rfl rfl rfl (hy k M1 n1 _ hJ1 hk hH2) ?_
  rintro _ H3 ⟨M3, n3, hH3, hJ3⟩
  clear hH2 hJ1
  have hR3 := hB _ _ _ hJ3
  obtain ⟨ws3, hW3, hwl3, hws3⟩ := hR3.ex
  repeat' (first | refine zP ?_ | refine zA ?_ | (refine zM ?_; intro _ _) | refine zX ?_ | (refine zC ?_; intro _ _ _ _) | (refine zS ?_; intro _ _) | (apply Ws <;> intro hg))
  refine WC.loopX [(0, _), (1, _), (4, _)] (fun s : KTK => [(5, .int .i64 ((m : Int) - 1 - (s.t : Int)))]) []
    (fun s H' => Carry n m k s.t s.K ∧ hasH ((n0, .row 3 0 0 (nodes (carryL n m s.t s.K))) :: M3) n3 H') (fun s => m - s.t) ⟨0, k⟩ (by simp only [Int.sub_zero, Int.natCast_zero]; exact (by repeat' (first | exact .nil | refine .cons rfl ?_))) rfl ⟨Carry.start n m k, by simp only [carryL, Nat.sub_zero, List.replicate_zero, List.append_nil]; exact hH3⟩ ?_
  clear hH3
  rintro ⟨t, K⟩ H4 ⟨hC, hH4⟩
  simp only at hC hH4
  have htm := hC.tm
  have hll := carryL_len (n := n) (K := K) htm
  have hW4 : Sl ((n0, .row 3 0 0 (nodes (carryL n m t K))) :: M3) 1 v ws3 := hW3.cons
  have hKm := Nat.mod_lt K (show 0 < n by omega)
  dsimp only [List.cons_append, List.nil_append]
  repeat' (first | refine zP ?_ | refine zA ?_ | (refine zM ?_; intro _ _) | refine zX ?_ | (refine zC ?_; intro _ _ _ _) | (refine zS ?_; intro _ _) | (apply Ws <;> intro hg))
  refine WC.condP rfl (fun hge => ?_) (fun hge => ?_)
  · have ht' : t < m := by omega
    have hi : (m : Int) - 1 - (t : Int) = ((m - 1 - t : Nat) : Int) := by omega
    have hgd := carryL_get (n := n) (K := K) ht'
    have hg2 : (nodes (carryL n m t K))[m - 1 - t]? = some (.int .i64 (K % n : Nat)) := by rw [nodes_get (by omega), hgd]
    rw [hi]
    clear hW4
    repeat' (first | refine zP ?_ | refine zA ?_ | (refine zM ?_; intro _ _) | refine zX ?_ | (refine zC ?_; intro _ _ _ _) | (refine zS ?_; intro _ _) | (apply Ws <;> intro hg))
    rw [hgd]
    rename_i H5 hH5
    rw [hgd] at hH5
    obtain ⟨l2, hl2⟩ : ∃ l2, l2 = (carryL n m t K).set (m - 1 - t) (K % n + 1) := ⟨_, rfl⟩
    rw [← hl2] at hH5
    have hl2l : l2.length = m := by rw [hl2, List.length_set]; exact hll
    have hl2g : l2.getD (m - 1 - t) 0 = K % n + 1 := by rw [hl2, getD_set' (by omega), if_pos rfl]
    have hW5 : Sl ((n0, .row 3 0 0 (nodes l2)) :: M3) 1 v ws3 := hW3.cons
    clear hH4 hg2
    by_cases hc : K % n + 1 < n
    · have hdone := hC.done ht' hc
      have hmore := hC.more ht' hc hk
      rw [← carryL_set (n := n) (m := m) (t := t) (K := K) (x := K % n + 1) ht', ← hl2] at hdone
      repeat' (first | refine zP ?_ | refine zA ?_ | (refine zM ?_; intro _ _) | refine zX ?_ | (refine zC ?_; intro _ _ _ _) | (refine zS ?_; intro _ _) | refine zO ?_ | (apply Ws <;> intro hg))
      refine Ends.loop ⟨k + 1, M3, n3⟩ (by simp only; omega) (by repeat' (first | exact .nil | refine .cons rfl ?_)) rfl ⟨hmore, hJ3, ?_⟩
      simp only
      rw [hdone]
      exact hH5
    · have hnext := carryL_next (n := n) (m := m) (t := t) (K := K) ht'
      have hC2 := hC.step hn1 ht' hc
      have hl3 : l2.set (m - 1 - t) 0 = carryL n m (t + 1) (K / n) := by rw [← hnext, hl2, List.set_set]
      repeat' (first | refine zP ?_ | refine zA ?_ | (refine zM ?_; intro _ _) | refine zX ?_ | (refine zC ?_; intro _ _ _ _) | (refine zS ?_; intro _ _) | refine zO ?_ | (apply Ws <;> intro hg))
      rename_i H6 hH6
      rw [hl3] at hH6
      rw [show ((m - 1 - t : Nat) : Int) - 1 = (m : Int) - 1 - ((t + 1 : Nat) : Int) by omega]
      exact Ends.loop ⟨t + 1, K / n⟩ (by simp only; omega) (by repeat' (first | exact .nil | refine .cons rfl ?_)) rfl ⟨hC2, hH6⟩
  · have htm2 : t = m := by omega
    rw [htm2] at hC
    have hend := hC.end_ hk hn1
    rw [hend] at hJ3
    repeat' (first | refine zP ?_ | refine zA ?_ | (refine zM ?_; intro _ _) | refine zX ?_ | (refine zC ?_; intro _ _ _ _) | (refine zS ?_; intro _ _) | refine zO ?_ | (apply Ws <;> intro hg))
    exact Ends.ret0 ⟨M3, n3, hH4.tail, hJ3⟩
end
end Go.Proofs.Ytaipmdhnhffckaa.Sh

namespace Go.Proofs.Ytaipmdhnhffckaa.Sh
open Go Go.Abs Go.Mth
set_option linter.unusedVariables false
set_option linter.unusedSimpArgs false
/-- Each finder's share is worth at least the n-th part to it. -/
def partK (vs : List (List Nat)) (ss : List Nat) (n : Nat) : Nat → Bool
  | 0 => true
  | i + 1 => partK vs ss n i && decide (sumN (fun j => wor (vs.getD i []) (ss.getD j 0)) n ≤ n * wor (vs.getD i []) (ss.getD i 0))
attribute [local irreducible] gOK WS WC WR WD Ends FS YS OpV seqK blockK loopK midK retK rdK asgK rangeEnd sat Cell
section
variable {M : HL} {n0 : Nat} {H : Heap} {v w : Value} {vs : List (List Nat)} {n m : Nat}
end
end Go.Proofs.Ytaipmdhnhffckaa.Sh

namespace Go.Proofs.Ytaipmdhnhffckaa.Sh
open Go Go.Abs Go.Mth
set_option linter.unusedVariables false
set_option linter.unusedSimpArgs false
theorem okv_one {vs us : List (List Nat)} {n m N k : Nat} (h : OKV vs n m) (hu : OKV us N k) (he : ILL us = ILL vs) : us = vs ∧ N = n ∧ k = m := by
  have h1 : us = vs := by rw [← natV_ILL us, he, natV_ILL]
  subst h1
  have h2 : N = n := by rw [← hu.len, h.len]
  subst h2
  refine ⟨rfl, rfl, ?_⟩
  rw [← hu.rowLen hu.pos, h.rowLen hu.pos]
attribute [local irreducible] gOK WS WC WR WD Ends FS YS OpV seqK blockK loopK midK retK rdK asgK rangeEnd sat Cell
section
variable {M : HL} {n0 : Nat} {H : Heap}
end
end Go.Proofs.Ytaipmdhnhffckaa.Sh

namespace Go.Proofs.Ytaipmdhnhffckaa.Sh
open Go Go.Abs Go.Mth
set_option linter.unusedVariables false
set_option linter.unusedSimpArgs false
def betK (vs : List (List Nat)) (n m : Nat) (o : List Int) (k : Nat) : Bool := betB (fun i => (ownL vs (shs n (IL (divK n m k))) n).getD i 0) (fun i => (ownL vs (shs n o) n).getD i 0) n
attribute [local irreducible] gOK WS WC WR WD Ends FS YS OpV seqK blockK loopK midK retK rdK asgK rangeEnd sat Cell
section
variable {M B : HL} {n0 : Nat} {H : Heap} {v w vv sv : Value} {vs : List (List Nat)} {ss : List Nat} {n m : Nat}
theorem Most_fs (hH : hasH M n0 H) {fs : List (List Int)} (hR : RowsI M v fs) (hl : fs.length ≤ 1000) (hll : ∀ l ∈ fs, l.length ≤ 1000) :
    FS C 42 [v] H (fun e H' => ∃ Mx n' r, n0 ≤ n' ∧ hasH (Mx ++ M) n' H' ∧ ((valsE fs ≠ 0 ∧ e = .tuple #[.slice none 0 0, .int .i64 (valsE fs)]) ∨ (∃ vs n m, fs = ILL vs ∧ OKV vs n m ∧ e = .tuple #[r, .int .i64 0] ∧ Sl Mx 1 r (nodes (divK n m (bestK (gainK vs n m) (n ^ m))))))) := by
  refine FS.intro (pf := pf42) rfl rfl rfl ?_
  repeat' (first | refine zP ?_ | refine zA ?_ | (refine zM ?_; intro _ _) | refine zX ?_ | (refine zC ?_; intro _ _ _ _) | (refine zS ?_; intro _ _) | (apply Ws <;> intro hg))
  refine WR.call (by first | exact gN | exact gS rfl) rfl rfl (Check_fs hH hR hl hll) ?_
  rintro _ _ ⟨rfl, rfl⟩
  by_cases h1 : valsE fs = 0
  · obtain ⟨vs, n, m, rfl, hV⟩ := vals_ok h1
    rw [h1]
    repeat' (first | refine zP ?_ | refine zA ?_ | (refine zM ?_; intro _ _) | refine zX ?_ | (refine zC ?_; intro _ _ _ _) | (refine zS ?_; intro _ _) | refine zO ?_ | (apply Ws <;> intro hg))
    refine WR.call (by first | exact gN | exact gS rfl) rfl rfl (most_fs hH hV (RowsI.vals hR)) ?_
    rintro r H1 ⟨Mx, n1, hn1, hS, hH1⟩
    repeat' (first | refine zP ?_ | refine zA ?_ | (refine zM ?_; intro _ _) | refine zX ?_ | (refine zC ?_; intro _ _ _ _) | (refine zS ?_; intro _ _) | (apply Ws <;> intro hg))
    exact Ends.ret2 rfl rfl ⟨Mx, n1, r, hn1, hH1, .inr ⟨vs, n, m, rfl, hV, rfl, hS⟩⟩
  · repeat' (first | refine zP ?_ | refine zA ?_ | (refine zM ?_; intro _ _) | refine zX ?_ | (refine zC ?_; intro _ _ _ _) | (refine zS ?_; intro _ _) | refine zO ?_ | (apply Ws <;> intro hg))
    exact Ends.ret2 rfl rfl ⟨[], n0, .slice none 0 0, Nat.le_refl _, hH, .inl ⟨h1, rfl⟩⟩
set_option maxHeartbeats 4000000 in
theorem Better_fs (hH : hasH M n0 H) {fs : List (List Int)} (hR : RowsI M v fs) (hl : fs.length ≤ 1000) (hll : ∀ l ∈ fs, l.length ≤ 1000) {o : List Int} (hO : Sl M 1 w (ints o)) (hol : o.length ≤ 1000) :
    FS C 44 [v, w] H (fun e H' => ∃ n', n0 ≤ n' ∧ ((divE fs o ≠ 0 ∧ e = .tuple #[.slice none 0 0, .int .i64 (divE fs o)] ∧ hasH M n' H') ∨ (∃ vs n m, fs = ILL vs ∧ OKV vs n m ∧ OKD o n m ∧
      (((∀ k, k < n ^ m → betK vs n m o k = false) ∧ e = .tuple #[.slice none 0 0, .int .i64 13] ∧ hasH M n' H') ∨
       (∃ k b cp, k < n ^ m ∧ betK vs n m o k = true ∧ (∀ i, i < k → betK vs n m o i = false) ∧ e = .tuple #[.slice (some ⟨b, 0, some 0⟩) m cp, .int .i64 0] ∧ Sl [(b, .row 3 0 0 (nodes (divK n m k)))] 1 (.slice (some ⟨b, 0, some 0⟩) m cp) (nodes (divK n m k)) ∧ hasH ((b, .row 3 0 0 (nodes (divK n m k))) :: M) n' H'))))) := by
  have hv1 := hR.one_
  refine FS.intro (pf := pf44) rfl rfl rfl ?_
  repeat' (first | refine zP ?_ | refine zA ?_ | (refine zM ?_; intro _ _) | refine zX ?_ | (refine zC ?_; intro _ _ _ _) | (refine zS ?_; intro _ _) | (apply Ws <;> intro hg))
  refine WR.box1 (by first | exact gN | exact gS rfl) rfl hH rfl hv1 fun H1 hH1 => ?_
  repeat' (first | refine zP ?_ | refine zA ?_ | (refine zM ?_; intro _ _) | refine zX ?_ | (refine zC ?_; intro _ _ _ _) | (refine zS ?_; intro _ _) | (apply Ws <;> intro hg))
  rename_i H2 hH2 H3 hH3
  clear hH1 hH2
  refine WR.call (by first | exact gN | exact gS rfl) rfl rfl (checked_fs hH3 hR.cons.cons.cons hl hll hO.cons.cons.cons hol) ?_
  rintro _ H4 ⟨n4, hn4, ⟨hd, rfl, hH4⟩ | ⟨hd, sb, rfl, hH4⟩⟩
  · repeat' (first | refine zP ?_ | refine zA ?_ | (refine zM ?_; intro _ _) | refine zX ?_ | (refine zC ?_; intro _ _ _ _) | (refine zS ?_; intro _ _) | (apply Ws <;> intro hg))
    rename_i H5 hH5
    refine WR.store2 (by first | exact gN | exact gS rfl) hH5 rfl rfl rfl rfl .here fun H6 hH6 => ?_
    clear hH5
    repeat' (first | refine zP ?_ | refine zA ?_ | (refine zM ?_; intro _ _) | refine zX ?_ | (refine zC ?_; intro _ _ _ _) | (refine zS ?_; intro _ _) | refine zO ?_ | (apply Ws <;> intro hg))
    rename_i H7 hH7 H8 hH8
    exact retC2D (v := .slice none 0 0) (w := .int .i64 (divE fs o)) trivial rfl rfl hH8 (List.Sublist.refl _) (List.Perm.refl _) fun H' h' => ⟨h'.read (.tail _ (.tail _ (.head _))) (.row _ _ _ _) (Nat.zero_le _) rfl, h'.read (.tail _ (.head _)) (.row _ _ _ _) (Nat.zero_le _) rfl, n4 + 1, by omega, .inl ⟨hd, rfl, h'.tail.tail.tail.tail⟩⟩
  obtain ⟨vs, n, m, rfl, hnv, hfl, hvl, ho, hD⟩ := divM_of (b := sb) hR hd
  have hV := hD.ok
  have hVal := RowsI.vals hR
  have hm6 := hV.m6
  have hn4' := hV.n4
  have hn1 := hV.pos
  rw [hfl] at hH4 ⊢
  repeat' (first | refine zP ?_ | refine zA ?_ | (refine zM ?_; intro _ _) | refine zX ?_ | (refine zC ?_; intro _ _ _ _) | (refine zS ?_; intro _ _) | (apply Ws <;> intro hg))
  rename_i H5 hH5
  refine WR.store2 (by first | exact gN | exact gS rfl) hH5 rfl rfl hv1 rfl .here fun H6 hH6 => ?_
  clear hH5 hH4
  repeat' (first | refine zP ?_ | refine zA ?_ | (refine zM ?_; intro _ _) | refine zX ?_ | (refine zC ?_; intro _ _ _ _) | (refine zS ?_; intro _ _) | refine zO ?_ | (apply Ws <;> intro hg))
  refine WR.call (by first | exact gN | exact gS rfl) rfl rfl (own_fs (vs := vs) (ss := shs n o) (n := n) (m := m) ⟨hV, hVal.mono fun q hq => by simp [hq], hD.shar.mono fun q hq => by rcases List.mem_cons.1 hq with h | h <;> simp [h], shs_len _ _, shs_bd ho.len⟩ hH6) ?_
  rintro _ H7 ⟨rfl, n7, hn7, hH7⟩
  clear hH6
  repeat' (first | refine zP ?_ | refine zA ?_ | (refine zM ?_; intro _ _) | refine zX ?_ | (refine zC ?_; intro _ _ _ _) | (refine zS ?_; intro _ _) | (apply Ws <;> intro hg))
  rename_i H8 hH8 H9 hH9
  clear hH7 hH8
  refine WR.call (by first | exact gN | exact gS rfl) rfl rfl (allOwners_fs hH9 hv1) ?_
  rintro _ HA ⟨rfl, hHA⟩
  clear hH9
  obtain ⟨L0, hL0⟩ : ∃ L0, L0 = ownL vs (shs n o) n := ⟨_, rfl⟩
  rw [← hL0] at hHA
  have hL0l : L0.length = n := by rw [hL0, ownL_len]
  obtain ⟨ob, hob⟩ : ∃ ob, ob = n4 + 1 + 1 := ⟨_, rfl⟩
  rw [← hob] at hHA ⊢
  repeat' (first | refine zP ?_ | refine zA ?_ | (refine zM ?_; intro _ _) | refine zX ?_ | (refine zC ?_; intro _ _ _ _) | (refine zS ?_; intro _ _) | (apply Ws <;> intro hg))
  refine WC.range0 (va := []) (vb := [.pointer (some ⟨n7 + 1, 0, some 0⟩)]) rfl hHA fun t ht HB hHB => ?_
  clear hHA
  generalize hR2 : ({ state := .ready, pending := none, fn := 44, tmps := t, params := [23], assign := _, body := _, nt := _ } : LoopE) = R at hHB
  have hbk : ∀ k, betK vs n m o k = betB (fun i => (ownL vs (shs n (IL (divK n m k))) n).getD i 0) (fun i => L0.getD i 0) n := fun k => by rw [hL0]; rfl
  refine FS.mono (allOwners1_fs (lY := n7 + 1 + 1 + 1) (nv := n7 + 1) (v := v) (vs := vs) (n := n) (m := m) (n0 := n7 + 1 + 1 + 2)
    (J := fun k M' n' => n0 ≤ n' ∧ (∀ i, i < k → betK vs n m o i = false) ∧ M' = _)
    (S := fun M' n' => ∃ k b cp, n0 ≤ n' ∧ k < n ^ m ∧ betK vs n m o k = true ∧ (∀ i, i < k → betK vs n m o i = false) ∧ Sl [(b, .row 3 0 0 (nodes (divK n m k)))] 1 (.slice (some ⟨b, 0, some 0⟩) m cp) (nodes (divK n m k)) ∧ M' = (n7 + 1 + 1 + 1, .loop { R with state := .done, pending := some .ret }) :: (n7 + 1 + 1, .defd false) :: (n0 + 1 + 1, .row 26 0 0 [.int .i64 0]) :: (n0 + 1, .row 23 0 0 [.slice (some ⟨b, 0, some 0⟩) m cp]) :: (b, .row 3 0 0 (nodes (divK n m k))) :: M)
    hV ?_ (fun k M' n' n'' h1 h2 => ⟨by omega, h1.2.1, h1.2.2⟩) ?_ hHB ⟨by omega, fun i h => absurd h (Nat.not_lt_zero _), rfl⟩) ?_
  · rintro k M' n' ⟨_, _, rfl⟩
    exact ⟨by simp, hVal.mono fun q hq => by simp [hq]⟩
  · rintro k _ n' HC ⟨hn', hno, rfl⟩ hk hHC
    refine YS.intro hHC (.tail _ (.head _)) (by rw [← hR2]) (by rw [← hR2]) (by rw [← hR2]; rfl) (by rw [← hR2]; exact ht) ?_
    subst hR2
    dsimp only
    repeat' (first | refine zA ?_ | (refine zM ?_; intro _ _) | (apply Ws <;> intro hg))
    refine Ends.asg hHC (.there .here) fun HD hHD => ?_
    dsimp only
    clear hHC
    have hok := divK_ok (m := m) (k := k) hn1
    obtain ⟨ws, hW, hwl, hws⟩ := hVal.ex
    have hvs := hW.same
    refine WC.block ?_
    refine WC.seq ?_
    refine WC.regionD ?_
    refine WD.load1 (by first | exact gN | exact gS rfl) rfl rfl (hHD.read (.tail _ (.tail _ (.tail _ (.tail _ (.tail _ (.tail _ (.tail _ (.tail _ (.tail _ (.tail _ (.head _))))))))))) (.row _ _ _ _) (Nat.zero_le _) rfl) ?_
    repeat' (first | refine zD ?_ | (refine zE ?_; intro _ _ _ _))
    refine WD.load1 (by first | exact gN | exact gS rfl) rfl rfl (hHD.read (.tail _ (.tail _ (.tail _ (.tail _ (.head _))))) (.row _ _ _ _) (Nat.zero_le _) rfl) ?_
    have hrow : ∀ {X : HL}, Sl ((n7 + 1 + 1 + 2, .row 3 0 0 (nodes (divK n m k))) :: X) 1 (.slice (some ⟨n7 + 1 + 1 + 2, 0, some 0⟩) m (2 * m + 1)) (ints (IL (divK n m k))) := Sl.asInts (Sl.mkd (by simp [divK_len]))
    refine WD.call (by first | exact gN | exact gS rfl) rfl rfl (divide_fs hHD (hW.mono fun q hq => by simp [hq]) (by omega) hrow (by simp [divK_len]; omega) (by rw [hwl, hvl]; exact hok.bd)) ?_
    rintro _ HE ⟨b, n8, hn8, rfl, hHE⟩
    rw [hwl, hvl] at hHE
    rw [hwl, hvl]
    refine ⟨stands_cons (.inr (holds_at (hHE.read (.tail _ (.tail _ (.tail _ (.tail _ (.tail _ (.head _)))))) (.row _ _ _ _) (Nat.zero_le _) rfl) (same_sl _ _ _))) (stands_cons (.inl rfl) stands_nil'), ?_⟩
    refine WD.call (by first | exact gN | exact gS rfl) rfl rfl (own_fs (vs := vs) (ss := shs n (IL (divK n m k))) (n := n) (m := m) ⟨hV, hVal.mono fun q hq => by simp [hq], Sl.mkd (by simp [shs]), shs_len _ _, shs_bd hok.len⟩ hHE) ?_
    rintro _ HF ⟨rfl, n9, hn9, hHF⟩
    refine ⟨stands_cons (.inr (holds_at (hHF.read (.tail _ (.tail _ (.tail _ (.tail _ (.tail _ (.tail _ (.head _))))))) (.row _ _ _ _) (Nat.zero_le _) rfl) (same_sl _ _ _))) (stands_cons (.inl rfl) stands_nil'), ?_⟩
    refine WD.toWR rfl ?_
    have hSL0 : Sl ((ob, Ch.row 3 0 0 (nodes L0)) :: M) 1 (.slice (some ⟨ob, 0, some 0⟩) n (2 * n + 1)) (nodes L0) := Sl.mkd (by simp [hL0l])
    refine WR.call (by first | exact gN | exact gS rfl) rfl rfl (isBetter_fs hHF (Sl.mkd (by simp [ownL_len])) (hSL0.mono fun q hq => by rcases List.mem_cons.1 hq with h | h <;> simp [h]) (ownL_len _ _ _) hL0l (by omega)) ?_
    rintro _ _ ⟨rfl, rfl⟩
    rw [← hbk k]
    replace hHF := hHF.tail.tail
    clear hHE hHD
    cases hf : betK vs n m o k with
    | false =>
      repeat' (first | refine zP ?_ | refine zA ?_ | (refine zM ?_; intro _ _) | refine zX ?_ | (refine zC ?_; intro _ _ _ _) | (refine zS ?_; intro _ _) | (apply Ws <;> intro hg))
      exact Ends.rd rfl rfl rfl hHF (.there .here) fun H' h' => ⟨_, n9, h', .inl ⟨rfl, by omega, fun i hi => by
        by_cases e : i = k
        · rw [e]; exact hf
        · exact hno i (by omega), rfl⟩⟩
    | true =>
      repeat' (first | refine zP ?_ | refine zA ?_ | (refine zM ?_; intro _ _) | refine zX ?_ | (refine zC ?_; intro _ _ _ _) | (refine zS ?_; intro _ _) | (apply Ws <;> intro hg))
      refine WR.call (by first | exact gN | exact gS rfl) rfl rfl (cloneR_fs (m := m) hHF (.head _) (divK_len n m k) (by omega)) ?_
      rintro _ HA ⟨cb, cp, nA, rfl, hSc, hnA, hHA⟩
      repeat' (first | refine zP ?_ | refine zA ?_ | (refine zM ?_; intro _ _) | refine zX ?_ | (refine zC ?_; intro _ _ _ _) | (refine zS ?_; intro _ _) | (apply Ws <;> intro hg))
      refine WR.storeBox (by first | exact gN | exact gS rfl) hHA rfl rfl rfl (.there (.there (.there (.there (.there (.there (.there (.there (.there (.there .here)))))))))) fun HB hHB => ?_
      refine WR.storeBox (by first | exact gN | exact gS rfl) hHB rfl rfl rfl (.there (.there (.there (.there (.there (.there (.there (.there (.there .here))))))))) fun HC hHC => ?_
      repeat' (first | refine zP ?_ | refine zA ?_ | (refine zM ?_; intro _ _) | refine zX ?_ | (refine zC ?_; intro _ _ _ _) | (refine zS ?_; intro _ _) | (apply Ws <;> intro hg))
      exact Ends.rd rfl rfl rfl hHC (.there (.there .here)) fun H' h' => ⟨_, nA, (h'.sub (.cons_cons _ (.cons_cons _ (.cons_cons _ (.cons_cons _ (.cons _ (.cons _ (.cons _ (.cons _ (.cons _ (.cons_cons _ (.cons_cons _ (.cons _ (List.Sublist.refl M)))))))))))))).perm (List.perm_middle (l₁ := [_, _, _, _, _])).symm, .inr ⟨rfl, k, cb, cp, by omega, hk, hf, hno, hSc, rfl⟩⟩
  · rintro _ H7 ⟨M7, n9, hH7, ⟨hn9, hno, rfl⟩ | ⟨k, b, cp, hn9, hk, hf, hno, hSc, rfl⟩⟩
    · refine rangeEnd_of hH7 .here (by rw [← hR2]; simp) (by rw [← hR2]; rfl) fun H8 hH8 => ?_
      repeat' (first | refine zP ?_ | refine zA ?_ | (refine zM ?_; intro _ _) | refine zX ?_ | (refine zC ?_; intro _ _ _ _) | (refine zS ?_; intro _ _) | (apply Ws <;> intro hg))
      refine WR.storeBox (by first | exact gN | exact gS rfl) hH8 rfl rfl rfl (.there (.there (.there (.there (.there (.there (.there (.there .here)))))))) fun H9 hH9 => ?_
      refine WR.storeBox (by first | exact gN | exact gS rfl) hH9 rfl rfl rfl (.there (.there (.there (.there (.there (.there (.there .here))))))) fun HA hHA => ?_
      repeat' (first | refine zP ?_ | refine zA ?_ | (refine zM ?_; intro _ _) | refine zX ?_ | (refine zC ?_; intro _ _ _ _) | (refine zS ?_; intro _ _) | (apply Ws <;> intro hg))
      exact retC2D (v := .slice none 0 0) (w := .int .i64 13) trivial rfl rfl hHA (.cons _ (List.Sublist.refl _)) (List.Perm.refl _) fun H' h' => ⟨h'.read (.tail _ (.tail _ (.tail _ (.tail _ (.tail _ (.tail _ (.head _))))))) (.row _ _ _ _) (Nat.zero_le _) rfl, h'.read (.tail _ (.tail _ (.tail _ (.tail _ (.tail _ (.head _)))))) (.row _ _ _ _) (Nat.zero_le _) rfl, n9, hn9, .inr ⟨vs, n, m, rfl, hV, ho, .inl ⟨hno, rfl, h'.sub (.cons _ (.cons _ (.cons _ (.cons _ (.cons _ (.cons _ (.cons _ (.cons _ (List.Sublist.refl _)))))))))⟩⟩⟩
    · refine rangeEnd_of hH7 .here (by simp) rfl fun H8 hH8 => ?_
      repeat' (first | refine zP ?_ | refine zA ?_ | (refine zM ?_; intro _ _) | refine zX ?_ | (refine zC ?_; intro _ _ _ _) | (refine zS ?_; intro _ _) | (apply Ws <;> intro hg))
      exact retC2D (v := .slice (some ⟨b, 0, some 0⟩) m cp) (w := .int .i64 0) trivial rfl rfl hH8 (.cons _ (List.Sublist.refl _)) (List.Perm.refl _) fun H' h' => ⟨h'.read (.tail _ (.head _)) (.row _ _ _ _) (Nat.zero_le _) rfl, h'.read (.head _) (.row _ _ _ _) (Nat.zero_le _) rfl, n9, hn9, .inr ⟨vs, n, m, rfl, hV, ho, .inr ⟨k, b, cp, hk, hf, hno, rfl, hSc, h'.sub (.cons _ (.cons _ (List.Sublist.refl _)))⟩⟩⟩
end
end Go.Proofs.Ytaipmdhnhffckaa.Sh

/- The division with the greatest product: nobody envies anybody by more than one thing, and none is better. -/
namespace Go.Proofs.Ytaipmdhnhffckaa.Sh
open Go Go.Abs Go.Mth
set_option linter.unusedVariables false
set_option linter.unusedSimpArgs false
theorem worTo_sum (f : List Nat) (s : Nat) : ∀ k, worTo f s k = sumN (fun i => if s.testBit i = true then f.getD i 0 else 0) k
  | 0 => rfl
  | k + 1 => by
    show worTo f s k + _ = sumN _ k + _
    rw [worTo_sum f s k]
theorem wor_sum {f : List Nat} {o : List Int} {x m : Nat} (hf : f.length = m) (ho : o.length = m) : wor f (shr o x) = sumN (fun k => if o.getD k (-1) = (x : Int) then f.getD k 0 else 0) m := by
  rw [wor, hf, worTo_sum]
  refine sumN_congr fun i hi => ?_
  by_cases e : o.getD i (-1) = (x : Int)
  · rw [if_pos e, if_pos (shr_bit.2 ⟨by omega, e⟩)]
  · rw [if_neg e, if_neg fun h => e (shr_bit.1 h).2]
theorem getD_setI {o : List Int} {j i : Nat} {x : Int} (hj : j < o.length) : (o.set j x).getD i (-1) = if i = j then x else o.getD i (-1) := getD_set' hj
/-- A thing handed over. -/
theorem wor_move {f : List Nat} {o : List Int} {a b j m : Nat} (hf : f.length = m) (ho : o.length = m) (hj : j < m) (hb : o.getD j (-1) = (b : Int)) (hab : a ≠ b) :
    wor f (shr (o.set j (a : Int)) a) = wor f (shr o a) + f.getD j 0 ∧ wor f (shr (o.set j (a : Int)) b) = wor f (shr o b) - f.getD j 0 ∧ ∀ x, x ≠ a → x ≠ b → wor f (shr (o.set j (a : Int)) x) = wor f (shr o x) := by
  have hl : (o.set j (a : Int)).length = m := by rw [List.length_set]; exact ho
  have key : ∀ x, wor f (shr (o.set j (a : Int)) x) + (if b = x then f.getD j 0 else 0) = wor f (shr o x) + (if a = x then f.getD j 0 else 0) := fun x => by
    rw [wor_sum hf hl, wor_sum hf ho]
    have h1 := sumN_upd (q := fun k => if o.getD k (-1) = (x : Int) then f.getD k 0 else 0) (r := fun k => if (o.set j (a : Int)).getD k (-1) = (x : Int) then f.getD k 0 else 0) (a := j) (fun i hi => by
      show (if (o.set j (a : Int)).getD i (-1) = (x : Int) then f.getD i 0 else 0) = (if o.getD i (-1) = (x : Int) then f.getD i 0 else 0)
      rw [getD_setI (by omega), if_neg hi]) (n := m) hj

    rw [getD_setI (by omega), if_pos rfl, hb] at h1
    simp only [Int.natCast_inj] at h1
    exact h1
  refine ⟨?_, ?_, fun x h1 h2 => ?_⟩
  · have := key a
    rw [if_pos rfl, if_neg (Ne.symm hab)] at this
    omega
  · have := key b
    rw [if_pos rfl, if_neg hab] at this
    omega
  · have := key x
    rw [if_neg (Ne.symm h1), if_neg (Ne.symm h2)] at this
    omega
theorem gain_congr {w w' : Nat → Nat} {n : Nat} (h : ∀ i, i < n → w i = w' i) : gainW w n = gainW w' n := by
  unfold gainW manyW prodW
  rw [sumN_congr (f := posC w) (g := posC w') fun i hi => by unfold posC; rw [h i hi], prodN_congr (q := posQ w) (r := posQ w') fun i hi => by unfold posQ; rw [h i hi]]
theorem gainK_eq {vs : List (List Nat)} {n m k : Nat} : gainK vs n m k = gainW (fun i => wor (vs.getD i []) (shr (IL (divK n m k)) i)) n :=
  gain_congr fun i hi => by rw [ownL_get hi, shs_get _ hi]
theorem mul_grow {P P' qa qb ra rb : Nat} (h : P' * (qa * qb) = P * (ra * rb)) (hP : 0 < P) (hlt : qa * qb < ra * rb) (hq : 0 < qa * qb) : P < P' := by
  refine Nat.lt_of_not_le fun hle => ?_
  have h1 : P' * (qa * qb) ≤ P * (qa * qb) := Nat.mul_le_mul_right _ hle
  have h2 : P * (qa * qb) < P * (ra * rb) := Nat.mul_lt_mul_of_pos_left hlt hP
  omega
theorem best_fair {vs : List (List Nat)} {n m K : Nat} (hV : OKV vs n m) (hmax : ∀ i, i < n ^ m → gtG (gainK vs n m i) (gainK vs n m K) = false) : 0 < fairN vs (shs n (IL (divK n m K))) := by
  have hn1 := hV.pos
  have hm6 := hV.m6
  have hok := divK_ok (m := m) (k := K) hn1
  rw [fair_pos, hV.len]
  intro a b ha hb
  refine Bool.eq_false_iff.2 fun hmu => ?_
  unfold muchP at hmu
  rw [shs_get _ ha, shs_get _ hb, much_iff] at hmu
  obtain ⟨o, ho⟩ : ∃ o, o = IL (divK n m K) := ⟨_, rfl⟩
  rw [← ho] at hok hmu
  have hab : a ≠ b := fun h => by rw [h] at hmu; omega
  have hfa := hV.rowLen ha
  have hfb := hV.rowLen hb
  obtain ⟨j, hj, hbit, hge, hgt⟩ := hand_over (f := vs.getD a []) (g := vs.getD b []) (s := shr o b) (x := wor (vs.getD a []) (shr o a)) (m := m) hfa hfb (fun j hj hbit => hmu.2 j (by omega) hbit) hmu.1
  have hbj := (shr_bit.1 hbit).2
  have hok2 : OKD (o.set j (a : Int)) n m := ⟨by rw [List.length_set]; exact hok.len, fun x hx => by
    rcases List.mem_or_eq_of_mem_set hx with h | h
    · exact hok.bd x h
    · rw [h]; omega⟩
  obtain ⟨k2, hk2, he2⟩ := divK_okd hn1 hok2
  have hno := hmax k2 hk2
  rw [gainK_eq, gainK_eq, he2, ← ho] at hno
  refine absurd ?_ (Bool.eq_false_iff.1 hno)
  have mv := fun i (hi : i < n) => wor_move (f := vs.getD i []) (o := o) (a := a) (b := b) (j := j) (m := m) (hV.rowLen hi) hok.len hj hbj hab
  obtain ⟨w, hw⟩ : ∃ w : Nat → Nat, w = fun i => wor (vs.getD i []) (shr o i) := ⟨_, rfl⟩
  obtain ⟨w', hw'⟩ : ∃ w' : Nat → Nat, w' = fun i => if i = a then w a + (vs.getD a []).getD j 0 else if i = b then w b - (vs.getD b []).getD j 0 else w i := ⟨_, rfl⟩
  have hwc : gainW (fun i => wor (vs.getD i []) (shr (o.set j (a : Int)) i)) n = gainW w' n := gain_congr fun i hi => by
    rw [hw', hw]
    simp only
    by_cases h1 : i = a
    · rw [if_pos h1, h1]; exact (mv a ha).1
    · rw [if_neg h1]
      by_cases h2 : i = b
      · rw [if_pos h2, h2]; exact (mv b hb).2.1
      · rw [if_neg h2]; exact (mv i hi).2.2 i h1 h2
  have hwa : w a = wor (vs.getD a []) (shr o a) := by rw [hw]
  have hwb : w b = wor (vs.getD b []) (shr o b) := by rw [hw]
  rw [← hwa, ← hwb] at hge hgt
  have hwa' : w' a = w a + (vs.getD a []).getD j 0 := by rw [hw']; simp
  have hwb' : w' b = w b - (vs.getD b []).getD j 0 := by rw [hw']; show (if b = a then _ else if b = b then _ else _) = _; rw [if_neg (Ne.symm hab), if_pos rfl]
  have hwx : ∀ i, i ≠ a → i ≠ b → w' i = w i := fun i h1 h2 => by rw [hw']; simp only; rw [if_neg h1, if_neg h2]
  rw [hwc, ← hw]
  rw [← hwa', ← hwb'] at hge hgt
  have hc := sumN_upd2 (q := posC w) (r := posC w') (a := a) (b := b) (n := n) (fun i h1 h2 => by unfold posC; rw [hwx i h1 h2]) hab ha hb
  have hp := prodN_upd2 (q := posQ w) (r := posQ w') (a := a) (b := b) (n := n) (fun i h1 h2 => by unfold posQ; rw [hwx i h1 h2]) hab ha hb
  have hge' : posC w a + posC w b ≤ posC w' a + posC w' b := hge
  have hgt' : posC w a + posC w b = posC w' a + posC w' b → posQ w a * posQ w b < posQ w' a * posQ w' b := hgt
  rw [gt_iff]
  show sumN (posC w) n < sumN (posC w') n ∨ sumN (posC w) n = sumN (posC w') n ∧ prodN (posQ w) n < prodN (posQ w') n
  by_cases he : posC w a + posC w b = posC w' a + posC w' b
  · right
    refine ⟨by omega, mul_grow hp (prodN_pos (posQ_pos w) n) (hgt' he) (Nat.mul_pos (posQ_pos w a) (posQ_pos w b))⟩
  · left; omega
theorem best_none {vs : List (List Nat)} {n m K : Nat} (hmax : ∀ i, i < n ^ m → gtG (gainK vs n m i) (gainK vs n m K) = false) : ∀ k, k < n ^ m → betK vs n m (IL (divK n m K)) k = false := by
  intro k hk
  refine Bool.eq_false_iff.2 fun h => ?_
  unfold betK at h
  obtain ⟨h1, i, hi, h2⟩ := bet_iff.1 h
  have := gain_better (w := fun i => (ownL vs (shs n (IL (divK n m K))) n).getD i 0) (w' := fun i => (ownL vs (shs n (IL (divK n m k))) n).getD i 0) h1 hi h2
  exact absurd this (Bool.eq_false_iff.1 (hmax k hk))
end Go.Proofs.Ytaipmdhnhffckaa.Sh

namespace Go.Proofs.Ytaipmdhnhffckaa.Sh
open Go Go.Abs Go.Mth
set_option linter.unusedVariables false
set_option linter.unusedSimpArgs false
attribute [local irreducible] gOK WS WC WR WD Ends FS YS OpV seqK blockK loopK midK retK rdK asgK rangeEnd sat Cell
section
variable {M : HL} {n0 : Nat} {H : Heap} {v w : Value} {vs : List (List Nat)} {n m : Nat}
set_option maxHeartbeats 4000000 in
theorem most1_fs {X : HL} {vb mb pb bb rb : Nat} {g1 g2 : Int} {bs : Value} {l : List Nat} {W0 : Nat → Nat}
    (hH : hasH ((pb, .row 3 0 0 [.int .i64 g2]) :: (mb, .row 3 0 0 [.int .i64 g1]) :: (bb, .row 23 0 0 [bs]) :: X) n0 H)
    (hV : OKV vs n m) (hR : ValsN X v vs) (hv : (vb, .row 22 0 0 [v]) ∈ X)
    (hrm : (rb, .row 3 0 0 (nodes l)) ∈ X) (hll : l.length = m) (ho : OKD (IL l) n m) (hW0 : W0 = fun i => wor (vs.getD i []) (shr (IL l) i)) :
    FS C 60 [.slice (some ⟨rb, 0, some 0⟩) m (2 * m + 1), .pointer (some ⟨vb, 0, some 0⟩), .pointer (some ⟨mb, 0, some 0⟩), .pointer (some ⟨pb, 0, some 0⟩), .pointer (some ⟨bb, 0, some 0⟩)] H (fun _ H' => ∃ n', n0 ≤ n' ∧
      ((¬ (g1 < (manyW W0 n : Nat) ∨ ((manyW W0 n : Nat) = g1 ∧ g2 < (prodW W0 n : Nat))) ∧ hasH ((pb, .row 3 0 0 [.int .i64 g2]) :: (mb, .row 3 0 0 [.int .i64 g1]) :: (bb, .row 23 0 0 [bs]) :: X) n' H') ∨
       ((g1 < (manyW W0 n : Nat) ∨ ((manyW W0 n : Nat) = g1 ∧ g2 < (prodW W0 n : Nat))) ∧ ∃ b cp, Sl [(b, .row 3 0 0 (nodes l))] 1 (.slice (some ⟨b, 0, some 0⟩) m cp) (nodes l) ∧ hasH ((pb, .row 3 0 0 [.int .i64 (prodW W0 n : Nat)]) :: (mb, .row 3 0 0 [.int .i64 (manyW W0 n : Nat)]) :: (bb, .row 23 0 0 [.slice (some ⟨b, 0, some 0⟩) m cp]) :: (b, .row 3 0 0 (nodes l)) :: X) n' H'))) := by
  have hvl := hV.len
  have hn4 := hV.n4
  have hn1 := hV.pos
  have hm6 := hV.m6
  have hO : ∀ {Y : HL}, (rb, Ch.row 3 0 0 (nodes l)) ∈ Y → Sl Y 1 (.slice (some ⟨rb, 0, some 0⟩) m (2 * m + 1)) (ints (IL l)) := fun {Y} h => Sl.asInts ((show Sl [(rb, Ch.row 3 0 0 (nodes l))] 1 (.slice (some ⟨rb, 0, some 0⟩) m (2 * m + 1)) (nodes l) from Sl.mkd (by simp [hll])).mono fun q hq => by rw [List.mem_singleton.1 hq]; exact h)
  have hv3 : (vb, Ch.row 22 0 0 [v]) ∈ (pb, Ch.row 3 0 0 [.int .i64 g2]) :: (mb, .row 3 0 0 [.int .i64 g1]) :: (bb, .row 23 0 0 [bs]) :: X := .tail _ (.tail _ (.tail _ hv))
  refine FS.intro (pf := pf60) rfl rfl rfl ?_
  repeat' (first | refine zP ?_ | refine zA ?_ | (refine zM ?_; intro _ _) | refine zX ?_ | (refine zC ?_; intro _ _ _ _) | (refine zS ?_; intro _ _) | (apply Ws <;> intro hg))
  refine WR.call (by first | exact gN | exact gS rfl) rfl rfl (worths_fs hH hV hR.cons.cons.cons (hO (.tail _ (.tail _ (.tail _ hrm)))) ho.part) ?_
  rintro _ H1 ⟨us, Mi, n1, rfl, hRW, hn1, hH1⟩
  clear hH hv3
  have hss : ∀ {i}, i < n → (shs n (IL l)).getD i 0 = shr (IL l) i := fun hi => shs_get _ hi
  obtain ⟨ss, hse⟩ : ∃ ss, ss = shs n (IL l) := ⟨_, rfl⟩
  rw [← hse] at hRW
  simp only [← hse] at hss
  have hssl : ss.length = n := by rw [hse, shs_len]
  have hul : us.length = n := by rw [hRW.1]; simp [worM, hvl]
  have hRl : ∀ {i}, i < n → ((worM vs ss).getD i []).length = n := fun hi => by rw [worM_get (by omega), List.length_map, hssl]
  have hRii : ∀ {i}, i < n → ((worM vs ss).getD i []).getD i 0 = W0 i := fun hi => by rw [worM_at (by omega) (by omega), hss hi, hW0]
  have hbd : ∀ {i}, i < n → W0 i ≤ 120 := fun hi => by rw [hW0]; exact hV.wor hi
  have hpl : ∀ k, k ≤ n → prodW W0 k ≤ 120 ^ k := by
    intro k
    induction k with
    | zero => intro _; exact Nat.le_refl _
    | succ k ih =>
      intro hk
      have h1 := ih (by omega)
      have h2 := hbd (i := k) (by omega)
      show prodW W0 k * posQ W0 k ≤ 120 ^ k * 120
      refine Nat.mul_le_mul h1 ?_
      unfold posQ
      split <;> omega
  have hp4 : ∀ k, k ≤ n → prodW W0 k ≤ 207360000 := fun k hk => Nat.le_trans (hpl k hk) (Nat.le_trans (Nat.pow_le_pow_right (by omega) (show k ≤ 4 by omega)) (by decide))
  clear hpl hW0
  replace hH1 := hH1.perm (M' := (pb, .row 3 0 0 [.int .i64 g2]) :: (mb, .row 3 0 0 [.int .i64 g1]) :: (bb, .row 23 0 0 [bs]) :: (n0, .row 23 0 0 us) :: (Mi ++ X)) (by
    exact List.perm_append_comm_assoc ((n0, .row 23 0 0 us) :: Mi) [_, _, _] X)
  have hSu : Sl ((pb, .row 3 0 0 [.int .i64 g2]) :: (mb, .row 3 0 0 [.int .i64 g1]) :: (bb, .row 23 0 0 [bs]) :: (n0, .row 23 0 0 us) :: (Mi ++ X)) 1 (.slice (some ⟨n0, 0, some 0⟩) n (2 * n + 1)) us := ((Sl.mkd (M := Mi ++ X) hul).cons).cons.cons
  have hRow : ∀ {i}, i < n → Sl ((pb, .row 3 0 0 [.int .i64 g2]) :: (mb, .row 3 0 0 [.int .i64 g1]) :: (bb, .row 23 0 0 [bs]) :: (n0, .row 23 0 0 us) :: (Mi ++ X)) 1 (us.getD i undef) (nodes ((worM vs ss).getD i [])) := fun {i} hi => (hRW.2 i (by simp [worM]; omega)).mono fun q hq => by
    simp only [List.mem_append, List.mem_cons] at hq ⊢
    rcases hq with h | h | h | h | h <;> simp [h]
  have hback : ∀ {f : HL} {n' : Nat} {H' : Heap}, hasH (f ++ ((n0, Ch.row 23 0 0 us) :: (Mi ++ X))) n' H' → hasH (f ++ X) n' H' := fun {f _ _} h => h.sub (List.Sublist.append (List.Sublist.refl f) ((List.sublist_append_right Mi X).trans (List.sublist_cons_self _ _)))
  clear hRW
  generalize Value.slice (some ⟨n0, 0, some 0⟩) n (2 * n + 1) = u at hSu ⊢
  generalize hW : worM vs ss = W at hRow hRl hRii
  repeat' (first | refine zP ?_ | refine zA ?_ | (refine zM ?_; intro _ _) | refine zX ?_ | (refine zC ?_; intro _ _ _ _) | (refine zS ?_; intro _ _) | (apply Ws <;> intro hg))
  rw [hul]
  refine WC.loopX [(0, _), (1, _), (2, _), (3, _), (4, _), (12, _), (13, _)] (fun s : Nat => [(6, .int .i64 (manyW W0 s : Nat)), (7, .int .i64 (prodW W0 s : Nat)), (14, .int .i64 (s : Int))]) []
    (fun s H' => s ≤ n ∧ H' = H1) (fun s => n - s) 0 (by repeat' (first | exact .nil | refine .cons rfl ?_)) rfl ⟨Nat.zero_le _, rfl⟩ ?_
  rintro i H2 ⟨hi, rfl⟩
  dsimp only [List.cons_append, List.nil_append]
  repeat' (first | refine zP ?_ | refine zA ?_ | (refine zM ?_; intro _ _) | refine zX ?_ | (refine zC ?_; intro _ _ _ _) | (refine zS ?_; intro _ _) | (apply Ws <;> intro hg))
  refine WC.condP rfl (fun hlt => ?_) (fun hlt => ?_)
  · have hi' : i < n := by omega
    have hri := hRow hi'
    have hrl := hRl hi'
    have hr2 := hRii hi'
    have hb2 := hbd hi'
    have hp := hp4 i hi
    have hml := manyW_le W0 i
    have hms : manyW W0 (i + 1) = manyW W0 i + posC W0 i := rfl
    have hps : prodW W0 (i + 1) = prodW W0 i * posQ W0 i := rfl
    have hmul : ((prodW W0 i : Nat) : Int) * (((W.getD i []).getD i 0 : Nat) : Int) = ((prodW W0 i * W0 i : Nat) : Int) := by rw [hr2]; simp
    have hmb : prodW W0 i * W0 i ≤ 207360000 * 120 := Nat.mul_le_mul hp hb2
    have hmj : 0 ≤ ((prodW W0 i : Nat) : Int) * (((W.getD i []).getD i 0 : Nat) : Int) ∧ ((prodW W0 i : Nat) : Int) * (((W.getD i []).getD i 0 : Nat) : Int) ≤ 24883200000 := by rw [hmul]; omega
    repeat' (first | refine zP ?_ | refine zA ?_ | (refine zM ?_; intro _ _) | refine zX ?_ | (refine zC ?_; intro _ _ _ _) | (refine zS ?_; intro _ _) | (apply Ws <;> intro hg))
    by_cases hpos : 0 < W0 i
    · have e1 : posC W0 i = 1 := if_pos hpos
      have e2 : posQ W0 i = W0 i := if_pos hpos
      rw [e1] at hms
      rw [e2] at hps
      repeat' (first | refine zP ?_ | refine zA ?_ | (refine zM ?_; intro _ _) | refine zX ?_ | (refine zC ?_; intro _ _ _ _) | (refine zS ?_; intro _ _) | refine zO ?_ | (apply Ws <;> intro hg))
      rw [hmul, ← hps, show ((manyW W0 i : Nat) : Int) + 1 = ((manyW W0 (i + 1) : Nat) : Int) by omega]
      rw [show (i : Int) + 1 = ((i + 1 : Nat) : Int) by omega]
      exact Ends.loop (i + 1) (by omega) (by repeat' (first | exact .nil | refine .cons rfl ?_)) rfl ⟨hi', rfl⟩
    · have e1 : posC W0 i = 0 := if_neg hpos
      have e2 : posQ W0 i = 1 := if_neg hpos
      rw [e1, Nat.add_zero] at hms
      rw [e2, Nat.mul_one] at hps
      repeat' (first | refine zP ?_ | refine zA ?_ | (refine zM ?_; intro _ _) | refine zX ?_ | (refine zC ?_; intro _ _ _ _) | (refine zS ?_; intro _ _) | refine zO ?_ | (apply Ws <;> intro hg))
      rw [show (i : Int) + 1 = ((i + 1 : Nat) : Int) by omega]
      exact Ends.loop (i + 1) (by omega) (by rw [hms, hps]; exact (by repeat' (first | exact .nil | refine .cons rfl ?_))) rfl ⟨hi', rfl⟩
  · have hin : i = n := by omega
    rw [hin]
    clear hRow hRl hSu
    replace hH1 : hasH ((pb, .row 3 0 0 [.int .i64 g2]) :: (mb, .row 3 0 0 [.int .i64 g1]) :: (bb, .row 23 0 0 [bs]) :: X) n1 H2 := hback (f := [_, _, _]) hH1
    clear hback hO
    obtain ⟨a1, ha1⟩ : ∃ a1, a1 = manyW W0 n := ⟨_, rfl⟩
    obtain ⟨a2, ha2⟩ : ∃ a2, a2 = prodW W0 n := ⟨_, rfl⟩
    rw [← ha1, ← ha2]
    by_cases hc1 : g1 < (a1 : Int)
    · repeat' (first | refine zP ?_ | refine zA ?_ | (refine zM ?_; intro _ _) | refine zX ?_ | (refine zC ?_; intro _ _ _ _) | (refine zS ?_; intro _ _) | refine zO ?_ | (apply Ws <;> intro hg))
      refine WR.call (by first | exact gN | exact gS rfl) rfl rfl (cloneR_fs (m := m) hH1 (.tail _ (.tail _ (.tail _ hrm))) hll (by omega)) ?_
      rintro _ H3 ⟨b, cp, n3, rfl, hSc, hn3, hH3⟩
      repeat' (first | refine zP ?_ | refine zA ?_ | (refine zM ?_; intro _ _) | refine zX ?_ | (refine zC ?_; intro _ _ _ _) | (refine zS ?_; intro _ _) | (apply Ws <;> intro hg))
      rename_i hH6
      exact Ends.end0 ⟨n3, by omega, .inr ⟨by omega, b, cp, hSc, hH6.perm (List.perm_middle (l₁ := [_, _, _])).symm⟩⟩
    · by_cases hc2 : (a1 : Int) = g1
      · by_cases hc3 : g2 < (a2 : Int)
        · repeat' (first | refine zP ?_ | refine zA ?_ | (refine zM ?_; intro _ _) | refine zX ?_ | (refine zC ?_; intro _ _ _ _) | (refine zS ?_; intro _ _) | refine zO ?_ | (apply Ws <;> intro hg))
          refine WR.call (by first | exact gN | exact gS rfl) rfl rfl (cloneR_fs (m := m) hH1 (.tail _ (.tail _ (.tail _ hrm))) hll (by omega)) ?_
          rintro _ H3 ⟨b, cp, n3, rfl, hSc, hn3, hH3⟩
          repeat' (first | refine zP ?_ | refine zA ?_ | (refine zM ?_; intro _ _) | refine zX ?_ | (refine zC ?_; intro _ _ _ _) | (refine zS ?_; intro _ _) | (apply Ws <;> intro hg))
          rename_i hH6
          exact Ends.end0 ⟨n3, by omega, .inr ⟨by omega, b, cp, hSc, hH6.perm (List.perm_middle (l₁ := [_, _, _])).symm⟩⟩
        · repeat' (first | refine zP ?_ | refine zA ?_ | (refine zM ?_; intro _ _) | refine zX ?_ | (refine zC ?_; intro _ _ _ _) | (refine zS ?_; intro _ _) | refine zO ?_ | (apply Ws <;> intro hg))
          exact Ends.end0 ⟨n1, by omega, .inl ⟨by omega, hH1⟩⟩
      · repeat' (first | refine zP ?_ | refine zA ?_ | (refine zM ?_; intro _ _) | refine zX ?_ | (refine zC ?_; intro _ _ _ _) | (refine zS ?_; intro _ _) | refine zO ?_ | (apply Ws <;> intro hg))
        exact Ends.end0 ⟨n1, by omega, .inl ⟨by omega, hH1⟩⟩
end
end Go.Proofs.Ytaipmdhnhffckaa.Sh

namespace Go.Proofs.Ytaipmdhnhffckaa.Sh
open Go Go.Abs Go.Mth
set_option linter.unusedVariables false
set_option linter.unusedSimpArgs false
attribute [local irreducible] gOK WS WC WR WD Ends FS YS OpV seqK blockK loopK midK retK rdK asgK rangeEnd sat Cell
section
variable {M : HL} {n0 : Nat} {H : Heap}
set_option maxHeartbeats 16000000 in
theorem ShareMost_fs (hH : hasH M n0 H) {a b : Int} {hs : List Int} (ha : 0 ≤ a ∧ a ≤ 255) (hb : 0 ≤ b ∧ b ≤ 255) (hl : hs.length = 24) (hu : ∀ x ∈ hs, 0 ≤ x ∧ x ≤ 255) :
    FS C 9 [.agg (heapV a b hs).toArray] H (fun e H' => e = .bool true) := by
  have hone := heap_one a b hs
  refine FS.intro (pf := pf9) rfl rfl rfl ?_
  repeat' (first | refine zP ?_ | refine zA ?_ | (refine zM ?_; intro _ _) | refine zX ?_ | (refine zC ?_; intro _ _ _ _) | (refine zS ?_; intro _ _))
  rename_i H1 hH1
  refine WR.op (by first | exact gN | exact gS rfl) rfl (OpV.loadAll (k := 26) rfl hH1 (.head _) (.row _ _ _ _) (by simp [heapV, hl])) ?_
  refine WR.call (by first | exact gN | exact gS rfl) rfl rfl (made_fs hH1 ha hb hl hu (fi := 4) (th := 5) (most := 9) (by omega) (by omega) (by omega)) ?_
  rintro v H3 ⟨ws, Mo, Mi, n3, hO, hR, hn3, hH3⟩
  clear hH1
  have hV := made_ok (a := a) (b := b) (hs := hs) (fi := 4) (th := 5) (most := 9) (by omega) (by omega) (by omega)
  have hSv := hO.own.sl (Mi ++ (n0, Ch.row 49 0 0 (heapV a b hs)) :: M)
  have hRU := hR.mono (M' := Mo ++ (Mi ++ (n0, Ch.row 49 0 0 (heapV a b hs)) :: M)) fun q hq => List.mem_append_right _ hq
  have hwl : ws.length = 1 + a.toNat % 4 := by rw [hR.1, hV.len]
  clear hO hone hR
  generalize Mo ++ (Mi ++ (n0, Ch.row 49 0 0 (heapV a b hs)) :: M) = U at hH3 hRU hSv
  generalize madeVs a b hs 4 5 9 = vs at hRU hV
  generalize 1 + a.toNat % 4 = N at hV hwl
  generalize b.toNat % (5 + 1) = m at hV
  have hN1 := hV.pos
  have hN4 := hV.n4
  have hm6 := hV.m6
  have hvl := hV.len
  have hv1 := hSv.one_
  have hpw := pow_4096 hN4 hm6 hN1
  have hVU : ValsN U v vs := ⟨ws, hSv, hRU⟩
  have hpp : 0 < N ^ m := Nat.pow_pos (by omega)
  repeat' (first | refine zP ?_ | refine zA ?_ | (refine zM ?_; intro _ _) | refine zX ?_ | (refine zC ?_; intro _ _ _ _) | (refine zS ?_; intro _ _) | (apply Ws <;> intro hg))
  rename_i hH4
  refine WR.call (by first | exact gN | exact gS rfl) rfl rfl (ldivisions_fs (g := 60) (vs := vs) (n := N) (m := m)
    (J := fun k M' n' => n3 ≤ n' ∧ ∃ (bs : Value) (g1 g2 : Int) (Cx : HL), one bs = true ∧ ((k = 0 ∧ g1 = -1 ∧ g2 = 0 ∧ Cx = []) ∨ (1 ≤ k ∧ g1 = ((gainK vs N m (bestK (gainK vs N m) k)).1 : Nat) ∧ g2 = ((gainK vs N m (bestK (gainK vs N m) k)).2 : Nat) ∧ Sl Cx 1 bs (nodes (divK N m (bestK (gainK vs N m) k))))) ∧
      M' = (n3 + 1 + 1 + 1, Ch.row 3 0 0 [.int .i64 g2]) :: (n3 + 1 + 1, .row 3 0 0 [.int .i64 g1]) :: (n3 + 1, .row 23 0 0 [bs]) :: (Cx ++ ((n3, .row 22 0 0 [v]) :: U)))
    hV (hVU.mono fun q hq => by simp [hq]) ?_ (fun k M' n' n'' h1 h2 => ⟨by omega, h1.2⟩) ?_ hH4 ⟨by omega, .slice none 0 0, -1, 0, [], rfl, .inl ⟨rfl, rfl, rfl, rfl⟩, rfl⟩) ?_
  · rintro k _ n' ⟨_, bs, g1, g2, Cx, _, _, rfl⟩
    exact hVU.mono fun q hq => by simp [hq]
  · rintro k _ n' H5 ⟨hn', bs, g1, g2, Cx, hb1, hst, rfl⟩ hk hH5
    have hbs : bestK (gainK vs N m) (k + 1) = if k = 0 then 0 else if gtG (gainK vs N m k) (gainK vs N m (bestK (gainK vs N m) k)) = true then k else bestK (gainK vs N m) k := rfl
    have hgk : gainK vs N m k = (manyW (fun i => wor (vs.getD i []) (shr (IL (divK N m k)) i)) N, prodW (fun i => wor (vs.getD i []) (shr (IL (divK N m k)) i)) N) := gainK_eq
    refine FS.mono (most1_fs (l := divK N m k) (hH5.perm (List.perm_middle (l₁ := [_, _, _])).symm) hV (hVU.mono fun q hq => by simp [hq]) (by simp) (.head _) (divK_len N m k) (divK_ok hN1) rfl) ?_
    rintro _ H6 ⟨n6, hn6, ⟨hc, hH6⟩ | ⟨hc, b6, cp, hSc, hH6⟩⟩
    · refine ⟨_, n6, hH6.perm (List.perm_middle (l₁ := [_, _, _])), by omega, bs, g1, g2, Cx, hb1, ?_, rfl⟩
      rcases hst with ⟨rfl, rfl, rfl, _⟩ | ⟨h1, e1, e2, e3⟩
      · omega
      · have hbk : bestK (gainK vs N m) (k + 1) = bestK (gainK vs N m) k := by
          rw [hbs, if_neg (by omega), if_neg]
          rw [gt_iff, hgk]; simp only; omega
        exact .inr ⟨by omega, by rw [hbk]; exact e1, by rw [hbk]; exact e2, by rw [hbk]; exact e3⟩
    · have hbk : bestK (gainK vs N m) (k + 1) = k := by
        rw [hbs]
        split
        · omega
        · rename_i hk0
          rcases hst with ⟨h, _⟩ | ⟨_, e1, e2, _⟩
          · exact absurd h hk0
          · rw [if_pos (gt_iff.2 (by rw [hgk]; simp only; omega))]
      exact ⟨_, n6, hH6.perm (List.perm_middle (l₁ := [_, _, _, _])), by omega, .slice (some ⟨b6, 0, some 0⟩) m cp, _, _, (b6, .row 3 0 0 (nodes (divK N m k))) :: Cx, rfl, .inr ⟨by omega, by rw [hbk, hgk], by rw [hbk, hgk], by rw [hbk]; exact hSc.mono fun q hq => by rw [List.mem_singleton.1 hq]; exact .head _⟩, rfl⟩
  rintro _ H5 ⟨_, n5, hH5, hn5, bs, g1, g2, Cx, hb1, hst, rfl⟩
  rcases hst with ⟨h, _⟩ | ⟨_, _, _, hSb⟩
  · omega
  clear hH4 hH3
  obtain ⟨K, hK⟩ : ∃ K, K = bestK (gainK vs N m) (N ^ m) := ⟨_, rfl⟩
  have hKl : K < N ^ m := by rw [hK]; exact bestK_lt _ _ hpp
  have hmax : ∀ i, i < N ^ m → gtG (gainK vs N m i) (gainK vs N m K) = false := by rw [hK]; exact bestK_max _ _
  rw [← hK] at hSb
  have hpos := best_fair hV hmax
  have hnone := best_none hmax
  have hok := divK_ok (m := m) (k := K) hN1
  have hE := div_intro hV hok
  have hdl := divK_len N m K
  have hfl : (ILL vs).length = N := by simp [hvl]
  have hll : ∀ l ∈ ILL vs, l.length ≤ 1000 := fun l hl => by
    obtain ⟨q, hq, rfl⟩ := List.mem_map.1 hl
    rw [List.length_map, hV.row q hq]; omega
  have hc0 := vals_intro hV
  replace hVU : ValsN _ v vs := hVU.mono (M' := (n3 + 1 + 1 + 1, Ch.row 3 0 0 [.int .i64 g2]) :: (n3 + 1 + 1, .row 3 0 0 [.int .i64 g1]) :: (n3 + 1, .row 23 0 0 [bs]) :: (Cx ++ ((n3, .row 22 0 0 [v]) :: U))) fun q hq => by simp [hq]
  have hSf : Sl ((n3 + 1 + 1 + 1, Ch.row 3 0 0 [.int .i64 g2]) :: (n3 + 1 + 1, .row 3 0 0 [.int .i64 g1]) :: (n3 + 1, .row 23 0 0 [bs]) :: (Cx ++ ((n3, .row 22 0 0 [v]) :: U))) 1 bs (ints (IL (divK N m K))) := Sl.asInts (hSb.mono fun q hq => by simp [hq])
  have hmf : (n3 + 1, Ch.row 23 0 0 [bs]) ∈ (n3 + 1 + 1 + 1, Ch.row 3 0 0 [.int .i64 g2]) :: (n3 + 1 + 1, .row 3 0 0 [.int .i64 g1]) :: (n3 + 1, .row 23 0 0 [bs]) :: (Cx ++ ((n3, .row 22 0 0 [v]) :: U)) := by simp
  have hmv : (n3, Ch.row 22 0 0 [v]) ∈ (n3 + 1 + 1 + 1, Ch.row 3 0 0 [.int .i64 g2]) :: (n3 + 1 + 1, .row 3 0 0 [.int .i64 g1]) :: (n3 + 1, .row 23 0 0 [bs]) :: (Cx ++ ((n3, .row 22 0 0 [v]) :: U)) := by simp
  generalize (n3 + 1 + 1 + 1, Ch.row 3 0 0 [.int .i64 g2]) :: (n3 + 1 + 1, .row 3 0 0 [.int .i64 g1]) :: (n3 + 1, .row 23 0 0 [bs]) :: (Cx ++ ((n3, .row 22 0 0 [v]) :: U)) = T at hH5 hVU hSf hmf hmv
  clear hRU hSv
  repeat' (first | refine zP ?_ | refine zA ?_ | (refine zM ?_; intro _ _) | refine zX ?_ | (refine zC ?_; intro _ _ _ _) | (refine zS ?_; intro _ _) | (apply Ws <;> intro hg))
  refine WR.call (by first | exact gN | exact gS rfl) rfl rfl (Most_fs hH5 hVU.rows (by simp [hvl]; omega) hll) ?_
  rintro _ H6 ⟨Mx, n6, r, hn6, hH6, ⟨h, _⟩ | ⟨us, N2, m2, he, hV2, rfl, hSr⟩⟩
  · exact absurd hc0 h
  obtain ⟨rfl, rfl, rfl⟩ := okv_one hV hV2 he.symm
  rw [← hK] at hSr
  clear hH5
  replace hVU : ValsN (Mx ++ T) v us := hVU.mono fun q hq => List.mem_append_right _ hq
  replace hSf : Sl (Mx ++ T) 1 bs (ints (IL (divK N2 m2 K))) := hSf.mono fun q hq => List.mem_append_right _ hq
  replace hmf : (n3 + 1, Ch.row 23 0 0 [bs]) ∈ Mx ++ T := List.mem_append_right _ hmf
  replace hmv : (n3, Ch.row 22 0 0 [v]) ∈ Mx ++ T := List.mem_append_right _ hmv
  have hSo : Sl (Mx ++ T) 1 r (ints (IL (divK N2 m2 K))) := Sl.asInts (hSr.mono fun q hq => List.mem_append_left _ hq)
  generalize Mx ++ T = Z at hH6 hVU hSf hmf hmv hSo
  repeat' (first | refine zP ?_ | refine zA ?_ | (refine zM ?_; intro _ _) | refine zX ?_ | (refine zC ?_; intro _ _ _ _) | (refine zS ?_; intro _ _) | refine zO ?_ | (apply Ws <;> intro hg))
  refine WR.call (by first | exact gN | exact gS rfl) rfl rfl (sameI_fs hH6 hSo hSf (by simp [hdl]; omega) (by simp [hdl]; omega)) ?_
  rintro _ _ ⟨rfl, rfl⟩
  rw [decide_eq_true rfl]
  repeat' (first | refine zP ?_ | refine zA ?_ | (refine zM ?_; intro _ _) | refine zX ?_ | (refine zC ?_; intro _ _ _ _) | (refine zS ?_; intro _ _) | refine zO ?_ | (apply Ws <;> intro hg))
  refine WR.call (by first | exact gN | exact gS rfl) rfl rfl (judged_fs hH6 hV hVU hSo hok.part) ?_
  rintro _ H7 ⟨rfl, n7, hn7, hH7⟩
  have hfc : fairC (ILL us) (IL (divK N2 m2 K)) = fairN us (shs N2 (IL (divK N2 m2 K))) := by unfold fairC; rw [if_pos hE, natV_ILL, hfl]
  obtain ⟨F, hF⟩ : ∃ F, F = fairN us (shs N2 (IL (divK N2 m2 K))) := ⟨_, rfl⟩
  rw [← hF] at hpos hfc ⊢
  clear hH6
  repeat' (first | refine zP ?_ | refine zA ?_ | (refine zM ?_; intro _ _) | refine zX ?_ | (refine zC ?_; intro _ _ _ _) | (refine zS ?_; intro _ _) | (apply Ws <;> intro hg))
  rename_i H8 hH8
  refine WR.store2 (by first | exact gN | exact gS rfl) hH8 rfl rfl rfl rfl .here fun H9 hH9 => ?_
  clear hH8 hH7
  replace hVU := hVU.cons (p := (n7, .row 58 0 0 [.int .i64 (((pairsL (muchP us (shs N2 (IL (divK N2 m2 K)))) N2).headD (0, 0)).1 : Nat), .int .i64 (((pairsL (muchP us (shs N2 (IL (divK N2 m2 K)))) N2).headD (0, 0)).2 : Nat)]))
  replace hSo := hSo.cons (p := (n7, .row 58 0 0 [.int .i64 (((pairsL (muchP us (shs N2 (IL (divK N2 m2 K)))) N2).headD (0, 0)).1 : Nat), .int .i64 (((pairsL (muchP us (shs N2 (IL (divK N2 m2 K)))) N2).headD (0, 0)).2 : Nat)]))
  replace hmv := List.mem_cons_of_mem (n7, Ch.row 58 0 0 [.int .i64 (((pairsL (muchP us (shs N2 (IL (divK N2 m2 K)))) N2).headD (0, 0)).1 : Nat), .int .i64 (((pairsL (muchP us (shs N2 (IL (divK N2 m2 K)))) N2).headD (0, 0)).2 : Nat)]) hmv
  generalize (n7, Ch.row 58 0 0 [.int .i64 (((pairsL (muchP us (shs N2 (IL (divK N2 m2 K)))) N2).headD (0, 0)).1 : Nat), .int .i64 (((pairsL (muchP us (shs N2 (IL (divK N2 m2 K)))) N2).headD (0, 0)).2 : Nat)]) :: Z = Y at hH9 hVU hSo hmv
  repeat' (first | refine zP ?_ | refine zA ?_ | (refine zM ?_; intro _ _) | refine zX ?_ | (refine zC ?_; intro _ _ _ _) | (refine zS ?_; intro _ _) | (apply Ws <;> intro hg))
  refine WR.call (by first | exact gN | exact gS rfl) rfl rfl (Fair_fs hH9 hVU.rows (by simp [hvl]; omega) hll hSo (by simp [hdl]; omega)) ?_
  rintro _ HA ⟨rfl, nA, hnA, hHA⟩
  rw [hE, hfc]
  clear hH9
  repeat' (first | refine zP ?_ | refine zA ?_ | (refine zM ?_; intro _ _) | refine zX ?_ | (refine zC ?_; intro _ _ _ _) | (refine zS ?_; intro _ _) | (apply Ws <;> intro hg))
  refine WR.call (by first | exact gN | exact gS rfl) rfl rfl (Better_fs hHA hVU.rows (by simp [hvl]; omega) hll hSo (by simp [hdl]; omega)) ?_
  rintro _ HB ⟨nB, hnB, ⟨h, _⟩ | ⟨us2, N3, m3, he3, hV3, _, ⟨_, rfl, hHB⟩ | ⟨k, b3, cp3, hk3, hb3, _⟩⟩⟩
  · exact absurd hE h
  · clear hHA
    repeat' (first | refine zP ?_ | refine zA ?_ | (refine zM ?_; intro _ _) | refine zX ?_ | (refine zC ?_; intro _ _ _ _) | (refine zS ?_; intro _ _) | refine zO ?_ | (apply Ws <;> intro hg))
    refine WR.call (by first | exact gN | exact gS rfl) rfl rfl (FS.works (C := C) (R := fun v H' => v = .bool true) rfl) ?_
    rintro _ _ rfl
    repeat' (first | refine zP ?_ | refine zA ?_ | (refine zM ?_; intro _ _) | refine zX ?_ | (refine zC ?_; intro _ _ _ _) | (refine zS ?_; intro _ _) | (apply Ws <;> intro hg))
    exact Ends.ret1 rfl rfl
  · obtain ⟨rfl, rfl, rfl⟩ := okv_one hV hV3 he3.symm
    rw [hnone k hk3] at hb3; cases hb3
end
end Go.Proofs.Ytaipmdhnhffckaa.Sh
