/- Texts of the law, joined. -/
import Derived.Test.YtnmlfjohoeebiaaJ3
/- The law tries all lists of inspectors. -/
namespace Go.Proofs.Ytnmlfjohoeebiaa.Wk
open Go Go.Abs Go.Mth
set_option linter.unusedVariables false
set_option linter.unusedSimpArgs false
abbrev ptrT (b : Nat) : Value := .pointer (some ⟨b, 0, some 0⟩)
noncomputable def evL (T : List Int) (m : Nat) : List Bool := (List.range m).map (everE T)
theorem evL_len (T : List Int) (m : Nat) : (evL T m).length = m := by simp [evL]
theorem evL_get {T : List Int} {m s : Nat} (h : s < m) : (evL T m).getD s false = everE T s := by
  rw [getD_eq (by rw [evL_len]; exact h)]; simp [evL]
noncomputable def goodK (T : List Int) (l : List Nat) (x : Nat) : Bool := (List.range x).all fun g => everE T (setO l g T.length)
theorem goodK_succ (T : List Int) (l : List Nat) (x : Nat) : goodK T l (x + 1) = (goodK T l x && everE T (setO l x T.length)) := by
  simp [goodK, List.range_succ]
theorem goodK_valid {T : List Int} {l : List Nat} (x : Nat) : goodK T l x = validB T x l := by
  unfold goodK validB
  congr 1
  funext g
  exact everE_set
structure PV where
  k : Nat
  bv : Value
  X : HL
  n : Nat
structure XV where
  k : Nat
  g : Bool
noncomputable def putK (T : List Int) (k : Nat) (l : List Nat) (B : List Nat × Nat) (x : Nat) : List Nat × Nat := (List.range x).foldl (fun B y => putB T k (l ++ [y]) B) B
theorem putK_succ (T : List Int) (k : Nat) (l : List Nat) (B : List Nat × Nat) (x : Nat) : putK T k l B (x + 1) = putB T k (l ++ [x]) (putK T k l B x) := by
  simp [putK, List.range_succ]
attribute [local irreducible] gOK WS WC WR WD Ends FS YS OpV seqK blockK loopK midK retK rdK asgK rangeEnd sat Cell
section
variable {bn be bf bb bp vb : Nat} {T : List Int} {X0 : HL}
set_option maxHeartbeats 2000000 in
theorem put_fs (hT : TOK T) (h1 : 1 ≤ T.length) (hmN : (bn, Ch.row 3 0 0 [.int .i64 (T.length : Int)]) ∈ X0)
    (hmE : (be, Ch.row 60 0 0 [.slice (some ⟨vb, 0, some 0⟩) (2 ^ T.length) (2 * 2 ^ T.length + 1)]) ∈ X0)
    (hmV : (vb, Ch.row 4 0 0 (bools (evL T (2 ^ T.length)))) ∈ X0)
    (hmP : (bp, Ch.row 61 0 0 [.func (.func 46) [].toArray [ptrT bn, ptrT be, ptrT bf, ptrT bb, ptrT bp].toArray]) ∈ X0) :
    ∀ (k : Nat) {l : List Nat} {v bv : Value} {B : List Nat × Nat} {X : HL} {n0 : Nat} {H : Heap} (hk : l.length + k = T.length) (hq : nxt l ≤ l.length) (hl : LstV X v (nodes l)) (hb : LstV X bv (nodes B.1)) (hB2 : B.2 ≤ 9) (hX : ∀ q ∈ X0, q ∈ X)
      (hH : hasH ((bb, .row 22 0 0 [bv]) :: (bf, .row 3 0 0 [.int .i64 (B.2 : Int)]) :: X) n0 H),
      FS C 46 [v, .int .i64 (nxt l : Int), ptrT bn, ptrT be, ptrT bf, ptrT bb, ptrT bp] H
        (fun e H' => ∃ bv' X' n', LstV X' bv' (nodes (putB T k l B).1) ∧ (putB T k l B).2 ≤ 9 ∧ (∀ q ∈ X, q ∈ X') ∧ n0 ≤ n' ∧ hasH ((bb, .row 22 0 0 [bv']) :: (bf, .row 3 0 0 [.int .i64 ((putB T k l B).2 : Int)]) :: X') n' H') := by
  have hT4 := hT.len
  intro k
  induction k with
  | zero =>
    intro l v bv B X n0 H hk hq hl hb hB2 hX hH
    have hlN : l.length = T.length := by omega
    obtain ⟨m, hm⟩ : ∃ m, 2 ^ T.length = m := ⟨_, rfl⟩
    have hm16 : m ≤ 16 := by rw [← hm]; exact Nat.le_trans (Nat.pow_le_pow_right (by omega) hT4) (by decide)
    rw [hm] at hmE hmV
    have mN : (bn, Ch.row 3 0 0 [.int .i64 (T.length : Int)]) ∈ (bb, Ch.row 22 0 0 [bv]) :: (bf, .row 3 0 0 [.int .i64 (B.2 : Int)]) :: X := List.mem_cons_of_mem _ (List.mem_cons_of_mem _ (hX _ hmN))
    have mE : (be, Ch.row 60 0 0 [.slice (some ⟨vb, 0, some 0⟩) m (2 * m + 1)]) ∈ (bb, Ch.row 22 0 0 [bv]) :: (bf, .row 3 0 0 [.int .i64 (B.2 : Int)]) :: X := List.mem_cons_of_mem _ (List.mem_cons_of_mem _ (hX _ hmE))
    have hSl : Sl ((bb, Ch.row 22 0 0 [bv]) :: (bf, .row 3 0 0 [.int .i64 (B.2 : Int)]) :: X) 1 v (nodes l) := hl.sl.cons.cons
    have hSV : Sl ((bb, Ch.row 22 0 0 [bv]) :: (bf, .row 3 0 0 [.int .i64 (B.2 : Int)]) :: X) 1 (.slice (some ⟨vb, 0, some 0⟩) m (2 * m + 1)) (bools (evL T m)) :=
      .row (lo := 0) (cs := bools (evL T m)) (List.mem_cons_of_mem _ (List.mem_cons_of_mem _ (hX _ hmV))) (.row _ _ _ _) (Nat.le_refl _) (by simp [evL_len]) (by simp [List.take_of_length_le]) (by simp) (.inr ⟨m, rfl, Nat.le_refl _⟩)
    have hv1 := hl.one_
    refine FS.intro (pf := pf46) rfl rfl rfl ?_
    repeat' (first | refine zP ?_ | refine zA ?_ | (refine zM ?_; intro _ _) | refine zX ?_ | (refine zC ?_; intro _ _ _ _) | (refine zS ?_; intro _ _) | refine zO ?_ | (apply Ws <;> intro hg))
    refine WC.loopX [(0, _), (1, _), (2, _), (3, _), (4, _), (5, _), (6, _), (19, _)] (fun z : XV => [(20, .int .i64 (z.k : Int)), (9, .bool z.g)]) [] (fun z H' => H' = H ∧ z.k ≤ nxt l ∧ z.g = goodK T l z.k) (fun z => nxt l - z.k) ⟨0, true⟩ (by repeat' (first | exact .nil | refine .cons rfl ?_)) rfl ⟨rfl, Nat.zero_le _, rfl⟩ ?_
    rintro ⟨x, g⟩ H1 ⟨rfl, hx, hg⟩
    simp only at hx hg
    dsimp only [List.cons_append, List.nil_append]
    repeat' (first | refine zP ?_ | refine zA ?_ | (refine zM ?_; intro _ _) | refine zX ?_ | (refine zC ?_; intro _ _ _ _) | (refine zS ?_; intro _ _) | (apply Ws <;> intro hg))
    refine WC.condP rfl (fun hlt => ?_) (fun hlt => ?_)
    · have hx' : x < nxt l := by omega
      repeat' (first | refine zP ?_ | refine zA ?_ | (refine zM ?_; intro _ _) | refine zX ?_ | (refine zC ?_; intro _ _ _ _) | (refine zS ?_; intro _ _) | (apply Ws <;> intro hg))
      refine WC.loopX [(0, _), (1, _), (2, _), (3, _), (4, _), (5, _), (6, _), (19, _), (20, _), (9, _), (10, .int .i64 (x : Int)), (23, v), (24, .int .i64 (l.length : Int))] (fun s : Nat => [(25, .int .i64 (s : Int)), (11, .int .i64 ((setO l x s : Nat) : Int))]) [] (fun s H' => H' = H1 ∧ s ≤ l.length) (fun s => l.length - s) 0 (by repeat' (first | exact .nil | refine .cons rfl ?_)) rfl ⟨rfl, Nat.zero_le _⟩ ?_
      rintro s H2 ⟨rfl, hs⟩
      have hbd := setO_lt l x s
      dsimp only [List.cons_append, List.nil_append]
      repeat' (first | refine zP ?_ | refine zA ?_ | (refine zM ?_; intro _ _) | refine zX ?_ | (refine zC ?_; intro _ _ _ _) | (refine zS ?_; intro _ _) | (apply Ws <;> intro hg))
      refine WC.condP rfl (fun hlt2 => ?_) (fun hlt2 => ?_)
      · have hs' : s < l.length := by omega
        have h2s : 2 ^ s ≤ 8 := Nat.le_trans (Nat.pow_le_pow_right (by omega) (show s ≤ 3 by omega)) (by decide)
        have hnx : setO l x (s + 1) = if l.getD s 0 = x then setO l x s ||| 2 ^ s else setO l x s := rfl
        by_cases hle : l.getD s 0 = x
        · rw [if_pos hle] at hnx
          repeat' (first | refine zP ?_ | refine zA ?_ | (refine zM ?_; intro _ _) | refine zX ?_ | (refine zC ?_; intro _ _ _ _) | (refine zS ?_; intro _ _) | refine zO ?_ | (apply Ws <;> intro hg))
          refine WR.op (by first | exact gN | exact gS rfl) rfl (OpV.shl1 rfl rfl (by show s ≤ 64; omega) (by show 2 ^ s < 2 ^ 63; omega)) ?_
          repeat' (first | refine zP ?_ | refine zA ?_ | (refine zM ?_; intro _ _) | refine zX ?_ | (refine zC ?_; intro _ _ _ _) | (refine zS ?_; intro _ _) | (apply Ws <;> intro hg))
          refine WR.op (by first | exact gN | exact gS rfl) rfl (OpV.orN rfl rfl (by show _ < 2 ^ 63; omega) (by show 2 ^ s < 2 ^ 63; omega)) ?_
          rw [← hnx]
          repeat' (first | refine zP ?_ | refine zA ?_ | (refine zM ?_; intro _ _) | refine zX ?_ | (refine zC ?_; intro _ _ _ _) | (refine zS ?_; intro _ _) | (apply Ws <;> intro hg))
          exact Ends.loop (s + 1) (by omega) (by repeat' (first | exact .nil | refine .cons rfl ?_)) rfl ⟨rfl, by omega⟩
        · rw [if_neg hle] at hnx
          rw [← hnx]
          repeat' (first | refine zP ?_ | refine zA ?_ | (refine zM ?_; intro _ _) | refine zX ?_ | (refine zC ?_; intro _ _ _ _) | (refine zS ?_; intro _ _) | refine zO ?_ | (apply Ws <;> intro hg))
          exact Ends.loop (s + 1) (by omega) (by repeat' (first | exact .nil | refine .cons rfl ?_)) rfl ⟨rfl, by omega⟩
      · have hst : s = T.length := by omega
        subst hst
        have hsm : setO l x T.length < m := by rw [← hm]; exact setO_lt _ _ _
        have hgs := goodK_succ T l x
        have hev := evL_get (T := T) hsm
        have hEl := evL_len T m
        generalize setO l x T.length = st at hsm hgs hev hbd
        cases g with
        | true =>
          have hcell : (bools (evL T m))[st]? = some (.bool (everE T st)) := by rw [← hev]; exact bools_get (by rw [hEl]; exact hsm)
          repeat' (first | refine zP ?_ | refine zA ?_ | (refine zM ?_; intro _ _) | refine zX ?_ | (refine zC ?_; intro _ _ _ _) | (refine zS ?_; intro _ _) | (apply Ws <;> intro hg))
          refine WR.op (by first | exact gN | exact gS rfl) rfl (OpV.load1 rfl hH (List.mem_cons_of_mem _ (List.mem_cons_of_mem _ (hX _ hmV))) (.row _ _ _ _) (Nat.zero_le _) hcell) ?_
          repeat' (first | refine zP ?_ | refine zA ?_ | (refine zM ?_; intro _ _) | refine zX ?_ | (refine zC ?_; intro _ _ _ _) | (refine zS ?_; intro _ _) | (apply Ws <;> intro hg))
          refine Ends.loop ⟨x + 1, everE T st⟩ (by simp only; omega) (by repeat' (first | exact .nil | refine .cons rfl ?_)) rfl ⟨rfl, hx', ?_⟩
          show everE T st = goodK T l (x + 1)
          rw [hgs, ← hg]; rfl
        | false =>
          repeat' (first | refine zP ?_ | refine zA ?_ | (refine zM ?_; intro _ _) | refine zX ?_ | (refine zC ?_; intro _ _ _ _) | (refine zS ?_; intro _ _) | (apply Ws <;> intro hg))
          refine Ends.loop ⟨x + 1, false⟩ (by simp only; omega) (by repeat' (first | exact .nil | refine .cons rfl ?_)) rfl ⟨rfl, hx', ?_⟩
          show false = goodK T l (x + 1)
          rw [hgs, ← hg]; rfl
    · have hxn : x = nxt l := by omega
      subst hxn
      rw [goodK_valid] at hg
      cases g with
      | true =>
        by_cases h3 : nxt l < B.2
        · have hput : putB T 0 l B = (l, nxt l) := by unfold putB; rw [if_pos ⟨hg.symm, h3⟩]
          rw [hput]
          repeat' (first | refine zP ?_ | refine zA ?_ | (refine zM ?_; intro _ _) | refine zX ?_ | (refine zC ?_; intro _ _ _ _) | (refine zS ?_; intro _ _) | refine zO ?_ | (apply Ws <;> intro hg))
          rename_i H3 hH3
          exact Ends.ret0 ⟨v, X, n0, hl, by simp only; omega, fun q h => h, Nat.le_refl _, hH3⟩
        · have hput : putB T 0 l B = B := by unfold putB; rw [if_neg fun h => h3 h.2]
          rw [hput]
          repeat' (first | refine zP ?_ | refine zA ?_ | (refine zM ?_; intro _ _) | refine zX ?_ | (refine zC ?_; intro _ _ _ _) | (refine zS ?_; intro _ _) | refine zO ?_ | (apply Ws <;> intro hg))
          exact Ends.ret0 ⟨bv, X, n0, hb, hB2, fun q h => h, Nat.le_refl _, hH⟩
      | false =>
        have hput : putB T 0 l B = B := by unfold putB; rw [if_neg fun h => by rw [h.1] at hg; cases hg]
        rw [hput]
        repeat' (first | refine zP ?_ | refine zA ?_ | (refine zM ?_; intro _ _) | refine zX ?_ | (refine zC ?_; intro _ _ _ _) | (refine zS ?_; intro _ _) | refine zO ?_ | (apply Ws <;> intro hg))
        exact Ends.ret0 ⟨bv, X, n0, hb, hB2, fun q h => h, Nat.le_refl _, hH⟩
  | succ k ih =>
    intro l v bv B X n0 H hk hq hl hb hB2 hX hH
    have hlN : l.length < T.length := by omega
    have mN : (bn, Ch.row 3 0 0 [.int .i64 (T.length : Int)]) ∈ (bb, Ch.row 22 0 0 [bv]) :: (bf, .row 3 0 0 [.int .i64 (B.2 : Int)]) :: X := List.mem_cons_of_mem _ (List.mem_cons_of_mem _ (hX _ hmN))
    have hSl : Sl ((bb, Ch.row 22 0 0 [bv]) :: (bf, .row 3 0 0 [.int .i64 (B.2 : Int)]) :: X) 1 v (nodes l) := hl.sl.cons.cons
    refine FS.intro (pf := pf46) rfl rfl rfl ?_
    repeat' (first | refine zP ?_ | refine zA ?_ | (refine zM ?_; intro _ _) | refine zX ?_ | (refine zC ?_; intro _ _ _ _) | (refine zS ?_; intro _ _) | refine zO ?_ | (apply Ws <;> intro hg))
    clear hSl mN
    refine WC.loopX [(0, _), (1, _), (2, _), (3, _), (4, _), (5, _), (6, _)] (fun z : PV => [(14, .int .i64 (z.k : Int))]) []
      (fun z H' => z.k ≤ nxt l + 1 ∧ LstV z.X z.bv (nodes (putK T k l B z.k).1) ∧ (putK T k l B z.k).2 ≤ 9 ∧ (∀ q ∈ X, q ∈ z.X) ∧ n0 ≤ z.n ∧ hasH ((bb, .row 22 0 0 [z.bv]) :: (bf, .row 3 0 0 [.int .i64 ((putK T k l B z.k).2 : Int)]) :: z.X) z.n H')
      (fun z => nxt l + 1 - z.k) ⟨0, bv, X, n0⟩ (by repeat' (first | exact .nil | refine .cons rfl ?_)) rfl ⟨Nat.zero_le _, hb, hB2, fun q h => h, Nat.le_refl _, hH⟩ ?_
    clear hH hb hB2
    rintro ⟨x, b2, X2, n2⟩ H2 ⟨hx, hb, hB2, hX2, hn2, hH2⟩
    simp only at hx hb hB2 hX2 hn2 hH2
    have hsucc := putK_succ T k l B x
    dsimp only [List.cons_append, List.nil_append]
    repeat' (first | refine zP ?_ | refine zA ?_ | (refine zM ?_; intro _ _) | refine zX ?_ | (refine zC ?_; intro _ _ _ _) | (refine zS ?_; intro _ _) | (apply Ws <;> intro hg))
    refine WC.condP rfl (fun hlt => ?_) (fun hlt => ?_)
    · have hx' : x ≤ nxt l := by omega
      generalize putK T k l B x = Bx at hb hB2 hH2 hsucc
      have hl2 := hl.mono hX2
      have mP : (bp, Ch.row 61 0 0 [.func (.func 46) [].toArray [ptrT bn, ptrT be, ptrT bf, ptrT bb, ptrT bp].toArray]) ∈ (bb, Ch.row 22 0 0 [b2]) :: (bf, .row 3 0 0 [.int .i64 (Bx.2 : Int)]) :: X2 := List.mem_cons_of_mem _ (List.mem_cons_of_mem _ (hX2 _ (hX _ hmP)))
      repeat' (first | refine zP ?_ | refine zA ?_ | (refine zM ?_; intro _ _) | refine zX ?_ | (refine zC ?_; intro _ _ _ _) | (refine zS ?_; intro _ _) | (apply Ws <;> intro hg))
      refine WC.regionD ?_
      refine WD.load1 (by first | exact gN | exact gS rfl) rfl rfl (hH2.read mP (.row _ _ _ _) (Nat.zero_le _) rfl) ?_
      repeat' (first | refine zD ?_ | (refine zE ?_; intro _ _ _ _))
      have hmax : Max.max ((nxt l : Nat) : Int) ((x : Int) + 1) = ((nxt (l ++ [x]) : Nat) : Int) := by rw [nxt_snoc]; omega
      have hnq : nxt (l ++ [x]) ≤ (l ++ [x]).length := by rw [nxt_snoc]; simp; omega
      have hone : (nodes l).all one = true := by rw [List.all_eq_true]; intro q hq; obtain ⟨z, _, rfl⟩ := List.mem_map.1 hq; rfl
      have hnl : (nodes l).length = l.length := by simp
      refine WD.op (by first | exact gN | exact gS rfl) rfl (OpV.max' rfl rfl hmax) rfl (stands_nil _ _) ?_
      have hst : ∀ {Y : HL} {n' : Nat} {H' : Heap}, hasH Y n' H' → (bp, Ch.row 61 0 0 [.func (.func 46) [].toArray [ptrT bn, ptrT be, ptrT bf, ptrT bb, ptrT bp].toArray]) ∈ Y → stands H' [0] [⟨0, ⟨bp, 0, some 0⟩, none, .func (.func 46) [].toArray [ptrT bn, ptrT be, ptrT bf, ptrT bb, ptrT bp].toArray⟩] = true := fun h hm =>
        stands_cons (.inr (holds_at (h.read hm (.row _ _ _ _) (Nat.zero_le _) rfl) (same_fn _ [⟨bn, 0, some 0⟩, ⟨be, 0, some 0⟩, ⟨bf, 0, some 0⟩, ⟨bb, 0, some 0⟩, ⟨bp, 0, some 0⟩]))) stands_nil'
      refine WD.call (by first | exact gN | exact gS rfl) rfl rfl (Clip_fs hH2 (hl2.mono fun q hq => List.mem_cons_of_mem _ (List.mem_cons_of_mem _ hq)) (by omega)) ?_
      rintro v3 _ ⟨hCV, rfl⟩
      refine ⟨hst hH2 mP, ?_⟩
      refine WD.bldS (by first | exact gN | exact gS rfl) rfl hH2 (vs := [(0, .int .i64 (x : Int))]) rfl (cs := [.int .i64 (x : Int)]) (by rfl) rfl (fun H3 hH3 => hst hH3 (List.mem_cons_of_mem _ mP)) fun H3 hH3 => ?_
      refine WD.appFull (by first | exact gN | exact gS rfl) rfl hH3 rfl (hCV.mono fun q hq => List.mem_cons_of_mem _ hq) rfl (.head _) hone rfl (by omega) fun H4 hH4 => ⟨hst hH4 (List.mem_cons_of_mem _ (List.mem_cons_of_mem _ mP)), ?_⟩
      refine WD.toWR rfl ?_
      have hns : nodes l ++ [Value.int .i64 (x : Int)] = nodes (l ++ [x]) := by simp [nodes]
      rw [hns] at hH4
      rw [hnl]
      have hH5 := hH4.perm ((List.perm_middle (l₁ := [_, _])).trans (.cons _ (List.perm_middle (l₁ := [_, _]))))
      have hlN2 : LstV ((n2 + 1, Ch.row 3 0 0 (nodes (l ++ [x]))) :: (n2, .row 3 0 0 [.int .i64 (x : Int)]) :: X2) (.slice (some ⟨n2 + 1, 0, some 0⟩) (l.length + 1) (2 * 1)) (nodes (l ++ [x])) := by
        refine .inr ⟨by simp [nodes], n2 + 1, 0, 0, 2 * 1, by simp, ⟨_, 0, nodes (l ++ [x]), .head _, .row _ _ _ _, Nat.le_refl _, by simp, ?_⟩, .inl rfl⟩
        rw [Nat.sub_zero, List.drop_zero, List.take_length]
      refine WR.callV (by first | exact gN | exact gS rfl) rfl rfl rfl (ih (l := l ++ [x]) (B := Bx) (by simp; omega) hnq hlN2 (hb.mono fun q hq => List.mem_cons_of_mem _ (List.mem_cons_of_mem _ hq)) hB2 (fun q hq => List.mem_cons_of_mem _ (List.mem_cons_of_mem _ (hX2 _ (hX _ hq)))) hH5) ?_
      rintro _ H6 ⟨b6, X6, n6, hb6, hB6, hX6, hn6, hH6⟩
      rw [← hsucc] at hb6 hB6 hH6
      repeat' (first | refine zP ?_ | refine zA ?_ | (refine zM ?_; intro _ _) | refine zX ?_ | (refine zC ?_; intro _ _ _ _) | (refine zS ?_; intro _ _) | (apply Ws <;> intro hg))
      exact Ends.loop ⟨x + 1, b6, X6, n6⟩ (by simp only; omega) (by repeat' (first | exact .nil | refine .cons rfl ?_)) rfl ⟨by simp only; omega, hb6, hB6, fun q hq => hX6 _ (List.mem_cons_of_mem _ (List.mem_cons_of_mem _ (hX2 _ hq))), by simp only; omega, hH6⟩
    · have hxn : x = nxt l + 1 := by omega
      subst hxn
      have he : putB T (k + 1) l B = putK T k l B (nxt l + 1) := rfl
      rw [he]
      repeat' (first | refine zP ?_ | refine zA ?_ | (refine zM ?_; intro _ _) | refine zX ?_ | (refine zC ?_; intro _ _ _ _) | (refine zS ?_; intro _ _) | (apply Ws <;> intro hg))
      exact Ends.end0 ⟨b2, X2, n2, hb, hB2, hX2, hn2, hH2⟩
end
end Go.Proofs.Ytnmlfjohoeebiaa.Wk

/- The law WalkGrouped. -/
namespace Go.Proofs.Ytnmlfjohoeebiaa.Wk
open Go Go.Abs Go.Mth
set_option linter.unusedVariables false
set_option linter.unusedSimpArgs false
noncomputable def evK (T : List Int) (m k : Nat) : List Bool := (List.range m).map fun s => decide (s < k) && everE T s
theorem evK_len (T : List Int) (m k : Nat) : (evK T m k).length = m := by simp [evK]
theorem evK_one (T : List Int) (m : Nat) : evK T m 1 = List.replicate m false := by
  refine List.eq_replicate_iff.2 ⟨evK_len _ _ _, fun b hb => ?_⟩
  obtain ⟨s, _, rfl⟩ := List.mem_map.1 hb
  by_cases h : s < 1
  · rw [show s = 0 by omega, everE_zero, Bool.and_false]
  · rw [decide_eq_false h, Bool.false_and]
theorem evK_set {T : List Int} {m k : Nat} (h : k < m) : (evK T m k).set k (everE T k) = evK T m (k + 1) := by
  refine List.ext_getElem (by simp [evK_len]) fun i h1 h2 => ?_
  rw [List.getElem_set]
  simp only [evK, List.getElem_map, List.getElem_range]
  split
  · rename_i e; subst e; rw [decide_eq_true (Nat.lt_succ_self _), Bool.true_and]
  · congr 1
    rw [decide_eq_decide]; omega
theorem evK_all (T : List Int) (m : Nat) : evK T m m = evL T m := by
  unfold evK evL
  refine List.map_congr_left fun s hs => ?_
  rw [decide_eq_true (List.mem_range.1 hs), Bool.true_and]
theorem bit_and (a s : Nat) : (((a >>> s &&& 1 : Nat) : Int) = 1) ↔ a.testBit s = true := by
  rw [Nat.and_one_is_mod, Nat.shiftRight_eq_div_pow, Nat.testBit_eq_decide_div_mod_eq, decide_eq_true_eq]
  omega
theorem same_sl (a : Addr) (n c : Nat) : same1 (.slice (some a) n c) (.slice (some a) n c) = true := by simp [same1, same0, sameAddr_refl]
theorem nodes_cast (l : List Nat) : nodes l = ints (castN l) := by simp [nodes, ints, castN]
structure EV where
  k : Nat
  n : Nat
  Y : HL
attribute [local irreducible] gOK WS WC WR WD Ends FS YS OpV seqK blockK loopK midK retK rdK asgK rangeEnd sat Cell
section
variable {M : HL} {n0 : Nat} {H : Heap} {v w : Value}
set_option maxHeartbeats 2000000 in
theorem WalkGrouped_fs (hH : hasH M n0 H) {a b c : Int} {hs : List Int} (ha : 0 ≤ a ∧ a ≤ 255) (hb : 0 ≤ b ∧ b ≤ 255) (hc : 0 ≤ c ∧ c ≤ 255) (hl : hs.length = 2) (hu : ∀ x ∈ hs, 0 ≤ x ∧ x ≤ 255) :
    FS C 13 [.agg (trayV a b c hs).toArray] H (fun e H' => e = .bool true) := by
  obtain ⟨x, ys, hE, hx, hyl, hy⟩ := tray_beach ha hb hc hl hu
  rw [hE]
  clear hE ha hb hc hl hu
  have hone := beach_one x ys
  have hbl : (beachC x ys).length = 5 := by simp [beachC, hyl]
  refine FS.intro (pf := pf13) rfl rfl rfl ?_
  repeat' (first | refine zP ?_ | refine zA ?_ | (refine zM ?_; intro _ _) | refine zX ?_ | (refine zC ?_; intro _ _ _ _) | (refine zS ?_; intro _ _) | (apply Ws <;> intro hg))
  rename_i H1 hH1
  refine WR.call (by first | exact gN | exact gS rfl) rfl rfl (made_fs (many := 4) (most := 5) hH1 hx hyl hy (by omega) (by omega)) ?_
  rintro tv H2 ⟨MT, n2, hOT, hn2, hH2⟩
  have hST := hOT.sl ((n0, .row 45 0 0 (beachC x ys)) :: M)
  clear hOT hH1
  generalize MT ++ ((n0, .row 45 0 0 (beachC x ys)) :: M) = T0 at hH2 hST
  obtain ⟨N, hN⟩ : ∃ N, 1 + x % 4 = N := ⟨_, rfl⟩
  have hN4 : 1 ≤ N ∧ N ≤ 4 := by omega
  rw [hN] at hST
  have hTok := made_ok (ys := ys) (most := 5) (n := N) (by omega) (by omega)
  have hTl : (firstT (madeF 5) ys N).length = N := firstT_len _ _ _
  generalize firstT (madeF 5) ys N = T at hST hTok hTl
  have hE := errT_of hTok (by omega)
  have hTl4 := hTok.len
  have hT1 : 1 ≤ T.length := by omega
  obtain ⟨m, hm⟩ : ∃ m, 2 ^ T.length = m := ⟨_, rfl⟩
  have hm16 : m ≤ 16 := by rw [← hm]; exact Nat.le_trans (Nat.pow_le_pow_right (by omega) hTl4) (by decide)
  have hm2 : 2 ≤ m := by rw [← hm]; exact Nat.le_trans (by decide) (Nat.pow_le_pow_right (n := 2) (by omega) hT1)
  have htv := hST.one_
  repeat' (first | refine zP ?_ | refine zA ?_ | (refine zM ?_; intro _ _) | refine zX ?_ | (refine zC ?_; intro _ _ _ _) | (refine zS ?_; intro _ _) | (apply Ws <;> intro hg))
  rename_i H3 hH3
  refine WR.op (by first | exact gN | exact gS rfl) rfl (OpV.shl1 rfl rfl (by show T.length ≤ 64; omega) (by show 2 ^ T.length < 2 ^ 63; omega)) ?_
  rw [hm]
  refine WR.mkS (m := m) (by first | exact gN | exact gS rfl) rfl hH3 rfl rfl (by omega) rfl fun H4 hH4 => ?_
  have hz : List.replicate m (Value.bool false) = bools (evK T m 1) := by rw [evK_one, bools, List.map_replicate]
  rw [hz] at hH4
  repeat' (first | refine zP ?_ | refine zA ?_ | (refine zM ?_; intro _ _) | refine zX ?_ | (refine zC ?_; intro _ _ _ _) | (refine zS ?_; intro _ _) | (apply Ws <;> intro hg))
  rename_i H5 hH5 H6 hH6
  clear hH2 hH3 hH4 hH5
  have hST6 : Sl ((n2 + 1 + 1, .row 60 0 0 [.slice (some ⟨n2 + 1, 0, some 0⟩) m (2 * m + 1)]) :: (n2 + 1, .row 4 0 0 (bools (evK T m 1))) :: (n2, .row 3 0 0 [.int .i64 (T.length : Int)]) :: T0) 1 tv (ints T) := hST.cons.cons.cons
  clear hST6
  refine WC.loopX [(3, tv), (4, ptrT n2), (5, ptrT (n2 + 1 + 1))] (fun z : GK => [(6, .int .i64 (z.k : Int))]) []
    (fun z H' => 1 ≤ z.k ∧ z.k ≤ m ∧ n2 + 1 + 1 + 1 ≤ z.n ∧ hasH ((n2 + 1 + 1, .row 60 0 0 [.slice (some ⟨n2 + 1, 0, some 0⟩) m (2 * m + 1)]) :: (n2 + 1, .row 4 0 0 (bools (evK T m z.k))) :: (n2, .row 3 0 0 [.int .i64 (T.length : Int)]) :: T0) z.n H')
    (fun z => m - z.k) ⟨1, n2 + 1 + 1 + 1⟩ (by repeat' (first | exact .nil | refine .cons rfl ?_)) rfl ⟨Nat.le_refl _, by simp only; omega, Nat.le_refl _, hH6⟩ ?_
  clear hH6
  rintro ⟨k, n3⟩ H7 ⟨hk1, hkm, hn3, hH7⟩
  simp only at hk1 hkm hn3 hH7
  dsimp only [List.cons_append, List.nil_append]
  repeat' (first | refine zP ?_ | refine zA ?_ | (refine zM ?_; intro _ _) | refine zX ?_ | (refine zC ?_; intro _ _ _ _) | (refine zS ?_; intro _ _) | (apply Ws <;> intro hg))
  refine WR.op (by first | exact gN | exact gS rfl) rfl (OpV.shl1 rfl rfl (by show T.length ≤ 64; omega) (by show 2 ^ T.length < 2 ^ 63; omega)) ?_
  rw [hm]
  repeat' (first | refine zP ?_ | refine zA ?_ | (refine zM ?_; intro _ _) | refine zX ?_ | (refine zC ?_; intro _ _ _ _) | (refine zS ?_; intro _ _) | (apply Ws <;> intro hg))
  refine WC.condP rfl (fun hlt => ?_) (fun hlt => ?_)
  · have hk' : k < m := by omega
    have hST7 : Sl ((n2 + 1 + 1, .row 60 0 0 [.slice (some ⟨n2 + 1, 0, some 0⟩) m (2 * m + 1)]) :: (n2 + 1, .row 4 0 0 (bools (evK T m k))) :: (n2, .row 3 0 0 [.int .i64 (T.length : Int)]) :: T0) 1 tv (ints T) := hST.cons.cons.cons
    repeat' (first | refine zP ?_ | refine zA ?_ | (refine zM ?_; intro _ _) | refine zX ?_ | (refine zC ?_; intro _ _ _ _) | (refine zS ?_; intro _ _) | (apply Ws <;> intro hg))
    clear hST7
    refine WC.loopX [(3, tv), (4, ptrT n2), (5, ptrT (n2 + 1 + 1)), (6, .int .i64 (k : Int)), (28, tv), (29, .int .i64 (T.length : Int))] (fun z : AV => [(7, z.v), (30, .int .i64 (z.k : Int))]) []
      (fun z H' => z.k ≤ T.length ∧ n3 ≤ z.n ∧ Own 3 1 z.v (ints (ownB T k z.k)) z.Mx ∧ hasH ((n2 + 1 + 1, .row 60 0 0 [.slice (some ⟨n2 + 1, 0, some 0⟩) m (2 * m + 1)]) :: (n2 + 1, .row 4 0 0 (bools (evK T m k))) :: (n2, .row 3 0 0 [.int .i64 (T.length : Int)]) :: (z.Mx ++ T0)) z.n H')
      (fun z => T.length - z.k) ⟨0, .slice none 0 0, [], n3⟩ (by repeat' (first | exact .nil | refine .cons rfl ?_)) rfl ⟨Nat.zero_le _, Nat.le_refl _, .nil, hH7⟩ ?_
    clear hH7
    rintro ⟨s, ov, MO, n4⟩ H8 ⟨hs, hn4, hO, hH8⟩
    simp only at hs hn4 hO hH8
    have hol := ownB_len T k s
    have hST8 : Sl ((n2 + 1 + 1, .row 60 0 0 [.slice (some ⟨n2 + 1, 0, some 0⟩) m (2 * m + 1)]) :: (n2 + 1, .row 4 0 0 (bools (evK T m k))) :: (n2, .row 3 0 0 [.int .i64 (T.length : Int)]) :: (MO ++ T0)) 1 tv (ints T) := (hST.mono fun q hq => List.mem_append_right _ hq).cons.cons.cons
    dsimp only [List.cons_append, List.nil_append]
    repeat' (first | refine zP ?_ | refine zA ?_ | (refine zM ?_; intro _ _) | refine zX ?_ | (refine zC ?_; intro _ _ _ _) | (refine zS ?_; intro _ _) | (apply Ws <;> intro hg))
    refine WC.condP rfl (fun hlt2 => ?_) (fun hlt2 => ?_)
    · have hs' : s < T.length := by omega
      have hsh := Nat.shiftRight_le k s
      have hbI := bit_and k s
      have hsucc : ownB T k (s + 1) = if k.testBit s = true then ownB T k s ++ [T.getD s 0] else ownB T k s := rfl
      repeat' (first | refine zP ?_ | refine zA ?_ | (refine zM ?_; intro _ _) | refine zX ?_ | (refine zC ?_; intro _ _ _ _) | (refine zS ?_; intro _ _) | (apply Ws <;> intro hg))
      refine WR.op (by first | exact gN | exact gS rfl) rfl (OpV.shrN rfl rfl (by show s ≤ 64; omega)) ?_
      repeat' (first | refine zP ?_ | refine zA ?_ | (refine zM ?_; intro _ _) | refine zX ?_ | (refine zC ?_; intro _ _ _ _) | (refine zS ?_; intro _ _) | (apply Ws <;> intro hg))
      refine WR.op (by first | exact gN | exact gS rfl) rfl (OpV.andN (b := 1) rfl rfl (by show _ < 2 ^ 63; omega) (by show 1 < 2 ^ 63; omega)) ?_
      generalize (k >>> s &&& 1 : Nat) = bit at hbI ⊢
      by_cases hbit : k.testBit s = true
      · have hb1 := hbI.2 hbit
        rw [if_pos hbit] at hsucc
        repeat' (first | refine zP ?_ | refine zA ?_ | (refine zM ?_; intro _ _) | refine zX ?_ | (refine zC ?_; intro _ _ _ _) | (refine zS ?_; intro _ _) | refine zO ?_ | (apply Ws <;> intro hg))
        refine WR.append1F [(n2 + 1 + 1, .row 60 0 0 [.slice (some ⟨n2 + 1, 0, some 0⟩) m (2 * m + 1)]), (n2 + 1, .row 4 0 0 (bools (evK T m k))), (n2, .row 3 0 0 [.int .i64 (T.length : Int)])] MO T0 rfl rfl rfl rfl hO hH8 (new := [.int .i64 (T.getD s 0)]) (by rfl) rfl rfl (Nat.le_refl _) (by omega) (by simp; omega) fun v3 M3 n5 H9 hO3 hH9 hn5 => ?_
        repeat' (first | refine zP ?_ | refine zA ?_ | (refine zM ?_; intro _ _) | refine zX ?_ | (refine zC ?_; intro _ _ _ _) | (refine zS ?_; intro _ _) | (apply Ws <;> intro hg))
        refine Ends.loop ⟨s + 1, v3, M3, n5⟩ (by simp only; omega) (by repeat' (first | exact .nil | refine .cons rfl ?_)) rfl ⟨hs', by simp only; omega, ?_, hH9⟩
        show Own _ 1 v3 (ints (ownB T k (s + 1))) M3
        rw [hsucc, ints, List.map_append]
        exact hO3
      · have hb1 : ¬ ((bit : Nat) : Int) = 1 := fun h => hbit (hbI.1 h)
        rw [if_neg hbit] at hsucc
        repeat' (first | refine zP ?_ | refine zA ?_ | (refine zM ?_; intro _ _) | refine zX ?_ | (refine zC ?_; intro _ _ _ _) | (refine zS ?_; intro _ _) | refine zO ?_ | (apply Ws <;> intro hg))
        refine Ends.loop ⟨s + 1, ov, MO, n4⟩ (by simp only; omega) (by repeat' (first | exact .nil | refine .cons rfl ?_)) rfl ⟨hs', hn4, ?_, hH8⟩
        show Own _ 1 ov (ints (ownB T k (s + 1))) MO
        rw [hsucc]; exact hO
    · have hst : s = T.length := by omega
      subst hst
      have hoL := ownB_some hk1 (by rw [hm]; exact hk') (Nat.le_refl T.length)
      have hSO : Sl ((n2 + 1 + 1, .row 60 0 0 [.slice (some ⟨n2 + 1, 0, some 0⟩) m (2 * m + 1)]) :: (n2 + 1, .row 4 0 0 (bools (evK T m k))) :: (n2, .row 3 0 0 [.int .i64 (T.length : Int)]) :: (MO ++ T0)) 1 ov (ints (ownB T k T.length)) := (hO.sl _).cons.cons.cons
      repeat' (first | refine zP ?_ | refine zA ?_ | (refine zM ?_; intro _ _) | refine zX ?_ | (refine zC ?_; intro _ _ _ _) | (refine zS ?_; intro _ _) | (apply Ws <;> intro hg))
      refine WC.regionD ?_
      refine WD.load1 (by first | exact gN | exact gS rfl) rfl rfl (hH8.read (.head _) (.row _ _ _ _) (Nat.zero_le _) rfl) ?_
      repeat' (first | refine zD ?_ | (refine zE ?_; intro _ _ _ _))
      refine WD.call (by first | exact gN | exact gS rfl) rfl rfl (longest_fs hH8 hSO (ownB_ok hTok k (Nat.le_refl _)) hoL) ?_
      rintro _ H9 ⟨r, n9, rfl, hr, hn9, hH9⟩
      refine ⟨stands_cons (.inr (holds_at (hH9.read (.head _) (.row _ _ _ _) (Nat.zero_le _) rfl) (same_sl _ _ _))) stands_nil', ?_⟩
      refine WD.toWR rfl ?_
      have hrE : decide (r < 0) = everE T k := by
        have h2 := hr.low
        by_cases he : everS (ownB T k T.length) (startS (ownB T k T.length))
        · rw [show everE T k = true from everB_true.2 he, decide_eq_true]
          have := hr.ever.2 he
          omega
        · rw [show everE T k = false from everB_false he, decide_eq_false]
          intro h
          exact he (hr.ever.1 (by omega))
      have hbs := evK_set (T := T) hk'
      have hbl := evK_len T m k
      repeat' (first | refine zP ?_ | refine zA ?_ | (refine zM ?_; intro _ _) | refine zX ?_ | (refine zC ?_; intro _ _ _ _) | (refine zS ?_; intro _ _) | (apply Ws <;> intro hg))
      rename_i H10 hH10
      rw [hrE, hbs] at hH10
      exact Ends.loop ⟨k + 1, n9⟩ (by simp only; omega) (by repeat' (first | exact .nil | refine .cons rfl ?_)) rfl ⟨by simp only; omega, hk', by simp only; omega, hH10.sub (.cons_cons _ (.cons_cons _ (.cons_cons _ (List.sublist_append_right _ _))))⟩
  · have hkm' : k = m := by omega
    subst hkm'
    rw [evK_all] at hH7
    clear hlt hkm hk1
    repeat' (first | refine zP ?_ | refine zA ?_ | (refine zM ?_; intro _ _) | refine zX ?_ | (refine zC ?_; intro _ _ _ _) | (refine zS ?_; intro _ _) | (apply Ws <;> intro hg))
    rename_i H10 hH10
    have hH11 := hH10.perm ((List.perm_middle (l₁ := [_, _])).trans (.cons _ (List.Perm.swap _ _ _)))
    clear hH7 hH10
    subst hm
    refine WR.callV (by first | exact gN | exact gS rfl) rfl rfl rfl (put_fs (bn := n2) (be := n2 + 1 + 1) (bf := n3 + 1) (bb := n3) (bp := n3 + 1 + 1) (vb := n2 + 1) (T := T) (X0 := (n3 + 1 + 1, .row 61 0 0 [.func (.func 46) [].toArray [ptrT n2, ptrT (n2 + 1 + 1), ptrT (n3 + 1), ptrT n3, ptrT (n3 + 1 + 1)].toArray]) :: (n2 + 1 + 1, .row 60 0 0 [.slice (some ⟨n2 + 1, 0, some 0⟩) (2 ^ T.length) (2 * 2 ^ T.length + 1)]) :: (n2 + 1, .row 4 0 0 (bools (evL T (2 ^ T.length)))) :: (n2, .row 3 0 0 [.int .i64 (T.length : Int)]) :: T0) hTok hT1 (.tail _ (.tail _ (.tail _ (.head _)))) (.tail _ (.head _)) (.tail _ (.tail _ (.head _))) (.head _) T.length (l := []) (v := .slice none 0 0) (bv := .slice none 0 0) (B := ([], 9)) (by simp) (Nat.le_refl _) (.inl ⟨rfl, rfl⟩) (.inl ⟨rfl, rfl⟩) (Nat.le_refl _) (fun q h => h) hH11) ?_
    rintro _ H11 ⟨bv, X', n11, hb, _, hX', hn11, hH11⟩
    have hST11 : Sl ((n3, Ch.row 22 0 0 [bv]) :: (n3 + 1, .row 3 0 0 [.int .i64 ((putB T T.length [] ([], 9)).2 : Int)]) :: X') 1 tv (ints T) := (hST.mono fun q hq => hX' _ (.tail _ (.tail _ (.tail _ (.tail _ hq))))).cons.cons
    have hSB := hb.sl
    repeat' (first | refine zP ?_ | refine zA ?_ | (refine zM ?_; intro _ _) | refine zX ?_ | (refine zC ?_; intro _ _ _ _) | (refine zS ?_; intro _ _) | (apply Ws <;> intro hg))
    refine WR.call (by first | exact gN | exact gS rfl) rfl rfl (Groups_fs hH11 hST11 (by omega)) ?_
    rintro _ H12 ⟨gv, gl, MG, n12, rfl, hOG, hn12, hH12, hcase⟩
    rcases hcase with ⟨h, _⟩ | ⟨_, gg, kk, hF, rfl⟩
    · exact absurd hE h
    have hgn := hF.gn
    have hput := put_on hF T.length [] ([], 9) (by simp) rfl (by simp only; omega)
    rw [hput] at hSB hH12
    have hdl := divK_len gg T.length kk
    have hSG := hOG.sl ((n3, Ch.row 22 0 0 [bv]) :: (n3 + 1, .row 3 0 0 [.int .i64 ((gg : Nat) : Int)]) :: X')
    have hSB12 : Sl (MG ++ (n3, Ch.row 22 0 0 [bv]) :: (n3 + 1, .row 3 0 0 [.int .i64 ((gg : Nat) : Int)]) :: X') 1 bv (nodes (divK gg T.length kk)) := hSB.cons.cons.mono fun q hq => List.mem_append_right _ hq
    have mB : (n3, Ch.row 22 0 0 [bv]) ∈ MG ++ (n3, Ch.row 22 0 0 [bv]) :: (n3 + 1, .row 3 0 0 [.int .i64 ((gg : Nat) : Int)]) :: X' := List.mem_append_right _ (.head _)
    rw [nodes_cast] at hSG hSB12
    rw [hE]
    repeat' (first | refine zP ?_ | refine zA ?_ | (refine zM ?_; intro _ _) | refine zX ?_ | (refine zC ?_; intro _ _ _ _) | (refine zS ?_; intro _ _) | (apply Ws <;> intro hg))
    refine WR.call (by first | exact gN | exact gS rfl) rfl rfl (same_fs hH12 hSG hSB12 (by simp [castN]; omega) (by simp [castN]; omega)) ?_
    rintro _ _ ⟨rfl, rfl⟩
    rw [decide_eq_true rfl]
    repeat' (first | refine zP ?_ | refine zA ?_ | (refine zM ?_; intro _ _) | refine zX ?_ | (refine zC ?_; intro _ _ _ _) | (refine zS ?_; intro _ _) | (apply Ws <;> intro hg))
    refine WR.call (by first | exact gN | exact gS rfl) rfl rfl (FS.works (C := C) (R := fun v H' => v = .bool true) rfl) ?_
    rintro _ _ rfl
    repeat' (first | refine zP ?_ | refine zA ?_ | (refine zM ?_; intro _ _) | refine zX ?_ | (refine zC ?_; intro _ _ _ _) | (refine zS ?_; intro _ _) | (apply Ws <;> intro hg))
    exact Ends.ret1 rfl rfl
end
end Go.Proofs.Ytnmlfjohoeebiaa.Wk
