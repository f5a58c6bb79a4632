/- Texts of the law, joined. -/
import Derived.Test.YteopjpfhhekkoaaJ2
import Derived.Test.YteopjpfhhekkoaaSymR
/- The costs of sales. -/
namespace Go.Proofs.Yteopjpfhhekkoaa.Tt
open Go Go.Abs Go.Mth
set_option linter.unusedVariables false
set_option linter.unusedSimpArgs false
def RowsP (M : HL) (ws : List Value) (vs : List (List Int)) : Prop := ws.length = vs.length ∧ ∀ i, i < vs.length → Sl M 1 (ws.getD i undef) (ints (vs.getD i []))
theorem RowsP.mono {M M' : HL} {ws : List Value} {vs : List (List Int)} (h : RowsP M ws vs) (k : ∀ p ∈ M, p ∈ M') : RowsP M' ws vs := ⟨h.1, fun i hi => (h.2 i hi).mono k⟩
theorem RowsP.nil (M : HL) : RowsP M [] [] := ⟨rfl, fun i h => absurd h (Nat.not_lt_zero _)⟩
theorem RowsP.snoc {M : HL} {ws : List Value} {w : Value} {vs : List (List Int)} {r : List Int} (h : RowsP M ws vs) (hw : Sl M 1 w (ints r)) : RowsP M (ws ++ [w]) (vs ++ [r]) := by
  refine ⟨by simp [h.1], fun i hi => ?_⟩
  rw [List.length_append, List.length_singleton] at hi
  by_cases e : i < vs.length
  · rw [getD_app_l (by rw [h.1]; exact e), getD_app_l e]; exact h.2 i e
  · have : i = vs.length := by omega
    subst this
    rw [getD_snoc, show vs.length = ws.length from h.1.symm, getD_snoc]; exact hw
theorem RowsP.rows {M : HL} {v : Value} {ws : List Value} {vs : List (List Int)} (hS : Sl M 1 v ws) (h : RowsP M ws vs) : RowsI M v vs := ⟨ws, hS, h.1, h.2⟩
theorem fill1 {v : Value} (h : one v = true) : Instr.fill (fun j => some (j * 1, 1)) [Value.slice none 0 0].toArray [(0, v)] = some [v].toArray := by
  cases v <;> first | rfl | cases h
structure CO where
  a : Nat
  v : Value
  ws : List Value
  Mo : HL
  Mi : HL
  n : Nat
structure CI where
  b : Nat
  v : Value
  Mr : HL
  Mg : HL
  n : Nat
theorem take_snoc' {α : Type} {l : List α} {k : Nat} {d : α} (h : k < l.length) : l.take (k + 1) = l.take k ++ [l.getD k d] := by
  rw [List.take_succ_eq_append_getElem h, getD_eq h]
attribute [local irreducible] gOK WS WC WR WD Ends FS YS OpV seqK blockK loopK midK retK rdK asgK rangeEnd sat Cell
section
variable {M : HL} {n0 : Nat} {H : Heap} {v w : Value}
set_option maxHeartbeats 4000000 in
theorem costsOf_fs (hH : hasH M n0 H) {g : Nat} {S : List Sal} (hok : OKS g S) (hS : SalesI M v S) :
    FS C 92 [v] H (fun e H' => ∃ n' M2, n0 ≤ n' ∧ hasH (M2 ++ M) n' H' ∧ RowsI (M2 ++ M) e (matS S)) := by
  obtain ⟨ws0, hV, hwl, hrow⟩ := hS
  have hlen := hok.len
  have hg3 := hok.g3
  have hml := matS_len S
  refine FS.intro (pf := pf92) rfl rfl rfl ?_
  repeat' (first | refine zP ?_ | refine zA ?_ | (refine zM ?_; intro _ _) | refine zX ?_ | (refine zC ?_; intro _ _ _ _) | (refine zS ?_; intro _ _) | (apply Ws <;> intro hg))
  refine WR.op (by first | exact gN | exact gS rfl) rfl (OpV.lenK pairV_len (by decide) rfl hV) ?_
  rw [hwl]
  repeat' (first | refine zP ?_ | refine zA ?_ | (refine zM ?_; intro _ _) | refine zX ?_ | (refine zC ?_; intro _ _ _ _) | (refine zS ?_; intro _ _) | (apply Ws <;> intro hg))
  refine WC.loopX [(0, _), (12, _), (13, _)] (fun s : CO => [(3, s.v), (14, .int .i64 (s.a : Int))]) [] (fun s H' => s.a ≤ S.length ∧ n0 ≤ s.n ∧ Own 39 1 s.v s.ws s.Mo ∧ RowsP (s.Mi ++ M) s.ws ((matS S).take s.a) ∧ hasH (s.Mo ++ (s.Mi ++ M)) s.n H') (fun s => S.length - s.a) ⟨0, .slice none 0 0, [], [], [], n0⟩ (by repeat' (first | exact .nil | refine .cons rfl ?_)) rfl
    ⟨Nat.zero_le _, Nat.le_refl _, .nil, .nil _, hH⟩ ?_
  clear hH
  rintro ⟨a, va, ws, Mo, Mi, n1⟩ H1 ⟨ha, hn1, hO, hR, hH1⟩
  simp only at ha hn1 hO hR hH1
  dsimp only [List.cons_append, List.nil_append]
  repeat' (first | refine zP ?_ | refine zA ?_ | (refine zM ?_; intro _ _) | refine zX ?_ | (refine zC ?_; intro _ _ _ _) | (refine zS ?_; intro _ _) | (apply Ws <;> intro hg))
  refine WC.condP rfl (fun hlta => ?_) (fun hlta => ?_)
  · have ha' : a < S.length := by omega
    obtain ⟨hp, ht⟩ := hrow a ha'
    have hlp := hok.lp a ha'
    have hwk : ws0[a] = ws0.getD a noVal := (getD_eq (by omega)).symm
    have hone := one2 hp.one_ ht.one_
    have hbp := hok.bp a ha'
    have hcsa : ∀ b, cs S a b = dotI (S.getD a noSal).1 (S.getD b noSal).2 (S.getD a noSal).1.length := fun b => rfl
    have hVV : Sl (Mo ++ (Mi ++ M)) 2 v (cellsF pairV ws0) := hV.mono fun q hq => List.mem_append_right _ (List.mem_append_right _ hq)
    replace hp := hp.mono (M' := Mo ++ (Mi ++ M)) fun q hq => List.mem_append_right _ (List.mem_append_right _ hq)
    repeat' (first | refine zP ?_ | refine zA ?_ | (refine zM ?_; intro _ _) | refine zX ?_ | (refine zC ?_; intro _ _ _ _) | (refine zS ?_; intro _ _) | (apply Ws <;> intro hg))
    refine WR.idxK pairV_len (by decide) (by first | exact gN | exact gS rfl) rfl rfl hVV rfl (by omega) fun b o u hC => ?_
    rw [hwk] at hC
    generalize ws0.getD a noVal = wk at hp ht hC hone
    obtain ⟨w1, w2⟩ := wk
    simp only at hp ht hone
    refine WR.op (by first | exact gN | exact gS rfl) rfl (OpV.loadK rfl hC hH1 rfl) ?_
    repeat' (first | refine zP ?_ | refine zA ?_ | (refine zM ?_; intro _ _) | refine zX ?_ | (refine zC ?_; intro _ _ _ _) | (refine zS ?_; intro _ _) | (apply Ws <;> intro hg))
    rename_i H3 hH3
    refine WR.storeAll (by first | exact gN | exact gS rfl) hH3 rfl rfl (ls := [w1, w2]) rfl rfl .here hone rfl fun H4 hH4 => ?_
    clear hH3 hH1 hC
    generalize (S.getD a noSal).1 = pa at hp hlp hbp hcsa
    repeat' (first | refine zP ?_ | refine zA ?_ | (refine zM ?_; intro _ _) | refine zX ?_ | (refine zC ?_; intro _ _ _ _) | (refine zS ?_; intro _ _) | (apply Ws <;> intro hg))
    refine WR.op (by first | exact gN | exact gS rfl) rfl (OpV.lenK pairV_len (by decide) rfl hVV) ?_
    rw [hwl]
    repeat' (first | refine zP ?_ | refine zA ?_ | (refine zM ?_; intro _ _) | refine zX ?_ | (refine zC ?_; intro _ _ _ _) | (refine zS ?_; intro _ _) | (apply Ws <;> intro hg))
    have hrl := rowS_len S a
    refine WC.loopX [(0, _), (3, _), (5, _), (12, _), (13, _), (14, _), (18, _), (19, _)] (fun s : CI => [(6, s.v), (20, .int .i64 (s.b : Int))]) [] (fun s H' => s.b ≤ S.length ∧ n1 ≤ s.n ∧ Own 3 1 s.v (ints ((rowS S a).take s.b)) s.Mr ∧ hasH ((n1, .row 74 0 0 [w1, w2]) :: (s.Mr ++ (Mo ++ (Mi ++ M)))) s.n H') (fun s => S.length - s.b) ⟨0, .slice none 0 0, [], [], n1 + 1⟩ (by repeat' (first | exact .nil | refine .cons rfl ?_)) rfl
      ⟨Nat.zero_le _, Nat.le_succ _, .nil, hH4⟩ ?_
    clear hH4
    rintro ⟨b, vb, Mr, _, n2⟩ H5 ⟨hb, hn2, hOr, hH5⟩
    simp only at hb hn2 hOr hH5
    dsimp only [List.cons_append, List.nil_append]
    repeat' (first | refine zP ?_ | refine zA ?_ | (refine zM ?_; intro _ _) | refine zX ?_ | (refine zC ?_; intro _ _ _ _) | (refine zS ?_; intro _ _) | (apply Ws <;> intro hg))
    refine WC.condP rfl (fun hltb => ?_) (fun hltb => ?_)
    · have hb' : b < S.length := by omega
      obtain ⟨hp2, ht2⟩ := hrow b hb'
      have hlt2 := hok.lt b hb'
      have hbt := hok.bt b hb'
      have hwk2 : ws0[b] = ws0.getD b noVal := (getD_eq (by omega)).symm
      have hone2 := one2 hp2.one_ ht2.one_
      have hV2 : Sl ((n1, Ch.row 74 0 0 [w1, w2]) :: (Mr ++ (Mo ++ (Mi ++ M)))) 2 v (cellsF pairV ws0) := hVV.mono fun q hq => .tail _ (List.mem_append_right _ hq)
      replace ht2 := ht2.mono (M' := (n1, Ch.row 74 0 0 [w1, w2]) :: (Mr ++ (Mo ++ (Mi ++ M)))) fun q hq => .tail _ (List.mem_append_right _ (List.mem_append_right _ (List.mem_append_right _ hq)))
      have hcsb := hcsa b
      have hcg := rowS_get (a := a) hb'
      rw [hcsb] at hcg
      repeat' (first | refine zP ?_ | refine zA ?_ | (refine zM ?_; intro _ _) | refine zX ?_ | (refine zC ?_; intro _ _ _ _) | (refine zS ?_; intro _ _) | (apply Ws <;> intro hg))
      refine WR.idxK pairV_len (by decide) (by first | exact gN | exact gS rfl) rfl rfl hV2 rfl (by omega) fun b' o' u' hC2 => ?_
      rw [hwk2] at hC2
      generalize ws0.getD b noVal = wk2 at hp2 ht2 hC2 hone2
      obtain ⟨ub1, ub2⟩ := wk2
      simp only at hp2 ht2 hone2
      refine WR.op (by first | exact gN | exact gS rfl) rfl (OpV.loadK rfl hC2 hH5 rfl) ?_
      repeat' (first | refine zP ?_ | refine zA ?_ | (refine zM ?_; intro _ _) | refine zX ?_ | (refine zC ?_; intro _ _ _ _) | (refine zS ?_; intro _ _) | (apply Ws <;> intro hg))
      rename_i H6 hH6
      refine WR.storeAll (by first | exact gN | exact gS rfl) hH6 rfl rfl (ls := [ub1, ub2]) rfl rfl .here hone2 rfl fun H7 hH7 => ?_
      clear hH6 hH5 hC2
      generalize (S.getD b noSal).2 = tb at ht2 hlt2 hbt hcg
      have hpp : Sl ((n2, Ch.row 74 0 0 [ub1, ub2]) :: (n1, Ch.row 74 0 0 [w1, w2]) :: (Mr ++ (Mo ++ (Mi ++ M)))) 1 w1 (ints pa) := hp.mono fun q hq => .tail _ (.tail _ (List.mem_append_right _ hq))
      have htt : Sl ((n2, Ch.row 74 0 0 [ub1, ub2]) :: (n1, Ch.row 74 0 0 [w1, w2]) :: (Mr ++ (Mo ++ (Mi ++ M)))) 1 ub2 (ints tb) := ht2.cons
      repeat' (first | refine zP ?_ | refine zA ?_ | (refine zM ?_; intro _ _) | refine zX ?_ | (refine zC ?_; intro _ _ _ _) | (refine zS ?_; intro _ _) | (apply Ws <;> intro hg))
      refine WC.loopX [(0, _), (3, _), (5, _), (6, _), (8, _), (12, _), (13, _), (14, _), (18, _), (19, _), (20, _), (25, _), (26, _)] (fun k : Nat => [(9, .int .i64 (dotI pa tb k)), (27, .int .i64 (k : Int))]) [] (fun k H' => H' = H7 ∧ k ≤ pa.length) (fun k => pa.length - k) 0 (by repeat' (first | exact .nil | refine .cons rfl ?_)) rfl ⟨rfl, Nat.zero_le _⟩ ?_
      rintro k H8 ⟨rfl, hk⟩
      dsimp only [List.cons_append, List.nil_append]
      repeat' (first | refine zP ?_ | refine zA ?_ | (refine zM ?_; intro _ _) | refine zX ?_ | (refine zC ?_; intro _ _ _ _) | (refine zS ?_; intro _ _) | (apply Ws <;> intro hg))
      refine WC.condP rfl (fun hltk => ?_) (fun hltk => ?_)
      · have hk' : k < pa.length := by omega
        have hqa := dot_bd hbp hbt k (by omega) (by omega)
        have hqb := hbp _ (getD_mem (a := 0) hk')
        have hqc := hbt _ (getD_mem (a := 0) (show k < tb.length by omega))
        have hqd : 0 ≤ pa.getD k 0 * tb.getD k 0 := Int.mul_nonneg (by omega) hqc.1
        have hqe : pa.getD k 0 * tb.getD k 0 ≤ 9 * 9 := Int.mul_le_mul hqb.2 hqc.2 hqc.1 (by decide)
        have hqf : dotI pa tb (k + 1) = dotI pa tb k + pa.getD k 0 * tb.getD k 0 := rfl
        repeat' (first | refine zP ?_ | refine zA ?_ | (refine zM ?_; intro _ _) | refine zX ?_ | (refine zC ?_; intro _ _ _ _) | (refine zS ?_; intro _ _) | (apply Ws <;> intro hg))
        rw [← hqf]
        exact Ends.loop (k + 1) (by omega) (by repeat' (first | exact .nil | refine .cons rfl ?_)) rfl ⟨rfl, hk'⟩
      · have hkl : k = pa.length := by omega
        subst hkl
        have hbd := dot_bd hbp hbt pa.length (Nat.le_refl _) (by omega)
        repeat' (first | refine zP ?_ | refine zA ?_ | (refine zM ?_; intro _ _) | refine zX ?_ | (refine zC ?_; intro _ _ _ _) | (refine zS ?_; intro _ _) | (apply Ws <;> intro hg))
        refine WR.append1F [(n2, .row 74 0 0 [ub1, ub2]), (n1, .row 74 0 0 [w1, w2])] Mr (Mo ++ (Mi ++ M)) rfl rfl rfl rfl hOr hH7 (new := [.int .i64 (dotI pa tb pa.length)]) (by rfl) rfl rfl (Nat.le_refl _) (by omega) (by simp [hrl]; omega) fun v3 M3 n3 H9 hO3 hH9 hn3 => ?_
        replace hH9 : hasH ((n2, .row 74 0 0 [ub1, ub2]) :: (n1, .row 74 0 0 [w1, w2]) :: (M3 ++ (Mo ++ (Mi ++ M)))) n3 H9 := hH9
        repeat' (first | refine zP ?_ | refine zA ?_ | (refine zM ?_; intro _ _) | refine zX ?_ | (refine zC ?_; intro _ _ _ _) | (refine zS ?_; intro _ _) | (apply Ws <;> intro hg))
        refine Ends.loop ⟨b + 1, v3, M3, [], n3⟩ (by simp only; omega) (by repeat' (first | exact .nil | refine .cons rfl ?_)) rfl ⟨by simp only; omega, by simp only; omega, ?_, hH9.tail⟩
        simp only
        rw [take_snoc' (d := 0) (by omega), hcg]
        simpa [ints] using hO3
    · have hbl : b = S.length := by omega
      subst hbl
      rw [List.take_of_length_le (by omega)] at hOr
      have hu1 := (hOr.sl M).one_
      have hwsl := hR.1
      rw [List.length_take, hml] at hwsl
      repeat' (first | refine zP ?_ | refine zA ?_ | (refine zM ?_; intro _ _) | refine zX ?_ | (refine zC ?_; intro _ _ _ _) | (refine zS ?_; intro _ _) | (apply Ws <;> intro hg))
      refine WR.append1F ([(n1, .row 74 0 0 [w1, w2])] ++ Mr) Mo (Mi ++ M) rfl rfl rfl rfl hO (by simpa using hH5) (new := [vb]) (fill1 hu1) (by simp [hu1]) rfl (Nat.le_refl _) (by omega) (by simp; omega) fun v3 M3 n3 H6 hO3 hH6 hn3 => ?_
      replace hH6 : hasH ((n1, Ch.row 74 0 0 [w1, w2]) :: (Mr ++ (M3 ++ (Mi ++ M)))) n3 H6 := hH6
      repeat' (first | refine zP ?_ | refine zA ?_ | (refine zM ?_; intro _ _) | refine zX ?_ | (refine zC ?_; intro _ _ _ _) | (refine zS ?_; intro _ _) | (apply Ws <;> intro hg))
      refine Ends.loop ⟨a + 1, v3, ws ++ [vb], M3, Mr ++ Mi, n3⟩ (by simp only; omega) (by repeat' (first | exact .nil | refine .cons rfl ?_)) rfl ⟨by simp only; omega, by simp only; omega, hO3, ?_, ?_⟩
      · simp only
        rw [take_snoc' (d := []) (by omega), matS_get ha']
        refine RowsP.snoc (hR.mono fun q hq => by rw [List.append_assoc]; exact List.mem_append_right _ hq) ?_
        rw [List.append_assoc]
        exact hOr.sl (Mi ++ M)
      · simp only
        exact hH6.tail.perm (by classical exact List.perm_iff_count.2 (fun a => by simp only [defds, List.map_cons, List.map_nil, List.count_append, List.count_cons, List.count_nil, List.cons_append, List.nil_append, List.append_nil]; omega))
  · have hal : a = S.length := by omega
    subst hal
    rw [List.take_of_length_le (by omega)] at hR
    repeat' (first | refine zP ?_ | refine zA ?_ | (refine zM ?_; intro _ _) | refine zX ?_ | (refine zC ?_; intro _ _ _ _) | (refine zS ?_; intro _ _) | (apply Ws <;> intro hg))
    refine Ends.ret1 rfl ⟨n1, Mo ++ Mi, hn1, by simpa using hH1, ?_⟩
    rw [List.append_assoc]
    exact (hR.mono fun q hq => List.mem_append_right _ hq).rows (hO.sl (Mi ++ M))
end
end Go.Proofs.Yteopjpfhhekkoaa.Tt

/- Lists that lead on, one after the other. -/
namespace Go.Proofs.Yteopjpfhhekkoaa.Tt
open Go Go.Abs Go.Mth
set_option linter.unusedVariables false
set_option linter.unusedSimpArgs false
theorem nodes_one' (l : List Nat) : (nodes l).all one = true := by
  rw [List.all_eq_true]; intro q hq; obtain ⟨z, _, rfl⟩ := List.mem_map.1 hq; rfl
def RowsN (M : HL) (ws : List Value) (vs : List (List Nat)) : Prop := ws.length = vs.length ∧ ∀ i, i < vs.length → Sl M 1 (ws.getD i undef) (nodes (vs.getD i []))
theorem RowsN.mono {M M' : HL} {ws : List Value} {vs : List (List Nat)} (h : RowsN M ws vs) (k : ∀ p ∈ M, p ∈ M') : RowsN M' ws vs := ⟨h.1, fun i hi => (h.2 i hi).mono k⟩
theorem RowsN.nil (M : HL) : RowsN M [] [] := ⟨rfl, fun i h => absurd h (Nat.not_lt_zero _)⟩
theorem RowsN.snoc {M : HL} {ws : List Value} {w : Value} {vs : List (List Nat)} {r : List Nat} (h : RowsN M ws vs) (hw : Sl M 1 w (nodes r)) : RowsN M (ws ++ [w]) (vs ++ [r]) := by
  refine ⟨by simp [h.1], fun i hi => ?_⟩
  rw [List.length_append, List.length_singleton] at hi
  by_cases e : i < vs.length
  · rw [getD_app_l (by rw [h.1]; exact e), getD_app_l e]; exact h.2 i e
  · have : i = vs.length := by omega
    subst this
    rw [getD_snoc, show vs.length = ws.length from h.1.symm, getD_snoc]; exact hw
theorem RowsN.tail {M : HL} {ws : List Value} {z : List Nat} {vs : List (List Nat)} (h : RowsN M ws (z :: vs)) : RowsN M (ws.drop 1) vs := by
  have hl := h.1
  refine ⟨by rw [List.length_drop, hl]; rfl, fun i hi => ?_⟩
  have := h.2 (i + 1) (by simpa using hi)
  rw [List.getD_eq_getElem?_getD, List.getElem?_drop, Nat.add_comm, ← List.getD_eq_getElem?_getD]
  exact this
def extK (g : Nat → Nat → Bool) (l : List Nat) (k : Nat) : List (List Nat) := ((List.range k).filter fun x => g (l.getD (l.length - 1) 0) x && !decide (x ∈ l)).map fun x => l ++ [x]
theorem extK_all (g : Nat → Nat → Bool) (n : Nat) (l : List Nat) : extK g l n = extL g n l := rfl
theorem extK_succ (g : Nat → Nat → Bool) (l : List Nat) (k : Nat) : extK g l (k + 1) = extK g l k ++ if (g (l.getD (l.length - 1) 0) k && !decide (k ∈ l)) = true then [l ++ [k]] else [] := by
  unfold extK
  rw [List.range_succ, List.filter_append, List.map_append]
  congr 1
  by_cases h : (g (l.getD (l.length - 1) 0) k && !decide (k ∈ l)) = true
  · rw [if_pos h]; simp only [List.filter, h, List.map]
  · rw [if_neg h, Bool.not_eq_true] at *; simp only [List.filter, h, List.map]
theorem Bfs.mem {f : List Nat → List (List Nat)} : ∀ {W R : List (List Nat)}, Bfs f W R → ∀ w ∈ W, w ∈ R := by
  intro W R h
  induction h with
  | nil => intro w hw; exact hw
  | cons h ih =>
    intro w hw
    rcases List.mem_cons.1 hw with rfl | hw
    · exact .head _
    · exact .tail _ (ih w (List.mem_append_left _ hw))
theorem Bfs.len {f : List Nat → List (List Nat)} {W R : List (List Nat)} (h : Bfs f W R) : W.length ≤ R.length := by
  induction h with
  | nil => exact Nat.le_refl _
  | cons h ih => simp at ih ⊢; omega
theorem flat_len {α β : Type} {f : α → List β} {c : Nat} : ∀ {W : List α}, (∀ w ∈ W, (f w).length ≤ c) → (W.flatMap f).length ≤ W.length * c
  | [], _ => by simp
  | w :: W, h => by
    have h1 := h w (.head _)
    have h2 := flat_len (W := W) fun v hv => h v (.tail _ hv)
    rw [List.flatMap_cons, List.length_append, List.length_cons, Nat.succ_mul]
    omega
theorem extN_len {g : Nat → Nat → Bool} {n : Nat} {l : List Nat} (h : Chain g n l) : (extN g n l).length < n := by
  have hl := h.len
  have hm : l.getD (l.length - 1) 0 ∈ l := getD_mem (by omega)
  have := filter_lt (p := fun x => g (l.getD (l.length - 1) 0) x && !decide (x ∈ l)) (q := fun _ => true) (y := l.getD (l.length - 1) 0) (l := List.range n) (fun _ _ _ => rfl) (List.mem_range.2 (h.2.1 _ hm)) (by simp only [decide_eq_true hm]; simp) rfl
  have e : (List.range n).filter (fun _ => true) = List.range n := List.filter_eq_self.2 (by simp)
  rw [e, List.length_range] at this
  exact this
theorem allC_len {g : Nat → Nat → Bool} {n : Nat} (hn : n ≤ 6) : (allC g n).length ≤ 90000 := by
  have hl : ∀ k, (lev g n k).length ≤ 6 * 5 ^ k := by
    intro k
    induction k with
    | zero => simp [lev]; omega
    | succ k ih =>
      have := flat_len (f := extL g n) (c := 5) (W := lev g n k) fun w hw => by
        have := extN_len (mem_lev.1 hw).1
        unfold extL; rw [List.length_map]; omega
      show ((lev g n k).flatMap (extL g n)).length ≤ 6 * 5 ^ (k + 1)
      rw [Nat.pow_succ]
      omega
  have : ∀ m, m ≤ 6 → ((List.range m).flatMap (lev g n)).length ≤ m * 3750 + (if 5 < m then 18750 else 0) := by
    intro m
    induction m with
    | zero => intro _; simp
    | succ m ih =>
      intro h
      have h1 := ih (by omega)
      have h2 := hl m
      rw [List.range_succ, List.flatMap_append, List.length_append]
      simp only [List.flatMap_cons, List.flatMap_nil, List.append_nil]
      rcases (show m = 0 ∨ m = 1 ∨ m = 2 ∨ m = 3 ∨ m = 4 ∨ m = 5 by omega) with rfl | rfl | rfl | rfl | rfl | rfl <;> simp at h1 h2 ⊢ <;> omega
  have h6 := this n hn
  unfold allC
  split at h6 <;> omega
structure W1 where
  k : Nat
  v : Value
  ws : List Value
  Mo : HL
  Mi : HL
  n : Nat
structure W2 where
  v : Value
  ws : List Value
  W : List (List Nat)
  R : List (List Nat)
  Mo : HL
  Mi : HL
  Mc : HL
  n : Nat
attribute [local irreducible] gOK WS WC WR WD Ends FS YS OpV seqK blockK loopK midK retK rdK asgK rangeEnd sat Cell
section
variable {M : HL} {n0 : Nat} {H : Heap} {v w : Value}
theorem Clone_fs (hH : hasH M n0 H) {l : List Nat} (hS : Sl M 1 v (nodes l)) (h0 : l ≠ []) (hl : l.length ≤ 1000) :
    FS C 54 [v] H (fun e H' => ∃ Mx n', OwnR 3 1 e (nodes l) Mx ∧ n0 ≤ n' ∧ hasH (Mx ++ M) n' H') := by
  have hne : nodes l ≠ [] := fun h => h0 (List.map_eq_nil_iff.1 h)
  have hl0 : 0 < l.length := List.length_pos_iff.2 h0
  have hsm : ∃ a len cap, v = .slice (some a) len cap := by
    generalize nodes l = cs at hS hne
    cases hS with
    | nil c => exact absurd rfl hne
    | emp a => exact ⟨_, _, _, rfl⟩
    | row => exact ⟨_, _, _, rfl⟩
  obtain ⟨a, len, cap, rfl⟩ := hsm
  refine FS.intro (pf := pf54) rfl rfl rfl ?_
  repeat' (first | refine zP ?_ | refine zA ?_ | (refine zM ?_; intro _ _) | refine zX ?_ | (refine zC ?_; intro _ _ _ _) | (refine zS ?_; intro _ _) | (apply Ws <;> intro hg))
  refine WR.bldS (by first | exact gN | exact gS rfl) rfl hH (vs := []) rfl (cs := []) (by rfl) rfl fun H3 hH3 => ?_
  repeat' (first | refine zP ?_ | refine zA ?_ | (refine zM ?_; intro _ _) | refine zX ?_ | (refine zC ?_; intro _ _ _ _) | (refine zS ?_; intro _ _) | (apply Ws <;> intro hg))
  obtain ⟨hk, hsr⟩ := (hS.cons (p := (n0, .row 3 0 0 []))).src hH3 hne
  refine WR.appendNew (by first | exact gN | exact gS rfl) rfl rfl rfl hH3 (.head _) (.row _ _ _ _) (Nat.zero_le _) (Nat.zero_le _) hk (by have := hsr _ (Nat.le_refl _); rw [List.take_length] at this; exact this) (by simp) (by simp; omega) (nodes_one' _) (by omega) (by omega) (by simp; omega) fun H' hH' => ?_
  repeat' (first | refine zP ?_ | refine zA ?_ | (refine zM ?_; intro _ _) | refine zX ?_ | (refine zC ?_; intro _ _ _ _) | (refine zS ?_; intro _ _) | (apply Ws <;> intro hg))
  exact Ends.ret1 rfl ⟨[(n0 + 1, .row 3 0 0 (nodes l))], n0 + 2, .mk (by simp), by omega, hH'.sub (.cons_cons _ (List.sublist_cons_self _ _))⟩
set_option maxHeartbeats 4000000 in
theorem chainsIt_fs {l bc eC uC : Nat} {cv : Value} {P : List (List Int)} (hP : SqP P) {B : HL} {J : List (List Nat) → HL → Prop} {Stop : List Nat → Value → HL → Prop}
    (hH : hasH M n0 H) (hmC : (bc, Ch.row eC uC 0 [cv]) ∈ B) (hR : RowsI B cv P) (hB : ∀ zs Mc, J zs Mc → ∀ p ∈ B, p ∈ Mc) (hJ : J (allC (gD (DP P)) P.length) M)
    (hy : ∀ z zs Mc T u n' H', n0 ≤ n' → J (z :: zs) Mc → Chain (gD (DP P)) P.length z → Sl T 1 u (nodes z) → hasH (Mc ++ T) n' H' → YS C l [u] H'
      (fun r H2 => ∃ M2 n2, n' ≤ n2 ∧ hasH (M2 ++ T) n2 H2 ∧ ((r = .bool true ∧ J zs M2) ∨ (r = .bool false ∧ Stop z u M2)))) :
    FS C 94 [.func (.yield l) #[] #[], .pointer (some ⟨bc, 0, some uC⟩)] H (fun _ H' => ∃ M2 T n2, n0 ≤ n2 ∧ hasH (M2 ++ T) n2 H' ∧ (J [] M2 ∨ ∃ z u, Sl T 1 u (nodes z) ∧ Stop z u M2)) := by
  have hlen6 := hP.len
  have mC := hB _ _ hJ _ hmC
  obtain ⟨cws, hcS, hcl, hcrow⟩ := hR
  have hRB : RowsI B cv P := ⟨cws, hcS, hcl, hcrow⟩
  have hcS0 := hcS.mono (hB _ _ hJ)
  refine FS.intro (pf := pf94) rfl rfl rfl ?_
  repeat' (first | refine zP ?_ | refine zA ?_ | (refine zM ?_; intro _ _) | refine zX ?_ | (refine zC ?_; intro _ _ _ _) | (refine zS ?_; intro _ _) | (apply Ws <;> intro hg))
  rw [hcl]
  refine WC.loopX [(0, _), (1, _), (10, _)] (fun s : W1 => [(3, s.v), (11, .int .i64 (s.k : Int))]) [] (fun s H' => s.k ≤ P.length ∧ n0 ≤ s.n ∧ Own 39 1 s.v s.ws s.Mo ∧ RowsN s.Mi s.ws ((List.range s.k).map fun x => [x]) ∧ hasH (s.Mo ++ (s.Mi ++ M)) s.n H') (fun s => P.length - s.k) ⟨0, .slice none 0 0, [], [], [], n0⟩ (by repeat' (first | exact .nil | refine .cons rfl ?_)) rfl
    ⟨Nat.zero_le _, Nat.le_refl _, .nil, .nil _, hH⟩ ?_
  clear hH
  rintro ⟨k, va, ws, Mo, Mi, n1⟩ H1 ⟨hk, hn1, hO, hRw, hH1⟩
  simp only at hk hn1 hO hRw hH1
  dsimp only [List.cons_append, List.nil_append]
  repeat' (first | refine zP ?_ | refine zA ?_ | (refine zM ?_; intro _ _) | refine zX ?_ | (refine zC ?_; intro _ _ _ _) | (refine zS ?_; intro _ _) | (apply Ws <;> intro hg))
  refine WC.condP rfl (fun hltk => ?_) (fun hltk => ?_)
  · have hk' : k < P.length := by omega
    have hwl := hRw.1
    rw [List.length_map, List.length_range] at hwl
    repeat' (first | refine zP ?_ | refine zA ?_ | (refine zM ?_; intro _ _) | refine zX ?_ | (refine zC ?_; intro _ _ _ _) | (refine zS ?_; intro _ _) | (apply Ws <;> intro hg))
    refine WR.bldS (by first | exact gN | exact gS rfl) rfl hH1 (vs := [(0, .int .i64 (k : Int))]) rfl (cs := [.int .i64 (k : Int)]) (by rfl) rfl fun H2 hH2 => ?_
    refine WR.append1F [(n1, .row 3 0 0 [.int .i64 (k : Int)])] Mo (Mi ++ M) rfl rfl rfl rfl hO hH2 (new := [.slice (some ⟨n1, 0, some 0⟩) 1 (2 * 1 + 1)]) (by rfl) (by rfl) rfl (Nat.le_refl _) (by omega) (by simp; omega) fun v3 M3 n3 H6 hO3 hH6 hn3 => ?_
    replace hH6 : hasH ((n1, .row 3 0 0 [.int .i64 (k : Int)]) :: (M3 ++ (Mi ++ M))) n3 H6 := hH6
    repeat' (first | refine zP ?_ | refine zA ?_ | (refine zM ?_; intro _ _) | refine zX ?_ | (refine zC ?_; intro _ _ _ _) | (refine zS ?_; intro _ _) | (apply Ws <;> intro hg))
    refine Ends.loop ⟨k + 1, v3, ws ++ [.slice (some ⟨n1, 0, some 0⟩) 1 (2 * 1 + 1)], M3, (n1, .row 3 0 0 [.int .i64 (k : Int)]) :: Mi, n3⟩ (by simp only; omega) (by repeat' (first | exact .nil | refine .cons rfl ?_)) rfl ⟨by simp only; omega, by simp only; omega, hO3, ?_, ?_⟩
    · simp only
      rw [List.range_succ, List.map_append]
      refine RowsN.snoc (hRw.mono fun q hq => .tail _ hq) ?_
      exact .row (lo := 0) (cs := [.int .i64 (k : Int)]) (.head _) (.row _ _ _ _) (Nat.le_refl _) rfl (by simp) (by simp) (.inr ⟨1, rfl, Nat.le_refl _⟩)
    · exact hH6.perm (by classical exact List.perm_iff_count.2 (fun a => by simp only [defds, List.map_cons, List.map_nil, List.count_append, List.count_cons, List.count_nil, List.cons_append, List.nil_append, List.append_nil]; omega))
  · have hkl : k = P.length := by omega
    subst hkl
    repeat' (first | refine zP ?_ | refine zA ?_ | (refine zM ?_; intro _ _) | refine zX ?_ | (refine zC ?_; intro _ _ _ _) | (refine zS ?_; intro _ _) | (apply Ws <;> intro hg))
    have hbfs := bfs_all (g := gD (DP P)) (n := P.length)
    have hall : ∀ z ∈ allC (gD (DP P)) P.length, Chain (gD (DP P)) P.length z := fun z hz => mem_allC.1 hz
    have hal := allC_len (g := gD (DP P)) hlen6
    generalize allC (gD (DP P)) P.length = R0 at hJ hbfs hall hal
    refine WC.loopX [(0, _), (1, _)] (fun s : W2 => [(3, s.v)]) [] (fun s H' => n0 ≤ s.n ∧ Bfs (extL (gD (DP P)) P.length) s.W s.R ∧ s.R.length ≤ R0.length ∧ (∀ z ∈ s.R, Chain (gD (DP P)) P.length z) ∧ J s.R s.Mc ∧ Own 39 1 s.v s.ws s.Mo ∧ RowsN s.Mi s.ws s.W ∧ hasH (s.Mo ++ (s.Mi ++ s.Mc)) s.n H') (fun s => s.R.length) ⟨va, ws, _, R0, Mo, Mi, M, n1⟩ (by repeat' (first | exact .nil | refine .cons rfl ?_)) rfl
      ⟨hn1, hbfs, Nat.le_refl _, hall, hJ, hO, hRw, hH1⟩ ?_
    clear hH1 hRw hO hJ hbfs hall hcS0 mC
    rintro ⟨vb, ws, W, R, Mo, Mi, Mc, n2⟩ H2 ⟨hn2, hbfs, hRl, hall, hJ, hO, hRw, hH2⟩
    simp only at hn2 hbfs hRl hall hJ hO hRw hH2
    have hSv := hO.sl (Mi ++ Mc)
    have hwl := hRw.1
    dsimp only [List.cons_append, List.nil_append]
    repeat' (first | refine zP ?_ | refine zA ?_ | (refine zM ?_; intro _ _) | refine zX ?_ | (refine zC ?_; intro _ _ _ _) | (refine zS ?_; intro _ _) | (apply Ws <;> intro hg))
    refine WC.condP rfl (fun hpos => ?_) (fun hpos => ?_)
    · cases hbfs with
      | nil => simp at hwl; rw [hwl] at hpos; simp at hpos
      | @cons z W R hbfs =>
      have hz := hall z (.head _)
      have hzl := hz.len
      have hw0 := hRw.2 0 (by simp)
      have hwl1 : 1 ≤ ws.length := by omega
      have hSz : Sl Mi 1 (ws.getD 0 undef) (nodes z) := hw0
      repeat' (first | refine zP ?_ | refine zA ?_ | (refine zM ?_; intro _ _) | refine zX ?_ | (refine zC ?_; intro _ _ _ _) | (refine zS ?_; intro _ _) | (apply Ws <;> intro hg))
      refine WR.slOwnF [] Mo (Mi ++ Mc) (by first | exact gN | exact gS rfl) rfl rfl hO hH2 rfl (by omega) (Nat.le_refl _) (Nat.le_refl _) (fun v2 M2 hO2 hH3 => ?_) (by decide)
      clear hH2 hO hw0 hSv
      replace hH3 : hasH (M2 ++ (Mi ++ Mc)) n2 H2 := hH3
      replace hO2 : Own 39 1 v2 (ws.drop 1) M2 := hO2
      have hRt := hRw.tail
      generalize ws.getD 0 undef = u0 at hSz
      repeat' (first | refine zP ?_ | refine zA ?_ | (refine zM ?_; intro _ _) | refine zX ?_ | (refine zC ?_; intro _ _ _ _) | (refine zS ?_; intro _ _) | (apply Ws <;> intro hg))
      refine WR.yield (by first | exact gN | exact gS rfl) rfl rfl rfl (hy z R Mc (M2 ++ Mi) u0 n2 _ hn2 hJ hz (hSz.mono fun q hq => List.mem_append_right _ hq) (hH3.perm (by classical exact List.perm_iff_count.2 (fun a => by simp only [defds, List.map_cons, List.map_nil, List.count_append, List.count_cons, List.count_nil, List.cons_append, List.nil_append, List.append_nil]; omega)))) ?_
      clear hH3 hRw
      rintro r H4 ⟨Mc2, n4, hn4, hH4, ⟨rfl, hJ2⟩ | ⟨rfl, hSt⟩⟩
      · have hH5 : hasH (M2 ++ (Mi ++ Mc2)) n4 H4 := hH4.perm (by classical exact List.perm_iff_count.2 (fun a => by simp only [defds, List.map_cons, List.map_nil, List.count_append, List.count_cons, List.count_nil, List.cons_append, List.nil_append, List.append_nil]; omega))
        clear hH4 hJ
        repeat' (first | refine zP ?_ | refine zA ?_ | (refine zM ?_; intro _ _) | refine zX ?_ | (refine zC ?_; intro _ _ _ _) | (refine zS ?_; intro _ _) | (apply Ws <;> intro hg))
        have hSz2 : Sl (M2 ++ (Mi ++ Mc2)) 1 u0 (nodes z) := hSz.mono fun q hq => List.mem_append_right _ (List.mem_append_left _ hq)
        refine WR.call (by first | exact gN | exact gS rfl) rfl rfl (ends_fs hH5 hSz2 hzl.1 (by omega)) ?_
        rintro _ H6 ⟨rfl, rfl⟩
        have mC2 : (bc, Ch.row eC uC 0 [cv]) ∈ M2 ++ (Mi ++ Mc2) := List.mem_append_right _ (List.mem_append_right _ (hB _ _ hJ2 _ hmC))
        have hcS2 := hcS.mono (M' := M2 ++ (Mi ++ Mc2)) fun q hq => List.mem_append_right _ (List.mem_append_right _ (hB _ _ hJ2 _ hq))
        repeat' (first | refine zP ?_ | refine zA ?_ | (refine zM ?_; intro _ _) | refine zX ?_ | (refine zC ?_; intro _ _ _ _) | (refine zS ?_; intro _ _) | (apply Ws <;> intro hg))
        rw [hcl]
        clear hcS2 mC2 hSz2
        have hRl2 : R.length ≤ R0.length := by simp at hRl; omega
        have hzlast := hz.lt (j := z.length - 1) (by omega)
        have hext : ∀ k, k ≤ P.length → (W ++ extK (gD (DP P)) z k).length ≤ R0.length + 6 := fun k hk => by
          have := hbfs.len
          rw [List.length_append] at this ⊢
          have h6 : (extK (gD (DP P)) z k).length ≤ k := by
            unfold extK; rw [List.length_map]
            exact Nat.le_trans (List.length_filter_le _ _) (by simp)
          omega
        refine WC.loopX [(0, _), (1, _), (5, u0), (7, .int .i64 (z.getD (z.length - 1) 0 : Nat)), (38, .int .i64 (P.length : Int))] (fun s : W1 => [(3, s.v), (39, .int .i64 (s.k : Int))]) [] (fun s H' => s.k ≤ P.length ∧ n0 ≤ s.n ∧ Own 39 1 s.v s.ws s.Mo ∧ RowsN s.Mi s.ws (W ++ extK (gD (DP P)) z s.k) ∧ Sl s.Mi 1 u0 (nodes z) ∧ hasH (s.Mo ++ (s.Mi ++ Mc2)) s.n H') (fun s => P.length - s.k) ⟨0, v2, ws.drop 1, M2, Mi, n4⟩ (by repeat' (first | exact .nil | refine .cons rfl ?_)) rfl
          ⟨Nat.zero_le _, by simp only; omega, hO2, by simpa [extK] using hRt, hSz, hH5⟩ ?_
        clear hH5 hSz hRt hO2
        rintro ⟨k, v3, ws3, Mo3, Mi3, n5⟩ H7 ⟨hk, hn5, hO3, hR3, hSz, hH7⟩
        simp only at hk hn5 hO3 hR3 hSz hH7
        have hSz3 : Sl (Mo3 ++ (Mi3 ++ Mc2)) 1 u0 (nodes z) := hSz.mono fun q hq => List.mem_append_right _ (List.mem_append_left _ hq)
        have hu01 := hSz.one_
        have mC3 : (bc, Ch.row eC uC 0 [cv]) ∈ Mo3 ++ (Mi3 ++ Mc2) := List.mem_append_right _ (List.mem_append_right _ (hB _ _ hJ2 _ hmC))
        have hwl3 := hR3.1
        have hle3 := hext k hk
        dsimp only [List.cons_append, List.nil_append]
        repeat' (first | refine zP ?_ | refine zA ?_ | (refine zM ?_; intro _ _) | refine zX ?_ | (refine zC ?_; intro _ _ _ _) | (refine zS ?_; intro _ _) | (apply Ws <;> intro hg))
        refine WC.condP rfl (fun hltk => ?_) (fun hltk => ?_)
        · have hk' : k < P.length := by omega
          have hsu := extK_succ (gD (DP P)) z k
          have hRP : RowsI (Mo3 ++ (Mi3 ++ Mc2)) cv P := hRB.mono fun q hq => List.mem_append_right _ (List.mem_append_right _ (hB _ _ hJ2 _ hq))
          repeat' (first | refine zP ?_ | refine zA ?_ | (refine zM ?_; intro _ _) | refine zX ?_ | (refine zC ?_; intro _ _ _ _) | (refine zS ?_; intro _ _) | (apply Ws <;> intro hg))
          refine WR.call (by first | exact gN | exact gS rfl) rfl rfl (asGood_fs hH7 hP hRP hzlast hk') ?_
          rintro _ H8 ⟨rfl, rfl⟩
          cases hgd : gD (DP P) (z.getD (z.length - 1) 0) k with
          | false =>
            rw [hgd, Bool.false_and, if_neg (by decide), List.append_nil] at hsu
            repeat' (first | refine zP ?_ | refine zA ?_ | (refine zM ?_; intro _ _) | refine zX ?_ | (refine zC ?_; intro _ _ _ _) | (refine zS ?_; intro _ _) | (apply Ws <;> intro hg))
            exact Ends.loop ⟨k + 1, v3, ws3, Mo3, Mi3, n5⟩ (by simp only; omega) (by repeat' (first | exact .nil | refine .cons rfl ?_)) rfl ⟨by simp only; omega, hn5, hO3, by simp only; rw [hsu]; exact hR3, hSz, hH7⟩
          | true =>
            rw [hgd, Bool.true_and] at hsu
            repeat' (first | refine zP ?_ | refine zA ?_ | (refine zM ?_; intro _ _) | refine zX ?_ | (refine zC ?_; intro _ _ _ _) | (refine zS ?_; intro _ _) | (apply Ws <;> intro hg))
            refine WR.call (by first | exact gN | exact gS rfl) rfl rfl (Contains_fs hH7 hSz3 (by omega) k) ?_
            rintro _ H9 ⟨rfl, rfl⟩
            by_cases hm : k ∈ z
            · rw [decide_eq_true hm, Bool.not_true, if_neg (by decide), List.append_nil] at hsu
              rw [decide_eq_true hm]
              repeat' (first | refine zP ?_ | refine zA ?_ | (refine zM ?_; intro _ _) | refine zX ?_ | (refine zC ?_; intro _ _ _ _) | (refine zS ?_; intro _ _) | (apply Ws <;> intro hg))
              exact Ends.loop ⟨k + 1, v3, ws3, Mo3, Mi3, n5⟩ (by simp only; omega) (by repeat' (first | exact .nil | refine .cons rfl ?_)) rfl ⟨by simp only; omega, hn5, hO3, by simp only; rw [hsu]; exact hR3, hSz, hH7⟩
            · rw [decide_eq_false hm, Bool.not_false, if_pos rfl] at hsu
              rw [decide_eq_false hm]
              repeat' (first | refine zP ?_ | refine zA ?_ | (refine zM ?_; intro _ _) | refine zX ?_ | (refine zC ?_; intro _ _ _ _) | (refine zS ?_; intro _ _) | (apply Ws <;> intro hg))
              refine WR.call (by first | exact gN | exact gS rfl) rfl rfl (Clone_fs hH7 hSz3 (List.length_pos_iff.1 hzl.1) (by omega)) ?_
              rintro e9 H10 ⟨Mx, n10, hOx, hn10, hH10⟩
              repeat' (first | refine zP ?_ | refine zA ?_ | (refine zM ?_; intro _ _) | refine zX ?_ | (refine zC ?_; intro _ _ _ _) | (refine zS ?_; intro _ _) | (apply Ws <;> intro hg))
              refine WR.append1RF [] Mx (Mo3 ++ (Mi3 ++ Mc2)) rfl rfl rfl rfl hOx.own hH10 (new := [.int .i64 (k : Int)]) (by rfl) rfl rfl (Nat.le_refl _) (by omega) (by simp; omega) fun v4 M4 n11 H11 hO4 hH11 hn11 => ?_
              replace hH11 : hasH (M4 ++ (Mo3 ++ (Mi3 ++ Mc2))) n11 H11 := hH11
              have hv41 := (hO4.own.sl []).one_
              refine WR.append1F M4 Mo3 (Mi3 ++ Mc2) rfl rfl rfl rfl hO3 hH11 (new := [v4]) (fill1 hv41) (by simp [hv41]) rfl (Nat.le_refl _) (by omega) (by simp; omega) fun v5 M5 n12 H12 hO5 hH12 hn12 => ?_
              repeat' (first | refine zP ?_ | refine zA ?_ | (refine zM ?_; intro _ _) | refine zX ?_ | (refine zC ?_; intro _ _ _ _) | (refine zS ?_; intro _ _) | (apply Ws <;> intro hg))
              refine Ends.loop ⟨k + 1, v5, ws3 ++ [v4], M5, M4 ++ Mi3, n12⟩ (by simp only; omega) (by repeat' (first | exact .nil | refine .cons rfl ?_)) rfl ⟨by simp only; omega, by simp only; omega, hO5, ?_, hSz.mono fun q hq => List.mem_append_right _ hq, hH12.perm (by classical exact List.perm_iff_count.2 (fun a => by simp only [defds, List.map_cons, List.map_nil, List.count_append, List.count_cons, List.count_nil, List.cons_append, List.nil_append, List.append_nil]; omega))⟩
              simp only
              rw [hsu, ← List.append_assoc]
              refine RowsN.snoc (hR3.mono fun q hq => List.mem_append_right _ hq) ?_
              have := hO4.own.sl Mi3
              rw [show nodes (z ++ [k]) = nodes z ++ [.int .i64 (k : Int)] by simp [nodes]]
              exact this
        · have hkl : k = P.length := by omega
          subst hkl
          rw [extK_all] at hR3
          repeat' (first | refine zP ?_ | refine zA ?_ | (refine zM ?_; intro _ _) | refine zX ?_ | (refine zC ?_; intro _ _ _ _) | (refine zS ?_; intro _ _) | (apply Ws <;> intro hg))
          exact Ends.loop ⟨v3, ws3, _, R, Mo3, Mi3, Mc2, n5⟩ (by simp) (by repeat' (first | exact .nil | refine .cons rfl ?_)) rfl ⟨hn5, hbfs, hRl2, fun z' hz' => hall z' (.tail _ hz'), hJ2, hO3, hR3, hH7⟩
      · repeat' (first | refine zP ?_ | refine zA ?_ | (refine zM ?_; intro _ _) | refine zX ?_ | (refine zC ?_; intro _ _ _ _) | (refine zS ?_; intro _ _) | (apply Ws <;> intro hg))
        exact Ends.ret0 ⟨Mc2, M2 ++ Mi, n4, by omega, hH4, .inr ⟨z, u0, hSz.mono fun q hq => List.mem_append_right _ hq, hSt⟩⟩
    · have hw0 : W = [] := by
        rw [← List.length_eq_zero_iff, ← hwl]; omega
      subst hw0
      cases hbfs
      repeat' (first | refine zP ?_ | refine zA ?_ | (refine zM ?_; intro _ _) | refine zX ?_ | (refine zC ?_; intro _ _ _ _) | (refine zS ?_; intro _ _) | (apply Ws <;> intro hg))
      exact Ends.end0 ⟨Mc, Mo ++ Mi, n2, hn2, hH2.perm (by classical exact List.perm_iff_count.2 (fun a => by simp only [defds, List.map_cons, List.map_nil, List.count_append, List.count_cons, List.count_nil, List.cons_append, List.nil_append, List.append_nil]; omega)), .inl hJ⟩
end
end Go.Proofs.Yteopjpfhhekkoaa.Tt

/- What sales tell of their taste. -/
namespace Go.Proofs.Yteopjpfhhekkoaa.Tt
open Go Go.Abs Go.Mth
set_option linter.unusedVariables false
set_option linter.unusedSimpArgs false
def TabB (T : List Bool) (f : Nat → Nat → Bool) : Prop := T.length = 36 ∧ ∀ a b, a < 6 → b < 6 → T.getD (a * 6 + b) false = f a b
theorem TabB.zero : TabB (List.replicate 36 false) (fun _ _ => false) := ⟨by simp, fun a b ha hb => by
  rw [getD_eq (by simp; omega), List.getElem_replicate]⟩
theorem TabB.set {T : List Bool} {f f' : Nat → Nat → Bool} {a b : Nat} {x : Bool} (h : TabB T f) (ha : a < 6) (hb : b < 6) (h1 : f' a b = x) (h2 : ∀ p q, p < 6 → q < 6 → ¬ (p = a ∧ q = b) → f' p q = f p q) : TabB (T.set (a * 6 + b) x) f' := by
  refine ⟨by rw [List.length_set]; exact h.1, fun p q hp hq => ?_⟩
  rw [getD_set' (by have := h.1; omega)]
  by_cases e : p * 6 + q = a * 6 + b
  · obtain ⟨rfl, rfl⟩ : p = a ∧ q = b := by omega
    rw [if_pos rfl, h1]
  · rw [if_neg e, h.2 p q hp hq, h2 p q hp hq fun k => e (by rw [k.1, k.2])]
theorem TabB.congr {T : List Bool} {f f' : Nat → Nat → Bool} (h : TabB T f) (k : ∀ a b, a < 6 → b < 6 → f a b = f' a b) : TabB T f' := ⟨h.1, fun a b ha hb => by rw [h.2 a b ha hb, k a b ha hb]⟩
def anyB (D : Nat → Nat → Int) (ds : List (List Nat)) (a b : Nat) : Bool := ds.any fun l => decide (l.getD 0 0 = a) && decide (l.getD (l.length - 1) 0 = b) && betB D l
theorem anyB_snoc (D : Nat → Nat → Int) (ds : List (List Nat)) (z : List Nat) (a b : Nat) : anyB D (ds ++ [z]) a b = (anyB D ds a b || (decide (z.getD 0 0 = a) && decide (z.getD (z.length - 1) 0 = b) && betB D z)) := by
  simp [anyB, List.any_append]
def rkL (D : Nat → Nat → Int) (n : Nat) : List Nat := (List.range n).map (rkN D n)
structure RK where
  a : Nat
  F : List Nat
def cntB (D : Nat → Nat → Int) (n i k : Nat) : Nat := ((List.range k).filter (BTb D n i)).length
theorem cntB_succ (D : Nat → Nat → Int) (n i k : Nat) : cntB D n i (k + 1) = cntB D n i k + if BTb D n i k = true then 1 else 0 := by
  unfold cntB
  rw [List.range_succ, List.filter_append, List.length_append]
  congr 1
  by_cases h : BTb D n i k = true
  · rw [if_pos h]; simp only [List.filter, h, List.length_singleton]
  · rw [if_neg h, Bool.not_eq_true] at *; simp only [List.filter, h, List.length_nil]
theorem cntB_le (D : Nat → Nat → Int) (n i k : Nat) : cntB D n i k ≤ k := Nat.le_trans (List.length_filter_le _ _) (by simp)
def RInv (D : Nat → Nat → Int) (n : Nat) (F : List Nat) (a k : Nat) : Prop := F.length = n ∧ ∀ i, i < n → F.getD i 0 = if i < a then cntB D n i n else if i = a then cntB D n i k else 0
theorem RInv.step {D : Nat → Nat → Int} {n a k : Nat} {F : List Nat} (h : RInv D n F a k) (ha : a < n) (hb : BTb D n a k = true) : RInv D n (F.set a (F.getD a 0 + 1)) a (k + 1) := by
  refine ⟨by rw [List.length_set]; exact h.1, fun i hi => ?_⟩
  rw [getD_set' (by rw [h.1]; exact ha)]
  have h2 := h.2 a ha
  rw [if_neg (Nat.lt_irrefl _), if_pos rfl] at h2
  by_cases e : i = a
  · subst e
    rw [if_pos rfl, if_neg (Nat.lt_irrefl _), if_pos rfl, cntB_succ, if_pos hb, h2]
  · rw [if_neg e, h.2 i hi, if_neg e, if_neg e]
theorem RInv.skip {D : Nat → Nat → Int} {n a k : Nat} {F : List Nat} (h : RInv D n F a k) (hb : BTb D n a k = false) : RInv D n F a (k + 1) := by
  refine ⟨h.1, fun i hi => ?_⟩
  rw [h.2 i hi]
  by_cases e : i = a
  · subst e
    rw [if_neg (Nat.lt_irrefl _), if_pos rfl, if_neg (Nat.lt_irrefl _), if_pos rfl, cntB_succ, hb]; rfl
  · rw [if_neg e, if_neg e]
theorem RInv.next {D : Nat → Nat → Int} {n a : Nat} {F : List Nat} (h : RInv D n F a n) : RInv D n F (a + 1) 0 := by
  refine ⟨h.1, fun i hi => ?_⟩
  rw [h.2 i hi]
  by_cases e : i < a
  · rw [if_pos e, if_pos (by omega)]
  · by_cases e2 : i = a
    · subst e2
      rw [if_neg e, if_pos rfl, if_pos (by omega)]
    · rw [if_neg e, if_neg e2, if_neg (by omega)]
      by_cases e3 : i = a + 1
      · rw [if_pos e3]; rfl
      · rw [if_neg e3]
theorem RInv.fin {D : Nat → Nat → Int} {n : Nat} {F : List Nat} (h : RInv D n F n 0) : F = rkL D n := by
  refine ext_getD (a := 0) (by rw [h.1]; simp [rkL]) fun i hi => ?_
  rw [h.1] at hi
  rw [h.2 i hi, if_pos hi, getD_eq (by simp [rkL]; exact hi)]
  simp [rkL, rkN, cntB]
attribute [local irreducible] gOK WS WC WR WD Ends FS YS OpV seqK blockK loopK midK retK rdK asgK rangeEnd sat Cell
section
variable {M : HL} {n0 : Nat} {H : Heap} {v w : Value}
theorem chains_fs (hH : hasH M n0 H) {v : Value} (hv : one v = true) :
    FS C 73 [v] H (fun e H' => e = .func (.func 94) #[] #[.pointer (some ⟨n0, 0, some 0⟩)] ∧ hasH ((n0, .row 90 0 0 [v]) :: M) (n0 + 1) H') := by
  refine FS.intro (pf := pf73) rfl rfl rfl ?_
  repeat' (first | refine zP ?_ | refine zA ?_ | (refine zM ?_; intro _ _) | refine zX ?_ | (refine zC ?_; intro _ _ _ _) | (refine zS ?_; intro _ _) | (apply Ws <;> intro hg))
  refine WR.box1 (by first | exact gN | exact gS rfl) rfl hH rfl hv fun H1 hH1 => ?_
  repeat' (first | refine zP ?_ | refine zA ?_ | (refine zM ?_; intro _ _) | refine zX ?_ | (refine zC ?_; intro _ _ _ _) | (refine zS ?_; intro _ _) | (apply Ws <;> intro hg))
  exact Ends.ret1 rfl ⟨rfl, hH1⟩
set_option maxHeartbeats 4000000 in
theorem judge_fs (hH : hasH M n0 H) {P : List (List Int)} (hP : SqP P) (hR : RowsI M v P) :
    FS C 78 [v] H (fun e H' => ∃ n' M2 u, n0 ≤ n' ∧ hasH (M2 ++ M) n' H' ∧ one u = true ∧
      ((∃ z, (allC (gD (DP P)) P.length).find? (closB (DP P)) = some z ∧ Sl (M2 ++ M) 1 u (nodes z) ∧ e = .iface 109 u) ∨
       ((allC (gD (DP P)) P.length).find? (closB (DP P)) = none ∧ Sl (M2 ++ M) 1 u (nodes (rkL (DP P) P.length)) ∧ e = .iface 116 u))) := by
  have hv := hR.one_
  have hlen6 := hP.len
  refine FS.intro (pf := pf78) rfl rfl rfl ?_
  repeat' (first | refine zP ?_ | refine zA ?_ | (refine zM ?_; intro _ _) | refine zX ?_ | (refine zC ?_; intro _ _ _ _) | (refine zS ?_; intro _ _) | (apply Ws <;> intro hg))
  refine WR.box1 (by first | exact gN | exact gS rfl) rfl hH rfl hv fun H1 hH1 => ?_
  repeat' (first | refine zP ?_ | refine zA ?_ | (refine zM ?_; intro _ _) | refine zX ?_ | (refine zC ?_; intro _ _ _ _) | (refine zS ?_; intro _ _) | (apply Ws <;> intro hg))
  rename_i H2 hH2 H3 hH3
  replace hH3 : hasH ((n0 + 1 + 1, .row 80 0 0 (bools (List.replicate 36 false))) :: (n0 + 1, .row 112 0 0 [.nilIface]) :: (n0, .row 90 0 0 [v]) :: M) (n0 + 1 + 1 + 1) H3 := hH3
  refine WR.call (by first | exact gN | exact gS rfl) rfl rfl (chains_fs hH3 hv) ?_
  rintro _ H4 ⟨rfl, hH4⟩
  clear hH hH1 hH2 hH3
  repeat' (first | refine zP ?_ | refine zA ?_ | (refine zM ?_; intro _ _) | refine zX ?_ | (refine zC ?_; intro _ _ _ _) | (refine zS ?_; intro _ _) | (apply Ws <;> intro hg))
  refine WC.range0 (va := []) (vb := [.pointer (some ⟨n0 + 1 + 1 + 1, 0, some 0⟩)]) rfl hH4 fun t ht H6 hH6 => ?_
  generalize hRR : ({ state := .ready, pending := none, fn := 78, tmps := t, params := [12], assign := _, body := _, nt := _ } : LoopE) = R at hH6
  obtain ⟨nn, hnn, hnn0⟩ : ∃ nn, n0 + 1 + 1 + 1 + 1 + 2 = nn ∧ n0 ≤ nn := ⟨_, rfl, by omega⟩
  rw [hnn] at hH6
  generalize n0 + 1 + 1 + 1 + 1 + 1 = lp at hH6 ⊢
  generalize n0 + 1 + 1 + 1 + 1 = df at hH6 ⊢
  generalize n0 + 1 + 1 + 1 = b3 at hH6 ⊢
  generalize n0 + 1 + 1 = b2 at hH6 hRR ht ⊢
  generalize n0 + 1 = b1 at hH6 hRR ht ⊢
  clear hH4 hnn
  have hall0 := allC_len (g := gD (DP P)) hlen6
  refine FS.mono (chainsIt_fs (l := lp) (bc := b3) (eC := 90) (uC := 0) (cv := v) hP (B := (b3, .row 90 0 0 [v]) :: M)
    (J := fun zs Mc => ∃ ds T, ds ++ zs = allC (gD (DP P)) P.length ∧ (∀ d ∈ ds, closB (DP P) d = false) ∧ TabB T (anyB (DP P) ds) ∧
      Mc = (lp, .loop R) :: (df, .defd false) :: (b3, .row 90 0 0 [v]) :: (b2, .row 80 0 0 (bools T)) :: (b1, .row 112 0 0 [.nilIface]) :: (n0, .row 90 0 0 [v]) :: M)
    (Stop := fun z u Mc => closB (DP P) z = true ∧ (∃ ds zs, ds ++ z :: zs = allC (gD (DP P)) P.length ∧ ∀ d ∈ ds, closB (DP P) d = false) ∧ ∃ T,
      Mc = (lp, .loop { R with state := .done, pending := some .ret }) :: (df, .defd false) :: (b3, .row 90 0 0 [v]) :: (b2, .row 80 0 0 (bools T)) :: (b1, .row 112 0 0 [.iface 109 u]) :: (n0, .row 90 0 0 [v]) :: M)
    hH6 (.head _) (hR.mono fun q hq => .tail _ hq) ?_ ⟨[], _, rfl, fun d hd => (by cases hd), TabB.zero, rfl⟩ ?_) ?_
  · rintro zs Mc ⟨ds, T, _, _, _, rfl⟩ p hp
    rcases List.mem_cons.1 hp with rfl | hp
    · simp
    · simp [hp]
  · rintro z zs Mc T0 u n' H7 hn' ⟨ds, T, hds, hno, hT, rfl⟩ hz hSz hH7
    simp only [List.cons_append] at hH7
    have hzl := hz.len
    have hzlt := hz.2.1
    have hu1 := hSz.one_
    have hSz7 : Sl ((b3, Ch.row 90 0 0 [v]) :: (b2, Ch.row 80 0 0 (bools T)) :: (b1, Ch.row 112 0 0 [.nilIface]) :: (n0, Ch.row 90 0 0 [v]) :: (M ++ T0)) 1 u (nodes z) := hSz.mono fun q hq => by simp [hq]
    have hR7 : RowsI ((b3, Ch.row 90 0 0 [v]) :: (b2, Ch.row 80 0 0 (bools T)) :: (b1, Ch.row 112 0 0 [.nilIface]) :: (n0, Ch.row 90 0 0 [v]) :: (M ++ T0)) v P := hR.mono fun q hq => by simp [hq]
    refine YS.intro hH7 (.head _) (by rw [← hRR]) (by rw [← hRR]) (by rw [← hRR]; rfl) (by rw [← hRR]; exact ht) ?_
    subst hRR
    dsimp only
    repeat' (first | refine zA ?_ | (refine zM ?_; intro _ _) | (apply Ws <;> intro hg))
    refine Ends.asg hH7 .here fun H8 hH8 => ?_
    dsimp only
    clear hH7
    repeat' (first | refine zP ?_ | refine zA ?_ | (refine zM ?_; intro _ _) | refine zX ?_ | (refine zC ?_; intro _ _ _ _) | (refine zS ?_; intro _ _) | (apply Ws <;> intro hg))
    refine WR.call (by first | exact gN | exact gS rfl) rfl rfl (isRing_fs hH8 hP hR7.cons.cons hSz7.cons.cons (by omega) hzlt) ?_
    rintro _ H9 ⟨rfl, rfl⟩
    cases hcb : closB (DP P) z with
    | true =>
      have hi1 : one (.iface 109 u) = true := by cases u <;> first | rfl | cases hu1
      repeat' (first | refine zP ?_ | refine zA ?_ | (refine zM ?_; intro _ _) | refine zX ?_ | (refine zC ?_; intro _ _ _ _) | (refine zS ?_; intro _ _) | (apply Ws <;> intro hg))
      refine WR.storeBox (by first | exact gN | exact gS rfl) hH8 rfl rfl hi1 (.there (.there (.there (.there .here)))) fun H10 hH10 => ?_
      repeat' (first | refine zP ?_ | refine zA ?_ | (refine zM ?_; intro _ _) | refine zX ?_ | (refine zC ?_; intro _ _ _ _) | (refine zS ?_; intro _ _) | (apply Ws <;> intro hg))
      refine Ends.rd rfl rfl rfl hH10 .here fun H' h' => ⟨_ :: _ :: _ :: _ :: _ :: _ :: M, n', Nat.le_refl _, h', .inr ⟨rfl, rfl, ⟨ds, zs, hds, hno⟩, T, rfl⟩⟩
    | false =>
      repeat' (first | refine zP ?_ | refine zA ?_ | (refine zM ?_; intro _ _) | refine zX ?_ | (refine zC ?_; intro _ _ _ _) | (refine zS ?_; intro _ _) | (apply Ws <;> intro hg))
      refine WR.call (by first | exact gN | exact gS rfl) rfl rfl (ends_fs hH8 hSz7.cons.cons hzl.1 (by omega)) ?_
      rintro _ H9 ⟨rfl, rfl⟩
      repeat' (first | refine zP ?_ | refine zA ?_ | (refine zM ?_; intro _ _) | refine zX ?_ | (refine zC ?_; intro _ _ _ _) | (refine zS ?_; intro _ _) | (apply Ws <;> intro hg))
      refine WR.call (by first | exact gN | exact gS rfl) rfl rfl (hasBetter_fs hH8 hP hR7.cons.cons hSz7.cons.cons hzl.1 (by omega) hzlt) ?_
      rintro _ H9 ⟨rfl, rfl⟩
      have hno2 : ∀ d ∈ ds ++ [z], closB (DP P) d = false := fun d hd => by
        rcases List.mem_append.1 hd with hd | hd
        · exact hno d hd
        · rw [List.mem_singleton.1 hd]; exact hcb
      have hds2 : (ds ++ [z]) ++ zs = allC (gD (DP P)) P.length := by rw [← hds]; simp
      have ha6 := hz.lt (j := 0) (by omega)
      have hb6 := hz.lt (j := z.length - 1) (by omega)
      cases hbb : betB (DP P) z with
      | true =>
        have hT2 : TabB (T.set (z.getD 0 0 * 6 + z.getD (z.length - 1) 0) true) (anyB (DP P) (ds ++ [z])) := hT.set (by omega) (by omega) (by rw [anyB_snoc, hbb]; simp) fun p q hp hq hpq => by
          rw [anyB_snoc]
          have : (decide (z.getD 0 0 = p) && decide (z.getD (z.length - 1) 0 = q) && betB (DP P) z) = false := by
            by_cases e : z.getD 0 0 = p
            · by_cases e2 : z.getD (z.length - 1) 0 = q
              · exact absurd ⟨e.symm, e2.symm⟩ hpq
              · rw [decide_eq_false e2]; simp
            · rw [decide_eq_false e]; simp
          rw [this, Bool.or_false]
        have hTl := hT.1
        repeat' (first | refine zP ?_ | refine zA ?_ | (refine zM ?_; intro _ _) | refine zX ?_ | (refine zC ?_; intro _ _ _ _) | (refine zS ?_; intro _ _) | (apply Ws <;> intro hg))
        rename_i H10 hH10
        exact Ends.rd rfl rfl rfl hH10 .here fun H' h' => ⟨_ :: _ :: _ :: _ :: _ :: _ :: M, n', Nat.le_refl _, h', .inl ⟨rfl, ds ++ [z], _, hds2, hno2, hT2, rfl⟩⟩
      | false =>
        have hT2 : TabB T (anyB (DP P) (ds ++ [z])) := hT.congr fun a b _ _ => by rw [anyB_snoc, hbb]; simp
        repeat' (first | refine zP ?_ | refine zA ?_ | (refine zM ?_; intro _ _) | refine zX ?_ | (refine zC ?_; intro _ _ _ _) | (refine zS ?_; intro _ _) | (apply Ws <;> intro hg))
        exact Ends.rd rfl rfl rfl hH8 .here fun H' h' => ⟨_ :: _ :: _ :: _ :: _ :: _ :: M, n', Nat.le_refl _, h', .inl ⟨rfl, ds ++ [z], _, hds2, hno2, hT2, rfl⟩⟩
  · rintro _ H7 ⟨M7, T0, n7, hn7, hH7, ⟨ds, T, hds, hno, hT, rfl⟩ | ⟨z, u, hSz, hcb, ⟨ds, zs, hds, hno⟩, T, rfl⟩⟩
    · rw [List.append_nil] at hds
      simp only [List.cons_append] at hH7
      refine rangeEnd_of hH7 .here (by rw [← hRR]; simp) (by rw [← hRR]; rfl) fun H8 hH8 => ?_
      clear hH7 hH6
      have hnone : (allC (gD (DP P)) P.length).find? (closB (DP P)) = none := List.find?_eq_none.2 fun d hd => by rw [← hds] at hd; rw [hno d hd]; simp
      rw [hds] at hT
      generalize ({ R with state := .exhausted } : LoopE) = R2 at hH8
      obtain ⟨cws, hcS, hcl, hcrow⟩ := hR
      have hcS8 : Sl ((lp, Ch.loop R2) :: (df, .defd false) :: (b3, .row 90 0 0 [v]) :: (b2, .row 80 0 0 (bools T)) :: (b1, .row 112 0 0 [.nilIface]) :: (n0, .row 90 0 0 [v]) :: (M ++ T0)) 1 v cws := hcS.mono fun q hq => by simp [hq]
      clear hcS8
      have hH9 : hasH ((b2, .row 80 0 0 (bools T)) :: (b1, .row 112 0 0 [.nilIface]) :: (n0, .row 90 0 0 [v]) :: (df, .defd false) :: (M ++ T0)) n7 H8 := by
        refine (hH8.sub (M' := (df, .defd false) :: (b2, .row 80 0 0 (bools T)) :: (b1, .row 112 0 0 [.nilIface]) :: (n0, .row 90 0 0 [v]) :: (M ++ T0)) ?_).perm ?_
        · exact .cons _ (.cons_cons _ (.cons _ (List.Sublist.refl _)))
        · exact (List.perm_middle (l₁ := [_, _, _])).symm
      clear hH8
      have hcS9 : Sl ((b2, .row 80 0 0 (bools T)) :: (b1, .row 112 0 0 [.nilIface]) :: (n0, .row 90 0 0 [v]) :: (df, .defd false) :: (M ++ T0)) 1 v cws := hcS.mono fun q hq => by simp [hq]
      have hTl := hT.1
      repeat' (first | refine zP ?_ | refine zA ?_ | (refine zM ?_; intro _ _) | refine zX ?_ | (refine zC ?_; intro _ _ _ _) | (refine zS ?_; intro _ _) | (apply Ws <;> intro hg))
      rw [hcl]
      refine WR.mkS (by first | exact gN | exact gS rfl) rfl hH9 rfl rfl (by omega) rfl fun H10 hH10 => ?_
      replace hH10 : hasH ((n7, .row 3 0 0 (nodes (List.replicate P.length 0))) :: (b2, .row 80 0 0 (bools T)) :: (b1, .row 112 0 0 [.nilIface]) :: (n0, .row 90 0 0 [v]) :: (df, .defd false) :: (M ++ T0)) (n7 + 1) H10 := by
        rw [show nodes (List.replicate P.length 0) = List.replicate P.length (Value.int .i64 0) by simp [nodes]]; exact hH10
      clear hH9
      replace hcS9 := hcS9.cons (p := (n7, .row 3 0 0 (nodes (List.replicate P.length 0))))
      repeat' (first | refine zP ?_ | refine zA ?_ | (refine zM ?_; intro _ _) | refine zX ?_ | (refine zC ?_; intro _ _ _ _) | (refine zS ?_; intro _ _) | (apply Ws <;> intro hg))
      rw [hcl]
      clear hcS9
      refine WC.loopX [(1, _), (2, _), (3, _), (7, .slice (some ⟨n7, 0, some 0⟩) P.length (2 * P.length + 1)), (34, _)] (fun s : RK => [(35, .int .i64 (s.a : Int))]) [df] (fun s H' => s.a ≤ P.length ∧ RInv (DP P) P.length s.F s.a 0 ∧ hasH ((n7, .row 3 0 0 (nodes s.F)) :: (b2, .row 80 0 0 (bools T)) :: (b1, .row 112 0 0 [.nilIface]) :: (n0, .row 90 0 0 [v]) :: (df, .defd false) :: (M ++ T0)) (n7 + 1) H') (fun s => P.length - s.a) ⟨0, List.replicate P.length 0⟩ (by repeat' (first | exact .nil | refine .cons rfl ?_)) rfl
        ⟨Nat.zero_le _, ⟨by simp, fun i hi => by
          rw [getD_eq (by simpa using hi), List.getElem_replicate, if_neg (Nat.not_lt_zero _)]
          split <;> rfl⟩, hH10⟩ ?_
      clear hH10
      rintro ⟨a, F⟩ H11 ⟨ha, hI, hH11⟩
      simp only at ha hI hH11
      have hcS11 : Sl ((n7, .row 3 0 0 (nodes F)) :: (b2, .row 80 0 0 (bools T)) :: (b1, .row 112 0 0 [.nilIface]) :: (n0, .row 90 0 0 [v]) :: (df, .defd false) :: (M ++ T0)) 1 v cws := hcS.mono fun q hq => by simp [hq]
      dsimp only [List.cons_append, List.nil_append]
      repeat' (first | refine zP ?_ | refine zA ?_ | (refine zM ?_; intro _ _) | refine zX ?_ | (refine zC ?_; intro _ _ _ _) | (refine zS ?_; intro _ _) | (apply Ws <;> intro hg))
      refine WC.condP rfl (fun hlta => ?_) (fun hlta => ?_)
      · have ha' : a < P.length := by omega
        repeat' (first | refine zP ?_ | refine zA ?_ | (refine zM ?_; intro _ _) | refine zX ?_ | (refine zC ?_; intro _ _ _ _) | (refine zS ?_; intro _ _) | (apply Ws <;> intro hg))
        rw [hcl]
        clear hcS11
        refine WC.loopX [(1, _), (2, _), (3, _), (7, .slice (some ⟨n7, 0, some 0⟩) P.length (2 * P.length + 1)), (8, _), (34, _), (35, _), (39, _)] (fun s : RK => [(40, .int .i64 (s.a : Int))]) [df] (fun s H' => s.a ≤ P.length ∧ RInv (DP P) P.length s.F a s.a ∧ hasH ((n7, .row 3 0 0 (nodes s.F)) :: (b2, .row 80 0 0 (bools T)) :: (b1, .row 112 0 0 [.nilIface]) :: (n0, .row 90 0 0 [v]) :: (df, .defd false) :: (M ++ T0)) (n7 + 1) H') (fun s => P.length - s.a) ⟨0, F⟩ (by repeat' (first | exact .nil | refine .cons rfl ?_)) rfl ⟨Nat.zero_le _, hI, hH11⟩ ?_
        clear hH11 hI
        rintro ⟨k, F2⟩ H12 ⟨hk, hI, hH12⟩
        simp only at hk hI hH12
        have hFl := hI.1
        dsimp only [List.cons_append, List.nil_append]
        repeat' (first | refine zP ?_ | refine zA ?_ | (refine zM ?_; intro _ _) | refine zX ?_ | (refine zC ?_; intro _ _ _ _) | (refine zS ?_; intro _ _) | (apply Ws <;> intro hg))
        refine WC.condP rfl (fun hltk => ?_) (fun hltk => ?_)
        · have hk' : k < P.length := by omega
          have hTg : T.getD (a * 6 + k) false = BTb (DP P) P.length a k := hT.2 a k (by omega) (by omega)
          have hFa := hI.2 a ha'
          rw [if_neg (Nat.lt_irrefl _), if_pos rfl] at hFa
          have hcl2 := cntB_le (DP P) P.length a k
          repeat' (first | refine zP ?_ | refine zA ?_ | (refine zM ?_; intro _ _) | refine zX ?_ | (refine zC ?_; intro _ _ _ _) | (refine zS ?_; intro _ _) | (apply Ws <;> intro hg))
          rw [hTg]
          cases hbt : BTb (DP P) P.length a k with
          | true =>
            repeat' (first | refine zP ?_ | refine zA ?_ | (refine zM ?_; intro _ _) | refine zX ?_ | (refine zC ?_; intro _ _ _ _) | (refine zS ?_; intro _ _) | (apply Ws <;> intro hg))
            rename_i H13 hH13
            exact Ends.loop ⟨k + 1, F2.set a (F2.getD a 0 + 1)⟩ (by simp only; omega) (by repeat' (first | exact .nil | refine .cons rfl ?_)) rfl ⟨by simp only; omega, hI.step ha' hbt, hH13⟩
          | false =>
            repeat' (first | refine zP ?_ | refine zA ?_ | (refine zM ?_; intro _ _) | refine zX ?_ | (refine zC ?_; intro _ _ _ _) | (refine zS ?_; intro _ _) | (apply Ws <;> intro hg))
            exact Ends.loop ⟨k + 1, F2⟩ (by simp only; omega) (by repeat' (first | exact .nil | refine .cons rfl ?_)) rfl ⟨by simp only; omega, hI.skip hbt, hH12⟩
        · have hkl : k = P.length := by omega
          subst hkl
          repeat' (first | refine zP ?_ | refine zA ?_ | (refine zM ?_; intro _ _) | refine zX ?_ | (refine zC ?_; intro _ _ _ _) | (refine zS ?_; intro _ _) | (apply Ws <;> intro hg))
          exact Ends.loop ⟨a + 1, F2⟩ (by simp only; omega) (by repeat' (first | exact .nil | refine .cons rfl ?_)) rfl ⟨by simp only; omega, hI.next, hH12⟩
      · have hal : a = P.length := by omega
        subst hal
        have hF := hI.fin
        subst hF
        have hFl := hI.1
        have hi1 : one (.iface 116 (.slice (some ⟨n7, 0, some 0⟩) P.length (2 * P.length + 1))) = true := rfl
        repeat' (first | refine zP ?_ | refine zA ?_ | (refine zM ?_; intro _ _) | refine zX ?_ | (refine zC ?_; intro _ _ _ _) | (refine zS ?_; intro _ _) | (apply Ws <;> intro hg))
        rename_i H12 hH12
        refine Ends.retC1D rfl hH12 (M' := (n7, .row 3 0 0 (nodes (rkL (DP P) P.length))) :: (b1, .row 112 0 0 [.iface 116 (.slice (some ⟨n7, 0, some 0⟩) P.length (2 * P.length + 1))]) :: (df, .defd false) :: (M ++ T0)) (.cons_cons _ (.cons _ (.cons_cons _ (.cons _ (List.Sublist.refl _))))) (M0 := (n7, .row 3 0 0 (nodes (rkL (DP P) P.length))) :: (b1, .row 112 0 0 [.iface 116 (.slice (some ⟨n7, 0, some 0⟩) P.length (2 * P.length + 1))]) :: (M ++ T0)) (List.perm_middle (l₁ := [_, _])) fun H' h' =>
          ⟨h'.read (.tail _ (.head _)) (.row _ _ _ _) (Nat.zero_le _) rfl, n7 + 1, (n7, .row 3 0 0 (nodes (rkL (DP P) P.length))) :: (b1, .row 112 0 0 [.iface 116 (.slice (some ⟨n7, 0, some 0⟩) P.length (2 * P.length + 1))]) :: T0, _, by omega, h'.perm (by classical exact List.perm_iff_count.2 (fun a => by simp only [defds, List.map_cons, List.map_nil, List.count_append, List.count_cons, List.count_nil, List.cons_append, List.nil_append, List.append_nil]; omega)), rfl, .inr ⟨hnone, ?_, rfl⟩⟩
        exact .row (lo := 0) (cs := nodes (rkL (DP P) P.length)) (.head _) (.row _ _ _ _) (Nat.le_refl _) (by simp [rkL]) (by simp [List.take_of_length_le]) (by simp) (.inr ⟨P.length, rfl, Nat.le_refl _⟩)
    · simp only [List.cons_append] at hH7
      have hu1 := hSz.one_
      refine rangeEnd_of hH7 .here (by simp) rfl fun H8 hH8 => ?_
      have hsome : (allC (gD (DP P)) P.length).find? (closB (DP P)) = some z := List.find?_eq_some_iff_append.2 ⟨hcb, ds, zs, hds.symm, fun d hd => by rw [hno d hd]; rfl⟩
      repeat' (first | refine zP ?_ | refine zA ?_ | (refine zM ?_; intro _ _) | refine zX ?_ | (refine zC ?_; intro _ _ _ _) | (refine zS ?_; intro _ _) | (apply Ws <;> intro hg))
      refine Ends.retC1D rfl hH8 (M' := (df, .defd false) :: (b1, .row 112 0 0 [.iface 109 u]) :: (M ++ T0)) (.cons _ (.cons_cons _ (.cons _ (.cons _ (.cons_cons _ (.cons _ (List.Sublist.refl _))))))) (M0 := (b1, .row 112 0 0 [.iface 109 u]) :: (M ++ T0)) (List.Perm.refl _) fun H' h' =>
        ⟨h'.read (.head _) (.row _ _ _ _) (Nat.zero_le _) rfl, n7, (b1, .row 112 0 0 [.iface 109 u]) :: T0, u, by omega, h'.perm (by classical exact List.perm_iff_count.2 (fun a => by simp only [defds, List.map_cons, List.map_nil, List.count_append, List.count_cons, List.count_nil, List.cons_append, List.nil_append, List.append_nil]; omega)), hu1, .inl ⟨z, hsome, hSz.mono fun q hq => by simp [hq], rfl⟩⟩
end
end Go.Proofs.Yteopjpfhhekkoaa.Tt

/- Taste, Ring, Ranks. -/
namespace Go.Abs
set_option linter.unusedSectionVars false
variable [Globs]
open Go
section
variable {C : CW} {L : Env} {H : Heap}
theorem OpV.tasT {a : TypeId} {z v : Value} {x : Operand} (hx : ev L x = some (.iface a v)) : OpV C (.tas a z x true) L H (.tuple #[v, .bool true]) H := fun t ht => by
  simp only [opA, ev_ok ht hx, oTas, Nat.beq_refl, cond_true]
theorem OpV.tasF {a b : TypeId} {z v : Value} {x : Operand} (hx : ev L x = some (.iface b v)) (hb : Nat.beq b a = false) : OpV C (.tas a z x true) L H (.tuple #[z, .bool false]) H := fun t ht => by
  simp only [opA, ev_ok ht hx, oTas, hb, cond_false, cond_true]
end
end Go.Abs
namespace Go.Proofs.Yteopjpfhhekkoaa.Tt
open Go Go.Abs Go.Mth
set_option linter.unusedVariables false
set_option linter.unusedSimpArgs false
def firstRing (P : List (List Int)) : Option (List Nat) := (allC (gD (DP P)) P.length).find? (closB (DP P))
def tasteB (P : List (List Int)) : Bool := (firstRing P).isNone
theorem tasteB_iff {P : List (List Int)} : tasteB P = true ↔ ¬ ringed (DP P) P.length := by
  unfold tasteB
  rw [ringed_iff, Option.isNone_iff_eq_none]
  constructor
  · rintro h ⟨l, h1, h2⟩
    rw [find_none h l h1] at h2; cases h2
  · intro h
    cases hf : firstRing P with
    | none => rfl
    | some z => exact absurd ⟨z, (find_least hf).1⟩ h
def LenS (S : List Sal) : Prop := S.length ≤ 1000 ∧ ∀ i, i < S.length → (S.getD i noSal).1.length ≤ 1000 ∧ (S.getD i noSal).2.length ≤ 1000
theorem OKS.lens {g : Nat} {S : List Sal} (h : OKS g S) : LenS S := by
  have := h.len
  have h3 := h.g3
  exact ⟨by omega, fun i hi => by rw [h.lp i hi, h.lt i hi]; omega⟩
theorem errS_range (g : Int) (S : List Sal) : 0 ≤ errS g S ∧ errS g S ≤ 5 := by
  have hs : ∀ s, 0 ≤ saleE g s ∧ saleE g s ≤ 5 := fun s => by unfold saleE; split <;> (try split) <;> omega
  have hf : ∀ m, 0 ≤ firstE (fun i => saleE g (S.getD i noSal)) m ∧ firstE (fun i => saleE g (S.getD i noSal)) m ≤ 5 := fun m => by
    induction m with
    | zero => simp [firstE]
    | succ m ih =>
      simp only [firstE]
      split
      · exact hs _
      · exact ih
  unfold errS
  split
  · omega
  · split
    · omega
    · exact hf _
attribute [local irreducible] gOK WS WC WR WD Ends FS YS OpV seqK blockK loopK midK retK rdK asgK rangeEnd sat Cell
section
variable {M : HL} {n0 : Nat} {H : Heap} {v w : Value}
theorem oneTaste_fs (hH : hasH M n0 H) {P : List (List Int)} (hP : SqP P) (hR : RowsI M v P) :
    FS C 76 [v] H (fun e H' => ∃ n', n0 ≤ n' ∧ hasH M n' H' ∧ e = .bool (tasteB P)) := by
  refine FS.intro (pf := pf76) rfl rfl rfl ?_
  repeat' (first | refine zP ?_ | refine zA ?_ | (refine zM ?_; intro _ _) | refine zX ?_ | (refine zC ?_; intro _ _ _ _) | (refine zS ?_; intro _ _) | (apply Ws <;> intro hg))
  refine WR.call (by first | exact gN | exact gS rfl) rfl rfl (judge_fs hH hP hR) ?_
  rintro _ H2 ⟨n2, M2, u, hn2, hH2, hu, ⟨z, hf, hS, rfl⟩ | ⟨hf, hS, rfl⟩⟩
  · refine WR.op (by first | exact gN | exact gS rfl) rfl (OpV.tasF rfl rfl) ?_
    repeat' (first | refine zP ?_ | refine zA ?_ | (refine zM ?_; intro _ _) | refine zX ?_ | (refine zC ?_; intro _ _ _ _) | (refine zS ?_; intro _ _) | (apply Ws <;> intro hg))
    refine Ends.ret1 rfl ⟨n2, hn2, hH2.sub (List.sublist_append_right _ _), ?_⟩
    rw [tasteB, firstRing, hf]; rfl
  · refine WR.op (by first | exact gN | exact gS rfl) rfl (OpV.tasT rfl) ?_
    repeat' (first | refine zP ?_ | refine zA ?_ | (refine zM ?_; intro _ _) | refine zX ?_ | (refine zC ?_; intro _ _ _ _) | (refine zS ?_; intro _ _) | (apply Ws <;> intro hg))
    refine Ends.ret1 rfl ⟨n2, hn2, hH2.sub (List.sublist_append_right _ _), ?_⟩
    rw [tasteB, firstRing, hf]; rfl
theorem reckon_fs (hH : hasH M n0 H) {S : List Sal} (hS : SalesI M v S) (hl : LenS S) (g : Int) :
    FS C 65 [.int .i64 g, v] H (fun e H' => ∃ n' M2 u, n0 ≤ n' ∧ hasH (M2 ++ M) n' H' ∧ one u = true ∧ e = .tuple #[u, .int .i64 (errS g S)] ∧ ((errS g S ≠ 0 ∧ u = .slice none 0 0) ∨ (errS g S = 0 ∧ (∃ k : Nat, g = k ∧ OKS k S) ∧ SqP (matS S) ∧ RowsI (M2 ++ M) u (matS S)))) := by
  have hv := hS.one_
  have hr := errS_range g S
  refine FS.intro (pf := pf65) rfl rfl rfl ?_
  repeat' (first | refine zP ?_ | refine zA ?_ | (refine zM ?_; intro _ _) | refine zX ?_ | (refine zC ?_; intro _ _ _ _) | (refine zS ?_; intro _ _) | (apply Ws <;> intro hg))
  refine WR.call (by first | exact gN | exact gS rfl) rfl rfl (Check_fs hH hS hl.1 hl.2 g) ?_
  rintro _ H2 ⟨n2, hn2, hH2, rfl⟩
  clear hH
  repeat' (first | refine zP ?_ | refine zA ?_ | (refine zM ?_; intro _ _) | refine zX ?_ | (refine zC ?_; intro _ _ _ _) | (refine zS ?_; intro _ _) | (apply Ws <;> intro hg))
  refine WC.condP rfl (fun he => ?_) (fun he => ?_)
  · repeat' (first | refine zP ?_ | refine zA ?_ | (refine zM ?_; intro _ _) | refine zX ?_ | (refine zC ?_; intro _ _ _ _) | (refine zS ?_; intro _ _) | (apply Ws <;> intro hg))
    exact Ends.ret2 rfl rfl ⟨n2, [], _, hn2, hH2, rfl, rfl, .inl ⟨he, rfl⟩⟩
  · have h0 : errS g S = 0 := Decidable.not_not.1 he
    obtain ⟨k, rfl, hk⟩ := errS_zero.1 h0
    rw [h0]
    repeat' (first | refine zP ?_ | refine zA ?_ | (refine zM ?_; intro _ _) | refine zX ?_ | (refine zC ?_; intro _ _ _ _) | (refine zS ?_; intro _ _) | (apply Ws <;> intro hg))
    refine WR.call (by first | exact gN | exact gS rfl) rfl rfl (costsOf_fs hH2 hk hS) ?_
    rintro u H3 ⟨n3, M3, hn3, hH3, hRu⟩
    have hu := hRu.one_
    repeat' (first | refine zP ?_ | refine zA ?_ | (refine zM ?_; intro _ _) | refine zX ?_ | (refine zC ?_; intro _ _ _ _) | (refine zS ?_; intro _ _) | (apply Ws <;> intro hg))
    exact Ends.ret2 rfl rfl ⟨n3, M3, u, by omega, hH3, hu, rfl, .inr ⟨rfl, ⟨k, rfl, hk⟩, hk.sq, hRu⟩⟩
theorem Taste_fs (hH : hasH M n0 H) {S : List Sal} (hS : SalesI M v S) (hl : LenS S) (g : Int) :
    FS C 29 [.int .i64 g, v] H (fun e H' => ∃ n', n0 ≤ n' ∧ hasH M n' H' ∧ e = .tuple #[.bool (decide (errS g S = 0) && tasteB (matS S)), .int .i64 (errS g S)]) := by
  have hv := hS.one_
  have hr := errS_range g S
  refine FS.intro (pf := pf29) rfl rfl rfl ?_
  repeat' (first | refine zP ?_ | refine zA ?_ | (refine zM ?_; intro _ _) | refine zX ?_ | (refine zC ?_; intro _ _ _ _) | (refine zS ?_; intro _ _) | (apply Ws <;> intro hg))
  refine WR.call (by first | exact gN | exact gS rfl) rfl rfl (reckon_fs hH hS hl g) ?_
  rintro _ H2 ⟨n2, M2, u, hn2, hH2, hu, rfl, ⟨he, rfl⟩ | ⟨h0, ⟨k, rfl, hk⟩, hP, hR⟩⟩
  · rw [decide_eq_false he]
    repeat' (first | refine zP ?_ | refine zA ?_ | (refine zM ?_; intro _ _) | refine zX ?_ | (refine zC ?_; intro _ _ _ _) | (refine zS ?_; intro _ _) | (apply Ws <;> intro hg))
    refine WC.condP rfl (fun he2 => ?_) (fun he2 => ?_)
    · repeat' (first | refine zP ?_ | refine zA ?_ | (refine zM ?_; intro _ _) | refine zX ?_ | (refine zC ?_; intro _ _ _ _) | (refine zS ?_; intro _ _) | (apply Ws <;> intro hg))
      exact Ends.ret2 rfl rfl ⟨n2, hn2, hH2.sub (List.sublist_append_right _ _), rfl⟩
    · exact absurd he he2
  · rw [h0]
    repeat' (first | refine zP ?_ | refine zA ?_ | (refine zM ?_; intro _ _) | refine zX ?_ | (refine zC ?_; intro _ _ _ _) | (refine zS ?_; intro _ _) | refine zO ?_ | (apply Ws <;> intro hg))
    refine WR.call (by first | exact gN | exact gS rfl) rfl rfl (oneTaste_fs hH2 hP hR) ?_
    rintro _ H3 ⟨n3, hn3, hH3, rfl⟩
    repeat' (first | refine zP ?_ | refine zA ?_ | (refine zM ?_; intro _ _) | refine zX ?_ | (refine zC ?_; intro _ _ _ _) | (refine zS ?_; intro _ _) | (apply Ws <;> intro hg))
    exact Ends.ret2 rfl rfl ⟨n3, by omega, hH3.sub (List.sublist_append_right _ _), by rw [decide_eq_true rfl, Bool.true_and]⟩
def RingOut (M : HL) (g : Int) (S : List Sal) (e : Value) : Prop := ∃ u, e = .tuple #[u, .int .i64 (if errS g S ≠ 0 then errS g S else if tasteB (matS S) = true then 13 else 0)] ∧ one u = true ∧
  ((errS g S = 0 ∧ ∃ z, firstRing (matS S) = some z ∧ Sl M 1 u (nodes z)) ∨ ((errS g S ≠ 0 ∨ tasteB (matS S) = true) ∧ u = .slice none 0 0))
def RanksOut (M : HL) (g : Int) (S : List Sal) (e : Value) : Prop := ∃ u, e = .tuple #[u, .int .i64 (if errS g S ≠ 0 then errS g S else if tasteB (matS S) = true then 0 else 13)] ∧ one u = true ∧
  ((errS g S = 0 ∧ tasteB (matS S) = true ∧ Sl M 1 u (nodes (rkL (DP (matS S)) (matS S).length))) ∨ ((errS g S ≠ 0 ∨ tasteB (matS S) = false) ∧ u = .slice none 0 0))
end
end Go.Proofs.Yteopjpfhhekkoaa.Tt

/- A shop of the law. -/
namespace Go.Abs
set_option linter.unusedSectionVars false
variable [Globs]
open Go
section
variable {C : CW} {L : Env} {H : Heap}
theorem u8_half : ∀ a : Fin 256, IntKind.u8.wrap (((a.val : Nat) : Int).tdiv 2) = ((a.val / 2 : Nat) : Int) := by decide +kernel
theorem OpV.half {x y : Operand} {a : Nat} (hx : ev L x = some (.int .u8 (a : Int))) (hy : ev L y = some (.int .u8 2)) (ha : a ≤ 255) : OpV C (.ibin .quo .u8 x y) L H (.int .u8 ((a / 2 : Nat) : Int)) H := by
  refine OpV.other hx hy rfl ?_ rfl
  have := u8_half ⟨a, by omega⟩
  simp only at this
  simp only [binOp, ne_eq, not_true_eq_false, if_false, Op.intDiv]
  rw [if_neg (by decide), this]
  rfl
end
end Go.Abs
namespace Go.Proofs.Yteopjpfhhekkoaa.Tt
open Go Go.Abs Go.Mth
set_option linter.unusedVariables false
set_option linter.unusedSimpArgs false
theorem u8k : C.c.P.underlying 5 = some (.int .u8) := by kernel_rfl
theorem i64k : C.c.P.underlying 3 = some (.int .i64) := by kernel_rfl
def OKE (g : Nat) (s : Sal) : Prop := s.1.length = g ∧ s.2.length = g ∧ (∀ x ∈ s.1, 1 ≤ x ∧ x ≤ 4) ∧ ∀ x ∈ s.2, 0 ≤ x ∧ x ≤ 4
theorem OKS.of {g : Nat} {S : List Sal} (h1 : 1 ≤ g) (h3 : g ≤ 3) (hl : S.length ≤ 6) (h : ∀ s ∈ S, OKE g s) : OKS g S := by
  have hm : ∀ i, i < S.length → OKE g (S.getD i noSal) := fun i hi => h _ (getD_mem hi)
  exact ⟨h1, h3, hl, fun i hi => (hm i hi).1, fun i hi => (hm i hi).2.1, fun i hi x hx => by have := (hm i hi).2.2.1 x hx; omega, fun i hi x hx => by have := (hm i hi).2.2.2 x hx; omega⟩
def SalR (M : HL) (ws : List (Value × Value)) (S : List Sal) : Prop := ws.length = S.length ∧
  ∀ i, i < S.length → Sl M 1 (ws.getD i noVal).1 (ints (S.getD i noSal).1) ∧ Sl M 1 (ws.getD i noVal).2 (ints (S.getD i noSal).2)
theorem SalR.mono {M M' : HL} {ws : List (Value × Value)} {S : List Sal} (h : SalR M ws S) (k : ∀ q ∈ M, q ∈ M') : SalR M' ws S := ⟨h.1, fun i hi => ⟨(h.2 i hi).1.mono k, (h.2 i hi).2.mono k⟩⟩
theorem SalR.nil (M : HL) : SalR M [] [] := ⟨rfl, fun i h => absurd h (Nat.not_lt_zero _)⟩
theorem SalR.snoc {M : HL} {ws : List (Value × Value)} {S : List Sal} {w : Value × Value} {s : Sal} (h : SalR M ws S) (h1 : Sl M 1 w.1 (ints s.1)) (h2 : Sl M 1 w.2 (ints s.2)) : SalR M (ws ++ [w]) (S ++ [s]) := by
  refine ⟨by simp [h.1], fun i hi => ?_⟩
  rw [List.length_append, List.length_singleton] at hi
  by_cases e : i < S.length
  · rw [getD_app_l (by rw [h.1]; exact e), getD_app_l e]; exact h.2 i e
  · have : i = S.length := by omega
    subst this
    rw [getD_snoc, show S.length = ws.length from h.1.symm, getD_snoc]; exact ⟨h1, h2⟩
theorem SalR.sales {M : HL} {v : Value} {ws : List (Value × Value)} {S : List Sal} (hS : Sl M 2 v (cellsF pairV ws)) (h : SalR M ws S) : SalesI M v S := ⟨ws, hS, h.1, h.2⟩
theorem fill2 {a b : Value} (ha : one a = true) (hb : one b = true) : Instr.fill (fun i => [(0, 1), (1, 1)][i]?) [Value.slice none 0 0, Value.slice none 0 0].toArray [(0, a), (1, b)] = some [a, b].toArray := by
  cases a <;> first | (cases ha; done) | (cases b <;> first | rfl | (cases hb; done))
theorem cells_snoc (ws : List (Value × Value)) (a b : Value) : cellsF pairV ws ++ [a, b] = cellsF pairV (ws ++ [(a, b)]) := by
  simp [cellsF, pairV]
structure MO where
  i : Nat
  v : Value
  ws : List (Value × Value)
  S : List Sal
  Mo : HL
  Mi : HL
  n : Nat
structure MK where
  k : Nat
  vp : Value
  vt : Value
  p : List Nat
  t : List Nat
  Mp : HL
  Mt : HL
  n : Nat
structure MX where
  x : Nat
  vt : Value
  t : List Nat
  best : Int
  Mt : HL
  n : Nat
structure MQ where
  k : Nat
  c : Int
  w : Int
theorem pow7 {k : Nat} (h : k ≤ 3) : (7 : Int) ^ k ≤ 343 := by
  rcases (show k = 0 ∨ k = 1 ∨ k = 2 ∨ k = 3 by omega) with rfl | rfl | rfl | rfl <;> decide
theorem nodes_ints (l : List Nat) : ints (IL l) = nodes l := (nodes_IL l).symm
end Go.Proofs.Yteopjpfhhekkoaa.Tt

/- made: sales by numbers. -/
namespace Go.Proofs.Yteopjpfhhekkoaa.Tt
open Go Go.Abs Go.Mth
set_option linter.unusedVariables false
set_option linter.unusedSimpArgs false
attribute [local irreducible] gOK WS WC WR WD Ends FS YS OpV seqK blockK loopK midK retK rdK asgK rangeEnd sat Cell
section
variable {M : HL} {n0 : Nat} {H : Heap}
set_option maxHeartbeats 8000000 in
theorem made_fs (hH : hasH M n0 H) {xs : List Nat} (hl : xs.length = 39) (hb : ∀ x ∈ xs, x ≤ 255) {most : Nat} (hm : most ≤ 6) :
    FS C 43 [.agg (numsK .u8 xs).toArray, .int .i64 (most : Int)] H (fun e H' => ∃ S u n' M2, (∀ s ∈ S, OKE (1 + xs.getD 0 0 % 3) s) ∧ S.length = xs.getD 1 0 % (most + 1) ∧ n0 ≤ n' ∧ hasH (M2 ++ M) n' H' ∧ SalesI (M2 ++ M) u S ∧ e = .tuple #[.int .i64 ((1 + xs.getD 0 0 % 3 : Nat) : Int), u]) := by
  have hbd : ∀ k, k < 39 → xs.getD k 0 ≤ 255 := fun k hk => hb _ (getD_mem (by omega))
  have hone : (numsK .u8 xs).all one = true := by rw [List.all_eq_true]; intro q hq; obtain ⟨z, _, rfl⟩ := List.mem_map.1 hq; rfl
  have hb0 := hbd 0 (by omega)
  have hb1 := hbd 1 (by omega)
  have hb2 := hbd 2 (by omega)
  refine FS.intro (pf := pf43) rfl rfl rfl ?_
  repeat' (first | refine zP ?_ | refine zA ?_ | (refine zM ?_; intro _ _) | refine zX ?_ | (refine zC ?_; intro _ _ _ _) | (refine zS ?_; intro _ _) | (apply Ws <;> intro hg))
  rename_i H1 hH1
  refine WR.op (by first | exact gN | exact gS rfl) rfl (OpV.conv u8k i64k rfl (c := ((xs.getD 0 0 : Nat) : Int)) (IntWalk.i64_in _ (by omega))) ?_
  have hmod := Nat.mod_lt (xs.getD 0 0) (show 0 < 3 by omega)
  have hmod1 := Nat.mod_lt (xs.getD 1 0) (show 0 < most + 1 by omega)
  repeat' (first | refine zP ?_ | refine zA ?_ | (refine zM ?_; intro _ _) | refine zX ?_ | (refine zC ?_; intro _ _ _ _) | (refine zS ?_; intro _ _) | (apply Ws <;> intro hg))
  rw [show ((xs.getD 0 0 : Nat) : Int) % 3 = ((xs.getD 0 0 % 3 : Nat) : Int) by simp]
  obtain ⟨g, hg⟩ : ∃ g, 1 + xs.getD 0 0 % 3 = g := ⟨_, rfl⟩
  have hg13 : 1 ≤ g ∧ g ≤ 3 := by omega
  repeat' (first | refine zP ?_ | refine zA ?_ | (refine zM ?_; intro _ _) | refine zX ?_ | (refine zC ?_; intro _ _ _ _) | (refine zS ?_; intro _ _) | (apply Ws <;> intro hg))
  rw [show (1 : Int) + ((xs.getD 0 0 % 3 : Nat) : Int) = ((1 + xs.getD 0 0 % 3 : Nat) : Int) by omega]
  rw [hg]
  repeat' (first | refine zP ?_ | refine zA ?_ | (refine zM ?_; intro _ _) | refine zX ?_ | (refine zC ?_; intro _ _ _ _) | (refine zS ?_; intro _ _) | (apply Ws <;> intro hg))
  refine WR.op (by first | exact gN | exact gS rfl) rfl (OpV.conv u8k i64k rfl (c := ((xs.getD 1 0 : Nat) : Int)) (IntWalk.i64_in _ (by omega))) ?_
  repeat' (first | refine zP ?_ | refine zA ?_ | (refine zM ?_; intro _ _) | refine zX ?_ | (refine zC ?_; intro _ _ _ _) | (refine zS ?_; intro _ _) | (apply Ws <;> intro hg))
  rw [show ((xs.getD 1 0 : Nat) : Int) % ((most : Int) + 1) = ((xs.getD 1 0 % (most + 1) : Nat) : Int) by simp]
  obtain ⟨N, hN⟩ : ∃ N, xs.getD 1 0 % (most + 1) = N := ⟨_, rfl⟩
  have hN6 : N ≤ 6 := by omega
  rw [hN]
  repeat' (first | refine zP ?_ | refine zA ?_ | (refine zM ?_; intro _ _) | refine zX ?_ | (refine zC ?_; intro _ _ _ _) | (refine zS ?_; intro _ _) | (apply Ws <;> intro hg))
  refine WC.loopX [(2, _), (6, _), (32, _)] (fun s : MO => [(7, s.v), (33, .int .i64 (s.i : Int))]) [] (fun s H' => s.i ≤ N ∧ n0 + 1 ≤ s.n ∧ Own 74 2 s.v (cellsF pairV s.ws) s.Mo ∧ SalR (s.Mi ++ M) s.ws s.S ∧ s.S.length = s.i ∧ (∀ x ∈ s.S, OKE g x) ∧ hasH ((n0, .row 61 0 0 (numsK .u8 xs)) :: (s.Mo ++ (s.Mi ++ M))) s.n H') (fun s => N - s.i) ⟨0, .slice none 0 0, [], [], [], [], n0 + 1⟩ (by repeat' (first | exact .nil | refine .cons rfl ?_)) rfl
    ⟨Nat.zero_le _, Nat.le_refl _, .nil, .nil _, rfl, (fun x hx => by cases hx), hH1⟩ ?_
  clear hH1 hH
  rintro ⟨i, va, ws, S, Mo, Mi, n1⟩ H2 ⟨hi, hn1, hO, hR, hSl, hSO, hH2⟩
  simp only at hi hn1 hO hR hSl hSO hH2
  dsimp only [List.cons_append, List.nil_append]
  repeat' (first | refine zP ?_ | refine zA ?_ | (refine zM ?_; intro _ _) | refine zX ?_ | (refine zC ?_; intro _ _ _ _) | (refine zS ?_; intro _ _) | (apply Ws <;> intro hg))
  refine WC.condP rfl (fun hlti => ?_) (fun hlti => ?_)
  · have hi' : i < N := by omega
    repeat' (first | refine zP ?_ | refine zA ?_ | (refine zM ?_; intro _ _) | refine zX ?_ | (refine zC ?_; intro _ _ _ _) | (refine zS ?_; intro _ _) | (apply Ws <;> intro hg))
    refine WC.loopX [(2, _), (6, _), (7, va), (8, .int .i64 (i : Int)), (32, _), (33, .int .i64 (i : Int)), (36, .int .i64 (g : Int))] (fun s : MK => [(9, s.vp), (10, s.vt), (37, .int .i64 (s.k : Int))]) [] (fun s H' => s.k ≤ g ∧ n0 + 1 ≤ s.n ∧ Own 3 1 s.vp (nodes s.p) s.Mp ∧ Own 3 1 s.vt (nodes s.t) s.Mt ∧ s.p.length = s.k ∧ s.t.length = s.k ∧ (∀ x ∈ s.p, 1 ≤ x ∧ x ≤ 4) ∧ (∀ x ∈ s.t, x ≤ 4) ∧ hasH ((n0, .row 61 0 0 (numsK .u8 xs)) :: (s.Mp ++ (s.Mt ++ (Mo ++ (Mi ++ M))))) s.n H') (fun s => g - s.k) ⟨0, .slice none 0 0, .slice none 0 0, [], [], [], [], n1⟩ (by repeat' (first | exact .nil | refine .cons rfl ?_)) rfl
      ⟨Nat.zero_le _, hn1, .nil, .nil, rfl, rfl, (fun x hx => by cases hx), (fun x hx => by cases hx), hH2⟩ ?_
    clear hH2
    rintro ⟨k, vp, vt, pl, tl, Mp, Mt, n2⟩ H3 ⟨hk, hn2, hOp, hOt, hpl, htl, hpb, htb, hH3⟩
    simp only at hk hn2 hOp hOt hpl htl hpb htb hH3
    dsimp only [List.cons_append, List.nil_append]
    repeat' (first | refine zP ?_ | refine zA ?_ | (refine zM ?_; intro _ _) | refine zX ?_ | (refine zC ?_; intro _ _ _ _) | (refine zS ?_; intro _ _) | (apply Ws <;> intro hg))
    refine WC.condP rfl (fun hltk => ?_) (fun hltk => ?_)
    · have hk' : k < g := by omega
      have hbp := hbd (3 + i * 3 + k) (by omega)
      have hbt := hbd (21 + i * 3 + k) (by omega)
      repeat' (first | refine zP ?_ | refine zA ?_ | (refine zM ?_; intro _ _) | refine zX ?_ | (refine zC ?_; intro _ _ _ _) | (refine zS ?_; intro _ _) | (apply Ws <;> intro hg))
      refine WR.op (by first | exact gN | exact gS rfl) rfl (OpV.conv u8k i64k rfl (c := ((xs.getD (3 + i * 3 + k) 0 : Nat) : Int)) (IntWalk.i64_in _ (by omega))) ?_
      repeat' (first | refine zP ?_ | refine zA ?_ | (refine zM ?_; intro _ _) | refine zX ?_ | (refine zC ?_; intro _ _ _ _) | (refine zS ?_; intro _ _) | (apply Ws <;> intro hg))
      rw [show ((xs.getD (3 + i * 3 + k) 0 : Nat) : Int) % 4 = ((xs.getD (3 + i * 3 + k) 0 % 4 : Nat) : Int) by simp]
      have hp4 := Nat.mod_lt (xs.getD (3 + i * 3 + k) 0) (show 0 < 4 by omega)
      generalize xs.getD (3 + i * 3 + k) 0 % 4 = pk at hp4
      repeat' (first | refine zP ?_ | refine zA ?_ | (refine zM ?_; intro _ _) | refine zX ?_ | (refine zC ?_; intro _ _ _ _) | (refine zS ?_; intro _ _) | (apply Ws <;> intro hg))
      refine WR.append1F [(n0, .row 61 0 0 (numsK .u8 xs))] Mp (Mt ++ (Mo ++ (Mi ++ M))) rfl rfl rfl rfl hOp hH3 (new := [.int .i64 ((1 + pk : Nat) : Int)]) (by rw [Int.natCast_add]; rfl) rfl rfl (Nat.le_refl _) (by omega) (by simp; omega) fun v4 M4 n4 H4 hO4 hH4 hn4 => ?_
      replace hH4 : hasH ((n0, .row 61 0 0 (numsK .u8 xs)) :: (M4 ++ (Mt ++ (Mo ++ (Mi ++ M))))) n4 H4 := hH4
      clear hH3
      repeat' (first | refine zP ?_ | refine zA ?_ | (refine zM ?_; intro _ _) | refine zX ?_ | (refine zC ?_; intro _ _ _ _) | (refine zS ?_; intro _ _) | (apply Ws <;> intro hg))
      refine WR.op (by first | exact gN | exact gS rfl) rfl (OpV.conv u8k i64k rfl (c := ((xs.getD (21 + i * 3 + k) 0 : Nat) : Int)) (IntWalk.i64_in _ (by omega))) ?_
      repeat' (first | refine zP ?_ | refine zA ?_ | (refine zM ?_; intro _ _) | refine zX ?_ | (refine zC ?_; intro _ _ _ _) | (refine zS ?_; intro _ _) | (apply Ws <;> intro hg))
      rw [show ((xs.getD (21 + i * 3 + k) 0 : Nat) : Int) % 5 = ((xs.getD (21 + i * 3 + k) 0 % 5 : Nat) : Int) by simp]
      have ht5 := Nat.mod_lt (xs.getD (21 + i * 3 + k) 0) (show 0 < 5 by omega)
      generalize xs.getD (21 + i * 3 + k) 0 % 5 = tk at ht5
      refine WR.append1F ((n0, .row 61 0 0 (numsK .u8 xs)) :: M4) Mt (Mo ++ (Mi ++ M)) rfl rfl rfl rfl hOt hH4 (new := [.int .i64 (tk : Int)]) (by rfl) rfl rfl (Nat.le_refl _) (by omega) (by simp; omega) fun v5 M5 n5 H5 hO5 hH5 hn5 => ?_
      replace hH5 : hasH ((n0, .row 61 0 0 (numsK .u8 xs)) :: (M4 ++ (M5 ++ (Mo ++ (Mi ++ M))))) n5 H5 := hH5
      repeat' (first | refine zP ?_ | refine zA ?_ | (refine zM ?_; intro _ _) | refine zX ?_ | (refine zC ?_; intro _ _ _ _) | (refine zS ?_; intro _ _) | (apply Ws <;> intro hg))
      refine Ends.loop ⟨k + 1, v4, v5, pl ++ [1 + pk], tl ++ [tk], M4, M5, n5⟩ (by simp only; omega) (by repeat' (first | exact .nil | refine .cons rfl ?_)) rfl ⟨by simp only; omega, by simp only; omega, ?_, ?_, by simp [hpl], by simp [htl], fun x hx => ?_, fun x hx => ?_, hH5⟩
      · simp only; rw [show nodes (pl ++ [1 + pk]) = nodes pl ++ [.int .i64 ((1 + pk : Nat) : Int)] by simp [nodes]]; exact hO4
      · simp only; rw [show nodes (tl ++ [tk]) = nodes tl ++ [.int .i64 (tk : Int)] by simp [nodes]]; exact hO5
      · rcases List.mem_append.1 hx with hx | hx
        · exact hpb x hx
        · rw [List.mem_singleton.1 hx]; omega
      · rcases List.mem_append.1 hx with hx | hx
        · exact htb x hx
        · rw [List.mem_singleton.1 hx]; omega
    · have hkg : k = g := by omega
      subst hkg
      have hSp0 := hOp.sl []
      rw [List.append_nil] at hSp0
      have hSt0 := hOt.sl []
      rw [List.append_nil] at hSt0
      have hpv := hSp0.one_
      repeat' (first | refine zP ?_ | refine zA ?_ | (refine zM ?_; intro _ _) | refine zX ?_ | (refine zC ?_; intro _ _ _ _) | (refine zS ?_; intro _ _) | (apply Ws <;> intro hg))
      refine WC.joinX [(2, _), (6, _), (7, va), (9, vp), (32, _), (33, .int .i64 (i : Int))] (by repeat' (first | exact .nil | refine .cons rfl ?_)) (fun s : MX => [(10, s.vt)]) (fun s H' => n0 + 1 ≤ s.n ∧ Sl s.Mt 1 s.vt (nodes s.t) ∧ s.t.length = k ∧ (∀ x ∈ s.t, x ≤ 4) ∧ hasH ((n0, .row 61 0 0 (numsK .u8 xs)) :: (Mp ++ (s.Mt ++ (Mo ++ (Mi ++ M))))) s.n H') ?_ ?_
      · refine WC.condP rfl (fun hodd => ?_) (fun hodd => ?_)
        · have hbpu := hbd (21 + i * 3) (by omega)
          repeat' (first | refine zP ?_ | refine zA ?_ | (refine zM ?_; intro _ _) | refine zX ?_ | (refine zC ?_; intro _ _ _ _) | (refine zS ?_; intro _ _) | (apply Ws <;> intro hg))
          rw [Nat.add_zero]
          repeat' (first | refine zP ?_ | refine zA ?_ | (refine zM ?_; intro _ _) | refine zX ?_ | (refine zC ?_; intro _ _ _ _) | (refine zS ?_; intro _ _) | (apply Ws <;> intro hg))
          refine WR.op (by first | exact gN | exact gS rfl) rfl (OpV.conv u8k i64k rfl (c := ((xs.getD (21 + i * 3) 0 : Nat) : Int)) (IntWalk.i64_in _ (by omega))) ?_
          repeat' (first | refine zP ?_ | refine zA ?_ | (refine zM ?_; intro _ _) | refine zX ?_ | (refine zC ?_; intro _ _ _ _) | (refine zS ?_; intro _ _) | (apply Ws <;> intro hg))
          rw [show ((xs.getD (21 + i * 3) 0 : Nat) : Int) % 9 = ((xs.getD (21 + i * 3) 0 % 9 : Nat) : Int) by simp]
          have hp9 := Nat.mod_lt (xs.getD (21 + i * 3) 0) (show 0 < 9 by omega)
          generalize xs.getD (21 + i * 3) 0 % 9 = purse at hp9
          repeat' (first | refine zP ?_ | refine zA ?_ | (refine zM ?_; intro _ _) | refine zX ?_ | (refine zC ?_; intro _ _ _ _) | (refine zS ?_; intro _ _) | (apply Ws <;> intro hg))
          refine WC.loopX [(2, _), (6, _), (7, va), (9, vp), (12, .int .i64 (4 + (purse : Int))), (32, _), (33, .int .i64 (i : Int))] (fun s : MX => [(10, s.vt), (13, .int .i64 s.best), (76, .int .i64 (s.x : Int))]) [] (fun s H' => s.x ≤ 5 ∧ n0 + 1 ≤ s.n ∧ Sl s.Mt 1 s.vt (nodes s.t) ∧ s.t.length = k ∧ (∀ x ∈ s.t, x ≤ 4) ∧ hasH ((n0, .row 61 0 0 (numsK .u8 xs)) :: (Mp ++ (s.Mt ++ (Mo ++ (Mi ++ M))))) s.n H') (fun s => 5 - s.x) ⟨0, vt, tl, -1, Mt, n2⟩ (by repeat' (first | exact .nil | refine .cons rfl ?_)) rfl
            ⟨Nat.zero_le _, hn2, hSt0, htl, htb, hH3⟩ ?_
          clear hH3 hSt0 hOt htl htb
          rintro ⟨x, vt, tl, best, Mt, n2⟩ H3 ⟨hx5, hn2, hSt0, htl, htb, hH3⟩
          simp only at hx5 hn2 hSt0 htl htb hH3
          dsimp only [List.cons_append, List.nil_append]
          repeat' (first | refine zP ?_ | refine zA ?_ | (refine zM ?_; intro _ _) | refine zX ?_ | (refine zC ?_; intro _ _ _ _) | (refine zS ?_; intro _ _) | (apply Ws <;> intro hg))
          refine WC.condP rfl (fun hltx => ?_) (fun hltx => ?_)
          · repeat' (first | refine zP ?_ | refine zA ?_ | (refine zM ?_; intro _ _) | refine zX ?_ | (refine zC ?_; intro _ _ _ _) | (refine zS ?_; intro _ _) | (apply Ws <;> intro hg))
            refine WC.loopX [(2, _), (6, _), (7, va), (9, vp), (12, .int .i64 (4 + (purse : Int))), (14, .int .i64 (x : Int)), (32, _), (33, .int .i64 (i : Int)), (76, .int .i64 (x : Int))] (fun s : MX => [(10, s.vt), (13, .int .i64 s.best), (79, .int .i64 (s.x : Int))]) [] (fun s H' => s.x ≤ 5 ∧ n0 + 1 ≤ s.n ∧ Sl s.Mt 1 s.vt (nodes s.t) ∧ s.t.length = k ∧ (∀ x ∈ s.t, x ≤ 4) ∧ hasH ((n0, .row 61 0 0 (numsK .u8 xs)) :: (Mp ++ (s.Mt ++ (Mo ++ (Mi ++ M))))) s.n H') (fun s => 5 - s.x) ⟨0, vt, tl, best, Mt, n2⟩ (by repeat' (first | exact .nil | refine .cons rfl ?_)) rfl
              ⟨Nat.zero_le _, hn2, hSt0, htl, htb, hH3⟩ ?_
            clear hH3 hSt0 htl htb hn2
            rintro ⟨y, vt, tl, best, Mt, n2⟩ H3 ⟨hy5, hn2, hSt0, htl, htb, hH3⟩
            simp only at hy5 hn2 hSt0 htl htb hH3
            dsimp only [List.cons_append, List.nil_append]
            repeat' (first | refine zP ?_ | refine zA ?_ | (refine zM ?_; intro _ _) | refine zX ?_ | (refine zC ?_; intro _ _ _ _) | (refine zS ?_; intro _ _) | (apply Ws <;> intro hg))
            refine WC.condP rfl (fun hlty => ?_) (fun hlty => ?_)
            · repeat' (first | refine zP ?_ | refine zA ?_ | (refine zM ?_; intro _ _) | refine zX ?_ | (refine zC ?_; intro _ _ _ _) | (refine zS ?_; intro _ _) | (apply Ws <;> intro hg))
              refine WC.loopX [(2, _), (6, _), (7, va), (9, vp), (12, .int .i64 (4 + (purse : Int))), (14, .int .i64 (x : Int)), (15, .int .i64 (y : Int)), (32, _), (33, .int .i64 (i : Int)), (76, .int .i64 (x : Int)), (79, .int .i64 (y : Int))] (fun s : MX => [(10, s.vt), (13, .int .i64 s.best), (82, .int .i64 (s.x : Int))]) [] (fun s H' => s.x ≤ 5 ∧ n0 + 1 ≤ s.n ∧ Sl s.Mt 1 s.vt (nodes s.t) ∧ s.t.length = k ∧ (∀ x ∈ s.t, x ≤ 4) ∧ hasH ((n0, .row 61 0 0 (numsK .u8 xs)) :: (Mp ++ (s.Mt ++ (Mo ++ (Mi ++ M))))) s.n H') (fun s => 5 - s.x) ⟨0, vt, tl, best, Mt, n2⟩ (by repeat' (first | exact .nil | refine .cons rfl ?_)) rfl
                ⟨Nat.zero_le _, hn2, hSt0, htl, htb, hH3⟩ ?_
              clear hH3 hSt0 htl htb hn2
              rintro ⟨z, vt, tl, best, Mt, n2⟩ H3 ⟨hz5, hn2, hSt0, htl, htb, hH3⟩
              simp only at hz5 hn2 hSt0 htl htb hH3
              dsimp only [List.cons_append, List.nil_append]
              repeat' (first | refine zP ?_ | refine zA ?_ | (refine zM ?_; intro _ _) | refine zX ?_ | (refine zC ?_; intro _ _ _ _) | (refine zS ?_; intro _ _) | (apply Ws <;> intro hg))
              refine WC.condP rfl (fun hltz => ?_) (fun hltz => ?_)
              · repeat' (first | refine zP ?_ | refine zA ?_ | (refine zM ?_; intro _ _) | refine zX ?_ | (refine zC ?_; intro _ _ _ _) | (refine zS ?_; intro _ _) | (apply Ws <;> intro hg))
                refine WR.bldS (by first | exact gN | exact gS rfl) rfl hH3 (vs := [(0, .int .i64 (x : Int)), (1, .int .i64 (y : Int)), (2, .int .i64 (z : Int))]) rfl (cs := [.int .i64 (x : Int), .int .i64 (y : Int), .int .i64 (z : Int)]) (by rfl) rfl fun H4 hH4 => ?_
                clear hH3
                obtain ⟨tk, htk⟩ : ∃ tk, tk = [x, y, z].take k := ⟨_, rfl⟩
                have htkl : tk.length = k := by rw [htk, List.length_take]; simp; omega
                have htkb : ∀ q ∈ tk, q ≤ 4 := fun q hq => by
                  rw [htk] at hq
                  have := List.mem_of_mem_take hq
                  simp only [List.mem_cons, List.not_mem_nil, or_false] at this
                  omega
                have hS3 : Sl ((n2, Ch.row 3 0 0 (nodes [x, y, z])) :: (n0, Ch.row 61 0 0 (numsK .u8 xs)) :: (Mp ++ (Mt ++ (Mo ++ (Mi ++ M))))) 1 (.slice (some ⟨n2, 0, some 0⟩) 3 (2 * 3 + 1)) (nodes [x, y, z]) :=
                  .row (lo := 0) (cs := nodes [x, y, z]) (.head _) (.row _ _ _ _) (Nat.le_refl _) rfl (by simp) (by simp) (.inr ⟨3, rfl, Nat.le_refl _⟩)
                replace hH4 : hasH ((n2, Ch.row 3 0 0 (nodes [x, y, z])) :: (n0, Ch.row 61 0 0 (numsK .u8 xs)) :: (Mp ++ (Mt ++ (Mo ++ (Mi ++ M))))) (n2 + 1) H4 := hH4
                repeat' (first | refine zP ?_ | refine zA ?_ | (refine zM ?_; intro _ _) | refine zX ?_ | (refine zC ?_; intro _ _ _ _) | (refine zS ?_; intro _ _) | (apply Ws <;> intro hg))
                refine WR.cutHiN (m := k) (by first | exact gN | exact gS rfl) rfl rfl hS3 rfl (by simp; omega) fun w5 hW => ?_
                rw [← htk] at hW
                clear hS3 htk
                generalize nodes [x, y, z] = rw3 at hH4 hW
                have hSp : Sl ((n2, Ch.row 3 0 0 rw3) :: (n0, Ch.row 61 0 0 (numsK .u8 xs)) :: (Mp ++ (Mt ++ (Mo ++ (Mi ++ M))))) 1 vp (nodes pl) := hSp0.mono fun q hq => .tail _ (.tail _ (List.mem_append_left _ hq))
                have hw51 := hW.one_
                repeat' (first | refine zP ?_ | refine zA ?_ | (refine zM ?_; intro _ _) | refine zX ?_ | (refine zC ?_; intro _ _ _ _) | (refine zS ?_; intro _ _) | (apply Ws <;> intro hg))
                refine WC.loopX [(2, _), (6, _), (7, va), (9, vp), (10, vt), (12, .int .i64 (4 + (purse : Int))), (13, .int .i64 best), (14, .int .i64 (x : Int)), (15, .int .i64 (y : Int)), (17, w5), (32, _), (33, .int .i64 (i : Int)), (76, .int .i64 (x : Int)), (79, .int .i64 (y : Int)), (82, .int .i64 (z : Int)), (91, w5), (92, _)] (fun s : MQ => [(18, .int .i64 s.c), (19, .int .i64 s.w), (93, .int .i64 (s.k : Int))]) [] (fun s H' => H' = H4 ∧ s.k ≤ k ∧ 0 ≤ s.c ∧ s.c ≤ 16 * s.k ∧ 1 ≤ s.w ∧ s.w ≤ 7 ^ s.k) (fun s => k - s.k) ⟨0, 0, 1⟩ (by repeat' (first | exact .nil | refine .cons rfl ?_)) rfl
                  ⟨rfl, Nat.zero_le _, by simp, by simp, by simp, by simp⟩ ?_
                rintro ⟨m, c, ww⟩ H5 ⟨rfl, hmk, hc0, hc1, hw0, hw1⟩
                simp only at hmk hc0 hc1 hw0 hw1
                have hw7 := pow7 (k := m) (by omega)
                dsimp only [List.cons_append, List.nil_append]
                repeat' (first | refine zP ?_ | refine zA ?_ | (refine zM ?_; intro _ _) | refine zX ?_ | (refine zC ?_; intro _ _ _ _) | (refine zS ?_; intro _ _) | (apply Ws <;> intro hg))
                refine WC.condP rfl (fun hltm => ?_) (fun hltm => ?_)
                · have hm' : m < k := by omega
                  have hpm := hpb _ (getD_mem (a := 0) (show m < pl.length by omega))
                  have htm := htkb _ (getD_mem (a := 0) (show m < tk.length by omega))
                  have hpr0 : 0 ≤ ((pl.getD m 0 : Nat) : Int) * ((tk.getD m 0 : Nat) : Int) := Int.mul_nonneg (by omega) (by omega)
                  have hpr1 : ((pl.getD m 0 : Nat) : Int) * ((tk.getD m 0 : Nat) : Int) ≤ 4 * 4 := Int.mul_le_mul (by omega) (by omega) (by omega) (by decide)
                  have hre0 : 0 ≤ ((xs.getD 2 0 / 2 : Nat) : Int) % ((m : Int) + 1) := Int.emod_nonneg _ (by omega)
                  have hre1 : ((xs.getD 2 0 / 2 : Nat) : Int) % ((m : Int) + 1) < (m : Int) + 1 := Int.emod_lt_of_pos _ (by omega)
                  have hpw0 : 0 ≤ ww * (((tk.getD m 0 : Nat) : Int) + 1 + ((xs.getD 2 0 / 2 : Nat) : Int) % ((m : Int) + 1)) := Int.mul_nonneg (by omega) (by omega)
                  have hpw1 : ww * (((tk.getD m 0 : Nat) : Int) + 1 + ((xs.getD 2 0 / 2 : Nat) : Int) % ((m : Int) + 1)) ≤ 7 ^ m * 7 := Int.mul_le_mul hw1 (by omega) (by omega) (by omega)
                  have hpw2 : 1 * 1 ≤ ww * (((tk.getD m 0 : Nat) : Int) + 1 + ((xs.getD 2 0 / 2 : Nat) : Int) % ((m : Int) + 1)) := Int.mul_le_mul hw0 (by omega) (by omega) (by omega)
                  have hpw3 : (7 : Int) ^ m * 7 = 7 ^ (m + 1) := rfl
                  have hpw4 := pow7 (k := m + 1) (by omega)
                  rw [hpw3] at hpw1
                  clear hpw3
                  repeat' (first | refine zP ?_ | refine zA ?_ | (refine zM ?_; intro _ _) | refine zX ?_ | (refine zC ?_; intro _ _ _ _) | (refine zS ?_; intro _ _) | (apply Ws <;> intro hg))
                  refine WR.op (by first | exact gN | exact gS rfl) rfl (OpV.half rfl rfl hb2) ?_
                  repeat' (first | refine zP ?_ | refine zA ?_ | (refine zM ?_; intro _ _) | refine zX ?_ | (refine zC ?_; intro _ _ _ _) | (refine zS ?_; intro _ _) | (apply Ws <;> intro hg))
                  refine WR.op (by first | exact gN | exact gS rfl) rfl (OpV.conv u8k i64k rfl (c := ((xs.getD 2 0 / 2 : Nat) : Int)) (IntWalk.i64_in _ (by omega))) ?_
                  repeat' (first | refine zP ?_ | refine zA ?_ | (refine zM ?_; intro _ _) | refine zX ?_ | (refine zC ?_; intro _ _ _ _) | (refine zS ?_; intro _ _) | (apply Ws <;> intro hg))
                  exact Ends.loop ⟨m + 1, c + ((pl.getD m 0 : Nat) : Int) * ((tk.getD m 0 : Nat) : Int), ww * (((tk.getD m 0 : Nat) : Int) + 1 + ((xs.getD 2 0 / 2 : Nat) : Int) % ((m : Int) + 1))⟩ (by simp only; omega) (by repeat' (first | exact .nil | refine .cons rfl ?_)) rfl ⟨rfl, by simp only; omega, by simp only; omega, by simp only; omega, by simp only; omega, hpw1⟩
                · have hmk2 : m = k := by omega
                  subst hmk2
                  have hH6 : hasH ((n0, .row 61 0 0 (numsK .u8 xs)) :: (Mp ++ (Mt ++ (Mo ++ (Mi ++ M))))) (n2 + 1) H5 := hH4.tail
                  repeat' (first | refine zP ?_ | refine zA ?_ | (refine zM ?_; intro _ _) | refine zX ?_ | (refine zC ?_; intro _ _ _ _) | (refine zS ?_; intro _ _) | (apply Ws <;> intro hg))
                  · refine WC.condP rfl (fun hgt => ?_) (fun hgt => ?_)
                    · repeat' (first | refine zP ?_ | refine zA ?_ | (refine zM ?_; intro _ _) | refine zX ?_ | (refine zC ?_; intro _ _ _ _) | (refine zS ?_; intro _ _) | (apply Ws <;> intro hg))
                      refine WR.call (by first | exact gN | exact gS rfl) rfl rfl (Clone_fs hH4 hW (List.length_pos_iff.1 (by omega)) (by omega)) ?_
                      rintro e9 H10 ⟨Mx, n10, hOx, hn10, hH10⟩
                      have hH11 : hasH ((n0, .row 61 0 0 (numsK .u8 xs)) :: (Mp ++ (Mx ++ (Mo ++ (Mi ++ M))))) n10 H10 := by
                        refine (hH10.sub (M' := Mx ++ ((n0, .row 61 0 0 (numsK .u8 xs)) :: (Mp ++ (Mo ++ (Mi ++ M))))) ((List.Sublist.refl Mx).append (.cons _ (.cons_cons _ ((List.Sublist.refl Mp).append (List.sublist_append_right _ _)))))).perm (by classical exact List.perm_iff_count.2 (fun a => by simp only [defds, List.map_cons, List.map_nil, List.count_append, List.count_cons, List.count_nil, List.cons_append, List.nil_append, List.append_nil]; omega))
                      have hSx := hOx.own.sl []
                      rw [List.append_nil] at hSx
                      repeat' (first | refine zP ?_ | refine zA ?_ | (refine zM ?_; intro _ _) | refine zX ?_ | (refine zC ?_; intro _ _ _ _) | (refine zS ?_; intro _ _) | (apply Ws <;> intro hg))
                      exact Ends.loop ⟨z + 1, e9, tk, ww, Mx, n10⟩ (by simp only; omega) (by repeat' (first | exact .nil | refine .cons rfl ?_)) rfl ⟨by simp only; omega, by simp only; omega, hSx, htkl, htkb, hH11⟩
                    · repeat' (first | refine zP ?_ | refine zA ?_ | (refine zM ?_; intro _ _) | refine zX ?_ | (refine zC ?_; intro _ _ _ _) | (refine zS ?_; intro _ _) | (apply Ws <;> intro hg))
                      exact Ends.loop ⟨z + 1, vt, tl, best, Mt, n2 + 1⟩ (by simp only; omega) (by repeat' (first | exact .nil | refine .cons rfl ?_)) rfl ⟨by simp only; omega, by simp only; omega, hSt0, htl, htb, hH6⟩
                  · exact Ends.loop ⟨z + 1, vt, tl, best, Mt, n2 + 1⟩ (by simp only; omega) (by repeat' (first | exact .nil | refine .cons rfl ?_)) rfl ⟨by simp only; omega, by simp only; omega, hSt0, htl, htb, hH6⟩
              · repeat' (first | refine zP ?_ | refine zA ?_ | (refine zM ?_; intro _ _) | refine zX ?_ | (refine zC ?_; intro _ _ _ _) | (refine zS ?_; intro _ _) | (apply Ws <;> intro hg))
                exact Ends.loop ⟨y + 1, vt, tl, best, Mt, n2⟩ (by simp only; omega) (by repeat' (first | exact .nil | refine .cons rfl ?_)) rfl ⟨by simp only; omega, hn2, hSt0, htl, htb, hH3⟩
            · repeat' (first | refine zP ?_ | refine zA ?_ | (refine zM ?_; intro _ _) | refine zX ?_ | (refine zC ?_; intro _ _ _ _) | (refine zS ?_; intro _ _) | (apply Ws <;> intro hg))
              exact Ends.loop ⟨x + 1, vt, tl, best, Mt, n2⟩ (by simp only; omega) (by repeat' (first | exact .nil | refine .cons rfl ?_)) rfl ⟨by simp only; omega, hn2, hSt0, htl, htb, hH3⟩
          · repeat' (first | refine zP ?_ | refine zA ?_ | (refine zM ?_; intro _ _) | refine zX ?_ | (refine zC ?_; intro _ _ _ _) | (refine zS ?_; intro _ _) | (apply Ws <;> intro hg))
            exact Ends.midE (α := MX) ⟨0, vt, tl, 0, Mt, n2⟩ (by repeat' (first | exact .nil | refine .cons rfl ?_)) rfl ⟨hn2, hSt0, htl, htb, hH3⟩
        · repeat' (first | refine zP ?_ | refine zA ?_ | (refine zM ?_; intro _ _) | refine zX ?_ | (refine zC ?_; intro _ _ _ _) | (refine zS ?_; intro _ _) | (apply Ws <;> intro hg))
          exact Ends.midX ⟨0, vt, tl, 0, Mt, n2⟩ (by repeat' (first | exact .nil | refine .cons rfl ?_)) ⟨hn2, hSt0, htl, htb, hH3⟩
      · clear hH3
        rintro ⟨_, vt2, t2l, _, Mt2, n3⟩ H5 ⟨hn3, hSt, htl2, htb2, hH5⟩
        simp only at hn3 hSt htl2 htb2 hH5
        have htv := hSt.one_
        have hwl := hR.1
        dsimp only [List.cons_append, List.nil_append]
        repeat' (first | refine zP ?_ | refine zA ?_ | (refine zM ?_; intro _ _) | refine zX ?_ | (refine zC ?_; intro _ _ _ _) | (refine zS ?_; intro _ _) | (apply Ws <;> intro hg))
        refine WR.op (by first | exact gN | exact gS rfl) rfl (OpV.bldT rfl (fill2 hpv htv)) ?_
        refine WR.append1F ([(n0, .row 61 0 0 (numsK .u8 xs))] ++ (Mp ++ Mt2)) Mo (Mi ++ M) rfl rfl rfl rfl hO (hH5.perm ?_) (new := [vp, vt2]) (by rfl) (one2 hpv htv) rfl (by decide) (by decide) (by rw [cellsF_len pairV_len]; simp; omega) fun v6 M6 n6 H6 hO6 hH6 hn6 => ?_
        · simp
        replace hH6 : hasH ((n0, .row 61 0 0 (numsK .u8 xs)) :: ((Mp ++ Mt2) ++ (M6 ++ (Mi ++ M)))) n6 H6 := hH6
        repeat' (first | refine zP ?_ | refine zA ?_ | (refine zM ?_; intro _ _) | refine zX ?_ | (refine zC ?_; intro _ _ _ _) | (refine zS ?_; intro _ _) | (apply Ws <;> intro hg))
        rw [cells_snoc] at hO6
        refine Ends.loop ⟨i + 1, v6, ws ++ [(vp, vt2)], S ++ [(IL pl, IL t2l)], M6, (Mp ++ Mt2) ++ Mi, n6⟩ (by simp only; omega) (by repeat' (first | exact .nil | refine .cons rfl ?_)) rfl ⟨by simp only; omega, by simp only; omega, hO6, ?_, by simp [hSl], fun x hx => ?_, ?_⟩
        · refine SalR.snoc (hR.mono fun q hq => ?_) ?_ ?_
          · rw [List.append_assoc]; exact List.mem_append_right _ hq
          · rw [nodes_ints]; exact hSp0.mono fun q hq => by simp [hq]
          · rw [nodes_ints]; exact hSt.mono fun q hq => by simp [hq]
        · rcases List.mem_append.1 hx with hx | hx
          · exact hSO x hx
          · rw [List.mem_singleton.1 hx]
            refine ⟨by rw [IL_len]; exact hpl, by rw [IL_len]; exact htl2, fun y hy => ?_, fun y hy => ?_⟩
            · obtain ⟨z, hz, rfl⟩ := List.mem_map.1 hy
              have := hpb z hz; omega
            · obtain ⟨z, hz, rfl⟩ := List.mem_map.1 hy
              have := htb2 z hz; omega
        · simp only
          exact hH6.perm (by classical exact List.perm_iff_count.2 (fun a => by simp only [defds, List.map_cons, List.map_nil, List.count_append, List.count_cons, List.count_nil, List.cons_append, List.nil_append, List.append_nil]; omega))
  · have hiN : i = N := by omega
    subst hiN
    repeat' (first | refine zP ?_ | refine zA ?_ | (refine zM ?_; intro _ _) | refine zX ?_ | (refine zC ?_; intro _ _ _ _) | (refine zS ?_; intro _ _) | (apply Ws <;> intro hg))
    exact Ends.ret2 rfl rfl ⟨S, va, n1, Mo ++ Mi, hSO, hSl, by omega, by simpa using hH2.tail, by rw [List.append_assoc]; exact (hR.mono fun q hq => List.mem_append_right _ hq).sales (hO.sl (Mi ++ M)), rfl⟩
end
end Go.Proofs.Yteopjpfhhekkoaa.Tt

/- lead; ringed. -/
namespace Go.Proofs.Yteopjpfhhekkoaa.Tt
open Go Go.Abs Go.Mth
set_option linter.unusedVariables false
set_option linter.unusedSimpArgs false
def StK (g : Nat → Nat → Bool) (n : Nat) : Nat → Nat → Nat → Prop
  | 0, a, b => a = b ∧ a < n
  | r + 1, a, c => ∃ b, StK g n r a b ∧ c < n ∧ g b c = true
theorem StK.rt {g : Nat → Nat → Bool} {n : Nat} : ∀ {r a b : Nat}, StK g n r a b → RT g n a b
  | 0, a, b, ⟨h1, h2⟩ => by rw [← h1]; exact .refl h2
  | r + 1, a, c, ⟨b, h1, h2, h3⟩ => .step h1.rt h3 h2
theorem StK.lt {g : Nat → Nat → Bool} {n r a b : Nat} (h : StK g n r a b) : a < n ∧ b < n := h.rt.lt
theorem StK.up {g : Nat → Nat → Bool} {n r a b : Nat} (hg : ∀ x, g x x = true) (h : StK g n r a b) : ∀ k, StK g n (r + k) a b
  | 0 => h
  | k + 1 => ⟨b, h.up hg k, h.lt.2, hg b⟩
theorem StK.of {g : Nat → Nat → Bool} {n : Nat} (hg : ∀ x, g x x = true) {a b : Nat} (h : RT g n a b) : StK g n n a b := by
  obtain ⟨l, h1, h2, h3⟩ := h.chain
  have hl := h1.len
  have key : ∀ j, j < l.length → StK g n j (l.getD 0 0) (l.getD j 0) := by
    intro j
    induction j with
    | zero => intro hj; exact ⟨rfl, h1.lt hj⟩
    | succ j ih => intro hj; exact ⟨_, ih (by omega), h1.lt hj, h1.2.2.2 j hj⟩
  have := (key (l.length - 1) (by omega)).up hg (n - (l.length - 1))
  rw [h2, h3, show l.length - 1 + (n - (l.length - 1)) = n by omega] at this
  exact this
def tg (T : List Bool) (a b : Nat) : Bool := T.getD (a * 6 + b) false
theorem tg_set {T : List Bool} {a b p q : Nat} {x : Bool} (hT : T.length = 36) (ha : a < 6) (hb : b < 6) (hp : p < 6) (hq : q < 6) : tg (T.set (a * 6 + b) x) p q = if p = a ∧ q = b then x else tg T p q := by
  unfold tg
  rw [getD_set' (by omega)]
  by_cases e : p * 6 + q = a * 6 + b
  · rw [if_pos e, if_pos (by omega)]
  · rw [if_neg e, if_neg (by omega)]
structure Pass (g : Nat → Nat → Bool) (n r : Nat) (T : List Bool) (a b c : Nat) : Prop where
  len : T.length = 36
  snd : ∀ p q, p < n → q < n → tg T p q = true → RT g n p q
  old : ∀ p q, StK g n (r + 1) p q → tg T p q = true
  new : ∀ p q s, p < n → q < n → s < n → (p < a ∨ (p = a ∧ (q < b ∨ (q = b ∧ s < c)))) → StK g n (r + 1) p q → g q s = true → tg T p s = true
theorem Pass.set {g : Nat → Nat → Bool} {n r a b c : Nat} {T : List Bool} (hg : ∀ x, g x x = true) (hn : n ≤ 6) (h : Pass g n r T a b c) (ha : a < n) (hb : b < n) (hc : c < n) :
    Pass g n r (T.set (a * 6 + c) (tg T a c || (tg T a b && tg T b c))) a b (c + 1) := by
  have hx : ∀ p q, p < n → q < n → tg (T.set (a * 6 + c) (tg T a c || (tg T a b && tg T b c))) p q = if p = a ∧ q = c then (tg T a c || (tg T a b && tg T b c)) else tg T p q := fun p q hp hq => tg_set h.len (by omega) (by omega) (by omega) (by omega)
  have hmono : ∀ p q, p < n → q < n → tg T p q = true → tg (T.set (a * 6 + c) (tg T a c || (tg T a b && tg T b c))) p q = true := fun p q hp hq ht => by
    rw [hx p q hp hq]
    by_cases e : p = a ∧ q = c
    · rw [if_pos e, ← e.1, ← e.2, ht, Bool.true_or]
    · rw [if_neg e]; exact ht
  refine ⟨by rw [List.length_set]; exact h.len, fun p q hp hq ht => ?_, fun p q hr => hmono p q hr.lt.1 hr.lt.2 (h.old p q hr), fun p q s hp hq hs hlt hr hgq => ?_⟩
  · rw [hx p q hp hq] at ht
    by_cases e : p = a ∧ q = c
    · rw [if_pos e, Bool.or_eq_true, Bool.and_eq_true] at ht
      rw [e.1, e.2]
      rcases ht with ht | ⟨k1, k2⟩
      · exact h.snd a c ha hc ht
      · exact (h.snd a b ha hb k1).trans (h.snd b c hb hc k2)
    · rw [if_neg e] at ht; exact h.snd p q hp hq ht
  · by_cases e : p = a ∧ q = b ∧ s = c
    · obtain ⟨rfl, rfl, rfl⟩ := e
      rw [hx p s hp hs, if_pos ⟨rfl, rfl⟩, h.old p q hr, h.old q s ((show StK g n 1 q s from ⟨q, ⟨rfl, hq⟩, hs, hgq⟩).up hg r |> fun k => by rwa [Nat.add_comm] at k)]
      simp
    · exact hmono p s hp hs (h.new p q s hp hq hs (by omega) hr hgq)
theorem Pass.next {g : Nat → Nat → Bool} {n r : Nat} {T : List Bool} (h : Pass g n r T n 0 0) : Pass g n (r + 1) T 0 0 0 :=
  ⟨h.len, h.snd, fun p q ⟨b, h1, h2, h3⟩ => h.new p b q h1.lt.1 h1.lt.2 h2 (.inl h1.lt.1) h1 h3, fun p q s _ _ _ hlt => by omega⟩
theorem Pass.all {g : Nat → Nat → Bool} {n : Nat} {T : List Bool} (hg : ∀ x, g x x = true) (h : Pass g n n T 0 0 0) {p q : Nat} (hp : p < n) (hq : q < n) : tg T p q = true ↔ RT g n p q :=
  ⟨h.snd p q hp hq, fun k => h.old p q ((StK.of hg k).up hg 1)⟩
theorem Pass.zero {g : Nat → Nat → Bool} {n : Nat} {T : List Bool} (hg : ∀ x, g x x = true) (hl : T.length = 36) (h : ∀ p q, p < n → q < n → tg T p q = g p q) : Pass g n 0 T 0 0 0 := by
  refine ⟨hl, fun p q hp hq ht => ?_, fun p q ⟨b, ⟨k1, k2⟩, k3, k4⟩ => ?_, fun p q s _ _ _ hlt => by omega⟩
  · rw [h p q hp hq] at ht; exact .step (.refl hp) ht hq
  · subst k1
    rw [h p q k2 k3]; exact k4
def Fill (g : Nat → Nat → Bool) (n : Nat) (T : List Bool) (a b : Nat) : Prop := T.length = 36 ∧ ∀ p q, p < n → q < n → (p < a ∨ (p = a ∧ q < b)) → tg T p q = g p q
theorem Fill.set {g : Nat → Nat → Bool} {n a b : Nat} {T : List Bool} (hn : n ≤ 6) (h : Fill g n T a b) (ha : a < n) (hb : b < n) : Fill g n (T.set (a * 6 + b) (g a b)) a (b + 1) := by
  refine ⟨by rw [List.length_set]; exact h.1, fun p q hp hq hlt => ?_⟩
  rw [tg_set h.1 (by omega) (by omega) (by omega) (by omega)]
  by_cases e : p = a ∧ q = b
  · rw [if_pos e, e.1, e.2]
  · rw [if_neg e]; exact h.2 p q hp hq (by omega)
attribute [local irreducible] gOK WS WC WR WD Ends FS YS OpV seqK blockK loopK midK retK rdK asgK rangeEnd sat Cell
section
variable {M : HL} {n0 : Nat} {H : Heap} {v w : Value}
end
end Go.Proofs.Yteopjpfhhekkoaa.Tt

/- ringed. -/
namespace Go.Proofs.Yteopjpfhhekkoaa.Tt
open Go Go.Abs Go.Mth
set_option linter.unusedVariables false
set_option linter.unusedSimpArgs false
theorem SalesI.at {M : HL} {v : Value} {S : List Sal} (h : SalesI M v S) : ∃ ws : List (Value × Value), Sl M 2 v (cellsF pairV ws) ∧ ws.length = S.length ∧ (∀ i, i < S.length → Sl M 1 (ws.getD i noVal).1 (ints (S.getD i noSal).1) ∧ Sl M 1 (ws.getD i noVal).2 (ints (S.getD i noSal).2)) := h
attribute [local irreducible] gOK WS WC WR WD Ends FS YS OpV seqK blockK loopK midK retK rdK asgK rangeEnd sat Cell
section
variable {M : HL} {n0 : Nat} {H : Heap} {v w : Value}
end
end Go.Proofs.Yteopjpfhhekkoaa.Tt

/- same, closes; numbers are judged. -/
namespace Go.Proofs.Yteopjpfhhekkoaa.Tt
open Go Go.Abs Go.Mth
set_option linter.unusedVariables false
set_option linter.unusedSimpArgs false
theorem mul_bd {V D B : Int} (h0 : 0 ≤ V) (hB : V ≤ B) (hl : -243 ≤ D) (hu : D ≤ 243) : -(243 * B) ≤ V * D ∧ V * D ≤ 243 * B := by
  have k1 : V * D ≤ V * 243 := Int.mul_le_mul_of_nonneg_left hu h0
  have k2 : V * (-243) ≤ V * D := Int.mul_le_mul_of_nonneg_left hl h0
  omega
def NumP (P : List (List Int)) (W V : List Int) : Prop := numOK (DP P) P.length (fun a => W.getD a 0) (fun a => V.getD a 0)
def RngP (n : Nat) (W V : List Int) : Prop := W.length = n ∧ V.length = n ∧ (∀ a, a < n → 0 ≤ W.getD a 0 ∧ W.getD a 0 ≤ 1000000000000) ∧ ∀ a, a < n → 1 ≤ V.getD a 0 ∧ V.getD a 0 ≤ 1000000000000
attribute [local irreducible] gOK WS WC WR WD Ends FS YS OpV seqK blockK loopK midK retK rdK asgK rangeEnd sat Cell
section
variable {M : HL} {n0 : Nat} {H : Heap} {v w u : Value}
end
end Go.Proofs.Yteopjpfhhekkoaa.Tt
