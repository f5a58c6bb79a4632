/- Texts of the law, joined. -/
import Derived.Test.YtnmlfjohoeebiaaJ2
/- The reference's states, in memory. -/
namespace Go.Proofs.Ytnmlfjohoeebiaa.Wk
open Go Go.Abs Go.Mth
set_option linter.unusedVariables false
set_option linter.unusedSimpArgs false
def extL (T : List Int) (k : Nat) (l : List Int) : List (List Int) := (List.range (T.getD k 0).toNat).map fun t => l ++ [((t + 1 : Nat) : Int)]
theorem stK_succ (T : List Int) (k : Nat) : stK T (k + 1) = (stK T k).flatMap (extL T k) := rfl
/-- What is there so far. -/
def outL (T : List Int) (k i t : Nat) : List (List Int) := ((stK T k).take i).flatMap (extL T k) ++ (List.range t).map fun t => (stK T k).getD i [] ++ [((t + 1 : Nat) : Int)]
theorem outL_t (T : List Int) (k i t : Nat) : outL T k i (t + 1) = outL T k i t ++ [(stK T k).getD i [] ++ [((t + 1 : Nat) : Int)]] := by
  simp [outL, List.range_succ]
theorem outL_i {T : List Int} {k i : Nat} (hi : i < (stK T k).length) : outL T k (i + 1) 0 = outL T k i (T.getD k 0).toNat := by
  unfold outL
  rw [List.take_succ_eq_append_getElem hi, List.flatMap_append, getD_eq hi]
  simp [extL]
theorem outL_len {T : List Int} {k i t : Nat} (hi : i < (stK T k).length) (ht : t ≤ (T.getD k 0).toNat) : (outL T k i t).length = i * (T.getD k 0).toNat + t := by
  unfold outL
  rw [List.length_append, flat_len (c := (T.getD k 0).toNat) fun x _ => by simp [extL], List.length_take, Nat.min_eq_left (by omega)]
  simp
theorem outL_all {T : List Int} {k : Nat} : outL T k (stK T k).length 0 = stK T (k + 1) := by
  unfold outL
  rw [List.take_length, stK_succ]; simp
structure RV where
  k : Nat
  vb : Value
  ws : List Value
  MB : HL
  Mi : HL
  n : Nat
attribute [local irreducible] gOK WS WC WR WD Ends FS YS OpV seqK blockK loopK midK retK rdK asgK rangeEnd sat Cell
section
set_option maxHeartbeats 1000000 in
theorem states_fs {T : List Int} (hT : TOK T) : ∀ (k : Nat), k ≤ T.length → ∀ {M : HL} {n0 : Nat} {H : Heap} {v : Value} (hH : hasH M n0 H) (hS : Sl M 1 v (ints (T.take k))),
    FS C 80 [v] H (fun e H' => ∃ ws MB Mi n', Own 22 1 e ws MB ∧ RowsB (Mi ++ M) ws (stK T k) ∧ (k = 0 → ws = [.slice none 0 0]) ∧ n0 ≤ n' ∧ hasH (MB ++ (Mi ++ M)) n' H') := by
  intro k
  induction k with
  | zero =>
    intro _ M n0 H v hH hS
    refine FS.intro (pf := pf80) rfl rfl rfl ?_
    rw [List.take_zero] at hS
    repeat' (first | refine zP ?_ | refine zA ?_ | (refine zM ?_; intro _ _) | refine zX ?_ | (refine zC ?_; intro _ _ _ _) | (refine zS ?_; intro _ _) | refine zO ?_ | (apply Ws <;> intro hg))
    refine WR.bldS (by first | exact gN | exact gS rfl) rfl hH (vs := [(0, .slice none 0 0)]) rfl (cs := [.slice none 0 0]) (by rfl) rfl fun H2 hH2 => ?_
    repeat' (first | refine zP ?_ | refine zA ?_ | (refine zM ?_; intro _ _) | refine zX ?_ | (refine zC ?_; intro _ _ _ _) | (refine zS ?_; intro _ _) | (apply Ws <;> intro hg))
    refine Ends.ret1 rfl ⟨[.slice none 0 0], [(n0, .inp 22 0 0 [.slice none 0 0])], [], n0 + 1, .full (len := 1) rfl rfl, ⟨rfl, fun i hi => ?_⟩, fun _ => rfl, by omega, hH2.asInp .here⟩
    have : i = 0 := by simpa [stK] using hi
    subst this
    exact .nil 0
  | succ k ih =>
    intro hk M n0 H v hH hS
    have hTl := hT.len
    have htl : (T.take (k + 1)).length = k + 1 := by rw [List.length_take]; omega
    have htk : (T.take (k + 1)).take k = T.take k := by rw [List.take_take, Nat.min_eq_left (by omega)]
    have hget : (T.take (k + 1)).getD k 0 = T.getD k 0 := getD_take (by omega)
    refine FS.intro (pf := pf80) rfl rfl rfl ?_
    repeat' (first | refine zP ?_ | refine zA ?_ | (refine zM ?_; intro _ _) | refine zX ?_ | (refine zC ?_; intro _ _ _ _) | (refine zS ?_; intro _ _) | refine zO ?_ | (apply Ws <;> intro hg))
    rw [show ((T.take (k + 1)).length : Int) - 1 = (k : Int) by omega]
    refine WR.cutHi (by first | exact gN | exact gS rfl) rfl rfl hS rfl (by omega) fun v2 hS2 => ?_
    rw [htk] at hS2
    refine WR.call (by first | exact gN | exact gS rfl) rfl rfl (ih (by omega) hH hS2) ?_
    rintro sv H1 ⟨ws, MB, Mi, n1, hO, hR, hw0, hn1, hH1⟩
    have hSW := hO.sl (Mi ++ M)
    have hRW : RowsB (MB ++ (Mi ++ M)) ws (stK T k) := ⟨hR.1, fun i hi => (hR.2 i hi).mono fun q hq => List.mem_append_right _ hq⟩
    have hSV : Sl (MB ++ (Mi ++ M)) 1 v (ints (T.take (k + 1))) := hS.mono fun q hq => List.mem_append_right _ (List.mem_append_right _ hq)
    have eM : MB ++ (Mi ++ M) = (MB ++ Mi) ++ M := by simp
    obtain ⟨X, hX⟩ : ∃ X, MB ++ (Mi ++ M) = X := ⟨_, rfl⟩
    rw [hX] at hH1 hSW hRW hSV eM
    clear hX hO hR hS2 hH
    have hwl := hRW.1
    have hsl := stK_len (T := T) k
    have hpb := prodK_bd hT (show k ≤ T.length by omega)
    have hpb2 := prodK_bd hT hk
    have hps : prodK T (k + 1) = prodK T k * (T.getD k 0).toNat := rfl
    have t1 := hT.lo k (by omega)
    have t8 := hT.hi k (by omega)
    obtain ⟨tk, htt⟩ : ∃ tk : Nat, T.getD k 0 = (tk : Int) := ⟨(T.getD k 0).toNat, by omega⟩
    rw [htt] at hget t1 t8 hps
    rw [Int.toNat_natCast] at hps
    repeat' (first | refine zP ?_ | refine zA ?_ | (refine zM ?_; intro _ _) | refine zX ?_ | (refine zC ?_; intro _ _ _ _) | (refine zS ?_; intro _ _) | (apply Ws <;> intro hg))
    refine WC.loopX [(0, v), (4, sv)] (fun z : RV => [(3, z.vb), (5, .int .i64 (z.k : Int))]) []
      (fun z H' => z.k ≤ (stK T k).length ∧ n1 ≤ z.n ∧ Own 22 1 z.vb z.ws z.MB ∧ RowsB (z.Mi ++ X) z.ws (outL T k z.k 0) ∧ hasH (z.MB ++ (z.Mi ++ X)) z.n H')
      (fun z => (stK T k).length - z.k) ⟨0, .slice none 0 0, [], [], [], n1⟩ (by repeat' (first | exact .nil | refine .cons rfl ?_)) rfl ⟨Nat.zero_le _, Nat.le_refl _, .nil, ⟨by simp [outL], fun i hi => by simp [outL] at hi⟩, hH1⟩ ?_
    clear hH1
    rintro ⟨i, vb, wo, MO, Mj, n2⟩ H2 ⟨hi, hn2, hOo, hRo, hH2⟩
    simp only at hi hn2 hOo hRo hH2
    have hSW2 : Sl (MO ++ (Mj ++ X)) 1 sv ws := hSW.mono fun q hq => List.mem_append_right _ (List.mem_append_right _ hq)
    dsimp only [List.cons_append, List.nil_append]
    repeat' (first | refine zP ?_ | refine zA ?_ | (refine zM ?_; intro _ _) | refine zX ?_ | (refine zC ?_; intro _ _ _ _) | (refine zS ?_; intro _ _) | (apply Ws <;> intro hg))
    refine WC.condP rfl (fun hlt => ?_) (fun hlt => ?_)
    · have hi' : i < (stK T k).length := by omega
      repeat' (first | refine zP ?_ | refine zA ?_ | (refine zM ?_; intro _ _) | refine zX ?_ | (refine zC ?_; intro _ _ _ _) | (refine zS ?_; intro _ _) | (apply Ws <;> intro hg))
      clear hSW2
      refine WC.loopX [(0, v), (4, sv), (5, .int .i64 (i : Int))] (fun z : RV => [(3, z.vb), (6, .int .i64 ((z.k + 1 : Nat) : Int))]) []
        (fun z H' => z.k ≤ tk ∧ n2 ≤ z.n ∧ Own 22 1 z.vb z.ws z.MB ∧ RowsB (z.Mi ++ X) z.ws (outL T k i z.k) ∧ hasH (z.MB ++ (z.Mi ++ X)) z.n H')
        (fun z => tk - z.k) ⟨0, vb, wo, MO, Mj, n2⟩ (by repeat' (first | exact .nil | refine .cons rfl ?_)) rfl ⟨Nat.zero_le _, Nat.le_refl _, hOo, hRo, hH2⟩ ?_
      clear hH2 hOo hRo
      rintro ⟨t, vb2, wo2, MO2, Mj2, n3⟩ H3 ⟨ht, hn3, hOo, hRo, hH3⟩
      simp only at ht hn3 hOo hRo hH3
      have hSV3 : Sl (MO2 ++ (Mj2 ++ X)) 1 v (ints (T.take (k + 1))) := hSV.mono fun q hq => List.mem_append_right _ (List.mem_append_right _ hq)
      have hSW3 : Sl (MO2 ++ (Mj2 ++ X)) 1 sv ws := hSW.mono fun q hq => List.mem_append_right _ (List.mem_append_right _ hq)
      have hol := outL_len (t := t) hi' (by rw [htt, Int.toNat_natCast]; exact ht)
      dsimp only [List.cons_append, List.nil_append]
      repeat' (first | refine zP ?_ | refine zA ?_ | (refine zM ?_; intro _ _) | refine zX ?_ | (refine zC ?_; intro _ _ _ _) | (refine zS ?_; intro _ _) | (apply Ws <;> intro hg))
      rw [show (T.take (k + 1)).length - 1 = k by omega, hget]
      refine WC.condP rfl (fun hle => ?_) (fun hle => ?_)
      · have ht' : t < tk := by omega
        have hm1 : (i + 1) * tk ≤ prodK T k * tk := Nat.mul_le_mul_right _ (by omega)
        rw [Nat.succ_mul] at hm1
        have hwi : i < ws.length := by omega
        rw [htt, Int.toNat_natCast] at hol
        have hot := outL_t T k i t
        have hpl : ((stK T k).getD i []).length = k := (stK_mem (getD_mem hi')).1
        have hp0 : Sl (MO2 ++ (Mj2 ++ X)) 1 (ws.getD i undef) (ints ((stK T k).getD i [])) := (hRW.2 i hi').mono fun q hq => List.mem_append_right _ (List.mem_append_right _ hq)
        have hwn : k = 0 → ws.getD i undef = .slice none 0 0 := fun h => by
          have hw := hw0 h
          subst h
          have : i = 0 := by simpa [stK] using hi'
          rw [hw, this]; rfl
        have hwo := hRo.1
        generalize (stK T k).getD i [] = p at hp0 hpl hot
        repeat' (first | refine zP ?_ | refine zA ?_ | (refine zM ?_; intro _ _) | refine zX ?_ | (refine zC ?_; intro _ _ _ _) | (refine zS ?_; intro _ _) | (apply Ws <;> intro hg))
        refine WR.bldS (by first | exact gN | exact gS rfl) rfl hH3 (vs := []) rfl (cs := []) (by rfl) rfl fun H4 hH4 => ?_
        have hp1 := hp0.cons (p := (n3, Ch.row 3 0 0 []))
        have hSW4 := hSW3.cons (p := (n3, Ch.row 3 0 0 []))
        have hr1 := hp0.one_
        clear hp0 hSW3 hSV3
        repeat' (first | refine zP ?_ | refine zA ?_ | (refine zM ?_; intro _ _) | refine zX ?_ | (refine zC ?_; intro _ _ _ _) | (refine zS ?_; intro _ _) | (apply Ws <;> intro hg))
        by_cases hk0 : k = 0
        case' pos =>
          have hpe : p = [] := List.eq_nil_of_length_eq_zero (by omega)
          rw [hwn hk0] at *
          refine WR.appNil (by first | exact gN | exact gS rfl) rfl rfl rfl hH4 (.head _) fun H5 hH5 => ?_
          have hOw : Own 3 1 (.slice (some ⟨n3, 0, some 0⟩) 0 1) (ints p) [(n3, .inp 3 0 0 [])] := by rw [hpe]; exact .full (len := 0) rfl rfl
          have hHw : hasH ([(n3, .inp 3 0 0 [])] ++ ([] ++ (MO2 ++ (Mj2 ++ X)))) (n3 + 1) H5 := hH5.asInp .here
          obtain ⟨n4, hn4⟩ : ∃ n4, n3 + 1 = n4 := ⟨_, rfl⟩
          rw [hn4] at hHw
          generalize [(n3, Ch.inp 3 0 0 [])] = Mx at hOw hHw
          obtain ⟨R, hR0⟩ : ∃ R : HL, ([] : HL) = R := ⟨_, rfl⟩
          rw [hR0] at hHw
        case' neg =>
          have hne : ints p ≠ [] := fun h => by have h9 := congrArg List.length h; rw [List.length_map, List.length_nil] at h9; omega
          obtain ⟨hks, hsr⟩ := hp1.src hH4 hne
          rw [show (ints p).length = p.length by simp] at hks
          refine WR.appendNew (by first | exact gN | exact gS rfl) rfl rfl rfl hH4 (.head _) (.row _ _ _ _) (Nat.zero_le _) (Nat.zero_le _) hks (by have := hsr _ (Nat.le_refl _); rw [List.take_length, show (ints p).length = p.length by simp] at this; exact this) (by simp) (by omega) (ints_one _) (by omega) (by omega) (by omega) fun H5 hH5 => ?_
          have hOw : Own 3 1 (.slice (some ⟨n3 + 1, 0, some 0⟩) p.length (2 * 1)) (ints p) [(n3 + 1, .row 3 0 0 (ints p))] := .row (by simp)
          have hHw : hasH ([(n3 + 1, .row 3 0 0 (ints p))] ++ ([(n3, .row 3 0 0 [])] ++ (MO2 ++ (Mj2 ++ X)))) (n3 + 1 + 1) H5 := hH5
          obtain ⟨n4, hn4⟩ : ∃ n4, n3 + 1 + 1 = n4 := ⟨_, rfl⟩
          rw [hn4] at hHw
          generalize [(n3 + 1, Ch.row 3 0 0 (ints p))] = Mx at hOw hHw
          obtain ⟨R, hR0⟩ : ∃ R : HL, [(n3, Ch.row 3 0 0 [])] = R := ⟨_, rfl⟩
          rw [hR0] at hHw
        all_goals
          clear hH3 hH4 hH5 hp1 hSW4
          repeat' (first | refine zP ?_ | refine zA ?_ | (refine zM ?_; intro _ _) | refine zX ?_ | (refine zC ?_; intro _ _ _ _) | (refine zS ?_; intro _ _) | (apply Ws <;> intro hg))
          refine WR.append1F [] Mx (R ++ (MO2 ++ (Mj2 ++ X))) rfl rfl rfl rfl hOw hHw (new := [.int .i64 ((t + 1 : Nat) : Int)]) (by rfl) rfl rfl (Nat.le_refl _) (by omega) (by simp; omega) fun v3 M3 n5 H6 hO3 hH6 hn5 => ?_
          replace hH6 : hasH ((M3 ++ R) ++ (MO2 ++ (Mj2 ++ X))) n5 H6 := by rw [List.append_assoc]; exact hH6
          have hSv3 : Sl ((M3 ++ R) ++ X) 1 v3 (ints (p ++ [((t + 1 : Nat) : Int)])) := by
            rw [List.append_assoc, ints, List.map_append]; exact hO3.sl _
          have hv31 := hSv3.one_
          have hRn := rowsB_snoc hRo hSv3
          rw [← hot] at hRn
          clear hO3 hOw hHw
          repeat' (first | refine zP ?_ | refine zA ?_ | (refine zM ?_; intro _ _) | refine zX ?_ | (refine zC ?_; intro _ _ _ _) | (refine zS ?_; intro _ _) | (apply Ws <;> intro hg))
          refine WR.append1F (M3 ++ R) MO2 (Mj2 ++ X) rfl rfl rfl rfl hOo hH6 (new := [v3]) (fill1 hv31) (by simp [hv31]) rfl (Nat.le_refl _) (by omega) (by simp; omega) fun v4 M4 n6 H7 hO4 hH7 hn6 => ?_
          have hH8 : hasH (M4 ++ (((M3 ++ R) ++ Mj2) ++ X)) n6 H7 := hH7.perm (by
            have := List.perm_append_comm_assoc (M3 ++ R) M4 (Mj2 ++ X)
            rwa [← List.append_assoc (M3 ++ R) Mj2 X] at this)
          repeat' (first | refine zP ?_ | refine zA ?_ | (refine zM ?_; intro _ _) | refine zX ?_ | (refine zC ?_; intro _ _ _ _) | (refine zS ?_; intro _ _) | (apply Ws <;> intro hg))
          rw [show ((t + 1 : Nat) : Int) + 1 = ((t + 1 + 1 : Nat) : Int) by omega]
          exact Ends.loop ⟨t + 1, v4, wo2 ++ [v3], M4, (M3 ++ R) ++ Mj2, n6⟩ (by simp only; omega) (by repeat' (first | exact .nil | refine .cons rfl ?_)) rfl ⟨ht', by simp only; omega, hO4, hRn, hH8⟩
      · have htn : t = tk := by omega
        subst htn
        have hoi := outL_i hi'
        rw [htt, Int.toNat_natCast] at hoi
        rw [← hoi] at hRo
        repeat' (first | refine zP ?_ | refine zA ?_ | (refine zM ?_; intro _ _) | refine zX ?_ | (refine zC ?_; intro _ _ _ _) | (refine zS ?_; intro _ _) | (apply Ws <;> intro hg))
        exact Ends.loop ⟨i + 1, vb2, wo2, MO2, Mj2, n3⟩ (by simp only; omega) (by repeat' (first | exact .nil | refine .cons rfl ?_)) rfl ⟨hi', by simp only; omega, hOo, hRo, hH3⟩
    · have hin : i = (stK T k).length := by omega
      subst hin
      rw [outL_all] at hRo
      repeat' (first | refine zP ?_ | refine zA ?_ | (refine zM ?_; intro _ _) | refine zX ?_ | (refine zC ?_; intro _ _ _ _) | (refine zS ?_; intro _ _) | (apply Ws <;> intro hg))
      refine Ends.ret1 rfl ⟨wo, MO, Mj ++ (MB ++ Mi), n2, hOo, ?_, fun h => absurd h (Nat.succ_ne_zero _), by omega, ?_⟩
      · rw [List.append_assoc, ← eM]; exact hRo
      · rw [List.append_assoc, ← eM]; exact hH2
end
end Go.Proofs.Ytnmlfjohoeebiaa.Wk

/- The reference's search: from where a walk can go on for ever. -/
namespace Go.Proofs.Ytnmlfjohoeebiaa.Wk
open Go Go.Abs Go.Mth
set_option linter.unusedVariables false
set_option linter.unusedSimpArgs false
theorem sok_lok {T s : List Int} (hT : TOK T) (h : SOK T s) : ∃ l, LOK T l ∧ s = startS l := by
  have h4 := hT.len
  have hl := h.len
  have hg : ∀ i, i < T.length → (s.take T.length).getD i 0 = s.getD i 0 := fun i hi => getD_take hi
  refine ⟨s.take T.length, ⟨by rw [List.length_take]; omega, fun i hi => by rw [hg i hi]; exact h.lo i hi, fun i hi => by rw [hg i hi]; exact h.hi i hi⟩, ?_⟩
  have hll : (s.take T.length).length = T.length := by rw [List.length_take]; omega
  refine ext_getD (a := 0) (by rw [hl, startS_len (by omega)]) fun i hi => ?_
  rw [start_get (by omega), hll]
  by_cases e : i < T.length
  · rw [if_pos e, hg i e]
  · rw [if_neg e, h.out i (by omega)]
/-- From where so many tides can be walked. -/
noncomputable def livB (T : List Int) (k : Nat) (l : List Int) : Bool := !(goneB T k (startS l))
theorem livB_true {T : List Int} {k : Nat} {l : List Int} : livB T k l = true ↔ canS T k (startS l) := by
  unfold livB; rw [Bool.not_eq_true', goneB_false]
theorem livB_false {T : List Int} {k : Nat} {l : List Int} : livB T k l = false ↔ ¬ canS T k (startS l) := by
  unfold livB; rw [Bool.not_eq_false', goneB_true]
/-- The first so many of a list of Booleans, the others false. -/
def cutB (G : List Bool) (i : Nat) : List Bool := (List.range G.length).map fun j => decide (j < i) && G.getD j false
theorem cutB_len (G : List Bool) (i : Nat) : (cutB G i).length = G.length := by simp [cutB]
theorem cutB_get {G : List Bool} {i j : Nat} (h : j < G.length) : (cutB G i).getD j false = (decide (j < i) && G.getD j false) := by
  rw [getD_eq (by rw [cutB_len]; exact h)]; simp [cutB]
theorem cutB_zero (G : List Bool) : cutB G 0 = List.replicate G.length false := by
  refine List.eq_replicate_iff.2 ⟨cutB_len _ _, fun b hb => ?_⟩
  obtain ⟨s, _, rfl⟩ := List.mem_map.1 hb
  rw [decide_eq_false (Nat.not_lt_zero _), Bool.false_and]
theorem cutB_set {G : List Bool} {i : Nat} (h : i < G.length) : (cutB G i).set i (G.getD i false) = cutB G (i + 1) := by
  refine List.ext_getElem (by simp [cutB_len]) fun j h1 h2 => ?_
  rw [List.getElem_set]
  simp only [cutB, List.getElem_map, List.getElem_range]
  split
  · rename_i e; subst e; rw [decide_eq_true (Nat.lt_succ_self _), Bool.true_and]
  · congr 1
    rw [decide_eq_decide]; omega
theorem cutB_all (G : List Bool) : cutB G G.length = G := by
  refine ext_getD (a := false) (cutB_len _ _) fun j hj => ?_
  rw [cutB_len] at hj
  rw [cutB_get hj, decide_eq_true hj, Bool.true_and]
noncomputable def livL (T : List Int) (k : Nat) : List Bool := (stK T T.length).map (livB T k)
theorem livL_len (T : List Int) (k : Nat) : (livL T k).length = (stK T T.length).length := by simp [livL]
theorem livL_get {T : List Int} {k i : Nat} (h : i < (stK T T.length).length) : (livL T k).getD i false = livB T k ((stK T T.length).getD i []) := by
  rw [getD_eq (by rw [livL_len]; exact h), getD_eq h]; simp [livL]
theorem livL_idx {T l : List Int} {k : Nat} (hT : TOK T) (h : LOK T l) : (livL T k).getD (idxK T l T.length) false = livB T k l := by
  rw [livL_get (by rw [stK_len]; exact idxK_lt hT h _ (Nat.le_refl _)), stK_get hT h _ (Nat.le_refl _), List.take_of_length_le (by rw [h.len]; exact Nat.le_refl _)]
theorem livL_zero (T : List Int) : livL T 0 = List.replicate (stK T T.length).length true := by
  refine List.eq_replicate_iff.2 ⟨livL_len _ _, fun b hb => ?_⟩
  obtain ⟨l, _, rfl⟩ := List.mem_map.1 hb
  exact livB_true.2 trivial
/-- A stretch after which so many more can be walked, among the first ones. -/
noncomputable def nxtB (T : List Int) (k : Nat) (l : List Int) (s : Nat) : Bool := by
  classical
  exact (List.range s).any fun j => decide (goodS T.length (metS T (startS l) j)) && livB T k (aftL T l j T.length)
theorem nxtB_succ (T : List Int) (k : Nat) (l : List Int) (s : Nat) [Decidable (goodS T.length (metS T (startS l) s))] : nxtB T k l (s + 1) = (nxtB T k l s || (decide (goodS T.length (metS T (startS l) s)) && livB T k (aftL T l s T.length))) := by
  unfold nxtB
  rw [List.range_succ, List.any_append]
  simp
theorem nxtB_all {T l : List Int} {k : Nat} (hT : TOK T) (h : LOK T l) : nxtB T k l T.length = livB T (k + 1) l := by
  rw [Bool.eq_iff_iff, livB_true]
  unfold nxtB
  rw [List.any_eq_true]
  constructor
  · rintro ⟨j, hj, h1⟩
    have hj' := List.mem_range.1 hj
    rw [Bool.and_eq_true, decide_eq_true_eq, livB_true] at h1
    exact ⟨j, hj', h1.1, by rw [aft_met hT h hj']; exact h1.2⟩
  · rintro ⟨j, hj, h1, h2⟩
    refine ⟨j, List.mem_range.2 hj, ?_⟩
    rw [Bool.and_eq_true, decide_eq_true_eq, livB_true, ← aft_met hT h hj]
    exact ⟨h1, h2⟩
theorem liv_stop {T : List Int} {k : Nat} (hT : TOK T) (h : livL T (k + 1) = livL T k) {s : List Int} (hs : SOK T s) (hk : canS T k s) : everS T s :=
  ever_stab hT (fun s hs hk => by
    obtain ⟨l, hl, rfl⟩ := sok_lok hT hs
    have h1 := livL_idx (k := k + 1) hT hl
    rw [h, livL_idx hT hl, livB_true.2 hk] at h1
    exact livB_true.1 h1.symm) hs hk
theorem liv_stab {T : List Int} (hT : TOK T) {k : Nat} (h : ∀ s, SOK T s → canS T k s → canS T (k + 1) s) : livL T (k + 1) = livL T k := by
  unfold livL
  refine List.map_congr_left fun l hl => ?_
  have hs := (stK_ok hl).sok hT
  rw [Bool.eq_iff_iff, livB_true, livB_true]
  exact ⟨canS_less, h _ hs⟩
def sameK (G N : List Bool) (i : Nat) : Bool := (List.range i).all fun j => N.getD j false == G.getD j false
theorem sameK_succ (G N : List Bool) (i : Nat) : sameK G N (i + 1) = (sameK G N i && (N.getD i false == G.getD i false)) := by
  simp [sameK, List.range_succ]
theorem sameK_all {G N : List Bool} (h : N.length = G.length) : sameK G N G.length = true ↔ N = G := by
  unfold sameK
  rw [List.all_eq_true]
  constructor
  · intro hh
    refine ext_getD (a := false) h fun j hj => ?_
    have := hh j (List.mem_range.2 (by omega))
    simpa using this
  · rintro rfl j _
    simp
theorem eqB : ∀ a b : Bool, pureRun C.c.P (binOp .eql 4 (.bool a) (.bool b)) = some (.bool (a == b)) := by
  intro a b
  cases a <;> cases b <;> kernel_rfl
theorem fill_next {m i : Nat} (h : i < m) : (List.replicate i true ++ List.replicate (m - i) false).set i true = List.replicate (i + 1) true ++ List.replicate (m - (i + 1)) false := by
  rw [show m - i = (m - (i + 1)) + 1 by omega, List.replicate_succ, List.set_append_right _ _ (by simp), List.replicate_succ']
  simp
theorem cutB_self {G : List Bool} {i : Nat} (h : i < G.length) : (cutB G i).set i false = cutB G i := by
  refine ext_getD (a := false) (by simp) fun j hj => ?_
  rw [getD_set' (by rw [cutB_len]; exact h)]
  split
  · rename_i e; subst e; rw [cutB_get h, decide_eq_false (Nat.lt_irrefl _), Bool.false_and]
  · rfl
structure LW where
  k : Nat
  gb : Nat
  n : Nat
structure GK2 where
  k : Nat
  n : Nat
structure LI where
  i : Nat
  g : Bool
  n : Nat
attribute [local irreducible] gOK WS WC WR WD Ends FS YS OpV seqK blockK loopK midK retK rdK asgK rangeEnd sat Cell
section
variable {M : HL} {n0 : Nat} {H : Heap} {v w : Value}
set_option maxHeartbeats 2000000 in
theorem alive_fs (hH : hasH M n0 H) {T : List Int} (hS : Sl M 1 v (ints T)) (hT : TOK T) (h1 : 1 ≤ T.length) :
    FS C 59 [v] H (fun e H' => ∃ gb k r n', e = .tuple #[.slice (some ⟨gb, 0, some 0⟩) (stK T T.length).length (2 * (stK T T.length).length + 1), .int .i64 r] ∧ MoreR T (startS T) r ∧ (r = -1 → ∀ s, SOK T s → canS T k s → everS T s) ∧ n0 ≤ n' ∧ hasH ((gb, .row 4 0 0 (bools (livL T k))) :: M) n' H') := by
  obtain ⟨k0, hk0, hst⟩ := stab hT
  have hTl := hT.len
  refine FS.intro (pf := pf59) rfl rfl rfl ?_
  repeat' (first | refine zP ?_ | refine zA ?_ | (refine zM ?_; intro _ _) | refine zX ?_ | (refine zC ?_; intro _ _ _ _) | (refine zS ?_; intro _ _) | (apply Ws <;> intro hg))
  refine WR.call (by first | exact gN | exact gS rfl) rfl rfl (states_fs hT T.length (Nat.le_refl _) hH (by rw [List.take_length]; exact hS)) ?_
  rintro sv H1 ⟨ws, MB, Mi, n1, hO, hR, _, hn1, hH1⟩
  have hSW := hO.sl (Mi ++ M)
  have hRW : RowsB (MB ++ (Mi ++ M)) ws (stK T T.length) := ⟨hR.1, fun i hi => (hR.2 i hi).mono fun q hq => List.mem_append_right _ hq⟩
  have hSV : Sl (MB ++ (Mi ++ M)) 1 v (ints T) := hS.mono fun q hq => List.mem_append_right _ (List.mem_append_right _ hq)
  have hYM : M.Sublist (MB ++ (Mi ++ M)) := (List.sublist_append_right _ _).trans (List.sublist_append_right _ _)
  generalize MB ++ (Mi ++ M) = Y at hH1 hSW hRW hSV hYM
  clear hO hR hH
  obtain ⟨m, hm⟩ : ∃ m, (stK T T.length).length = m := ⟨_, rfl⟩
  have hwl : ws.length = m := by rw [← hm]; exact hRW.1
  have hpb := prodK_bd hT (Nat.le_refl T.length)
  have hp1 := (prodK_le hT T.length (Nat.le_refl _)).2
  have hmp : m = prodK T T.length := by rw [← hm]; exact stK_len _
  have hmL : ∀ k, (livL T k).length = m := fun k => by rw [livL_len, hm]
  repeat' (first | refine zP ?_ | refine zA ?_ | (refine zM ?_; intro _ _) | refine zX ?_ | (refine zC ?_; intro _ _ _ _) | (refine zS ?_; intro _ _) | (apply Ws <;> intro hg))
  rw [hwl]
  refine WR.mkS (m := m) (by first | exact gN | exact gS rfl) rfl hH1 rfl rfl (by omega) rfl fun H2 hH2 => ?_
  replace hH2 : hasH ((n1, .row 4 0 0 (bools (List.replicate 0 true ++ List.replicate (m - 0) false))) :: Y) (n1 + 1) H2 := by simpa [bools, List.map_replicate] using hH2
  repeat' (first | refine zP ?_ | refine zA ?_ | (refine zM ?_; intro _ _) | refine zX ?_ | (refine zC ?_; intro _ _ _ _) | (refine zS ?_; intro _ _) | (apply Ws <;> intro hg))
  refine WC.loopX [(0, v), (4, sv), (5, .slice (some ⟨n1, 0, some 0⟩) m (2 * m + 1))] (fun i : Nat => [(6, .int .i64 (i : Int))]) []
    (fun i H' => i ≤ m ∧ hasH ((n1, .row 4 0 0 (bools (List.replicate i true ++ List.replicate (m - i) false))) :: Y) (n1 + 1) H') (fun i => m - i) 0 (by repeat' (first | exact .nil | refine .cons rfl ?_)) rfl ⟨Nat.zero_le _, hH2⟩ ?_
  clear hH1 hH2
  rintro i H3 ⟨hi, hH3⟩
  have hSW3 := hSW.cons (p := (n1, Ch.row 4 0 0 (bools (List.replicate i true ++ List.replicate (m - i) false))))
  dsimp only [List.cons_append, List.nil_append]
  repeat' (first | refine zP ?_ | refine zA ?_ | (refine zM ?_; intro _ _) | refine zX ?_ | (refine zC ?_; intro _ _ _ _) | (refine zS ?_; intro _ _) | (apply Ws <;> intro hg))
  refine WC.condP rfl (fun hlt => ?_) (fun hlt => ?_)
  · have hi' : i < m := by omega
    have hfn := fill_next hi'
    have hfl : (List.replicate i true ++ List.replicate (m - i) false).length = m := by simp; omega
    generalize List.replicate i true ++ List.replicate (m - i) false = F at *
    repeat' (first | refine zP ?_ | refine zA ?_ | (refine zM ?_; intro _ _) | refine zX ?_ | (refine zC ?_; intro _ _ _ _) | (refine zS ?_; intro _ _) | (apply Ws <;> intro hg))
    rename_i H4 hH4
    rw [hfn] at hH4
    exact Ends.loop (i + 1) (by omega) (by repeat' (first | exact .nil | refine .cons rfl ?_)) rfl ⟨hi', hH4⟩
  have him : i = m := by omega
  subst him
  have hL0 : List.replicate i true ++ List.replicate (i - i) false = livL T 0 := by rw [livL_zero, hm, Nat.sub_self]; simp
  rw [hL0] at hH3
  clear hSW3 hi hlt
  repeat' (first | refine zP ?_ | refine zA ?_ | (refine zM ?_; intro _ _) | refine zX ?_ | (refine zC ?_; intro _ _ _ _) | (refine zS ?_; intro _ _) | (apply Ws <;> intro hg))
  refine WC.loopX [(0, v), (4, sv)] (fun z : LW => [(5, .slice (some ⟨z.gb, 0, some 0⟩) i (2 * i + 1)), (7, .int .i64 (z.k : Int))]) []
    (fun z H' => z.k ≤ k0 ∧ (∀ p, z.k = p + 1 → canS T p (startS T)) ∧ n1 ≤ z.n ∧ hasH ((z.gb, .row 4 0 0 (bools (livL T z.k))) :: Y) z.n H') (fun z => k0 + 1 - z.k) ⟨0, n1, n1 + 1⟩ (by repeat' (first | exact .nil | refine .cons rfl ?_)) rfl ⟨Nat.zero_le _, fun p h => absurd h.symm (Nat.succ_ne_zero _), by simp only; omega, hH3⟩ ?_
  clear hH3
  rintro ⟨k, gb, n2⟩ H4 ⟨hkk, hpre, hn2, hH4⟩
  simp only at hkk hpre hn2 hH4
  have hli := livL_idx (k := k) hT (lok_self hT)
  have hix := idxK_lt hT (lok_self hT) T.length (Nat.le_refl _)
  have hLl := hmL k
  have hLl2 := hmL (k + 1)
  dsimp only [List.cons_append, List.nil_append]
  repeat' (first | refine zP ?_ | refine zA ?_ | (refine zM ?_; intro _ _) | refine zX ?_ | (refine zC ?_; intro _ _ _ _) | (refine zS ?_; intro _ _) | (apply Ws <;> intro hg))
  refine WR.call (by first | exact gN | exact gS rfl) rfl rfl (index_fs hH4 hSV.cons hT hSV.cons (lok_self hT)) ?_
  rintro _ _ ⟨rfl, rfl⟩
  generalize idxK T T T.length = ix at hli hix ⊢
  have hcell : (bools (livL T k))[ix]? = some (.bool (livB T k T)) := by rw [← hli]; exact bools_get (by omega)
  repeat' (first | refine zP ?_ | refine zA ?_ | (refine zM ?_; intro _ _) | refine zX ?_ | (refine zC ?_; intro _ _ _ _) | (refine zS ?_; intro _ _) | (apply Ws <;> intro hg))
  rw [hli]
  cases hlv : livB T k T with
  | false =>
    obtain ⟨p, rfl⟩ : ∃ p, k = p + 1 := by
      cases k with
      | zero => exact absurd trivial (livB_false.1 hlv)
      | succ p => exact ⟨p, rfl⟩
    repeat' (first | refine zP ?_ | refine zA ?_ | (refine zM ?_; intro _ _) | refine zX ?_ | (refine zC ?_; intro _ _ _ _) | (refine zS ?_; intro _ _) | (apply Ws <;> intro hg))
    rw [show ((p + 1 : Nat) : Int) - 1 = (p : Int) by omega]
    exact Ends.ret2 rfl rfl ⟨gb, p + 1, p, n2, by rw [hm], .inr ⟨p, rfl, hpre p rfl, livB_false.1 hlv⟩, fun h => by omega, by omega, hH4.sub (.cons_cons _ hYM)⟩
  | true =>
    have hSW4 : Sl ((gb, Ch.row 4 0 0 (bools (livL T k))) :: Y) 1 sv ws := hSW.cons
    repeat' (first | refine zP ?_ | refine zA ?_ | (refine zM ?_; intro _ _) | refine zX ?_ | (refine zC ?_; intro _ _ _ _) | (refine zS ?_; intro _ _) | (apply Ws <;> intro hg))
    rw [hwl]
    refine WR.mkS (m := i) (by first | exact gN | exact gS rfl) rfl hH4 rfl rfl (by omega) rfl fun H5 hH5 => ?_
    have hz : List.replicate i (Value.bool false) = bools (cutB (livL T (k + 1)) 0) := by rw [cutB_zero, hLl2, bools, List.map_replicate]
    rw [hz] at hH5
    repeat' (first | refine zP ?_ | refine zA ?_ | (refine zM ?_; intro _ _) | refine zX ?_ | (refine zC ?_; intro _ _ _ _) | (refine zS ?_; intro _ _) | (apply Ws <;> intro hg))
    refine WC.loopX [(0, v), (4, sv), (5, .slice (some ⟨gb, 0, some 0⟩) i (2 * i + 1)), (7, .int .i64 (k : Int)), (8, .slice (some ⟨n2, 0, some 0⟩) i (2 * i + 1))] (fun z : LI => [(10, .int .i64 (z.i : Int)), (9, .bool z.g)]) []
      (fun z H' => z.i ≤ i ∧ z.g = sameK (livL T k) (livL T (k + 1)) z.i ∧ n2 + 1 ≤ z.n ∧ hasH ((n2, .row 4 0 0 (bools (cutB (livL T (k + 1)) z.i))) :: (gb, .row 4 0 0 (bools (livL T k))) :: Y) z.n H') (fun z => i - z.i) ⟨0, true, n2 + 1⟩ (by repeat' (first | exact .nil | refine .cons rfl ?_)) rfl ⟨Nat.zero_le _, rfl, Nat.le_refl _, hH5⟩ ?_
    clear hH4 hH5 hSW4
    rintro ⟨j, g, n3⟩ H6 ⟨hj, hg, hn3, hH6⟩
    simp only at hj hg hn3 hH6
    have hSW6 : Sl ((n2, Ch.row 4 0 0 (bools (cutB (livL T (k + 1)) j))) :: (gb, .row 4 0 0 (bools (livL T k))) :: Y) 1 sv ws := hSW.cons.cons
    dsimp only [List.cons_append, List.nil_append]
    repeat' (first | refine zP ?_ | refine zA ?_ | (refine zM ?_; intro _ _) | refine zX ?_ | (refine zC ?_; intro _ _ _ _) | (refine zS ?_; intro _ _) | (apply Ws <;> intro hg))
    rw [hwl]
    refine WC.condP rfl (fun hlt => ?_) (fun hlt => ?_)
    · have hj' : j < i := by omega
      have hjs : j < (stK T T.length).length := by omega
      have hlok := stK_ok (getD_mem (a := []) hjs)
      have hp0 := hRW.2 j hjs
      have hLg := livL_get (k := k + 1) hjs
      have hLg0 := livL_get (k := k) hjs
      have hall := nxtB_all (k := k) hT hlok
      generalize (stK T T.length).getD j [] = l at hlok hp0 hLg hLg0 hall
      have hwj : j < ws.length := by omega
      have hr1 := hp0.one_
      have hcs : (cutB (livL T (k + 1)) j).set j (nxtB T k l 0) = cutB (livL T (k + 1)) j := cutB_self (by omega)
      rw [← hcs] at hH6
      have hcl : (cutB (livL T (k + 1)) j).length = i := by rw [cutB_len, hLl2]
      clear hSW6 hcs
      repeat' (first | refine zP ?_ | refine zA ?_ | (refine zM ?_; intro _ _) | refine zX ?_ | (refine zC ?_; intro _ _ _ _) | (refine zS ?_; intro _ _) | (apply Ws <;> intro hg))
      refine WC.loopX [(0, v), (4, sv), (5, .slice (some ⟨gb, 0, some 0⟩) i (2 * i + 1)), (7, .int .i64 (k : Int)), (8, .slice (some ⟨n2, 0, some 0⟩) i (2 * i + 1)), (10, .int .i64 (j : Int)), (9, .bool g)] (fun z : GK2 => [(11, .int .i64 (z.k : Int))]) []
        (fun z H' => z.k ≤ T.length ∧ n2 + 1 ≤ z.n ∧ hasH ((n2, .row 4 0 0 (bools ((cutB (livL T (k + 1)) j).set j (nxtB T k l z.k)))) :: (gb, .row 4 0 0 (bools (livL T k))) :: Y) z.n H') (fun z => T.length - z.k) ⟨0, n3⟩ (by repeat' (first | exact .nil | refine .cons rfl ?_)) rfl ⟨Nat.zero_le _, hn3, hH6⟩ ?_
      clear hH6
      rintro ⟨s, n4⟩ H7 ⟨hs, hn4, hH7⟩
      simp only at hs hn4 hH7
      have hSV7 : Sl ((n2, Ch.row 4 0 0 (bools ((cutB (livL T (k + 1)) j).set j (nxtB T k l s)))) :: (gb, .row 4 0 0 (bools (livL T k))) :: Y) 1 v (ints T) := hSV.cons.cons
      have hSW7 : Sl ((n2, Ch.row 4 0 0 (bools ((cutB (livL T (k + 1)) j).set j (nxtB T k l s)))) :: (gb, .row 4 0 0 (bools (livL T k))) :: Y) 1 sv ws := hSW.cons.cons
      dsimp only [List.cons_append, List.nil_append]
      repeat' (first | refine zP ?_ | refine zA ?_ | (refine zM ?_; intro _ _) | refine zX ?_ | (refine zC ?_; intro _ _ _ _) | (refine zS ?_; intro _ _) | (apply Ws <;> intro hg))
      refine WC.condP rfl (fun hlt2 => ?_) (fun hlt2 => ?_)
      · have hs' : s < T.length := by omega
        have hns := nxtB_succ T k l s
        have hset : ∀ b b' : Bool, ((cutB (livL T (k + 1)) j).set j b).set j b' = (cutB (livL T (k + 1)) j).set j b' := fun b b' => by simp
        have hbcell : ∀ b : Bool, (bools ((cutB (livL T (k + 1)) j).set j b))[j]? = some (.bool b) := fun b => by
          rw [bools_get (by simp; omega), getD_set' (by omega), if_pos rfl]
        generalize cutB (livL T (k + 1)) j = NX at *
        generalize nxtB T k l s = b at *
        repeat' (first | refine zP ?_ | refine zA ?_ | (refine zM ?_; intro _ _) | refine zX ?_ | (refine zC ?_; intro _ _ _ _) | (refine zS ?_; intro _ _) | (apply Ws <;> intro hg))
        refine WR.call (by first | exact gN | exact gS rfl) rfl rfl (after_fs hH7 hSV7 hT hp0.cons.cons hlok hs') ?_
        rintro _ H8 ⟨n8, hn8, ⟨hgd, u, Mx, rfl, hOx, hH8⟩ | ⟨hgd, rfl, hH8⟩⟩
        · rw [decide_eq_true hgd, Bool.true_and] at hns
          have hok2 := aft_ok hT hlok ((aft_good hT hlok hs').1 hgd)
          have hlx := livL_idx (k := k) hT hok2
          have hixx := idxK_lt hT hok2 T.length (Nat.le_refl _)
          have hH9 := hH8.perm List.perm_middle
          have hSu : Sl ((n2, Ch.row 4 0 0 (bools (NX.set j b))) :: (Mx ++ ((gb, .row 4 0 0 (bools (livL T k))) :: Y))) 1 u (ints (aftL T l s T.length)) := (hOx.sl _).cons
          have hSV9 : Sl ((n2, Ch.row 4 0 0 (bools (NX.set j b))) :: (Mx ++ ((gb, .row 4 0 0 (bools (livL T k))) :: Y))) 1 v (ints T) := (hSV.cons.mono fun q hq => List.mem_append_right _ hq).cons
          have mG : (gb, Ch.row 4 0 0 (bools (livL T k))) ∈ (n2, Ch.row 4 0 0 (bools (NX.set j b))) :: (Mx ++ ((gb, .row 4 0 0 (bools (livL T k))) :: Y)) := List.mem_cons_of_mem _ (List.mem_append_right _ (.head _))
          have hsubR : ((gb, Ch.row 4 0 0 (bools (livL T k))) :: Y).Sublist (Mx ++ ((gb, .row 4 0 0 (bools (livL T k))) :: Y)) := List.sublist_append_right _ _
          generalize Mx ++ ((gb, Ch.row 4 0 0 (bools (livL T k))) :: Y) = R at hH9 hSu hSV9 mG hsubR
          clear hH8 hOx hH7 hSV7 hSW7
          have hu1 := hSu.one_
          repeat' (first | refine zP ?_ | refine zA ?_ | (refine zM ?_; intro _ _) | refine zX ?_ | (refine zC ?_; intro _ _ _ _) | (refine zS ?_; intro _ _) | (apply Ws <;> intro hg))
          refine WR.op (by first | exact gN | exact gS rfl) rfl (OpV.load1 rfl hH9 (.head _) (.row _ _ _ _) (Nat.zero_le _) (hbcell b)) ?_
          have hbl : (NX.set j b).length = i := by simp [hcl]
          cases b with
          | true =>
            have hbs := hset true true
            repeat' (first | refine zP ?_ | refine zA ?_ | (refine zM ?_; intro _ _) | refine zX ?_ | (refine zC ?_; intro _ _ _ _) | (refine zS ?_; intro _ _) | (apply Ws <;> intro hg))
            rename_i H10 hH10
            rw [hbs] at hH10
            refine Ends.loop ⟨s + 1, n8⟩ (by simp only; omega) (by repeat' (first | exact .nil | refine .cons rfl ?_)) rfl ⟨hs', by simp only; omega, ?_⟩
            show hasH ((n2, .row 4 0 0 (bools (NX.set j (nxtB T k l (s + 1))))) :: (gb, .row 4 0 0 (bools (livL T k))) :: Y) n8 H10
            rw [hns, Bool.true_or]
            exact hH10.sub (.cons_cons _ hsubR)
          | false =>
            repeat' (first | refine zP ?_ | refine zA ?_ | (refine zM ?_; intro _ _) | refine zX ?_ | (refine zC ?_; intro _ _ _ _) | (refine zS ?_; intro _ _) | (apply Ws <;> intro hg))
            refine WR.call (by first | exact gN | exact gS rfl) rfl rfl (index_fs hH9 hSV9 hT hSu hok2) ?_
            rintro _ _ ⟨rfl, rfl⟩
            generalize idxK T (aftL T l s T.length) T.length = iy at hlx hixx ⊢
            repeat' (first | refine zP ?_ | refine zA ?_ | (refine zM ?_; intro _ _) | refine zX ?_ | (refine zC ?_; intro _ _ _ _) | (refine zS ?_; intro _ _) | (apply Ws <;> intro hg))
            rename_i H10 hH10
            rw [hlx, hset] at hH10
            generalize livB T k (aftL T l s T.length) = y at hns hH10
            refine Ends.loop ⟨s + 1, n8⟩ (by simp only; omega) (by repeat' (first | exact .nil | refine .cons rfl ?_)) rfl ⟨hs', by simp only; omega, ?_⟩
            show hasH ((n2, .row 4 0 0 (bools (NX.set j (nxtB T k l (s + 1))))) :: (gb, .row 4 0 0 (bools (livL T k))) :: Y) n8 H10
            rw [hns, Bool.false_or]
            exact hH10.sub (.cons_cons _ hsubR)
        · rw [decide_eq_false hgd, Bool.false_and, Bool.or_false] at hns
          have hbl : (NX.set j b).length = i := by simp [hcl]
          clear hSV7 hSW7
          have hgb : (NX.set j b).getD j false = b := by rw [getD_set' (by omega), if_pos rfl]
          repeat' (first | refine zP ?_ | refine zA ?_ | (refine zM ?_; intro _ _) | refine zX ?_ | (refine zC ?_; intro _ _ _ _) | (refine zS ?_; intro _ _) | (apply Ws <;> intro hg))
          rw [hgb]
          have hbs := hset b b
          cases b with
          | true =>
            repeat' (first | refine zP ?_ | refine zA ?_ | (refine zM ?_; intro _ _) | refine zX ?_ | (refine zC ?_; intro _ _ _ _) | (refine zS ?_; intro _ _) | (apply Ws <;> intro hg))
            rename_i H10 hH10
            rw [hbs] at hH10
            refine Ends.loop ⟨s + 1, n8⟩ (by simp only; omega) (by repeat' (first | exact .nil | refine .cons rfl ?_)) rfl ⟨hs', by simp only; omega, ?_⟩
            show hasH ((n2, .row 4 0 0 (bools (NX.set j (nxtB T k l (s + 1))))) :: (gb, .row 4 0 0 (bools (livL T k))) :: Y) n8 H10
            rw [hns]; exact hH10
          | false =>
            repeat' (first | refine zP ?_ | refine zA ?_ | (refine zM ?_; intro _ _) | refine zX ?_ | (refine zC ?_; intro _ _ _ _) | (refine zS ?_; intro _ _) | (apply Ws <;> intro hg))
            rename_i H10 hH10
            rw [hbs] at hH10
            refine Ends.loop ⟨s + 1, n8⟩ (by simp only; omega) (by repeat' (first | exact .nil | refine .cons rfl ?_)) rfl ⟨hs', by simp only; omega, ?_⟩
            show hasH ((n2, .row 4 0 0 (bools (NX.set j (nxtB T k l (s + 1))))) :: (gb, .row 4 0 0 (bools (livL T k))) :: Y) n8 H10
            rw [hns]; exact hH10
      · have hst2 : s = T.length := by omega
        subst hst2
        rw [hall, ← hLg, cutB_set (by omega)] at hH7
        have hgN : (cutB (livL T (k + 1)) (j + 1)).getD j false = livB T (k + 1) l := by
          rw [cutB_get (by omega), decide_eq_true (Nat.lt_succ_self j), Bool.true_and, hLg]
        have hsk := sameK_succ (livL T k) (livL T (k + 1)) j
        rw [hLg, hLg0, ← hg] at hsk
        have hcl2 : (cutB (livL T (k + 1)) (j + 1)).length = i := by rw [cutB_len, hLl2]
        clear hSV7 hSW7
        cases g with
        | true =>
          repeat' (first | refine zP ?_ | refine zA ?_ | (refine zM ?_; intro _ _) | refine zX ?_ | (refine zC ?_; intro _ _ _ _) | (refine zS ?_; intro _ _) | (apply Ws <;> intro hg))
          rw [hgN, hLg0]
          refine WR.op (by first | exact gN | exact gS rfl) rfl (OpV.eqB (eqB _ _) rfl rfl) ?_
          repeat' (first | refine zP ?_ | refine zA ?_ | (refine zM ?_; intro _ _) | refine zX ?_ | (refine zC ?_; intro _ _ _ _) | (refine zS ?_; intro _ _) | (apply Ws <;> intro hg))
          exact Ends.loop ⟨j + 1, livB T (k + 1) l == livB T k l, n4⟩ (by simp only; omega) (by repeat' (first | exact .nil | refine .cons rfl ?_)) rfl ⟨hj', by rw [hsk]; rfl, by simp only; omega, hH7⟩
        | false =>
          repeat' (first | refine zP ?_ | refine zA ?_ | (refine zM ?_; intro _ _) | refine zX ?_ | (refine zC ?_; intro _ _ _ _) | (refine zS ?_; intro _ _) | (apply Ws <;> intro hg))
          exact Ends.loop ⟨j + 1, false, n4⟩ (by simp only; omega) (by repeat' (first | exact .nil | refine .cons rfl ?_)) rfl ⟨hj', by rw [hsk]; rfl, by simp only; omega, hH7⟩
    · have hji : j = i := by omega
      subst hji
      have hca : cutB (livL T (k + 1)) j = livL T (k + 1) := by rw [← hLl2]; exact cutB_all _
      rw [hca] at hH6 hSW6
      have hsa := sameK_all (G := livL T k) (N := livL T (k + 1)) (by omega)
      rw [hLl, ← hg] at hsa
      cases g with
      | true =>
        have hsm := hsa.1 rfl
        repeat' (first | refine zP ?_ | refine zA ?_ | (refine zM ?_; intro _ _) | refine zX ?_ | (refine zC ?_; intro _ _ _ _) | (refine zS ?_; intro _ _) | (apply Ws <;> intro hg))
        exact Ends.ret2 rfl rfl ⟨gb, k, -1, n3, by rw [hm], .inl ⟨rfl, liv_stop hT hsm (start_ok hT) (livB_true.1 hlv)⟩, fun _ s hs hk => liv_stop hT hsm hs hk, by omega, hH6.tail.sub (.cons_cons _ hYM)⟩
      | false =>
        have hkne : k ≠ k0 := fun e => by
          subst e
          have := hsa.2 (liv_stab hT hst)
          cases this
        repeat' (first | refine zP ?_ | refine zA ?_ | (refine zM ?_; intro _ _) | refine zX ?_ | (refine zC ?_; intro _ _ _ _) | (refine zS ?_; intro _ _) | (apply Ws <;> intro hg))
        refine Ends.loop ⟨k + 1, n2, n3⟩ (by simp only; omega) (by repeat' (first | exact .nil | refine .cons rfl ?_)) rfl ⟨by simp only; omega, fun p hp => ?_, by simp only; omega, hH6.sub (.cons_cons _ (List.sublist_cons_self _ _))⟩
        have : p = k := by simp only at hp; omega
        subst this
        exact livB_true.1 hlv
end
end Go.Proofs.Ytnmlfjohoeebiaa.Wk

/- A plan, repeated nine times. -/
namespace Go.Proofs.Ytnmlfjohoeebiaa.Wk
open Go Go.Abs Go.Mth
set_option linter.unusedVariables false
set_option linter.unusedSimpArgs false
/-- So many times the same. -/
def repI (P : List Int) (m : Nat) : List Int := (List.replicate m P).flatten
structure KR where
  k : Nat
  ys : List Int
attribute [local irreducible] gOK WS WC WR WD Ends FS YS OpV seqK blockK loopK midK retK rdK asgK rangeEnd sat Cell
section
variable {M : HL} {n0 : Nat} {H : Heap} {v w : Value}
end
end Go.Proofs.Ytnmlfjohoeebiaa.Wk

/- A plan that is repeated meets all. -/
namespace Go.Proofs.Ytnmlfjohoeebiaa.Wk
open Go Go.Abs Go.Mth
set_option linter.unusedVariables false
set_option linter.unusedSimpArgs false
/-- A plan, around its end. -/
def CycG (T P : List Int) : Prop := ∀ i, i < T.length → ∀ f, ∃ k, k < (T.getD i 0).toNat ∧ P.getD ((f + k) % P.length) 0 = (i : Int)
noncomputable def meetE (T P : List Int) : Int := if errT T ≠ 0 then errT T else if P.length = 0 then 4 else if walkE T.length P ≠ 0 then walkE T.length P else if goodB T (repI P 9) = true then 0 else 14
attribute [local irreducible] gOK WS WC WR WD Ends FS YS OpV seqK blockK loopK midK retK rdK asgK rangeEnd sat Cell
section
variable {M : HL} {n0 : Nat} {H : Heap} {v w : Value}
end
end Go.Proofs.Ytnmlfjohoeebiaa.Wk

/- Slices joined. -/
namespace Go.Abs
set_option linter.unusedSectionVars false
set_option linter.unusedSimpArgs false
set_option linter.unusedVariables false
variable [Globs]
open Go
section
variable {C : CW} {nt : Nat} {L : Env} {D : List Nat} {H : Heap} {K : St → Prop} {M M' : HL} {n i d : Nat} {gd : Option (Tmp × Bool)} {lo' : List Nat} {l : List POp}
theorem WR.appZ {e m : Nat} {z : Value} {s x : Operand} (hg : gOK L gd) (hd : Nat.blt d nt = true) (hs : ev L s = some (.slice none 0 0)) (hx : ev L x = some (.int .i64 (m : Int))) (hH : hasH M n H) (hm : 1 ≤ m) (hm2 : m ≤ 70000) (hz : one z = true)
    (kk : ∀ H', hasH ((n, .row e 0 0 (List.replicate m z)) :: M) (n + 1) H' → WR C nt l ((d, .slice (some ⟨n, 0, some 0⟩) m (2 * 1)) :: L) D H' K) : WR C nt (⟨i, some d, .appZ e 1 [z] s x, gd, lo'⟩ :: l) L D H K := by
  have hf : (List.replicate m [z]).flatten = List.replicate m z := by
    clear hx hm hm2 kk
    induction m with
    | zero => rfl
    | succ m ih => simp [List.replicate_succ, ih]
  refine WR.op hg hd (H' := H.row e (List.replicate m z)) (v := .slice (some ⟨n, 0, some 0⟩) m (2 * 1)) (fun t ht => ?_) (kk _ (hH.row e (by rw [List.all_eq_true]; intro q hq; rw [(List.mem_replicate.1 hq).2]; exact hz)))
  have b1 : Nat.ble 1 m = true := Nat.ble_eq_true_of_le hm
  have b2 : small 1 m = true := by unfold small; rw [Nat.ble_eq_true_of_le (show m ≤ 100000 by omega)]; rfl
  have hmi : ((m : Nat) : Int) = Int.ofNat m := rfl
  rw [hmi] at hx
  simp only [opA, ev_ok ht hs, ev_ok ht hx, oAppZ, b1, b2, Bool.and_self, cond_true, newAddr, hH.next, hf]
end
end Go.Abs
namespace Go.Proofs.Ytnmlfjohoeebiaa.Wk
open Go Go.Abs Go.Mth
set_option linter.unusedVariables false
set_option linter.unusedSimpArgs false
def lenS (Ls : List (List Int)) : Nat := (Ls.map List.length).sum
structure PartsM (M : HL) (ws : List Value) (Ls : List (List Int)) : Prop where
  len : ws.length = Ls.length
  sl : ∀ i, i < Ls.length → Sl M 1 (ws.getD i undef) (ints (Ls.getD i []))
  rd : ∀ i, i < Ls.length → Ls.getD i [] = [] → RdS M (ws.getD i undef)
theorem PartsM.mono {M M' : HL} {ws : List Value} {Ls : List (List Int)} (h : PartsM M ws Ls) (k : ∀ q ∈ M, q ∈ M') : PartsM M' ws Ls := ⟨h.len, fun i hi => (h.sl i hi).mono k, fun i hi h0 => (h.rd i hi h0).mono k⟩
attribute [local irreducible] gOK WS WC WR WD Ends FS YS OpV seqK blockK loopK midK retK rdK asgK rangeEnd sat Cell
section
variable {M : HL} {n0 : Nat} {H : Heap} {v w : Value}
end
end Go.Proofs.Ytnmlfjohoeebiaa.Wk

/- The weight of numbers of tides; long walks. -/
namespace Go.Proofs.Ytnmlfjohoeebiaa.Wk
open Go Go.Abs Go.Mth
set_option linter.unusedVariables false
set_option linter.unusedSimpArgs false
structure GP where
  a : Nat
  b : Nat
structure WP3 where
  k : Nat
  a : Nat
  b : Nat
/-- What the weight is. -/
structure WghtR (T : List Int) (a b : Nat) : Prop where
  a1 : 1 ≤ a
  b1 : 1 ≤ b
  le : a ≤ 4 * b
  dv : b ∣ 840
  cop : Nat.Coprime a b
  eq : sumW T * (b : Int) = 840 * (a : Int)
theorem wght_of {T : List Int} {A B : Nat} (h0 : 0 ≤ sumW T) (hA : 1 ≤ A) (hB : 1 ≤ B) (hle : A ≤ 4 * B) (h : sumW T * (B : Int) = 840 * (A : Int)) : WghtR T (A / Nat.gcd A B) (B / Nat.gcd A B) := by
  obtain ⟨S, hS⟩ : ∃ S : Nat, sumW T = S := ⟨(sumW T).toNat, by omega⟩
  have hN : S * B = 840 * A := by
    rw [hS] at h
    refine Int.ofNat_inj.1 ?_
    rw [Int.natCast_mul, Int.natCast_mul]
    exact h
  have hg : 0 < Nat.gcd A B := Nat.gcd_pos_of_pos_left _ hA
  have ea := Nat.div_mul_cancel (Nat.gcd_dvd_left A B)
  have eb := Nat.div_mul_cancel (Nat.gcd_dvd_right A B)
  have hc := Nat.coprime_div_gcd_div_gcd hg
  generalize Nat.gcd A B = g at hg ea eb hc
  generalize A / g = a at ea hc
  generalize B / g = b at eb hc
  subst ea eb
  have e : S * b = 840 * a := Nat.eq_of_mul_eq_mul_right hg (by rw [Nat.mul_assoc, Nat.mul_assoc]; exact hN)
  refine ⟨Nat.pos_of_mul_pos_right hA, Nat.pos_of_mul_pos_right hB, ?_, ?_, hc, ?_⟩
  · exact Nat.le_of_mul_le_mul_right (by rw [Nat.mul_assoc]; exact hle) hg
  · exact hc.symm.dvd_of_dvd_mul_right ⟨S, by rw [← e, Nat.mul_comm]⟩
  · rw [hS]
    have := congrArg (fun n : Nat => (n : Int)) e
    simp only [Int.natCast_mul] at this
    exact this
attribute [local irreducible] gOK WS WC WR WD Ends FS YS OpV seqK blockK loopK midK retK rdK asgK rangeEnd sat Cell
section
variable {M : HL} {n0 : Nat} {H : Heap} {v w : Value}
theorem gcd_fs {a b : Nat} (ha : a ≤ 100000) (hb : b ≤ 100000) :
    FS C 53 [.int .i64 (a : Int), .int .i64 (b : Int)] H (fun e H' => e = .int .i64 ((Nat.gcd a b : Nat) : Int) ∧ H' = H) := by
  refine FS.intro (pf := pf53) rfl rfl rfl ?_
  repeat' (first | refine zP ?_ | refine zA ?_ | (refine zM ?_; intro _ _) | refine zX ?_ | (refine zC ?_; intro _ _ _ _) | (refine zS ?_; intro _ _) | (apply Ws <;> intro hg))
  refine WC.loopX [] (fun z : GP => [(0, .int .i64 (z.a : Int)), (1, .int .i64 (z.b : Int))]) []
    (fun z H' => H' = H ∧ Nat.gcd z.a z.b = Nat.gcd a b ∧ z.a ≤ 100000 ∧ z.b ≤ 100000) (fun z => z.b) ⟨a, b⟩ (by repeat' (first | exact .nil | refine .cons rfl ?_)) rfl ⟨rfl, rfl, ha, hb⟩ ?_
  rintro ⟨x, y⟩ _ ⟨rfl, hg, hx, hy⟩
  simp only at hg hx hy
  dsimp only [List.cons_append, List.nil_append]
  repeat' (first | refine zP ?_ | refine zA ?_ | (refine zM ?_; intro _ _) | refine zX ?_ | (refine zC ?_; intro _ _ _ _) | (refine zS ?_; intro _ _) | (apply Ws <;> intro hg))
  refine WC.condP rfl (fun hne => ?_) (fun hne => ?_)
  · have hlt := Nat.mod_lt x (show 0 < y by omega)
    repeat' (first | refine zP ?_ | refine zA ?_ | (refine zM ?_; intro _ _) | refine zX ?_ | (refine zC ?_; intro _ _ _ _) | (refine zS ?_; intro _ _) | (apply Ws <;> intro hg))
    rw [show (x : Int) % (y : Int) = ((x % y : Nat) : Int) by simp]
    exact Ends.loop ⟨y, x % y⟩ hlt (by repeat' (first | exact .nil | refine .cons rfl ?_)) rfl ⟨rfl, by rw [← hg]; show Nat.gcd y (x % y) = _; rw [Nat.gcd_comm, ← Nat.gcd_rec, Nat.gcd_comm], hy, by simp only; omega⟩
  · have hy0 : y = 0 := by omega
    subst hy0
    rw [Nat.gcd_zero_right] at hg
    subst hg
    repeat' (first | refine zP ?_ | refine zA ?_ | (refine zM ?_; intro _ _) | refine zX ?_ | (refine zC ?_; intro _ _ _ _) | (refine zS ?_; intro _ _) | (apply Ws <;> intro hg))
    exact Ends.ret1 rfl ⟨rfl, rfl⟩
theorem Weight_fs (hH : hasH M n0 H) {T : List Int} (hS : Sl M 1 v (ints T)) (hT : TOK T) (h1 : 1 ≤ T.length) :
    FS C 17 [v] H (fun e H' => ∃ a b : Nat, e = .tuple #[.int .i64 (a : Int), .int .i64 (b : Int), .int .i64 0] ∧ WghtR T a b ∧ H' = H) := by
  have hTl := hT.len
  have hE := errT_of hT h1
  refine FS.intro (pf := pf17) rfl rfl rfl ?_
  repeat' (first | refine zP ?_ | refine zA ?_ | (refine zM ?_; intro _ _) | refine zX ?_ | (refine zC ?_; intro _ _ _ _) | (refine zS ?_; intro _ _) | (apply Ws <;> intro hg))
  refine WR.call (by first | exact gN | exact gS rfl) rfl rfl (Check_fs hH hS (by omega)) ?_
  rintro _ H1 ⟨rfl, rfl⟩
  rw [hE]
  repeat' (first | refine zP ?_ | refine zA ?_ | (refine zM ?_; intro _ _) | refine zX ?_ | (refine zC ?_; intro _ _ _ _) | (refine zS ?_; intro _ _) | (apply Ws <;> intro hg))
  refine WC.loopX [(14, v), (15, .int .i64 (T.length : Int))] (fun z : WP3 => [(2, .int .i64 (z.a : Int)), (3, .int .i64 (z.b : Int)), (16, .int .i64 (z.k : Int))]) []
    (fun z H' => H' = H1 ∧ z.k ≤ T.length ∧ 1 ≤ z.b ∧ z.b ≤ 8 ^ z.k ∧ z.a ≤ z.k * z.b ∧ (1 ≤ z.k → 1 ≤ z.a) ∧ sumW (T.take z.k) * (z.b : Int) = 840 * (z.a : Int)) (fun z => T.length - z.k) ⟨0, 0, 1⟩ (by repeat' (first | exact .nil | refine .cons rfl ?_)) rfl
    ⟨rfl, Nat.zero_le _, Nat.le_refl _, Nat.le_refl _, Nat.le_refl _, fun h => absurd h (by decide), by simp [sumW]⟩ ?_
  rintro ⟨k, a, b⟩ _ ⟨rfl, hk, hb1, hb8, hak, ha1, hq⟩
  simp only at hk hb1 hb8 hak ha1 hq
  dsimp only [List.cons_append, List.nil_append]
  repeat' (first | refine zP ?_ | refine zA ?_ | (refine zM ?_; intro _ _) | refine zX ?_ | (refine zC ?_; intro _ _ _ _) | (refine zS ?_; intro _ _) | (apply Ws <;> intro hg))
  have h8 : 8 ^ k ≤ 4096 := Nat.le_trans (Nat.pow_le_pow_right (by omega) (show k ≤ 4 by omega)) (by decide)
  have hk4 : k * b ≤ 4 * b := Nat.mul_le_mul_right _ (by omega)
  refine WC.condP rfl (fun hlt => ?_) (fun hlt => ?_)
  · have hk' : k < T.length := by omega
    have h83 : 8 ^ k ≤ 512 := Nat.le_trans (Nat.pow_le_pow_right (by omega) (show k ≤ 3 by omega)) (by decide)
    obtain ⟨t, ht⟩ : ∃ t : Nat, T.getD k 0 = (t : Int) := ⟨(T.getD k 0).toNat, by have := hT.lo k hk'; omega⟩
    have htl := hT.lo k hk'
    have hth := hT.hi k hk'
    rw [ht] at htl hth
    have htk : T.take (k + 1) = T.take k ++ [T.getD k 0] := by rw [List.take_succ_eq_append_getElem hk', getD_eq hk']
    have hdv : 840 / t * t = 840 := Nat.div_mul_cancel (by
      have : t = 1 ∨ t = 2 ∨ t = 3 ∨ t = 4 ∨ t = 5 ∨ t = 6 ∨ t = 7 ∨ t = 8 := by omega
      rcases this with rfl | rfl | rfl | rfl | rfl | rfl | rfl | rfl <;> decide)
    have hat : a * t ≤ 2048 * 8 := Nat.mul_le_mul (by omega) (by omega)
    have hbt : b * t ≤ 512 * 8 := Nat.mul_le_mul (by omega) (by omega)
    have hpa : 0 ≤ (a : Int) * (t : Int) ∧ (a : Int) * (t : Int) ≤ 100000 := by
      have : (a : Int) * (t : Int) = ((a * t : Nat) : Int) := by simp
      omega
    have hpb : 0 ≤ (b : Int) * (t : Int) ∧ (b : Int) * (t : Int) ≤ 100000 := by
      have : (b : Int) * (t : Int) = ((b * t : Nat) : Int) := by simp
      omega
    repeat' (first | refine zP ?_ | refine zA ?_ | (refine zM ?_; intro _ _) | refine zX ?_ | (refine zC ?_; intro _ _ _ _) | (refine zS ?_; intro _ _) | (apply Ws <;> intro hg))
    rw [ht]
    repeat' (first | refine zP ?_ | refine zA ?_ | (refine zM ?_; intro _ _) | refine zX ?_ | (refine zC ?_; intro _ _ _ _) | (refine zS ?_; intro _ _) | (apply Ws <;> intro hg))
    rw [show (a : Int) * (t : Int) + (b : Int) = ((a * t + b : Nat) : Int) by simp, show (b : Int) * (t : Int) = ((b * t : Nat) : Int) by simp]
    refine Ends.loop ⟨k + 1, a * t + b, b * t⟩ (by simp only; omega) (by repeat' (first | exact .nil | refine .cons rfl ?_)) rfl ⟨rfl, hk', Nat.mul_pos hb1 (by omega), ?_, ?_, fun _ => by simp only; omega, ?_⟩
    · show b * t ≤ 8 ^ k * 8
      exact Nat.mul_le_mul hb8 (by omega)
    · show a * t + b ≤ (k + 1) * (b * t)
      have e1 : a * t ≤ k * (b * t) := by rw [← Nat.mul_assoc]; exact Nat.mul_le_mul_right _ hak
      have e2 : b ≤ b * t := Nat.le_mul_of_pos_right _ (by omega)
      rw [Nat.succ_mul]; omega
    · show sumW (T.take (k + 1)) * ((b * t : Nat) : Int) = 840 * ((a * t + b : Nat) : Int)
      rw [htk, sumW_snoc, ht]
      have e3 : (840 : Int) / (t : Int) * (t : Int) = 840 := by
        have := congrArg (fun n : Nat => (n : Int)) hdv
        simp only [Int.natCast_mul, Int.natCast_ediv] at this
        exact this
      have e4 : (sumW (T.take k) + 840 / (t : Int)) * ((b : Int) * (t : Int)) = (sumW (T.take k) * (b : Int)) * (t : Int) + (840 / (t : Int) * (t : Int)) * (b : Int) := by
        rw [Int.add_mul, ← Int.mul_assoc, Int.mul_comm (b : Int) (t : Int), ← Int.mul_assoc]
      rw [show ((b * t : Nat) : Int) = (b : Int) * (t : Int) by simp, e4, e3, hq, show ((a * t + b : Nat) : Int) = (a : Int) * (t : Int) + (b : Int) by simp, Int.mul_add, Int.mul_assoc]
  · have hkn : k = T.length := by omega
    subst hkn
    rw [List.take_length] at hq
    have hs := sumW_bd (T := T) fun t ht => div_bd hT ht
    have hW := wght_of hs.1 (ha1 h1) hb1 (by omega) hq
    have hg : 0 < Nat.gcd a b := Nat.gcd_pos_of_pos_left _ (ha1 h1)
    have hga := Nat.gcd_le_left b (ha1 h1)
    repeat' (first | refine zP ?_ | refine zA ?_ | (refine zM ?_; intro _ _) | refine zX ?_ | (refine zC ?_; intro _ _ _ _) | (refine zS ?_; intro _ _) | (apply Ws <;> intro hg))
    refine WR.call (by first | exact gN | exact gS rfl) rfl rfl (gcd_fs (a := a) (b := b) (by omega) (by omega)) ?_
    rintro _ _ ⟨rfl, rfl⟩
    generalize Nat.gcd a b = g at hW hg hga
    repeat' (first | refine zP ?_ | refine zA ?_ | (refine zM ?_; intro _ _) | refine zX ?_ | (refine zC ?_; intro _ _ _ _) | (refine zS ?_; intro _ _) | (apply Ws <;> intro hg))
    rw [show (a : Int) / (g : Int) = ((a / g : Nat) : Int) by simp, show (b : Int) / (g : Int) = ((b / g : Nat) : Int) by simp]
    exact Ends.ret3 rfl rfl rfl ⟨a / g, b / g, rfl, hW, rfl⟩
end
end Go.Proofs.Ytnmlfjohoeebiaa.Wk

/- The law WalkCan. -/
namespace Go.Proofs.Ytnmlfjohoeebiaa.Wk
open Go Go.Abs Go.Mth
set_option linter.unusedVariables false
set_option linter.unusedSimpArgs false
theorem WghtR.one {T : List Int} {a b c d : Nat} (h : WghtR T a b) (k : WghtR T c d) : a = c ∧ b = d := by
  have e1 := h.eq
  have e2 := k.eq
  have hI : (a : Int) * (d : Int) = (c : Int) * (b : Int) := by
    have h3 : (840 * (a : Int)) * (d : Int) = (840 * (c : Int)) * (b : Int) := by
      rw [← e1, ← e2, Int.mul_assoc, Int.mul_assoc, Int.mul_comm (b : Int) (d : Int)]
    rw [Int.mul_assoc, Int.mul_assoc] at h3
    exact Int.eq_of_mul_eq_mul_left (by decide) h3
  have hN : a * d = c * b := by
    have : ((a * d : Nat) : Int) = ((c * b : Nat) : Int) := by rw [Int.natCast_mul, Int.natCast_mul]; exact hI
    exact Int.ofNat_inj.1 this
  have h1 : a ∣ c := h.cop.dvd_of_dvd_mul_right ⟨d, hN.symm⟩
  have h2 : c ∣ a := k.cop.dvd_of_dvd_mul_right ⟨b, hN⟩
  have hac := Nat.dvd_antisymm h1 h2
  subst hac
  exact ⟨rfl, (Nat.eq_of_mul_eq_mul_left h.a1 hN).symm⟩
theorem WghtR.cutA {T : List Int} {a b d : Nat} (h : WghtR T a b) (h2 : 2 ≤ d) (ha : a % d = 0) (hb : b % d = 0) : False := by
  have := Nat.dvd_gcd (Nat.dvd_of_mod_eq_zero ha) (Nat.dvd_of_mod_eq_zero hb)
  rw [h.cop.gcd_eq_one] at this
  have := Nat.le_of_dvd (by decide) this
  omega
theorem FS.ex {f : FuncId} {xs : List Value} {H : Heap} {R : Value → Heap → Prop} (h : FS C f xs H R) : ∃ e H', R e H' ∧ FS C f xs H (fun x y => x = e ∧ y = H') := by
  obtain ⟨e, H', h1, h2⟩ := h
  exact ⟨e, H', h2, e, H', h1, rfl, rfl⟩
structure W3 where
  d : Nat
  a : Nat
  b : Nat
/-- Divided by their greatest divisor already, or not yet. -/
def cutR (S g : Nat) (z : W3) : Prop := (z.a = S ∧ z.b = 840 ∧ g ≤ z.d) ∨ (z.a = S / g ∧ z.b = 840 / g)
attribute [local irreducible] gOK WS WC WR WD Ends FS YS OpV seqK blockK loopK midK retK rdK asgK rangeEnd sat Cell
section
variable {M : HL} {n0 : Nat} {H : Heap} {v w : Value}
theorem in_fs (a lo hi : Int) : FS C 60 [.int .i64 a, .int .i64 lo, .int .i64 hi] H (fun e H' => e = .bool (decide (lo ≤ a ∧ a ≤ hi)) ∧ H' = H) := by
  refine FS.intro (pf := pf60) rfl rfl rfl ?_
  by_cases h1 : lo ≤ a
  · by_cases h2 : a ≤ hi
    · repeat' (first | refine zP ?_ | refine zA ?_ | (refine zM ?_; intro _ _) | refine zX ?_ | (refine zC ?_; intro _ _ _ _) | (refine zS ?_; intro _ _) | refine zO ?_ | (apply Ws <;> intro hg))
      exact Ends.ret1 rfl ⟨by rw [decide_eq_true h2, decide_eq_true ⟨h1, h2⟩], rfl⟩
    · repeat' (first | refine zP ?_ | refine zA ?_ | (refine zM ?_; intro _ _) | refine zX ?_ | (refine zC ?_; intro _ _ _ _) | (refine zS ?_; intro _ _) | refine zO ?_ | (apply Ws <;> intro hg))
      exact Ends.ret1 rfl ⟨by rw [decide_eq_false h2, decide_eq_false fun h => h2 h.2], rfl⟩
  · repeat' (first | refine zP ?_ | refine zA ?_ | (refine zM ?_; intro _ _) | refine zX ?_ | (refine zC ?_; intro _ _ _ _) | (refine zS ?_; intro _ _) | refine zO ?_ | (apply Ws <;> intro hg))
    exact Ends.ret1 rfl ⟨by rw [decide_eq_false fun h => h1 h.1], rfl⟩
theorem CheckR_fs (hH : hasH M n0 H) {T : List Int} (hS : Sl M 1 v (ints T)) (hl : T.length ≤ 1000) :
    FS C 24 [v] H (fun e H' => e = .int .i64 (errT T) ∧ H' = H) := by
  refine FS.intro (pf := pf24) rfl rfl rfl ?_
  by_cases h0 : T.length = 0
  · have : errT T = 4 := by unfold errT; rw [if_pos h0]
    rw [this]
    repeat' (first | refine zP ?_ | refine zA ?_ | (refine zM ?_; intro _ _) | refine zX ?_ | (refine zC ?_; intro _ _ _ _) | (refine zS ?_; intro _ _) | refine zO ?_ | (apply Ws <;> intro hg))
    exact Ends.ret1 rfl ⟨rfl, rfl⟩
  by_cases h1 : 4 < T.length
  · have : errT T = 3 := by unfold errT; rw [if_neg h0, if_pos h1]
    rw [this]
    repeat' (first | refine zP ?_ | refine zA ?_ | (refine zM ?_; intro _ _) | refine zX ?_ | (refine zC ?_; intro _ _ _ _) | (refine zS ?_; intro _ _) | refine zO ?_ | (apply Ws <;> intro hg))
    exact Ends.ret1 rfl ⟨rfl, rfl⟩
  have hE : errT T = firstE (fun i => numE (T.getD i 0)) T.length := by unfold errT; rw [if_neg h0, if_neg h1]
  repeat' (first | refine zP ?_ | refine zA ?_ | (refine zM ?_; intro _ _) | refine zX ?_ | (refine zC ?_; intro _ _ _ _) | (refine zS ?_; intro _ _) | refine zO ?_ | (apply Ws <;> intro hg))
  refine WC.loopX [(0, v)] (fun k : Nat => [(3, .int .i64 (k : Int))]) [] (fun k H' => H' = H ∧ k ≤ T.length ∧ firstE (fun i => numE (T.getD i 0)) k = 0) (fun k => T.length - k) 0 (by repeat' (first | exact .nil | refine .cons rfl ?_)) rfl ⟨rfl, Nat.zero_le _, rfl⟩ ?_
  rintro k H' ⟨rfl, hk, hno⟩
  dsimp only [List.cons_append, List.nil_append]
  repeat' (first | refine zP ?_ | refine zA ?_ | (refine zM ?_; intro _ _) | refine zX ?_ | (refine zC ?_; intro _ _ _ _) | (refine zS ?_; intro _ _) | (apply Ws <;> intro hg))
  refine WC.condP rfl (fun hlt => ?_) (fun hlt => ?_)
  · have hk' : k < T.length := by omega
    repeat' (first | refine zP ?_ | refine zA ?_ | (refine zM ?_; intro _ _) | refine zX ?_ | (refine zC ?_; intro _ _ _ _) | (refine zS ?_; intro _ _) | (apply Ws <;> intro hg))
    refine WR.call (by first | exact gN | exact gS rfl) rfl rfl (in_fs _ 1 8) ?_
    rintro _ _ ⟨rfl, rfl⟩
    by_cases h3 : 1 ≤ T.getD k 0 ∧ T.getD k 0 ≤ 8
    · have h4 : numE (T.getD k 0) = 0 := by unfold numE; rw [if_neg (by omega)]
      rw [decide_eq_true h3]
      repeat' (first | refine zP ?_ | refine zA ?_ | (refine zM ?_; intro _ _) | refine zX ?_ | (refine zC ?_; intro _ _ _ _) | (refine zS ?_; intro _ _) | (apply Ws <;> intro hg))
      exact Ends.loop (k + 1) (by omega) (by repeat' (first | exact .nil | refine .cons rfl ?_)) rfl ⟨rfl, hk', firstE_succ hno h4⟩
    · have h4 : numE (T.getD k 0) = 1 := by unfold numE; rw [if_pos (by omega)]
      rw [decide_eq_false h3]
      repeat' (first | refine zP ?_ | refine zA ?_ | (refine zM ?_; intro _ _) | refine zX ?_ | (refine zC ?_; intro _ _ _ _) | (refine zS ?_; intro _ _) | (apply Ws <;> intro hg))
      refine Ends.ret1 rfl ⟨?_, rfl⟩
      rw [hE, firstE_at hno (by show numE _ ≠ 0; rw [h4]; decide) hk', h4]
  · have hkn : k = T.length := by omega
    repeat' (first | refine zP ?_ | refine zA ?_ | (refine zM ?_; intro _ _) | refine zX ?_ | (refine zC ?_; intro _ _ _ _) | (refine zS ?_; intro _ _) | (apply Ws <;> intro hg))
    refine Ends.ret1 rfl ⟨?_, rfl⟩
    rw [hE, ← hkn, hno]
theorem WeightE_fs (hH : hasH M n0 H) {T : List Int} (hS : Sl M 1 v (ints T)) (hl : T.length ≤ 1000) (h0 : errT T ≠ 0) :
    FS C 17 [v] H (fun e H' => e = .tuple #[.int .i64 0, .int .i64 0, .int .i64 (errT T)] ∧ H' = H) := by
  refine FS.intro (pf := pf17) rfl rfl rfl ?_
  repeat' (first | refine zP ?_ | refine zA ?_ | (refine zM ?_; intro _ _) | refine zX ?_ | (refine zC ?_; intro _ _ _ _) | (refine zS ?_; intro _ _) | (apply Ws <;> intro hg))
  refine WR.call (by first | exact gN | exact gS rfl) rfl rfl (Check_fs hH hS hl) ?_
  rintro _ H1 ⟨rfl, rfl⟩
  repeat' (first | refine zP ?_ | refine zA ?_ | (refine zM ?_; intro _ _) | refine zX ?_ | (refine zC ?_; intro _ _ _ _) | (refine zS ?_; intro _ _) | refine zO ?_ | (apply Ws <;> intro hg))
  exact Ends.ret3 rfl rfl rfl ⟨rfl, rfl⟩
theorem WeightRE_fs (hH : hasH M n0 H) {T : List Int} (hS : Sl M 1 v (ints T)) (hl : T.length ≤ 1000) (h0 : errT T ≠ 0) :
    FS C 18 [v] H (fun e H' => e = .tuple #[.int .i64 0, .int .i64 0, .int .i64 (errT T)] ∧ H' = H) := by
  refine FS.intro (pf := pf18) rfl rfl rfl ?_
  repeat' (first | refine zP ?_ | refine zA ?_ | (refine zM ?_; intro _ _) | refine zX ?_ | (refine zC ?_; intro _ _ _ _) | (refine zS ?_; intro _ _) | (apply Ws <;> intro hg))
  refine WR.call (by first | exact gN | exact gS rfl) rfl rfl (CheckR_fs hH hS hl) ?_
  rintro _ H1 ⟨rfl, rfl⟩
  repeat' (first | refine zP ?_ | refine zA ?_ | (refine zM ?_; intro _ _) | refine zX ?_ | (refine zC ?_; intro _ _ _ _) | (refine zS ?_; intro _ _) | refine zO ?_ | (apply Ws <;> intro hg))
  exact Ends.ret3 rfl rfl rfl ⟨rfl, rfl⟩
theorem WeightR_fs (hH : hasH M n0 H) {T : List Int} (hS : Sl M 1 v (ints T)) (hT : TOK T) (h1 : 1 ≤ T.length) :
    FS C 18 [v] H (fun e H' => ∃ a b : Nat, e = .tuple #[.int .i64 (a : Int), .int .i64 (b : Int), .int .i64 0] ∧ WghtR T a b ∧ H' = H) := by
  have hTl := hT.len
  have hE := errT_of hT h1
  refine FS.intro (pf := pf18) rfl rfl rfl ?_
  repeat' (first | refine zP ?_ | refine zA ?_ | (refine zM ?_; intro _ _) | refine zX ?_ | (refine zC ?_; intro _ _ _ _) | (refine zS ?_; intro _ _) | (apply Ws <;> intro hg))
  refine WR.call (by first | exact gN | exact gS rfl) rfl rfl (CheckR_fs hH hS (by omega)) ?_
  rintro _ H1 ⟨rfl, rfl⟩
  rw [hE]
  repeat' (first | refine zP ?_ | refine zA ?_ | (refine zM ?_; intro _ _) | refine zX ?_ | (refine zC ?_; intro _ _ _ _) | (refine zS ?_; intro _ _) | (apply Ws <;> intro hg))
  refine WC.loopX [(0, v), (7, .int .i64 840)] (fun k : Nat => [(6, .int .i64 (sumW (T.take k))), (8, .int .i64 (k : Int))]) []
    (fun k H' => H' = H1 ∧ k ≤ T.length) (fun k => T.length - k) 0 (by repeat' (first | exact .nil | refine .cons rfl ?_)) rfl ⟨rfl, Nat.zero_le _⟩ ?_
  rintro k H2 ⟨rfl, hk⟩
  have hs := sumW_bd (T := T.take k) fun t ht => div_bd hT (List.mem_of_mem_take ht)
  have htl : (T.take k).length ≤ 4 := by rw [List.length_take]; omega
  dsimp only [List.cons_append, List.nil_append]
  repeat' (first | refine zP ?_ | refine zA ?_ | (refine zM ?_; intro _ _) | refine zX ?_ | (refine zC ?_; intro _ _ _ _) | (refine zS ?_; intro _ _) | (apply Ws <;> intro hg))
  refine WC.condP rfl (fun hlt => ?_) (fun hlt => ?_)
  · have hk' : k < T.length := by omega
    have hlo := hT.lo k hk'
    have hhi := hT.hi k hk'
    have hd := div_bd hT (getD_mem (a := 0) hk')
    have htk : T.take (k + 1) = T.take k ++ [T.getD k 0] := by rw [List.take_succ_eq_append_getElem hk', getD_eq hk']
    repeat' (first | refine zP ?_ | refine zA ?_ | (refine zM ?_; intro _ _) | refine zX ?_ | (refine zC ?_; intro _ _ _ _) | (refine zS ?_; intro _ _) | (apply Ws <;> intro hg))
    rw [show sumW (T.take k) + 840 / T.getD k 0 = sumW (T.take (k + 1)) by rw [htk, sumW_snoc]]
    exact Ends.loop (k + 1) (by omega) (by repeat' (first | exact .nil | refine .cons rfl ?_)) rfl ⟨rfl, hk'⟩
  have hkn : k = T.length := by omega
  subst hkn
  rw [List.take_length] at hs ⊢
  have hp : 1 ≤ sumW T := by
    match T, h1, hT with
    | t :: T', _, hT =>
      have h3 : 1 ≤ t ∧ t ≤ 8 := ⟨hT.lo 0 (by simp), hT.hi 0 (by simp)⟩
      have h4 : 0 ≤ sumW T' := (sumW_bd fun u hu => div_bd hT (List.mem_cons_of_mem _ hu)).1
      have h5 : 105 ≤ 840 / t := Int.le_ediv_of_mul_le (by omega) (by omega)
      have : sumW (t :: T') = 840 / t + sumW T' := by simp [sumW]
      omega
  obtain ⟨S, hSe⟩ : ∃ S : Nat, sumW T = S := ⟨(sumW T).toNat, by omega⟩
  have hW := wght_of (T := T) (A := S) (B := 840) (by omega) (by omega) (by decide) (by omega) (by rw [hSe, Int.mul_comm]; rfl)
  obtain ⟨g, hg⟩ : ∃ g, Nat.gcd S 840 = g := ⟨_, rfl⟩
  have hg0 : 0 < g := by rw [← hg]; exact Nat.gcd_pos_of_pos_right _ (by decide)
  have hg8 : g ≤ 840 := by rw [← hg]; exact Nat.gcd_le_right _ (by decide)
  have hgS : S % g = 0 := by rw [← hg]; exact Nat.mod_eq_zero_of_dvd (Nat.gcd_dvd_left _ _)
  have hgB : 840 % g = 0 := by rw [← hg]; exact Nat.mod_eq_zero_of_dvd (Nat.gcd_dvd_right _ _)
  have hmax : ∀ d, S % d = 0 → 840 % d = 0 → d ≤ g := fun d q1' q2' => by
    rw [← hg]
    exact Nat.le_of_dvd (by rw [hg]; exact hg0) (Nat.dvd_gcd (Nat.dvd_of_mod_eq_zero q1') (Nat.dvd_of_mod_eq_zero q2'))
  rw [hg] at hW
  rw [hSe]
  have hS8 : S ≤ 3360 := by omega
  clear hk hlt htl hSe hg
  repeat' (first | refine zP ?_ | refine zA ?_ | (refine zM ?_; intro _ _) | refine zX ?_ | (refine zC ?_; intro _ _ _ _) | (refine zS ?_; intro _ _) | (apply Ws <;> intro hg))
  refine WC.loopX [(0, v)] (fun z : W3 => [(6, .int .i64 (z.a : Int)), (7, .int .i64 (z.b : Int)), (9, .int .i64 (z.d : Int))]) []
    (fun z H' => H' = H2 ∧ 1 ≤ z.d ∧ z.d ≤ 840 ∧ cutR S g z ∧ z.a ≤ 3360 ∧ z.b ≤ 840) (fun z => z.d) ⟨840, S, 840⟩ (by repeat' (first | exact .nil | refine .cons rfl ?_)) rfl ⟨rfl, by simp only; omega, Nat.le_refl _, .inl ⟨rfl, rfl, hg8⟩, hS8, Nat.le_refl _⟩ ?_
  rintro ⟨d, a, b⟩ H3 ⟨rfl, hd1, hd8, hc, ha, hb⟩
  simp only at hd1 hd8 ha hb
  dsimp only [List.cons_append, List.nil_append]
  repeat' (first | refine zP ?_ | refine zA ?_ | (refine zM ?_; intro _ _) | refine zX ?_ | (refine zC ?_; intro _ _ _ _) | (refine zS ?_; intro _ _) | (apply Ws <;> intro hg))
  refine WC.condP rfl (fun hgt => ?_) (fun hgt => ?_)
  · have hd2 : 2 ≤ d := by omega
    have ea : (a : Int) % (d : Int) = ((a % d : Nat) : Int) := by simp
    have eb : (b : Int) % (d : Int) = ((b % d : Nat) : Int) := by simp
    by_cases h3 : a % d = 0 ∧ b % d = 0
    · have h3' : (a : Int) % (d : Int) = 0 := by omega
      have h4' : (b : Int) % (d : Int) = 0 := by omega
      have hdg : d = g ∧ a = S ∧ b = 840 := by
        rcases hc with ⟨c1, c2, c3⟩ | ⟨c1, c2⟩
        · simp only at c1 c2 c3
          subst c1 c2
          have := hmax d h3.1 h3.2
          omega
        · simp only at c1 c2
          rw [c1, c2] at h3
          exact (hW.cutA hd2 h3.1 h3.2).elim
      obtain ⟨rfl, rfl, rfl⟩ := hdg
      clear ea eb
      repeat' (first | refine zP ?_ | refine zA ?_ | (refine zM ?_; intro _ _) | refine zX ?_ | (refine zC ?_; intro _ _ _ _) | (refine zS ?_; intro _ _) | refine zO ?_ | (apply Ws <;> intro hg))
      rw [show (a : Int) / (d : Int) = ((a / d : Nat) : Int) by simp]
      rw [show ((840 : Nat) : Int) / (d : Int) = ((840 / d : Nat) : Int) by simp, show (d : Int) - 1 = ((d - 1 : Nat) : Int) by omega]
      exact Ends.loop ⟨d - 1, a / d, 840 / d⟩ (by simp only; omega) (by repeat' (first | exact .nil | refine .cons rfl ?_)) rfl ⟨rfl, by simp only; omega, by simp only; omega, .inr ⟨rfl, rfl⟩, Nat.le_trans (Nat.div_le_self _ _) ha, Nat.div_le_self _ _⟩
    · have hc2 : cutR S g ⟨d - 1, a, b⟩ := by
        rcases hc with ⟨c1, c2, c3⟩ | h
        · simp only at c1 c2 c3
          refine .inl ⟨c1, c2, ?_⟩
          simp only
          have : d ≠ g := fun e => h3 (by rw [e, c1, c2]; exact ⟨hgS, hgB⟩)
          omega
        · exact .inr h
      by_cases h4 : a % d = 0
      · have h5 : b % d ≠ 0 := fun h => h3 ⟨h4, h⟩
        have h4' : (a : Int) % (d : Int) = 0 := by omega
        have h5' : (b : Int) % (d : Int) ≠ 0 := by omega
        clear ea eb
        repeat' (first | refine zP ?_ | refine zA ?_ | (refine zM ?_; intro _ _) | refine zX ?_ | (refine zC ?_; intro _ _ _ _) | (refine zS ?_; intro _ _) | refine zO ?_ | (apply Ws <;> intro hg))
        rw [show (d : Int) - 1 = ((d - 1 : Nat) : Int) by omega]
        exact Ends.loop ⟨d - 1, a, b⟩ (by simp only; omega) (by repeat' (first | exact .nil | refine .cons rfl ?_)) rfl ⟨rfl, by simp only; omega, by simp only; omega, hc2, ha, hb⟩
      · have h4' : (a : Int) % (d : Int) ≠ 0 := by omega
        clear ea eb
        repeat' (first | refine zP ?_ | refine zA ?_ | (refine zM ?_; intro _ _) | refine zX ?_ | (refine zC ?_; intro _ _ _ _) | (refine zS ?_; intro _ _) | refine zO ?_ | (apply Ws <;> intro hg))
        rw [show (d : Int) - 1 = ((d - 1 : Nat) : Int) by omega]
        exact Ends.loop ⟨d - 1, a, b⟩ (by simp only; omega) (by repeat' (first | exact .nil | refine .cons rfl ?_)) rfl ⟨rfl, by simp only; omega, by simp only; omega, hc2, ha, hb⟩
  · have hfin : WghtR T a b := by
      rcases hc with ⟨c1, c2, c3⟩ | ⟨c1, c2⟩
      · simp only at c1 c2 c3
        have : g = 1 := by omega
        rw [this, Nat.div_one, Nat.div_one] at hW
        rw [c1, c2]; exact hW
      · simp only at c1 c2
        rw [c1, c2]; exact hW
    repeat' (first | refine zP ?_ | refine zA ?_ | (refine zM ?_; intro _ _) | refine zX ?_ | (refine zC ?_; intro _ _ _ _) | (refine zS ?_; intro _ _) | (apply Ws <;> intro hg))
    exact Ends.ret3 rfl rfl rfl ⟨a, b, rfl, hfin, rfl⟩
theorem canRef_fs (hH : hasH M n0 H) {T : List Int} (hS : Sl M 1 v (ints T)) (hT : TOK T) (h1 : 1 ≤ T.length) :
    FS C 56 [v] H (fun e H' => ∃ n', e = .bool (everB T (startS T)) ∧ n0 ≤ n' ∧ hasH M n' H') := by
  refine FS.intro (pf := pf56) rfl rfl rfl ?_
  repeat' (first | refine zP ?_ | refine zA ?_ | (refine zM ?_; intro _ _) | refine zX ?_ | (refine zC ?_; intro _ _ _ _) | (refine zS ?_; intro _ _) | (apply Ws <;> intro hg))
  refine WR.call (by first | exact gN | exact gS rfl) rfl rfl (alive_fs hH hS hT h1) ?_
  rintro _ H1 ⟨gb, k, r, n1, rfl, hr, _, hn1, hH1⟩
  have hlow := hr.low
  have hrE : decide (r < 0) = everB T (startS T) := by
    rw [← hr.everB, decide_eq_decide]; omega
  repeat' (first | refine zP ?_ | refine zA ?_ | (refine zM ?_; intro _ _) | refine zX ?_ | (refine zC ?_; intro _ _ _ _) | (refine zS ?_; intro _ _) | (apply Ws <;> intro hg))
  exact Ends.ret1 rfl ⟨n1, by rw [hrE], hn1, hH1.tail⟩
theorem CanRef_fs (hH : hasH M n0 H) {T : List Int} (hS : Sl M 1 v (ints T)) (hl : T.length ≤ 1000) :
    FS C 20 [v] H (fun e H' => ∃ n', n0 ≤ n' ∧ hasH M n' H' ∧ e = .tuple #[.bool (decide (errT T = 0) && everB T (startS T)), .int .i64 (errT T)]) := by
  refine FS.intro (pf := pf20) rfl rfl rfl ?_
  repeat' (first | refine zP ?_ | refine zA ?_ | (refine zM ?_; intro _ _) | refine zX ?_ | (refine zC ?_; intro _ _ _ _) | (refine zS ?_; intro _ _) | (apply Ws <;> intro hg))
  refine WR.call (by first | exact gN | exact gS rfl) rfl rfl (CheckR_fs hH hS hl) ?_
  rintro _ _ ⟨rfl, rfl⟩
  by_cases h0 : errT T = 0
  · obtain ⟨hT, h1⟩ := errT_ok h0
    repeat' (first | refine zP ?_ | refine zA ?_ | (refine zM ?_; intro _ _) | refine zX ?_ | (refine zC ?_; intro _ _ _ _) | (refine zS ?_; intro _ _) | refine zO ?_ | (apply Ws <;> intro hg))
    refine WR.call (by first | exact gN | exact gS rfl) rfl rfl (canRef_fs hH hS hT h1) ?_
    rintro _ H1 ⟨n1, rfl, hn1, hH1⟩
    repeat' (first | refine zP ?_ | refine zA ?_ | (refine zM ?_; intro _ _) | refine zX ?_ | (refine zC ?_; intro _ _ _ _) | (refine zS ?_; intro _ _) | (apply Ws <;> intro hg))
    exact Ends.ret2 rfl rfl ⟨n1, hn1, hH1, by rw [h0]; rfl⟩
  · repeat' (first | refine zP ?_ | refine zA ?_ | (refine zM ?_; intro _ _) | refine zX ?_ | (refine zC ?_; intro _ _ _ _) | (refine zS ?_; intro _ _) | refine zO ?_ | (apply Ws <;> intro hg))
    exact Ends.ret2 rfl rfl ⟨n0, Nat.le_refl _, hH, by rw [decide_eq_false h0]; rfl⟩
theorem LongRef_fs (hH : hasH M n0 H) {T : List Int} (hS : Sl M 1 v (ints T)) (hl : T.length ≤ 1000) :
    FS C 22 [v] H (fun e H' => ∃ n' r c, n0 ≤ n' ∧ hasH M n' H' ∧ e = .tuple #[.int .i64 r, .int .i64 c] ∧ LongR T r c) := by
  refine FS.intro (pf := pf22) rfl rfl rfl ?_
  repeat' (first | refine zP ?_ | refine zA ?_ | (refine zM ?_; intro _ _) | refine zX ?_ | (refine zC ?_; intro _ _ _ _) | (refine zS ?_; intro _ _) | (apply Ws <;> intro hg))
  refine WR.call (by first | exact gN | exact gS rfl) rfl rfl (CheckR_fs hH hS hl) ?_
  rintro _ _ ⟨rfl, rfl⟩
  by_cases h0 : errT T = 0
  · obtain ⟨hT, h1⟩ := errT_ok h0
    repeat' (first | refine zP ?_ | refine zA ?_ | (refine zM ?_; intro _ _) | refine zX ?_ | (refine zC ?_; intro _ _ _ _) | (refine zS ?_; intro _ _) | refine zO ?_ | (apply Ws <;> intro hg))
    refine WR.call (by first | exact gN | exact gS rfl) rfl rfl (alive_fs hH hS hT h1) ?_
    rintro _ H1 ⟨gb, k, r, n1, rfl, hr, _, hn1, hH1⟩
    rcases hr with ⟨rfl, he⟩ | ⟨p, rfl, hp1, hp2⟩
    · repeat' (first | refine zP ?_ | refine zA ?_ | (refine zM ?_; intro _ _) | refine zX ?_ | (refine zC ?_; intro _ _ _ _) | (refine zS ?_; intro _ _) | refine zO ?_ | (apply Ws <;> intro hg))
      exact Ends.ret2 rfl rfl ⟨n1, 0, 13, hn1, hH1.tail, rfl, .inr (.inl ⟨h0, he, rfl, rfl⟩)⟩
    · repeat' (first | refine zP ?_ | refine zA ?_ | (refine zM ?_; intro _ _) | refine zX ?_ | (refine zC ?_; intro _ _ _ _) | (refine zS ?_; intro _ _) | refine zO ?_ | (apply Ws <;> intro hg))
      exact Ends.ret2 rfl rfl ⟨n1, p, 0, hn1, hH1.tail, rfl, .inr (.inr ⟨h0, rfl, p, rfl, more_lt hT (start_ok hT) hp1 hp2, hp1, hp2⟩)⟩
  · repeat' (first | refine zP ?_ | refine zA ?_ | (refine zM ?_; intro _ _) | refine zX ?_ | (refine zC ?_; intro _ _ _ _) | (refine zS ?_; intro _ _) | refine zO ?_ | (apply Ws <;> intro hg))
    exact Ends.ret2 rfl rfl ⟨n0, 0, errT T, Nat.le_refl _, hH, rfl, .inl ⟨h0, rfl, rfl⟩⟩
theorem LongR.one {T : List Int} {r e q f : Int} (h : LongR T r e) (k : LongR T q f) : r = q ∧ e = f := by
  rcases h with ⟨h0, rfl, rfl⟩ | ⟨h0, hev, rfl, rfl⟩ | ⟨h0, rfl, m, rfl, _, h1, h2⟩ <;> rcases k with ⟨k0, rfl, rfl⟩ | ⟨k0, kev, rfl, rfl⟩ | ⟨k0, rfl, p, rfl, _, k1, k2⟩
  · exact ⟨rfl, rfl⟩
  · exact absurd k0 h0
  · exact absurd k0 h0
  · exact absurd h0 k0
  · exact ⟨rfl, rfl⟩
  · exact absurd (hev _) k2
  · exact absurd h0 k0
  · exact absurd (kev _) h2
  · have : m = p := by
      rcases Nat.lt_trichotomy m p with h | h | h
      · exact absurd (canS_le k1 h) h2
      · exact h
      · exact absurd (canS_le h1 h) k2
    subst this
    exact ⟨rfl, rfl⟩
set_option maxHeartbeats 1000000 in
theorem WalkCan_fs (hH : hasH M n0 H) {T : List Int} (hS : Sl M 1 v (ints T)) :
    FS C 3 [v] H (fun e H' => e = .bool true) := by
  refine FS.intro (pf := pf3) rfl rfl rfl ?_
  have tailW : True := trivial
  by_cases hbig : 60 < T.length
  · repeat' (first | refine zP ?_ | refine zA ?_ | (refine zM ?_; intro _ _) | refine zX ?_ | (refine zC ?_; intro _ _ _ _) | (refine zS ?_; intro _ _) | refine zO ?_ | (apply Ws <;> intro hg))
    refine WR.call (by first | exact gN | exact gS rfl) rfl rfl (FS.works (C := C) (R := fun v H' => v = .bool true) rfl) ?_
    rintro _ _ rfl
    repeat' (first | refine zP ?_ | refine zA ?_ | (refine zM ?_; intro _ _) | refine zX ?_ | (refine zC ?_; intro _ _ _ _) | (refine zS ?_; intro _ _) | (apply Ws <;> intro hg))
    exact Ends.ret1 rfl rfl
  · have hl : T.length ≤ 1000 := by omega
    have hW : ∃ a b : Int, FS C 17 [v] H (fun e H' => e = .tuple #[.int .i64 a, .int .i64 b, .int .i64 (errT T)] ∧ H' = H) ∧ FS C 18 [v] H (fun e H' => e = .tuple #[.int .i64 a, .int .i64 b, .int .i64 (errT T)] ∧ H' = H) := by
      by_cases h0 : errT T = 0
      · obtain ⟨hT, h1⟩ := errT_ok h0
        obtain ⟨e1, H1, ⟨a, b, rfl, hw1, rfl⟩, hr1⟩ := FS.ex (Weight_fs hH hS hT h1)
        obtain ⟨e2, H2, ⟨c, d, rfl, hw2, hH2⟩, hr2⟩ := FS.ex (WeightR_fs hH hS hT h1)
        obtain ⟨rfl, rfl⟩ := hw1.one hw2
        subst hH2
        rw [h0]
        exact ⟨a, b, hr1, hr2⟩
      · exact ⟨0, 0, WeightE_fs hH hS hl h0, WeightRE_fs hH hS hl h0⟩
    obtain ⟨a, b, hW1, hW2⟩ := hW
    repeat' (first | refine zP ?_ | refine zA ?_ | (refine zM ?_; intro _ _) | refine zX ?_ | (refine zC ?_; intro _ _ _ _) | (refine zS ?_; intro _ _) | refine zO ?_ | (apply Ws <;> intro hg))
    refine WR.call (by first | exact gN | exact gS rfl) rfl rfl hW1 ?_
    rintro _ _ ⟨rfl, rfl⟩
    repeat' (first | refine zP ?_ | refine zA ?_ | (refine zM ?_; intro _ _) | refine zX ?_ | (refine zC ?_; intro _ _ _ _) | (refine zS ?_; intro _ _) | (apply Ws <;> intro hg))
    refine WR.call (by first | exact gN | exact gS rfl) rfl rfl hW2 ?_
    rintro _ _ ⟨rfl, rfl⟩
    repeat' (first | refine zP ?_ | refine zA ?_ | (refine zM ?_; intro _ _) | refine zX ?_ | (refine zC ?_; intro _ _ _ _) | (refine zS ?_; intro _ _) | (apply Ws <;> intro hg))
    refine WR.call (by first | exact gN | exact gS rfl) rfl rfl (Can_fs hH hS hl) ?_
    rintro _ H1 ⟨n1, hn1, hH1, rfl⟩
    repeat' (first | refine zP ?_ | refine zA ?_ | (refine zM ?_; intro _ _) | refine zX ?_ | (refine zC ?_; intro _ _ _ _) | (refine zS ?_; intro _ _) | (apply Ws <;> intro hg))
    refine WR.call (by first | exact gN | exact gS rfl) rfl rfl (CanRef_fs hH1 hS hl) ?_
    rintro _ H2 ⟨n2, hn2, hH2, rfl⟩
    repeat' (first | refine zP ?_ | refine zA ?_ | (refine zM ?_; intro _ _) | refine zX ?_ | (refine zC ?_; intro _ _ _ _) | (refine zS ?_; intro _ _) | (apply Ws <;> intro hg))
    refine WR.call (by first | exact gN | exact gS rfl) rfl rfl (Longest_fs hH2 hS hl) ?_
    rintro _ H3 ⟨n3, r, c, hn3, hH3, rfl, hL1⟩
    repeat' (first | refine zP ?_ | refine zA ?_ | (refine zM ?_; intro _ _) | refine zX ?_ | (refine zC ?_; intro _ _ _ _) | (refine zS ?_; intro _ _) | (apply Ws <;> intro hg))
    refine WR.call (by first | exact gN | exact gS rfl) rfl rfl (LongRef_fs hH3 hS hl) ?_
    rintro _ H4 ⟨n4, q', c', hn4, hH4, rfl, hL2⟩
    obtain ⟨rfl, rfl⟩ := hL1.one hL2
    repeat' (first | refine zP ?_ | refine zA ?_ | (refine zM ?_; intro _ _) | refine zX ?_ | (refine zC ?_; intro _ _ _ _) | (refine zS ?_; intro _ _) | refine zO ?_ | (apply Ws <;> intro hg))
    refine WR.op (by first | exact gN | exact gS rfl) rfl (OpV.eqB (eqB _ _) rfl rfl) ?_
    rw [beq_self_eq_true]
    repeat' (first | refine zP ?_ | refine zA ?_ | (refine zM ?_; intro _ _) | refine zX ?_ | (refine zC ?_; intro _ _ _ _) | (refine zS ?_; intro _ _) | refine zO ?_ | (apply Ws <;> intro hg))
    refine WR.call (by first | exact gN | exact gS rfl) rfl rfl (Check_fs hH4 hS hl) ?_
    rintro _ _ ⟨rfl, rfl⟩
    repeat' (first | refine zP ?_ | refine zA ?_ | (refine zM ?_; intro _ _) | refine zX ?_ | (refine zC ?_; intro _ _ _ _) | (refine zS ?_; intro _ _) | refine zO ?_ | (apply Ws <;> intro hg))
    refine WR.call (by first | exact gN | exact gS rfl) rfl rfl (CheckR_fs hH4 hS hl) ?_
    rintro _ _ ⟨rfl, rfl⟩
    repeat' (first | refine zP ?_ | refine zA ?_ | (refine zM ?_; intro _ _) | refine zX ?_ | (refine zC ?_; intro _ _ _ _) | (refine zS ?_; intro _ _) | refine zO ?_ | (apply Ws <;> intro hg))
    refine WR.call (by first | exact gN | exact gS rfl) rfl rfl (FS.works (C := C) (R := fun v H' => v = .bool true) rfl) ?_
    rintro _ _ rfl
    repeat' (first | refine zP ?_ | refine zA ?_ | (refine zM ?_; intro _ _) | refine zX ?_ | (refine zC ?_; intro _ _ _ _) | (refine zS ?_; intro _ _) | (apply Ws <;> intro hg))
    exact Ends.ret1 rfl rfl
end
end Go.Proofs.Ytnmlfjohoeebiaa.Wk
