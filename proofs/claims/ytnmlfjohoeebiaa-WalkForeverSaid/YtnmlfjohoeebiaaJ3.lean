/- Texts of the law, joined. -/
import Derived.Test.YtnmlfjohoeebiaaJ2
/- The law's search: how many tides the longest good walk has. -/
namespace Go.Proofs.Ytnmlfjohoeebiaa.Wk
open Go Go.Abs Go.Mth
set_option linter.unusedVariables false
set_option linter.unusedSimpArgs false
theorem mgetV {C : CW} {L : Env} {H : Heap} {M : HL} {n b : Nat} {x y : Operand} {m : MapI} {s : List Int} {r : Int} (hx : ev L x = some (.map (some b))) (hy : ev L y = some (keyI s)) (hH : hasH M n H) (hm : (b, .map (ents m)) ∈ M) (hk : KeysN 4 m) (hs : s.length = 4) (hf : findI m s = some r) :
    OpV C (.mget 7 (.int .i64 0) x y false) L H (.int .i64 r) H := fun t ht => by
  obtain ⟨e, he, hok⟩ := hH.mem hm
  cases e with
  | map l' c =>
    obtain ⟨rfl, _⟩ := hok
    have hb : isKeyK 7 (keyI s) = true := isKeyK_ints (k := 4) hs
    simp only [opA, ev_ok ht hx, ev_ok ht hy, oMget, hb, cond_true, withMap, he]
    rcases find_ents (k := 4) hs (b := 0) (i := 0) hk with ⟨h1, h2⟩ | ⟨v, j, c, h1, h2⟩
    · rw [h1] at hf; cases hf
    · rw [h1] at hf; cases hf
      have h2' : findM 7 (keyI s) (ents m) 0 = some (some (j, ⟨keyI s, .int .i64 r, c⟩)) := h2
      rw [h2']; rfl
  | _ => exact hok.elim
theorem goodS_dec {T s : List Int} {j : Nat} (hT : TOK T) (hs : SOK T s) (hj : j < T.length) : goodS T.length (metS T s j) ↔ ∀ i, i < T.length → i ≠ j → s.getD i 0 - 1 ≠ 0 := by
  rw [not_good (by rw [metS_len, hs.len]) hT.len]
  have get := metS_get (T := T) (s := s) (by rw [hs.len]; exact hT.len) hj
  constructor
  · intro h i hi hne
    have := h i hi
    rwa [get, if_neg hne, if_pos hi] at this
  · intro h i hi
    rw [get]
    by_cases e : i = j
    · rw [if_pos e]; have := hT.lo j hj; omega
    · rw [if_neg e, if_pos hi]; exact h i hi e
structure OV where
  k : Nat
  va : Value
  A : List St4
  MA : HL
  m : MapI
  vb : Value
  ws : List Value
  B : List (List Int)
  MB : HL
  Mi : HL
  n : Nat
structure IV where
  k : Nat
  va : Value
  A : List St4
  MA : HL
  m : MapI
  vo : Value
  own : List Int
  MO : HL
  n : Nat
structure DV where
  k : Nat
  g : Bool
structure GV where
  k : Nat
  gb : Nat
  cp : Nat
  G : List Bool
  n : Nat
def RowsB (M : HL) (ws : List Value) (B : List (List Int)) : Prop := ws.length = B.length ∧ ∀ i, i < B.length → Sl M 1 (ws.getD i undef) (ints (B.getD i []))
theorem rowsB_snoc {M Mi Mr : HL} {ws : List Value} {vs : List (List Int)} {w : Value} {l : List Int} (h : RowsB (Mi ++ M) ws vs) (hw : Sl (Mr ++ M) 1 w (ints l)) : RowsB ((Mr ++ Mi) ++ M) (ws ++ [w]) (vs ++ [l]) := by
  refine ⟨by simp [h.1], fun i hi => ?_⟩
  rw [List.length_append, List.length_singleton] at hi
  by_cases e : i < vs.length
  · rw [getD_app_l (by rw [h.1]; exact e), getD_app_l e]
    refine (h.2 i e).mono fun q hq => ?_
    rw [List.append_assoc]; exact List.mem_append_right _ hq
  · have : i = vs.length := by omega
    subst this
    rw [getD_snoc, show (ws ++ [w]).getD vs.length undef = w by rw [← h.1]; exact getD_snoc]
    refine hw.mono fun q hq => ?_
    rcases List.mem_append.1 hq with h | h
    · exact List.mem_append_left _ (List.mem_append_left _ h)
    · exact List.mem_append_right _ h
theorem RowsB.one {M : HL} {ws : List Value} {B : List (List Int)} (h : RowsB M ws B) : ws.all one = true := by
  rw [List.all_eq_true]
  intro q hq
  obtain ⟨i, hi, rfl⟩ := List.mem_iff_getElem.1 hq
  have := (h.2 i (by rw [← h.1]; exact hi)).one_
  rwa [getD_eq hi] at this
theorem fill1 {v : Value} (h : one v = true) : Instr.fill (fun j => some (j * 1, 1)) [Value.slice none 0 0].toArray [(0, v)] = some [v].toArray := by
  cases v <;> first | rfl | cases h
theorem cellsF_snoc (A : List St4) (a : St4) : cellsF F4 (A ++ [a]) = cellsF F4 A ++ ints a.1 := by simp [cellsF, F4]
attribute [local irreducible] gOK WS WC WR WD Ends FS YS OpV seqK blockK loopK midK retK rdK asgK rangeEnd sat Cell
section
variable {M : HL} {n0 : Nat} {H : Heap} {v w : Value}
set_option maxHeartbeats 2000000 in
theorem longest_fs (hH : hasH M n0 H) {T : List Int} (hS : Sl M 1 v (ints T)) (hT : TOK T) (h1 : 1 ≤ T.length) :
    FS C 42 [v] H (fun e H' => ∃ r n', e = .int .i64 r ∧ MoreR T (startS T) r ∧ n0 ≤ n' ∧ hasH M n' H') := by
  have hTl := hT.len
  have hsl := startS_len hTl
  have hsli : (ints (startS T)).length = 4 := by simp [hsl]
  refine FS.intro (pf := pf42) rfl rfl rfl ?_
  repeat' (first | refine zP ?_ | refine zA ?_ | (refine zM ?_; intro _ _) | refine zX ?_ | (refine zC ?_; intro _ _ _ _) | (refine zS ?_; intro _ _) | (apply Ws <;> intro hg))
  rename_i H1 hH1
  refine WR.op (by first | exact gN | exact gS rfl) rfl (OpV.slA rfl (by omega)) ?_
  repeat' (first | refine zP ?_ | refine zA ?_ | (refine zM ?_; intro _ _) | refine zX ?_ | (refine zC ?_; intro _ _ _ _) | (refine zS ?_; intro _ _) | (apply Ws <;> intro hg))
  refine WR.copyMin (by first | exact gN | exact gS rfl) rfl rfl rfl hS.cons hH1 .here (ints_one _) (Nat.le_refl _) (m := T.length) (by rw [List.length_map]; exact Nat.min_eq_left hTl) h1 (by simp only [List.length_cons, List.length_nil]; omega) rfl fun H3 hH3 => ?_
  rw [start_splice hTl] at hH3
  repeat' (first | refine zP ?_ | refine zA ?_ | (refine zM ?_; intro _ _) | refine zX ?_ | (refine zC ?_; intro _ _ _ _) | (refine zS ?_; intro _ _) | (apply Ws <;> intro hg))
  refine WR.bldS (by first | exact gN | exact gS rfl) rfl hH3 (vs := [(0, keyI (startS T))]) rfl (cs := ints (startS T)) (fill4 hsl) (ints_one _) fun H4 hH4 => ?_
  repeat' (first | refine zP ?_ | refine zA ?_ | (refine zM ?_; intro _ _) | refine zX ?_ | (refine zC ?_; intro _ _ _ _) | (refine zS ?_; intro _ _) | (apply Ws <;> intro hg))
  refine WR.mkM (by first | exact gN | exact gS rfl) rfl hH4 fun H5 hH5 => ?_
  repeat' (first | refine zP ?_ | refine zA ?_ | (refine zM ?_; intro _ _) | refine zX ?_ | (refine zC ?_; intro _ _ _ _) | (refine zS ?_; intro _ _) | (apply Ws <;> intro hg))
  refine WR.mput (kn := 4) (s := startS T) (v := 0) (by first | exact gN | exact gS rfl) rfl rfl rfl hH5 .here (KeysN.nil 4) hsl fun H6 hH6 => ?_
  replace hH6 : hasH ((n0 + 1 + 1, .map (ents [(startS T, 0)])) :: ((n0 + 1, .row 53 0 0 (ints (startS T))) :: M)) (n0 + 1 + 1 + 1) H6 := hH6.sub (.cons_cons _ (.cons_cons _ (List.sublist_cons_self _ _)))
  clear hH1 hH3 hH4 hH5 hH
  repeat' (first | refine zP ?_ | refine zA ?_ | (refine zM ?_; intro _ _) | refine zX ?_ | (refine zC ?_; intro _ _ _ _) | (refine zS ?_; intro _ _) | (apply Ws <;> intro hg))
  have hH7 : hasH ((n0 + 1 + 1, .map (ents [(startS T, 0)])) :: ([(n0 + 1, .inp 53 0 0 (cellsF F4 [⟨startS T, hsl⟩]))] ++ ([] ++ ([] ++ M)))) (n0 + 1 + 1 + 1) H6 := by
    have := hH6.asInp (.there .here)
    simpa [cellsF, F4] using this
  refine WC.loopX [(0, v), (5, .map (some (n0 + 1 + 1)))] (fun z : OV => [(7, .int .i64 (z.k : Int)), (4, z.va), (6, z.vb)]) []
    (fun z H' => z.k ≤ z.A.length ∧ z.B.length = z.k ∧ Bfs T z.A z.m ∧ BehR T z.A z.B ∧ (∀ l ∈ z.B, l.length ≤ 4) ∧ Own 53 4 z.va (cellsF F4 z.A) z.MA ∧ Own 22 1 z.vb z.ws z.MB ∧ RowsB (z.Mi ++ M) z.ws z.B ∧ n0 + 1 + 1 < z.n ∧ hasH ((n0 + 1 + 1, .map (ents z.m)) :: (z.MA ++ (z.MB ++ (z.Mi ++ M)))) z.n H')
    (fun z => 7000 - z.k) ⟨0, .slice (some ⟨n0 + 1, 0, some 0⟩) 1 (2 * 1 + 1), [⟨startS T, hsl⟩], [(n0 + 1, .inp 53 0 0 (cellsF F4 [⟨startS T, hsl⟩]))], [(startS T, 0)], .slice none 0 0, [], [], [], [], n0 + 1 + 1 + 1⟩ (by repeat' (first | exact .nil | refine .cons rfl ?_)) rfl
    ⟨Nat.zero_le _, rfl, bfs_one hT, fun i _ hb => absurd hb (Nat.not_lt_zero _), fun l hl => (by cases hl), .full (by simp [cellsF, F4, hsl]) (by simp only [cellsF, List.map_cons, List.map_nil, List.flatten_cons, List.flatten_nil, List.append_nil]; exact F4_one _), .nil, ⟨rfl, fun i hi => absurd hi (Nat.not_lt_zero _)⟩, by simp only; omega, hH7⟩ ?_
  clear hH6 hH7
  generalize hbb : n0 + 1 + 1 = b
  rintro ⟨k, va, A, MA, m, vb, ws, B, MB, Mi, n1⟩ H8 ⟨hk, hBl, hA, hB, hB4, hOA, hOB, hR, hn1, hH8⟩
  simp only at hk hBl hA hB hB4 hOA hOB hR hn1 hH8
  have hcnt := hA.cnt
  have hSA : Sl ((b, .map (ents m)) :: (MA ++ (MB ++ (Mi ++ M)))) 4 va (cellsF F4 A) := (hOA.sl _).cons
  dsimp only [List.cons_append, List.nil_append]
  repeat' (first | refine zP ?_ | refine zA ?_ | (refine zM ?_; intro _ _) | refine zX ?_ | (refine zC ?_; intro _ _ _ _) | (refine zS ?_; intro _ _) | (apply Ws <;> intro hg))
  refine WR.op (by first | exact gN | exact gS rfl) rfl (OpV.lenK F4_len (by decide) rfl hSA) ?_
  repeat' (first | refine zP ?_ | refine zA ?_ | (refine zM ?_; intro _ _) | refine zX ?_ | (refine zC ?_; intro _ _ _ _) | (refine zS ?_; intro _ _) | (apply Ws <;> intro hg))
  refine WC.condP rfl (fun hlt => ?_) (fun hlt => ?_)
  · have hk' : k < A.length := by omega
    have hST : Sl ((b, .map (ents m)) :: (MA ++ (MB ++ (Mi ++ M)))) 1 v (ints T) := (hS.mono fun q hq => List.mem_append_right _ (List.mem_append_right _ (List.mem_append_right _ hq))).cons
    repeat' (first | refine zP ?_ | refine zA ?_ | (refine zM ?_; intro _ _) | refine zX ?_ | (refine zC ?_; intro _ _ _ _) | (refine zS ?_; intro _ _) | (apply Ws <;> intro hg))
    refine WC.loopX [(0, v), (5, .map (some b)), (6, vb), (7, .int .i64 (k : Int)), (35, .int .i64 (T.length : Int))] (fun z : IV => [(36, .int .i64 (z.k : Int)), (4, z.va), (8, z.vo)]) []
      (fun z H' => z.k ≤ T.length ∧ k < z.A.length ∧ Bfs T z.A z.m ∧ BehR T z.A B ∧ Own 53 4 z.va (cellsF F4 z.A) z.MA ∧ Own 3 1 z.vo (ints z.own) z.MO ∧ z.own.length ≤ z.k ∧ (∀ h : k < z.A.length, SuccR T z.A (z.A[k]).1 z.k z.own) ∧ b < z.n ∧ hasH ((b, .map (ents z.m)) :: (z.MA ++ (z.MO ++ (MB ++ (Mi ++ M))))) z.n H')
      (fun z => T.length - z.k) ⟨0, va, A, MA, m, .slice none 0 0, [], [], n1⟩ (by repeat' (first | exact .nil | refine .cons rfl ?_)) rfl
      ⟨Nat.zero_le _, hk', hA, hB, hOA, .nil, Nat.le_refl _, fun _ => succ_nil _ _ _, by simp only; omega, hH8⟩ ?_
    clear hH8 hST hSA hOA hA hB hk hk' hcnt hlt
    rintro ⟨k2, va2, A2, MA2, m2, vo, own, MO, n2⟩ H9 ⟨hk2, hkA, hA2, hB2, hOA2, hOO, hol, hSu, hn2, hH9⟩
    simp only at hk2 hkA hA2 hB2 hOA2 hOO hol hSu hn2 hH9
    have hcnt2 := hA2.cnt
    have hST : Sl ((b, .map (ents m2)) :: (MA2 ++ (MO ++ (MB ++ (Mi ++ M))))) 1 v (ints T) := (hS.mono fun q hq => List.mem_append_right _ (List.mem_append_right _ (List.mem_append_right _ (List.mem_append_right _ hq)))).cons
    have hSA : Sl ((b, .map (ents m2)) :: (MA2 ++ (MO ++ (MB ++ (Mi ++ M))))) 4 va2 (cellsF F4 A2) := (hOA2.sl _).cons
    dsimp only [List.cons_append, List.nil_append]
    repeat' (first | refine zP ?_ | refine zA ?_ | (refine zM ?_; intro _ _) | refine zX ?_ | (refine zC ?_; intro _ _ _ _) | (refine zS ?_; intro _ _) | (apply Ws <;> intro hg))
    refine WC.condP rfl (fun hlt2 => ?_) (fun hlt2 => ?_)
    · have hk2' : k2 < T.length := by omega
      have hsk := hA2.ok k hkA
      repeat' (first | refine zP ?_ | refine zA ?_ | (refine zM ?_; intro _ _) | refine zX ?_ | (refine zC ?_; intro _ _ _ _) | (refine zS ?_; intro _ _) | (apply Ws <;> intro hg))
      refine WR.idxK F4_len (by decide) (by first | exact gN | exact gS rfl) rfl rfl hSA rfl hkA fun b3 o3 u3 hP => ?_
      refine WR.op (by first | exact gN | exact gS rfl) rfl (OpV.loadK rfl hP hH9 (F4_len _)) ?_
      obtain ⟨s, hse⟩ : ∃ s, (A2[k]).1 = s := ⟨_, rfl⟩
      have hF : F4 A2[k] = ints s := by rw [← hse]; rfl
      rw [hF]
      rw [hse] at hsk
      have hli : (ints s).length = 4 := by simp [hsk.len]
      repeat' (first | refine zP ?_ | refine zA ?_ | (refine zM ?_; intro _ _) | refine zX ?_ | (refine zC ?_; intro _ _ _ _) | (refine zS ?_; intro _ _) | (apply Ws <;> intro hg))
      rename_i H10 hH10
      refine WR.storeA (s := s) (by first | exact gN | exact gS rfl) hH10 rfl rfl hsk.len .here rfl fun H11 hH11 => ?_
      clear hH10 hH9
      replace hH11 : hasH ((n2, .row 53 0 0 (ints (decS 0 s))) :: (b, .map (ents m2)) :: (MA2 ++ (MO ++ (MB ++ (Mi ++ M))))) (n2 + 1) H11 := by simpa [decS] using hH11
      have hST' := hST.cons (p := (n2, .row 53 0 0 (ints (decS 0 s))))
      repeat' (first | refine zP ?_ | refine zA ?_ | (refine zM ?_; intro _ _) | refine zX ?_ | (refine zC ?_; intro _ _ _ _) | (refine zS ?_; intro _ _) | (apply Ws <;> intro hg))
      clear hST'
      refine WC.loopX [(0, v), (4, va2), (5, .map (some b)), (6, vb), (7, .int .i64 (k : Int)), (8, vo), (9, .int .i64 (k2 : Int)), (10, .pointer (some ⟨n2, 0, some 0⟩)), (35, .int .i64 (T.length : Int)), (36, .int .i64 (k2 : Int)), (44, .int .i64 (T.length : Int))] (fun z : DV => [(45, .int .i64 (z.k : Int)), (11, .bool z.g)]) []
        (fun z H' => z.k ≤ T.length ∧ (z.g = true ↔ ∀ i, i < z.k → i ≠ k2 → s.getD i 0 - 1 ≠ 0) ∧ hasH ((n2, .row 53 0 0 (ints (decS z.k s))) :: (b, .map (ents m2)) :: (MA2 ++ (MO ++ (MB ++ (Mi ++ M))))) (n2 + 1) H')
        (fun z => T.length - z.k) ⟨0, true⟩ (by repeat' (first | exact .nil | refine .cons rfl ?_)) rfl ⟨Nat.zero_le _, ⟨fun _ i hi => absurd hi (Nat.not_lt_zero _), fun _ => rfl⟩, hH11⟩ ?_
      clear hH11
      rintro ⟨k3, g⟩ H12 ⟨hk3, hg, hH12⟩
      simp only at hk3 hg hH12
      dsimp only [List.cons_append, List.nil_append]
      repeat' (first | refine zP ?_ | refine zA ?_ | (refine zM ?_; intro _ _) | refine zX ?_ | (refine zC ?_; intro _ _ _ _) | (refine zS ?_; intro _ _) | (apply Ws <;> intro hg))
      refine WC.condP rfl (fun hlt3 => ?_) (fun hlt3 => ?_)
      · have hk3' : k3 < T.length := by omega
        have hdl : (decS k3 s).length = 4 := by rw [decS_len, hsk.len]
        have hdg := decS_get (n := k3) (s := s) (by rw [hsk.len]; omega) k3
        rw [if_neg (Nat.lt_irrefl k3)] at hdg
        have hb8 := hsk.bnd hT k3 (by omega)
        have hdn := decS_next (k := k3) (s := s) (by rw [hsk.len]; omega)
        have hdl2 : (decS (k3 + 1) s).length = 4 := by rw [decS_len, hsk.len]
        have hdg2 := decS_get (n := k3 + 1) (s := s) (by rw [hsk.len]; omega) k3
        rw [if_pos (Nat.lt_succ_self k3)] at hdg2
        by_cases e1 : k3 = k2
        · repeat' (first | refine zP ?_ | refine zA ?_ | (refine zM ?_; intro _ _) | refine zX ?_ | (refine zC ?_; intro _ _ _ _) | (refine zS ?_; intro _ _) | refine zO ?_ | (apply Ws <;> intro hg))
          rename_i H13 hH13
          rw [hdn] at hH13
          refine Ends.loop ⟨k3 + 1, g⟩ (by simp only; omega) (by repeat' (first | exact .nil | refine .cons rfl ?_)) rfl ⟨hk3', ?_, hH13⟩
          show g = true ↔ ∀ i, i < k3 + 1 → i ≠ k2 → s.getD i 0 - 1 ≠ 0
          rw [hg]
          exact ⟨fun h i hi hne => h i (by omega) hne, fun h i hi hne => h i (by omega) hne⟩
        · have hvv : ((decS k3 s).set k3 ((decS k3 s).getD k3 0 - 1)).getD k3 0 = s.getD k3 0 - 1 := by rw [hdn, hdg2]
          have hsl9 : ((decS k3 s).set k3 ((decS k3 s).getD k3 0 - 1)).length = 4 := by rw [List.length_set, hdl]
          by_cases e2 : s.getD k3 0 - 1 = 0
          · repeat' (first | refine zP ?_ | refine zA ?_ | (refine zM ?_; intro _ _) | refine zX ?_ | (refine zC ?_; intro _ _ _ _) | (refine zS ?_; intro _ _) | refine zO ?_ | (apply Ws <;> intro hg))
            rename_i H13 hH13
            rw [hdn] at hH13
            refine Ends.loop ⟨k3 + 1, false⟩ (by simp only; omega) (by repeat' (first | exact .nil | refine .cons rfl ?_)) rfl ⟨hk3', ?_, hH13⟩
            show false = true ↔ ∀ i, i < k3 + 1 → i ≠ k2 → s.getD i 0 - 1 ≠ 0
            exact ⟨fun h => (by cases h), fun h => absurd e2 (h k3 (by omega) e1)⟩
          · repeat' (first | refine zP ?_ | refine zA ?_ | (refine zM ?_; intro _ _) | refine zX ?_ | (refine zC ?_; intro _ _ _ _) | (refine zS ?_; intro _ _) | refine zO ?_ | (apply Ws <;> intro hg))
            rename_i H13 hH13
            rw [hdn] at hH13
            refine Ends.loop ⟨k3 + 1, g⟩ (by simp only; omega) (by repeat' (first | exact .nil | refine .cons rfl ?_)) rfl ⟨hk3', ?_, hH13⟩
            show g = true ↔ ∀ i, i < k3 + 1 → i ≠ k2 → s.getD i 0 - 1 ≠ 0
            rw [hg]
            refine ⟨fun h i hi hne => ?_, fun h i hi hne => h i (by omega) hne⟩
            rcases Nat.lt_or_ge i k3 with h3 | h3
            · exact h i h3 hne
            · rw [show i = k3 by omega]; exact e2
      · have hk3n : k3 = T.length := by omega
        subst hk3n
        have hdl : (decS T.length s).length = 4 := by rw [decS_len, hsk.len]
        have hgood : g = true ↔ goodS T.length (metS T s k2) := by rw [hg, goodS_dec hT hsk hk2']
        have hST' := hST.cons (p := (n2, .row 53 0 0 (ints (decS T.length s))))
        repeat' (first | refine zP ?_ | refine zA ?_ | (refine zM ?_; intro _ _) | refine zX ?_ | (refine zC ?_; intro _ _ _ _) | (refine zS ?_; intro _ _) | (apply Ws <;> intro hg))
        rename_i H13 hH13
        clear hH12 hST'
        have hml : (metS T s k2).length = 4 := by rw [metS_len, hsk.len]
        have hmi : (ints (metS T s k2)).length = 4 := by simp [hml]
        replace hH13 : hasH ((n2, .row 53 0 0 (ints (metS T s k2))) :: (b, .map (ents m2)) :: (MA2 ++ (MO ++ (MB ++ (Mi ++ M))))) (n2 + 1) H13 := hH13
        cases hgv : g with
        | false =>
          have hbad : ¬ goodS T.length (metS T s k2) := fun h => by rw [hgood.2 h] at hgv; cases hgv
          repeat' (first | refine zP ?_ | refine zA ?_ | (refine zM ?_; intro _ _) | refine zX ?_ | (refine zC ?_; intro _ _ _ _) | (refine zS ?_; intro _ _) | (apply Ws <;> intro hg))
          refine Ends.loop ⟨k2 + 1, va2, A2, MA2, m2, vo, own, MO, n2 + 1⟩ (by simp only; omega) (by repeat' (first | exact .nil | refine .cons rfl ?_)) rfl ⟨hk2', hkA, hA2, hB2, hOA2, hOO, by simp only; omega, fun h => ?_, by simp only; omega, hH13.tail⟩
          have := (hSu h).bad (by rw [hse]; exact hbad)
          exact this
        | true =>
          have hgd : goodS T.length (metS T s k2) := hgood.1 hgv
          have hmok := met_ok hT hsk hk2' hgd
          have hone10 := ints_one (metS T s k2)
          repeat' (first | refine zP ?_ | refine zA ?_ | (refine zM ?_; intro _ _) | refine zX ?_ | (refine zC ?_; intro _ _ _ _) | (refine zS ?_; intro _ _) | (apply Ws <;> intro hg))
          cases hf : findI m2 (metS T s k2) with
          | some r =>
            obtain ⟨i, hi, rfl, he⟩ := hA2.inv _ _ hf
            refine WR.op (by first | exact gN | exact gS rfl) rfl (mgetS (s := metS T s k2) rfl rfl hH13 (.tail _ (.head _)) hA2.keys hml hf) ?_
            repeat' (first | refine zP ?_ | refine zA ?_ | (refine zM ?_; intro _ _) | refine zX ?_ | (refine zC ?_; intro _ _ _ _) | (refine zS ?_; intro _ _) | (apply Ws <;> intro hg))
            refine WR.op (by first | exact gN | exact gS rfl) rfl (mgetV (s := metS T s k2) rfl rfl hH13 (.tail _ (.head _)) hA2.keys hml hf) ?_
            refine WR.append1F ((n2, .row 53 0 0 (ints (metS T s k2))) :: (b, .map (ents m2)) :: MA2) MO (MB ++ (Mi ++ M)) rfl rfl rfl rfl hOO hH13 (new := [.int .i64 (i : Int)]) (by rfl) rfl rfl (Nat.le_refl _) (by omega) (by simp; omega) fun v3 M3 n4 H14 hO3 hH14 hn4 => ?_
            replace hH14 : hasH ((n2, .row 53 0 0 (ints (metS T s k2))) :: (b, .map (ents m2)) :: (MA2 ++ (M3 ++ (MB ++ (Mi ++ M))))) n4 H14 := hH14
            repeat' (first | refine zP ?_ | refine zA ?_ | (refine zM ?_; intro _ _) | refine zX ?_ | (refine zC ?_; intro _ _ _ _) | (refine zS ?_; intro _ _) | (apply Ws <;> intro hg))
            refine Ends.loop ⟨k2 + 1, va2, A2, MA2, m2, v3, own ++ [(i : Int)], M3, n4⟩ (by simp only; omega) (by repeat' (first | exact .nil | refine .cons rfl ?_)) rfl ⟨hk2', hkA, hA2, hB2, hOA2, ?_, by simp only [List.length_append, List.length_singleton]; omega, fun h => ?_, by simp only; omega, hH14.tail⟩
            · show Own _ 1 v3 (List.map (Value.int .i64) (own ++ [(i : Int)])) M3
              rw [List.map_append]; exact hO3
            · have := (hSu h).good (by rw [hse]; exact hgd) hi (by rw [hse]; exact he)
              exact this
          | none =>
            refine WR.op (by first | exact gN | exact gS rfl) rfl (mgetN (s := metS T s k2) rfl rfl hH13 (.tail _ (.head _)) hA2.keys hml hf) ?_
            repeat' (first | refine zP ?_ | refine zA ?_ | (refine zM ?_; intro _ _) | refine zX ?_ | (refine zC ?_; intro _ _ _ _) | (refine zS ?_; intro _ _) | (apply Ws <;> intro hg))
            refine WR.op (by first | exact gN | exact gS rfl) rfl (OpV.lenK F4_len (by decide) rfl (hSA.cons (p := (n2, .row 53 0 0 (ints (metS T s k2)))))) ?_
            refine WR.mput (kn := 4) (s := metS T s k2) (v := (A2.length : Int)) (by first | exact gN | exact gS rfl) rfl rfl rfl hH13 (.there .here) hA2.keys hml fun H14 hH14 => ?_
            obtain ⟨a, ha⟩ : ∃ a : St4, a.1 = metS T s k2 := ⟨⟨metS T s k2, hml⟩, rfl⟩
            have hA3 := bfs_more hT hA2 (a := a) (by rw [ha]; exact hmok) (by rw [ha]; exact hf)
            have hf3 : findI (putI m2 (metS T s k2) (A2.length : Int)) (metS T s k2) = some (A2.length : Int) := by rw [findI_put, if_pos rfl]
            have hk9 := hA2.keys.put hml (A2.length : Int)
            rw [ha] at hA3
            have hB3 := hB2.mono (by omega) [a]
            repeat' (first | refine zP ?_ | refine zA ?_ | (refine zM ?_; intro _ _) | refine zX ?_ | (refine zC ?_; intro _ _ _ _) | (refine zS ?_; intro _ _) | (apply Ws <;> intro hg))
            refine WR.append1F [(n2, .row 53 0 0 (ints (metS T s k2))), (b, .map (ents (putI m2 (metS T s k2) (A2.length : Int))))] MA2 (MO ++ (MB ++ (Mi ++ M))) rfl rfl rfl rfl hOA2 hH14 (new := ints (metS T s k2)) (fill4 hml) hone10 hmi (by omega) (by omega) (by rw [cellsF_len F4_len, hmi]; omega) fun v3 M3 n4 H15 hO3 hH15 hn4 => ?_
            replace hH15 : hasH ((n2, .row 53 0 0 (ints (metS T s k2))) :: (b, .map (ents (putI m2 (metS T s k2) (A2.length : Int)))) :: (M3 ++ (MO ++ (MB ++ (Mi ++ M))))) n4 H15 := hH15
            clear hH14 hH13
            generalize putI m2 (metS T s k2) (A2.length : Int) = m4 at *
            repeat' (first | refine zP ?_ | refine zA ?_ | (refine zM ?_; intro _ _) | refine zX ?_ | (refine zC ?_; intro _ _ _ _) | (refine zS ?_; intro _ _) | (apply Ws <;> intro hg))
            refine WR.op (by first | exact gN | exact gS rfl) rfl (mgetV (s := metS T s k2) rfl rfl hH15 (.tail _ (.head _)) hk9 hml hf3) ?_
            refine WR.append1F ((n2, .row 53 0 0 (ints (metS T s k2))) :: (b, .map (ents m4)) :: M3) MO (MB ++ (Mi ++ M)) rfl rfl rfl rfl hOO hH15 (new := [.int .i64 (A2.length : Int)]) (by rfl) rfl rfl (Nat.le_refl _) (by omega) (by simp; omega) fun v5 M5 n5 H16 hO5 hH16 hn5 => ?_
            replace hH16 : hasH ((n2, .row 53 0 0 (ints (metS T s k2))) :: (b, .map (ents m4)) :: (M3 ++ (M5 ++ (MB ++ (Mi ++ M))))) n5 H16 := hH16
            repeat' (first | refine zP ?_ | refine zA ?_ | (refine zM ?_; intro _ _) | refine zX ?_ | (refine zC ?_; intro _ _ _ _) | (refine zS ?_; intro _ _) | (apply Ws <;> intro hg))
            refine Ends.loop ⟨k2 + 1, v3, A2 ++ [a], M3, m4, v5, own ++ [(A2.length : Int)], M5, n5⟩ (by simp only; omega) (by repeat' (first | exact .nil | refine .cons rfl ?_)) rfl ⟨hk2', by simp only [List.length_append, List.length_singleton]; omega, hA3, hB3, ?_, ?_, by simp only [List.length_append, List.length_singleton]; omega, fun h => ?_, by simp only; omega, hH16.tail⟩
            · show Own _ 4 v3 (cellsF F4 (A2 ++ [a])) M3
              rw [cellsF_snoc, ha]; exact hO3
            · show Own _ 1 v5 (List.map (Value.int .i64) (own ++ [(A2.length : Int)])) M5
              rw [List.map_append]; exact hO5
            · show SuccR T (A2 ++ [a]) ((A2 ++ [a])[k]).1 (k2 + 1) (own ++ [(A2.length : Int)])
              rw [List.getElem_append_left hkA]
              exact ((hSu hkA).mono [a]).good (by rw [hse]; exact hgd) (by simp) (by rw [hse]; simpa using ha)
    · have hk2n : k2 = T.length := by omega
      subst hk2n
      have hvo1 := (hOO.sl (MB ++ (Mi ++ M))).one_
      have hwl := hR.1
      have hw1 := hR.one
      repeat' (first | refine zP ?_ | refine zA ?_ | (refine zM ?_; intro _ _) | refine zX ?_ | (refine zC ?_; intro _ _ _ _) | (refine zS ?_; intro _ _) | (apply Ws <;> intro hg))
      refine WR.append1F ((b, .map (ents m2)) :: (MA2 ++ MO)) MB (Mi ++ M) rfl rfl rfl rfl hOB (by have := hH9; rw [← List.append_assoc] at this; exact this) (new := [vo]) (fill1 hvo1) (by simp [hvo1]) rfl (Nat.le_refl _) (by omega) (by simp; omega) fun v3 M3 n4 H14 hO3 hH14 hn4 => ?_
      have hH15 : hasH ((b, .map (ents m2)) :: (MA2 ++ (M3 ++ ((MO ++ Mi) ++ M)))) n4 H14 := by
        refine hH14.perm (List.Perm.cons _ ?_)
        show (MA2 ++ MO ++ (M3 ++ (Mi ++ M))).Perm _
        rw [List.append_assoc, List.append_assoc MO]
        exact List.Perm.append_left _ (List.perm_append_comm_assoc _ _ _)
      repeat' (first | refine zP ?_ | refine zA ?_ | (refine zM ?_; intro _ _) | refine zX ?_ | (refine zC ?_; intro _ _ _ _) | (refine zS ?_; intro _ _) | (apply Ws <;> intro hg))
      refine Ends.loop ⟨k + 1, va2, A2, MA2, m2, v3, ws ++ [vo], B ++ [own], M3, MO ++ Mi, n4⟩ (by simp only; omega) (by repeat' (first | exact .nil | refine .cons rfl ?_)) rfl ⟨by simp only; omega, by simp [hBl], hA2, ?_, ?_, hOA2, hO3, rowsB_snoc hR (hOO.sl M), by simp only; omega, hH15⟩
      · refine hB2.snoc (by omega) ?_
        have := hSu hkA
        simpa only [hBl] using this
      · intro l hl
        rcases List.mem_append.1 hl with hl | hl
        · exact hB4 l hl
        · rw [List.mem_singleton] at hl; subst hl; omega
  · have hkn : k = A.length := by omega
    have hBA : B.length = A.length := by omega
    have hwl := hR.1
    have hZM : M.Sublist ((b, .map (ents m)) :: (MA ++ (MB ++ (Mi ++ M)))) := .cons _ (((List.sublist_append_right _ _).trans (List.sublist_append_right _ _)).trans (List.sublist_append_right _ _))
    have hSB : Sl ((b, .map (ents m)) :: (MA ++ (MB ++ (Mi ++ M)))) 1 vb ws := ((hOB.sl (Mi ++ M)).mono fun q hq => List.mem_append_right _ hq).cons
    have hRB : RowsB ((b, .map (ents m)) :: (MA ++ (MB ++ (Mi ++ M)))) ws B := ⟨hwl, fun i hi => (hR.2 i hi).mono fun q hq => List.mem_cons_of_mem _ (List.mem_append_right _ (List.mem_append_right _ hq))⟩
    obtain ⟨h0, hA0⟩ := hA.first
    obtain ⟨k0, hk0, hst⟩ := stab hT
    generalize (b, Ch.map (ents m)) :: (MA ++ (MB ++ (Mi ++ M))) = Z at hH8 hSA hZM hSB hRB
    clear hOA hOB hR
    repeat' (first | refine zP ?_ | refine zA ?_ | (refine zM ?_; intro _ _) | refine zX ?_ | (refine zC ?_; intro _ _ _ _) | (refine zS ?_; intro _ _) | (apply Ws <;> intro hg))
    refine WR.op (by first | exact gN | exact gS rfl) rfl (OpV.lenK F4_len (by decide) rfl hSA) ?_
    refine WR.mkS (m := A.length) (by first | exact gN | exact gS rfl) rfl hH8 rfl rfl (by omega) rfl fun H9 hH9 => ?_
    replace hH9 : hasH ((n1, .row 4 0 0 (bools (List.replicate A.length false))) :: Z) (n1 + 1) H9 := by rw [bools, List.map_replicate]; exact hH9
    repeat' (first | refine zP ?_ | refine zA ?_ | (refine zM ?_; intro _ _) | refine zX ?_ | (refine zC ?_; intro _ _ _ _) | (refine zS ?_; intro _ _) | (apply Ws <;> intro hg))
    rename_i H10 hH10 H11 hH11
    clear hH8 hH9 hH10
    refine WC.loopX [(6, vb), (15, .pointer (some ⟨n1 + 1, 0, some 0⟩))] (fun z : GV => [(16, .int .i64 (z.k : Int))]) []
      (fun z H' => z.k ≤ k0 ∧ canS T z.k (startS T) ∧ GoneR T A z.k z.G ∧ (z.cp = 2 * 1 ∨ z.cp = 2 * A.length + 1) ∧ n1 + 1 < z.n ∧ hasH ((n1 + 1, .row 60 0 0 [.slice (some ⟨z.gb, 0, some 0⟩) A.length z.cp]) :: (z.gb, .row 4 0 0 (bools z.G)) :: Z) z.n H')
      (fun z => k0 + 1 - z.k) ⟨0, n1, 2 * A.length + 1, List.replicate A.length false, n1 + 1 + 1⟩ (by repeat' (first | exact .nil | refine .cons rfl ?_)) rfl
      ⟨Nat.zero_le _, trivial, ⟨by simp, fun i hi => by
        rw [getD_eq (by simpa using hi), List.getElem_replicate]
        exact (goneB_false.2 (show canS T 0 _ from trivial)).symm⟩, .inr rfl, by simp only; omega, hH11⟩ ?_
    clear hH11
    rintro ⟨many, gb, cp, G, n3⟩ H12 ⟨hmk, hcan, hG, hcp, hn3, hH12⟩
    simp only at hmk hcan hG hcp hn3 hH12
    have hGl := hG.1
    have hgS : ∀ X : HL, Sl (X ++ ((n1 + 1, .row 60 0 0 [.slice (some ⟨gb, 0, some 0⟩) A.length cp]) :: (gb, .row 4 0 0 (bools G)) :: Z)) 1 (.slice (some ⟨gb, 0, some 0⟩) A.length cp) (bools G) := fun X =>
      .row (lo := 0) (cs := bools G) (List.mem_append_right _ (.tail _ (.head _))) (.row _ _ _ _) (Nat.zero_le _) (by simp [hGl]) (by rw [Nat.sub_zero, List.drop_zero, List.take_length]) (by simp) (by
        rcases hcp with rfl | rfl
        · exact .inl (.inl rfl)
        · exact .inr ⟨A.length, rfl, Nat.le_refl _⟩)
    dsimp only [List.cons_append, List.nil_append]
    repeat' (first | refine zP ?_ | refine zA ?_ | (refine zM ?_; intro _ _) | refine zX ?_ | (refine zC ?_; intro _ _ _ _) | (refine zS ?_; intro _ _) | (apply Ws <;> intro hg))
    refine WR.call (by first | exact gN | exact gS rfl) rfl rfl (CloneB_fs hH12 (hgS []) (by omega) (by omega)) ?_
    rintro _ H13 ⟨b1, n4, rfl, hn4, hH13⟩
    have hcS := hgS [(b1, .row 4 0 0 (bools G))]
    have hSB3 : Sl ((b1, Ch.row 4 0 0 (bools G)) :: (n1 + 1, .row 60 0 0 [.slice (some ⟨gb, 0, some 0⟩) A.length cp]) :: (gb, .row 4 0 0 (bools G)) :: Z) 1 vb ws := hSB.cons.cons.cons
    repeat' (first | refine zP ?_ | refine zA ?_ | (refine zM ?_; intro _ _) | refine zX ?_ | (refine zC ?_; intro _ _ _ _) | (refine zS ?_; intro _ _) | (apply Ws <;> intro hg))
    refine WC.loopX [(6, vb), (15, .pointer (some ⟨n1 + 1, 0, some 0⟩)), (16, .int .i64 (many : Int)), (17, .slice (some ⟨b1, 0, some 0⟩) G.length (2 * 1)), (105, vb), (106, .int .i64 (ws.length : Int))] (fun z : Nat × List Bool => [(107, .int .i64 (z.1 : Int))]) []
      (fun z H' => z.1 ≤ A.length ∧ z.2.length = A.length ∧ (∀ i (h : i < A.length), i < z.1 → z.2.getD i false = goneB T (many + 1) (A[i]).1) ∧ hasH ((b1, .row 4 0 0 (bools z.2)) :: (n1 + 1, .row 60 0 0 [.slice (some ⟨gb, 0, some 0⟩) A.length cp]) :: (gb, .row 4 0 0 (bools G)) :: Z) n4 H')
      (fun z => A.length - z.1) (0, G) (by repeat' (first | exact .nil | refine .cons rfl ?_)) rfl ⟨Nat.zero_le _, hGl, fun i _ h => absurd h (Nat.not_lt_zero _), hH13⟩ ?_
    clear hH12 hH13 hcS hSB3
    rintro ⟨i, nx⟩ H14 ⟨hi, hnl, hnx, hH14⟩
    simp only at hi hnl hnx hH14
    have hcS := hgS [(b1, .row 4 0 0 (bools nx))]
    have hSB3 : Sl ((b1, Ch.row 4 0 0 (bools nx)) :: (n1 + 1, .row 60 0 0 [.slice (some ⟨gb, 0, some 0⟩) A.length cp]) :: (gb, .row 4 0 0 (bools G)) :: Z) 1 vb ws := hSB.cons.cons.cons
    replace hcS : Sl ((b1, Ch.row 4 0 0 (bools nx)) :: (n1 + 1, .row 60 0 0 [.slice (some ⟨gb, 0, some 0⟩) A.length cp]) :: (gb, .row 4 0 0 (bools G)) :: Z) 1 (.slice (some ⟨gb, 0, some 0⟩) A.length cp) (bools G) := hcS
    dsimp only [List.cons_append, List.nil_append]
    repeat' (first | refine zP ?_ | refine zA ?_ | (refine zM ?_; intro _ _) | refine zX ?_ | (refine zC ?_; intro _ _ _ _) | (refine zS ?_; intro _ _) | (apply Ws <;> intro hg))
    refine WC.condP rfl (fun hlt => ?_) (fun hlt => ?_)
    · have hi' : i < A.length := by omega
      have hib : i < B.length := by omega
      have hiw : i < ws.length := by omega
      have hSr : Sl ((b1, Ch.row 4 0 0 (bools nx)) :: (n1 + 1, .row 60 0 0 [.slice (some ⟨gb, 0, some 0⟩) A.length cp]) :: (gb, .row 4 0 0 (bools G)) :: Z) 1 (ws.getD i undef) (ints (B.getD i [])) := (hRB.2 i hib).cons.cons.cons
      have hr1 := hSr.one_
      repeat' (first | refine zP ?_ | refine zA ?_ | (refine zM ?_; intro _ _) | refine zX ?_ | (refine zC ?_; intro _ _ _ _) | (refine zS ?_; intro _ _) | (apply Ws <;> intro hg))
      have hle4 : (B.getD i []).length ≤ 4 := hB4 _ (getD_mem hib)
      refine WR.call (by first | exact gN | exact gS rfl) rfl rfl (ContainsFunc_fs (P := fun c => !(G.getD c.toNat false)) (g := 77) (vb := [.pointer (some ⟨n1 + 1, 0, some 0⟩)]) hH14 hSr (by omega) (fun c hc => there_fs hH14 (.tail _ (.head _)) hcS (by
        obtain ⟨q, j, hq, rfl, _⟩ := (hB i hi' hib).sound c hc
        omega))) ?_
      rintro _ _ ⟨rfl, rfl⟩
      have hnext := gone_next hB hG hi' hib
      generalize (B.getD i []).any (fun c => !(G.getD c.toNat false)) = an at hnext ⊢
      repeat' (first | refine zP ?_ | refine zA ?_ | (refine zM ?_; intro _ _) | refine zX ?_ | (refine zC ?_; intro _ _ _ _) | (refine zS ?_; intro _ _) | (apply Ws <;> intro hg))
      rename_i H15 hH15
      rw [hnext] at hH15
      refine Ends.loop (i + 1, nx.set i (goneB T (many + 1) (A[i]).1)) (by simp only; omega) (by repeat' (first | exact .nil | refine .cons rfl ?_)) rfl ⟨hi', by simp [hnl], fun j hj hji => ?_, hH15⟩
      show (nx.set i (goneB T (many + 1) (A[i]).1)).getD j false = _
      rw [getD_set' (by omega)]
      by_cases e : j = i
      · subst e; rw [if_pos rfl]
      · rw [if_neg e]; exact hnx j hj (by simp only at hji; omega)
    · have hin : i = A.length := by omega
      subst hin
      have hG2 : GoneR T A (many + 1) nx := ⟨hnl, fun j hj => hnx j hj hj⟩
      have hn0 := hG2.2 0 h0
      rw [hA0] at hn0
      have hbS : Sl ((b1, Ch.row 4 0 0 (bools nx)) :: (n1 + 1, .row 60 0 0 [.slice (some ⟨gb, 0, some 0⟩) A.length cp]) :: (gb, .row 4 0 0 (bools G)) :: Z) 1 (.slice (some ⟨b1, 0, some 0⟩) G.length (2 * 1)) (bools nx) :=
        .row (lo := 0) (cs := bools nx) (.head _) (.row _ _ _ _) (Nat.zero_le _) (by simp [hnl, hGl]) (by rw [Nat.sub_zero, List.drop_zero, List.take_length]) (by simp) (.inl (.inl rfl))
      have hnl0 : 0 < nx.length := by omega
      repeat' (first | refine zP ?_ | refine zA ?_ | (refine zM ?_; intro _ _) | refine zX ?_ | (refine zC ?_; intro _ _ _ _) | (refine zS ?_; intro _ _) | (apply Ws <;> intro hg))
      rw [hn0]
      cases hg0 : goneB T (many + 1) (startS T) with
      | true =>
        repeat' (first | refine zP ?_ | refine zA ?_ | (refine zM ?_; intro _ _) | refine zX ?_ | (refine zC ?_; intro _ _ _ _) | (refine zS ?_; intro _ _) | (apply Ws <;> intro hg))
        exact Ends.ret1 rfl ⟨many, n4, rfl, .inr ⟨many, rfl, hcan, goneB_true.1 hg0⟩, by omega, hH14.sub ((hZM.cons _).cons _ |>.cons _)⟩
      | false =>
        repeat' (first | refine zP ?_ | refine zA ?_ | (refine zM ?_; intro _ _) | refine zX ?_ | (refine zC ?_; intro _ _ _ _) | (refine zS ?_; intro _ _) | (apply Ws <;> intro hg))
        refine WR.call (by first | exact gN | exact gS rfl) rfl rfl (EqualB_fs hH14 hbS hcS (by omega) (by omega)) ?_
        rintro _ _ ⟨rfl, rfl⟩
        by_cases he : nx = G
        · rw [decide_eq_true he]
          repeat' (first | refine zP ?_ | refine zA ?_ | (refine zM ?_; intro _ _) | refine zX ?_ | (refine zC ?_; intro _ _ _ _) | (refine zS ?_; intro _ _) | (apply Ws <;> intro hg))
          refine Ends.ret1 rfl ⟨-1, n4, rfl, .inl ⟨rfl, gone_stop hA hB hBA (fun j hj => ?_) hcan⟩, by omega, hH14.sub ((hZM.cons _).cons _ |>.cons _)⟩
          rw [← hG2.2 j hj, ← hG.2 j hj, he]
        · rw [decide_eq_false he]
          have hlt0 : many ≠ k0 := fun e => he (ext_getD (a := false) (by omega) fun j hj => by
            have hj' : j < A.length := by omega
            rw [hG2.2 j hj', hG.2 j hj']
            cases hc : goneB T many (A[j]).1 with
            | true => exact goneB_true.2 fun h => goneB_true.1 hc (canS_less h)
            | false => exact goneB_false.2 (by rw [e]; exact hst _ (hA.ok j hj') (by rw [← e]; exact goneB_false.1 hc)))
          repeat' (first | refine zP ?_ | refine zA ?_ | (refine zM ?_; intro _ _) | refine zX ?_ | (refine zC ?_; intro _ _ _ _) | (refine zS ?_; intro _ _) | (apply Ws <;> intro hg))
          rename_i H15 hH15
          refine Ends.loop ⟨many + 1, b1, 2 * 1, nx, n4⟩ (by simp only; omega) (by repeat' (first | exact .nil | refine .cons rfl ?_)) rfl ⟨by simp only; omega, goneB_false.1 hg0, hG2, .inl rfl, by simp only; omega, ?_⟩
          have := hH15.swap
          rw [hGl] at this
          exact this.sub (.cons_cons _ (.cons_cons _ (List.sublist_cons_self _ _)))
end
end Go.Proofs.Ytnmlfjohoeebiaa.Wk

/- The law WalkEven. -/
namespace Go.Proofs.Ytnmlfjohoeebiaa.Wk
open Go Go.Abs Go.Mth
set_option linter.unusedVariables false
set_option linter.unusedSimpArgs false
def evF (r y : Nat) : Nat := if 4 < r then [1, 2, 6, 6].getD (y % 4) 0 else if r = 4 then [1, 3, 3, 6].getD (y % 4) 0 else 2 ^ (y % 4)
def evT (r : Nat) (ys : List Nat) (n : Nat) : List Nat := (List.range n).map fun i => evF r (ys.getD i 0)
attribute [local irreducible] gOK WS WC WR WD Ends FS YS OpV seqK blockK loopK midK retK rdK asgK rangeEnd sat Cell
section
variable {M : HL} {n0 : Nat} {H : Heap} {v w : Value}
end
end Go.Proofs.Ytnmlfjohoeebiaa.Wk

/- The law WalkWalked. -/
namespace Go.Proofs.Ytnmlfjohoeebiaa.Wk
open Go Go.Abs Go.Mth
set_option linter.unusedVariables false
set_option linter.unusedSimpArgs false
def modF (N y : Nat) : Nat := y % N
theorem made_ok {ys : List Nat} {most n : Nat} (hn : n ≤ 4) (ho : 1 ≤ most ∧ most ≤ 8) : TOK (firstT (madeF most) ys n) :=
  firstT_ok hn fun y => by
    have := Nat.mod_lt y (show 0 < most by omega)
    unfold madeF; omega
attribute [local irreducible] gOK WS WC WR WD Ends FS YS OpV seqK blockK loopK midK retK rdK asgK rangeEnd sat Cell
section
variable {M : HL} {n0 : Nat} {H : Heap} {v w : Value}
end
end Go.Proofs.Ytnmlfjohoeebiaa.Wk

/- The law WalkForever. -/
namespace Go.Proofs.Ytnmlfjohoeebiaa.Wk
open Go Go.Abs Go.Mth
set_option linter.unusedVariables false
set_option linter.unusedSimpArgs false
attribute [local irreducible] gOK WS WC WR WD Ends FS YS OpV seqK blockK loopK midK retK rdK asgK rangeEnd sat Cell
section
variable {M : HL} {n0 : Nat} {H : Heap} {v w : Value}
set_option maxHeartbeats 1000000 in
theorem WalkForever_fs (hH : hasH M n0 H) {a b c : Int} {hs : List Int} (ha : 0 ≤ a ∧ a ≤ 255) (hb : 0 ≤ b ∧ b ≤ 255) (hc : 0 ≤ c ∧ c ≤ 255) (hl : hs.length = 2) (hu : ∀ x ∈ hs, 0 ≤ x ∧ x ≤ 255) :
    FS C 8 [.agg (trayV a b c hs).toArray] H (fun e H' => e = .bool true) := by
  obtain ⟨x, ys, hE, hx, hyl, hy⟩ := tray_beach ha hb hc hl hu
  rw [hE]
  clear hE ha hb hc hl hu
  have hone := beach_one x ys
  have hbl : (beachC x ys).length = 5 := by simp [beachC, hyl]
  refine FS.intro (pf := pf8) rfl rfl rfl ?_
  repeat' (first | refine zP ?_ | refine zA ?_ | (refine zM ?_; intro _ _) | refine zX ?_ | (refine zC ?_; intro _ _ _ _) | (refine zS ?_; intro _ _) | (apply Ws <;> intro hg))
  rename_i H1 hH1
  refine WR.call (by first | exact gN | exact gS rfl) rfl rfl (made_fs (many := 3) (most := 6) hH1 hx hyl hy (by omega) (by omega)) ?_
  rintro tv H2 ⟨MT, n2, hOT, hn2, hH2⟩
  have hST := hOT.sl ((n0, .row 45 0 0 (beachC x ys)) :: M)
  clear hOT hH1
  generalize MT ++ ((n0, .row 45 0 0 (beachC x ys)) :: M) = T0 at hH2 hST
  obtain ⟨N, hN⟩ : ∃ N, 1 + x % 3 = N := ⟨_, rfl⟩
  have hN4 : 1 ≤ N ∧ N ≤ 3 := by omega
  rw [hN] at hST
  have hTok := made_ok (ys := ys) (most := 6) (n := N) (by omega) (by omega)
  have hTl : (firstT (madeF 6) ys N).length = N := firstT_len _ _ _
  generalize firstT (madeF 6) ys N = T at hST hTok hTl
  have hE := errT_of hTok (by omega)
  repeat' (first | refine zP ?_ | refine zA ?_ | (refine zM ?_; intro _ _) | refine zX ?_ | (refine zC ?_; intro _ _ _ _) | (refine zS ?_; intro _ _) | (apply Ws <;> intro hg))
  refine WR.call (by first | exact gN | exact gS rfl) rfl rfl (longest_fs hH2 hST hTok (by omega)) ?_
  rintro _ H3 ⟨r, n3, rfl, hr, hn3, hH3⟩
  repeat' (first | refine zP ?_ | refine zA ?_ | (refine zM ?_; intro _ _) | refine zX ?_ | (refine zC ?_; intro _ _ _ _) | (refine zS ?_; intro _ _) | (apply Ws <;> intro hg))
  refine WR.call (by first | exact gN | exact gS rfl) rfl rfl (Can_fs hH3 hST (by omega)) ?_
  rintro _ H4 ⟨n4, hn4, hH4, rfl⟩
  repeat' (first | refine zP ?_ | refine zA ?_ | (refine zM ?_; intro _ _) | refine zX ?_ | (refine zC ?_; intro _ _ _ _) | (refine zS ?_; intro _ _) | (apply Ws <;> intro hg))
  refine WR.call (by first | exact gN | exact gS rfl) rfl rfl (Longest_fs hH4 hST (by omega)) ?_
  rintro _ H5 ⟨n5, q, e5, hn5, hH5, rfl, hq⟩
  have hlow := hr.low
  rw [hE, ← hr.everB]
  rcases hr with ⟨rfl, he⟩ | ⟨p, rfl, hp1, hp2⟩
  · rcases hq with ⟨h, _⟩ | ⟨_, _, rfl, rfl⟩ | ⟨_, _, m, rfl, _, hm1, hm2⟩
    · omega
    · repeat' (first | refine zP ?_ | refine zA ?_ | (refine zM ?_; intro _ _) | refine zX ?_ | (refine zC ?_; intro _ _ _ _) | (refine zS ?_; intro _ _) | refine zO ?_ | (apply Ws <;> intro hg))
      refine WR.op (by first | exact gN | exact gS rfl) rfl (OpV.neB (neqB _ _) rfl rfl) ?_
      rw [show ((decide ((0 : Int) = 0) && decide ((-1 : Int) = -1)) != decide ((-1 : Int) < 0)) = false by decide]
      repeat' (first | refine zP ?_ | refine zA ?_ | (refine zM ?_; intro _ _) | refine zX ?_ | (refine zC ?_; intro _ _ _ _) | (refine zS ?_; intro _ _) | refine zO ?_ | (apply Ws <;> intro hg))
      refine WR.call (by first | exact gN | exact gS rfl) rfl rfl (FS.works (C := C) (R := fun v H' => v = .bool true) rfl) ?_
      rintro _ _ rfl
      repeat' (first | refine zP ?_ | refine zA ?_ | (refine zM ?_; intro _ _) | refine zX ?_ | (refine zC ?_; intro _ _ _ _) | (refine zS ?_; intro _ _) | (apply Ws <;> intro hg))
      exact Ends.ret1 rfl rfl
    · exact absurd (he _) hm2
  · rcases hq with ⟨h, _⟩ | ⟨_, h, _, _⟩ | ⟨_, rfl, m, rfl, _, hm1, hm2⟩
    · omega
    · exact absurd (h _) hp2
    · have hpm := (show MoreR T (startS T) (p : Int) from .inr ⟨p, rfl, hp1, hp2⟩).one (.inr ⟨m, rfl, hm1, hm2⟩)
      repeat' (first | refine zP ?_ | refine zA ?_ | (refine zM ?_; intro _ _) | refine zX ?_ | (refine zC ?_; intro _ _ _ _) | (refine zS ?_; intro _ _) | refine zO ?_ | (apply Ws <;> intro hg))
      refine WR.op (by first | exact gN | exact gS rfl) rfl (OpV.neB (neqB _ _) rfl rfl) ?_
      rw [show ((decide ((0 : Int) = 0) && decide ((p : Int) = -1)) != decide ((p : Int) < 0)) = false by
        rw [decide_eq_false (show ¬ (p : Int) = -1 by omega), decide_eq_false (show ¬ (p : Int) < 0 by omega)]; rfl]
      repeat' (first | refine zP ?_ | refine zA ?_ | (refine zM ?_; intro _ _) | refine zX ?_ | (refine zC ?_; intro _ _ _ _) | (refine zS ?_; intro _ _) | refine zO ?_ | (apply Ws <;> intro hg))
      refine WR.call (by first | exact gN | exact gS rfl) rfl rfl (FS.works (C := C) (R := fun v H' => v = .bool true) rfl) ?_
      rintro _ _ rfl
      repeat' (first | refine zP ?_ | refine zA ?_ | (refine zM ?_; intro _ _) | refine zX ?_ | (refine zC ?_; intro _ _ _ _) | (refine zS ?_; intro _ _) | (apply Ws <;> intro hg))
      exact Ends.ret1 rfl rfl
end
end Go.Proofs.Ytnmlfjohoeebiaa.Wk
