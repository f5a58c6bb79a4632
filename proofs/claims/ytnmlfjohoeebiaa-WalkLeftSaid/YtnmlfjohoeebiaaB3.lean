/- The reference's Goes and Meets; the law WalkLeft. -/
import Derived.Test.YtnmlfjohoeebiaaJ3
namespace Go.Proofs.Ytnmlfjohoeebiaa.Wk
open Go Go.Abs Go.Mth
set_option linter.unusedVariables false
set_option linter.unusedSimpArgs false
theorem go_ever {T : List Int} : ∀ {W a s : List Int}, (∀ x ∈ W, 0 ≤ x ∧ x < (T.length : Int)) → goS T a W = some s → everS T s → everS T a
  | [], a, s, _, h, he => by cases h; exact he
  | x :: W, a, s, hw, h, he => by
    simp only [goS] at h
    split at h
    · rename_i hg
      have hx := hw x (by simp)
      exact ever_step ⟨x.toNat, by omega, rfl, hg⟩ (go_ever (fun y hy => hw y (by simp [hy])) h he)
    · cases h
theorem rep_snoc (P : List Int) (m : Nat) : repI P (m + 1) = repI P m ++ P := by simp [repI, List.replicate_succ']
attribute [local irreducible] gOK WS WC WR WD Ends FS YS OpV seqK blockK loopK midK retK rdK asgK rangeEnd sat Cell
section
variable {M : HL} {n0 : Nat} {H : Heap} {v w : Value}
theorem GoesR_fs (hH : hasH M n0 H) {T : List Int} (hS : Sl M 1 v (ints T)) (hTl : T.length ≤ 1000) {W : List Int} (hW : Sl M 1 w (ints W)) (hwl : W.length ≤ 1000) :
    FS C 28 [v, w] H (fun e H' => ∃ g n', e = .tuple #[.bool g, .int .i64 (leftE T W)] ∧ n0 ≤ n' ∧ hasH M n' H' ∧ ((leftE T W ≠ 0 ∧ g = false) ∨ (leftE T W = 0 ∧ ∃ s, goS T (startS T) W = some s ∧ g = everB T s))) := by
  refine FS.intro (pf := pf28) rfl rfl rfl ?_
  repeat' (first | refine zP ?_ | refine zA ?_ | (refine zM ?_; intro _ _) | refine zX ?_ | (refine zC ?_; intro _ _ _ _) | (refine zS ?_; intro _ _) | (apply Ws <;> intro hg))
  refine WR.call (by first | exact gN | exact gS rfl) rfl rfl (LeftR_fs hH hS hTl hW hwl) ?_
  rintro _ H1 ⟨u, xs, Mx, n1, rfl, hO, hn1, hH1, hc⟩
  have hMs : M.Sublist (Mx ++ M) := List.sublist_append_right _ _
  rcases hc with ⟨h0, rfl⟩ | ⟨h0, s, hgo, rfl⟩
  · repeat' (first | refine zP ?_ | refine zA ?_ | (refine zM ?_; intro _ _) | refine zX ?_ | (refine zC ?_; intro _ _ _ _) | (refine zS ?_; intro _ _) | refine zO ?_ | (apply Ws <;> intro hg))
    exact Ends.ret2 rfl rfl ⟨false, n1, rfl, hn1, hH1.sub hMs, .inl ⟨h0, rfl⟩⟩
  · have hE : errT T = 0 ∧ walkE T.length W = 0 := by
      unfold leftE at h0
      by_cases a : errT T = 0
      · rw [if_neg (by omega)] at h0
        by_cases b : walkE T.length W = 0
        · exact ⟨a, b⟩
        · rw [if_pos b] at h0; exact absurd h0 b
      · rw [if_pos a] at h0; exact absurd h0 a
    obtain ⟨hT, h1⟩ := errT_ok hE.1
    have hwk := walkE_ok.1 hE.2
    have hs := goS_ok hT (start_ok hT) hwk.2 hgo
    obtain ⟨l, hl, rfl⟩ := sok_lok hT hs
    rw [take_pad hl] at hO
    have hST : Sl (Mx ++ M) 1 v (ints T) := hS.mono fun q hq => List.mem_append_right _ hq
    have hSu := hO.sl M
    generalize Mx ++ M = X at hH1 hST hSu hMs
    rw [h0]
    repeat' (first | refine zP ?_ | refine zA ?_ | (refine zM ?_; intro _ _) | refine zX ?_ | (refine zC ?_; intro _ _ _ _) | (refine zS ?_; intro _ _) | refine zO ?_ | (apply Ws <;> intro hg))
    refine WR.call (by first | exact gN | exact gS rfl) rfl rfl (canRef_fs hH1 hST hT h1) ?_
    rintro _ H2 ⟨n2, rfl, hn2, hH2⟩
    cases hev : everB T (startS T) with
    | false =>
      have : everB T (startS l) = false := everB_false fun h => by
        rw [everB_true.2 (go_ever hwk.2 hgo h)] at hev; cases hev
      repeat' (first | refine zP ?_ | refine zA ?_ | (refine zM ?_; intro _ _) | refine zX ?_ | (refine zC ?_; intro _ _ _ _) | (refine zS ?_; intro _ _) | (apply Ws <;> intro hg))
      exact Ends.ret2 rfl rfl ⟨false, n2, rfl, by omega, hH2.sub hMs, .inr ⟨rfl, _, hgo, this.symm⟩⟩
    | true =>
      repeat' (first | refine zP ?_ | refine zA ?_ | (refine zM ?_; intro _ _) | refine zX ?_ | (refine zC ?_; intro _ _ _ _) | (refine zS ?_; intro _ _) | (apply Ws <;> intro hg))
      refine WR.call (by first | exact gN | exact gS rfl) rfl rfl (alive_fs hH2 hST hT h1) ?_
      rintro _ H3 ⟨gb, k, r, n3, rfl, hr, hst, hn3, hH3⟩
      have hr1 := hr.ever.2 (everB_true.1 hev)
      have hlx := livL_idx (k := k) hT hl
      have hixx := idxK_lt hT hl T.length (Nat.le_refl _)
      have hLl := livL_len T k
      have hsl := stK_len (T := T) T.length
      have hlv : livB T k l = everB T (startS l) := by
        rw [Bool.eq_iff_iff, livB_true, everB_true]
        exact ⟨fun h => hst hr1 _ (hl.sok hT) h, fun h => h k⟩
      repeat' (first | refine zP ?_ | refine zA ?_ | (refine zM ?_; intro _ _) | refine zX ?_ | (refine zC ?_; intro _ _ _ _) | (refine zS ?_; intro _ _) | (apply Ws <;> intro hg))
      refine WR.call (by first | exact gN | exact gS rfl) rfl rfl (index_fs hH3 hST.cons hT hSu.cons hl) ?_
      rintro _ _ ⟨rfl, rfl⟩
      generalize idxK T l T.length = ix at hlx hixx ⊢
      repeat' (first | refine zP ?_ | refine zA ?_ | (refine zM ?_; intro _ _) | refine zX ?_ | (refine zC ?_; intro _ _ _ _) | (refine zS ?_; intro _ _) | (apply Ws <;> intro hg))
      rw [hlx, hlv]
      exact Ends.ret2 rfl rfl ⟨_, n3, rfl, by omega, hH3.tail.sub hMs, .inr ⟨rfl, _, hgo, rfl⟩⟩
theorem MeetsR_fs (hH : hasH M n0 H) {T : List Int} (hS : Sl M 1 v (ints T)) (hTl : T.length ≤ 1000) {P : List Int} (hW : Sl M 1 w (ints P)) (hwl : P.length ≤ 1000) :
    FS C 31 [v, w] H (fun e H' => ∃ n', n0 ≤ n' ∧ hasH M n' H' ∧ e = .int .i64 (meetE T P)) := by
  refine FS.intro (pf := pf31) rfl rfl rfl ?_
  repeat' (first | refine zP ?_ | refine zA ?_ | (refine zM ?_; intro _ _) | refine zX ?_ | (refine zC ?_; intro _ _ _ _) | (refine zS ?_; intro _ _) | (apply Ws <;> intro hg))
  refine WR.call (by first | exact gN | exact gS rfl) rfl rfl (CheckR_fs hH hS hTl) ?_
  rintro _ H1 ⟨rfl, rfl⟩
  by_cases h0 : errT T = 0
  · obtain ⟨hT, h1⟩ := errT_ok h0
    by_cases hp0 : P.length = 0
    · have hE : meetE T P = 4 := by unfold meetE; rw [if_neg (by omega), if_pos hp0]
      repeat' (first | refine zP ?_ | refine zA ?_ | (refine zM ?_; intro _ _) | refine zX ?_ | (refine zC ?_; intro _ _ _ _) | (refine zS ?_; intro _ _) | refine zO ?_ | (apply Ws <;> intro hg))
      exact Ends.ret1 rfl ⟨n0, Nat.le_refl _, hH, by rw [hE]⟩
    · have hTE : toldE T P = walkE T.length P := by unfold toldE; rw [if_neg (by omega)]
      repeat' (first | refine zP ?_ | refine zA ?_ | (refine zM ?_; intro _ _) | refine zX ?_ | (refine zC ?_; intro _ _ _ _) | (refine zS ?_; intro _ _) | refine zO ?_ | (apply Ws <;> intro hg))
      refine WR.call (by first | exact gN | exact gS rfl) rfl rfl (told_fs hH hS hTl hW hwl) ?_
      rintro _ H2 ⟨rfl, rfl⟩
      rw [hTE]
      by_cases h2 : walkE T.length P = 0
      · have hwk := walkE_ok.1 h2
        have hME : meetE T P = if goodB T (repI P 9) = true then 0 else 14 := by unfold meetE; rw [if_neg (by omega), if_neg hp0, if_neg (by omega)]
        have hne : ints P ≠ [] := fun h => by have h9 := congrArg List.length h; rw [List.length_map, List.length_nil] at h9; omega
        rw [h2]
        repeat' (first | refine zP ?_ | refine zA ?_ | (refine zM ?_; intro _ _) | refine zX ?_ | (refine zC ?_; intro _ _ _ _) | (refine zS ?_; intro _ _) | refine zO ?_ | (apply Ws <;> intro hg))
        refine WC.loopX [(0, v), (1, w)] (fun z : FV => [(6, z.v), (7, .int .i64 (z.k : Int))]) []
          (fun z H' => z.k ≤ 9 ∧ n0 ≤ z.n ∧ Own 3 1 z.v (ints (repI P z.k)) z.Mx ∧ hasH (z.Mx ++ M) z.n H') (fun z => 9 - z.k) ⟨0, .slice none 0 0, [], n0⟩ (by repeat' (first | exact .nil | refine .cons rfl ?_)) rfl ⟨Nat.zero_le _, Nat.le_refl _, .nil, hH⟩ ?_
        clear hH
        rintro ⟨k, ov, Mx, n1⟩ H3 ⟨hk, hn1, hO, hH3⟩
        simp only at hk hn1 hO hH3
        have hrl := repI_len P k
        have hkp : k * P.length ≤ 9 * 60 := Nat.mul_le_mul hk hwk.1
        have hST : Sl (Mx ++ M) 1 v (ints T) := hS.mono fun q hq => List.mem_append_right _ hq
        have hSW : Sl (Mx ++ M) 1 w (ints P) := hW.mono fun q hq => List.mem_append_right _ hq
        obtain ⟨hks, hsr⟩ := hSW.src hH3 hne
        rw [show (ints P).length = P.length by simp] at hks
        dsimp only [List.cons_append, List.nil_append]
        repeat' (first | refine zP ?_ | refine zA ?_ | (refine zM ?_; intro _ _) | refine zX ?_ | (refine zC ?_; intro _ _ _ _) | (refine zS ?_; intro _ _) | (apply Ws <;> intro hg))
        refine WC.condP rfl (fun hlt => ?_) (fun hlt => ?_)
        · repeat' (first | refine zP ?_ | refine zA ?_ | (refine zM ?_; intro _ _) | refine zX ?_ | (refine zC ?_; intro _ _ _ _) | (refine zS ?_; intro _ _) | (apply Ws <;> intro hg))
          refine WR.append (M' := Mx ++ M) (M0 := M) (k := P.length) (new := ints P) (by first | exact gN | exact gS rfl) rfl rfl rfl hO hH3 (List.Sublist.refl _) (List.Perm.refl _) hks (by have := hsr _ (Nat.le_refl _); rw [List.take_length, show (ints P).length = P.length by simp] at this; exact this) (by simp) (by omega) (ints_one _) (by omega) (by omega) (by simp; omega) fun v3 M3 n3 H5 hO3 hH5 hn3 => ?_
          repeat' (first | refine zP ?_ | refine zA ?_ | (refine zM ?_; intro _ _) | refine zX ?_ | (refine zC ?_; intro _ _ _ _) | (refine zS ?_; intro _ _) | (apply Ws <;> intro hg))
          refine Ends.loop ⟨k + 1, v3, M3, n3⟩ (by simp only; omega) (by repeat' (first | exact .nil | refine .cons rfl ?_)) rfl ⟨by simp only; omega, by simp only; omega, ?_, hH5⟩
          show Own _ 1 v3 (ints (repI P (k + 1))) M3
          rw [rep_snoc, ints, List.map_append]; exact hO3
        · have hk9 : k = 9 := by omega
          subst hk9
          have hSR := hO.sl M
          repeat' (first | refine zP ?_ | refine zA ?_ | (refine zM ?_; intro _ _) | refine zX ?_ | (refine zC ?_; intro _ _ _ _) | (refine zS ?_; intro _ _) | (apply Ws <;> intro hg))
          refine WR.call (by first | exact gN | exact gS rfl) rfl rfl (goodR_fs hH3 hST hT hSR (by omega)) ?_
          rintro _ _ ⟨rfl, rfl⟩
          have hMs : M.Sublist (Mx ++ M) := List.sublist_append_right _ _
          cases hgb : goodB T (repI P 9) with
          | true =>
            rw [hgb, if_pos rfl] at hME
            repeat' (first | refine zP ?_ | refine zA ?_ | (refine zM ?_; intro _ _) | refine zX ?_ | (refine zC ?_; intro _ _ _ _) | (refine zS ?_; intro _ _) | (apply Ws <;> intro hg))
            exact Ends.ret1 rfl ⟨n1, hn1, hH3.sub hMs, by rw [hME]⟩
          | false =>
            rw [hgb, if_neg (by simp)] at hME
            repeat' (first | refine zP ?_ | refine zA ?_ | (refine zM ?_; intro _ _) | refine zX ?_ | (refine zC ?_; intro _ _ _ _) | (refine zS ?_; intro _ _) | (apply Ws <;> intro hg))
            exact Ends.ret1 rfl ⟨n1, hn1, hH3.sub hMs, by rw [hME]⟩
      · have hE : meetE T P = walkE T.length P := by unfold meetE; rw [if_neg (by omega), if_neg hp0, if_pos h2]
        rw [hE]
        repeat' (first | refine zP ?_ | refine zA ?_ | (refine zM ?_; intro _ _) | refine zX ?_ | (refine zC ?_; intro _ _ _ _) | (refine zS ?_; intro _ _) | refine zO ?_ | (apply Ws <;> intro hg))
        exact Ends.ret1 rfl ⟨n0, Nat.le_refl _, hH, rfl⟩
  · have hE : meetE T P = errT T := by unfold meetE; rw [if_pos h0]
    rw [hE]
    repeat' (first | refine zP ?_ | refine zA ?_ | (refine zM ?_; intro _ _) | refine zX ?_ | (refine zC ?_; intro _ _ _ _) | (refine zS ?_; intro _ _) | refine zO ?_ | (apply Ws <;> intro hg))
    exact Ends.ret1 rfl ⟨n0, Nat.le_refl _, hH, rfl⟩
set_option maxHeartbeats 1000000 in
theorem WalkLeft_fs (hH : hasH M n0 H) {T W : List Int} (hS : Sl M 1 v (ints T)) (hU : Sl M 1 w (ints W)) :
    FS C 4 [v, w] H (fun e H' => e = .bool true) := by
  refine FS.intro (pf := pf4) rfl rfl rfl ?_
  by_cases hbig : 60 < T.length
  · repeat' (first | refine zP ?_ | refine zA ?_ | (refine zM ?_; intro _ _) | refine zX ?_ | (refine zC ?_; intro _ _ _ _) | (refine zS ?_; intro _ _) | refine zO ?_ | (apply Ws <;> intro hg))
    refine WR.call (by first | exact gN | exact gS rfl) rfl rfl (FS.works (C := C) (R := fun v H' => v = .bool true) rfl) ?_
    rintro _ _ rfl
    repeat' (first | refine zP ?_ | refine zA ?_ | (refine zM ?_; intro _ _) | refine zX ?_ | (refine zC ?_; intro _ _ _ _) | (refine zS ?_; intro _ _) | (apply Ws <;> intro hg))
    exact Ends.ret1 rfl rfl
  by_cases hbig2 : 100 < W.length
  · repeat' (first | refine zP ?_ | refine zA ?_ | (refine zM ?_; intro _ _) | refine zX ?_ | (refine zC ?_; intro _ _ _ _) | (refine zS ?_; intro _ _) | refine zO ?_ | (apply Ws <;> intro hg))
    refine WR.call (by first | exact gN | exact gS rfl) rfl rfl (FS.works (C := C) (R := fun v H' => v = .bool true) rfl) ?_
    rintro _ _ rfl
    repeat' (first | refine zP ?_ | refine zA ?_ | (refine zM ?_; intro _ _) | refine zX ?_ | (refine zC ?_; intro _ _ _ _) | (refine zS ?_; intro _ _) | (apply Ws <;> intro hg))
    exact Ends.ret1 rfl rfl
  have hl : T.length ≤ 1000 := by omega
  have hwl : W.length ≤ 1000 := by omega
  repeat' (first | refine zP ?_ | refine zA ?_ | (refine zM ?_; intro _ _) | refine zX ?_ | (refine zC ?_; intro _ _ _ _) | (refine zS ?_; intro _ _) | refine zO ?_ | (apply Ws <;> intro hg))
  refine WR.call (by first | exact gN | exact gS rfl) rfl rfl (Left_fs hH hS hl hU hwl) ?_
  rintro _ H1 ⟨u, xs, Mx, n1, rfl, hO1, hn1, hH1, hc1⟩
  have hS1 : Sl (Mx ++ M) 1 v (ints T) := hS.mono fun q hq => List.mem_append_right _ hq
  have hU1 : Sl (Mx ++ M) 1 w (ints W) := hU.mono fun q hq => List.mem_append_right _ hq
  have hu1 := hO1.sl M
  generalize Mx ++ M = X1 at hH1 hS1 hU1 hu1
  repeat' (first | refine zP ?_ | refine zA ?_ | (refine zM ?_; intro _ _) | refine zX ?_ | (refine zC ?_; intro _ _ _ _) | (refine zS ?_; intro _ _) | (apply Ws <;> intro hg))
  refine WR.call (by first | exact gN | exact gS rfl) rfl rfl (LeftR_fs hH1 hS1 hl hU1 hwl) ?_
  rintro _ H2 ⟨u2, ys, My, n2, rfl, hO2, hn2, hH2, hc2⟩
  have hS2 : Sl (My ++ X1) 1 v (ints T) := hS1.mono fun q hq => List.mem_append_right _ hq
  have hU2 : Sl (My ++ X1) 1 w (ints W) := hU1.mono fun q hq => List.mem_append_right _ hq
  have hu12 : Sl (My ++ X1) 1 u (ints xs) := hu1.mono fun q hq => List.mem_append_right _ hq
  have hu2 := hO2.sl X1
  generalize My ++ X1 = X2 at hH2 hS2 hU2 hu12 hu2
  have hxy : xs = ys := by
    rcases hc1 with ⟨_, rfl⟩ | ⟨h, s, h2, rfl⟩ <;> rcases hc2 with ⟨k, rfl⟩ | ⟨k, t, k2, rfl⟩
    · rfl
    · omega
    · omega
    · rw [h2] at k2; cases k2; rfl
  have hxl : xs.length ≤ 60 := by
    rcases hc1 with ⟨_, rfl⟩ | ⟨h, s, h2, rfl⟩
    · simp
    · rw [List.length_take]; omega
  subst hxy
  repeat' (first | refine zP ?_ | refine zA ?_ | (refine zM ?_; intro _ _) | refine zX ?_ | (refine zC ?_; intro _ _ _ _) | (refine zS ?_; intro _ _) | (apply Ws <;> intro hg))
  refine WR.call (by first | exact gN | exact gS rfl) rfl rfl (Goes_fs hH2 hS2 hl hU2 hwl) ?_
  rintro _ H3 ⟨g, n3, rfl, hn3, hH3, hg1⟩
  repeat' (first | refine zP ?_ | refine zA ?_ | (refine zM ?_; intro _ _) | refine zX ?_ | (refine zC ?_; intro _ _ _ _) | (refine zS ?_; intro _ _) | (apply Ws <;> intro hg))
  refine WR.call (by first | exact gN | exact gS rfl) rfl rfl (GoesR_fs hH3 hS2 hl hU2 hwl) ?_
  rintro _ H4 ⟨g2, n4, rfl, hn4, hH4, hg2⟩
  have hgg : g = g2 := by
    rcases hg1 with ⟨_, rfl⟩ | ⟨h, s, h2, rfl⟩ <;> rcases hg2 with ⟨k, rfl⟩ | ⟨k, t, k2, rfl⟩
    · rfl
    · omega
    · omega
    · rw [h2] at k2; cases k2; rfl
  subst hgg
  repeat' (first | refine zP ?_ | refine zA ?_ | (refine zM ?_; intro _ _) | refine zX ?_ | (refine zC ?_; intro _ _ _ _) | (refine zS ?_; intro _ _) | (apply Ws <;> intro hg))
  refine WR.call (by first | exact gN | exact gS rfl) rfl rfl (same_fs hH4 hu12 hu2 (by omega) (by omega)) ?_
  rintro _ _ ⟨rfl, rfl⟩
  rw [decide_eq_true rfl]
  repeat' (first | refine zP ?_ | refine zA ?_ | (refine zM ?_; intro _ _) | refine zX ?_ | (refine zC ?_; intro _ _ _ _) | (refine zS ?_; intro _ _) | refine zO ?_ | (apply Ws <;> intro hg))
  refine WR.op (by first | exact gN | exact gS rfl) rfl (OpV.eqB (eqB _ _) rfl rfl) ?_
  rw [beq_self_eq_true]
  repeat' (first | refine zP ?_ | refine zA ?_ | (refine zM ?_; intro _ _) | refine zX ?_ | (refine zC ?_; intro _ _ _ _) | (refine zS ?_; intro _ _) | refine zO ?_ | (apply Ws <;> intro hg))
  refine WR.call (by first | exact gN | exact gS rfl) rfl rfl (Meets_fs hH4 hS2 hl hU2 hwl) ?_
  rintro _ H5 ⟨n5, hn5, hH5, rfl⟩
  repeat' (first | refine zP ?_ | refine zA ?_ | (refine zM ?_; intro _ _) | refine zX ?_ | (refine zC ?_; intro _ _ _ _) | (refine zS ?_; intro _ _) | refine zO ?_ | (apply Ws <;> intro hg))
  refine WR.call (by first | exact gN | exact gS rfl) rfl rfl (MeetsR_fs hH5 hS2 hl hU2 hwl) ?_
  rintro _ H6 ⟨n6, hn6, hH6, rfl⟩
  repeat' (first | refine zP ?_ | refine zA ?_ | (refine zM ?_; intro _ _) | refine zX ?_ | (refine zC ?_; intro _ _ _ _) | (refine zS ?_; intro _ _) | refine zO ?_ | (apply Ws <;> intro hg))
  refine WR.call (by first | exact gN | exact gS rfl) rfl rfl (FS.works (C := C) (R := fun v H' => v = .bool true) rfl) ?_
  rintro _ _ rfl
  repeat' (first | refine zP ?_ | refine zA ?_ | (refine zM ?_; intro _ _) | refine zX ?_ | (refine zC ?_; intro _ _ _ _) | (refine zS ?_; intro _ _) | (apply Ws <;> intro hg))
  exact Ends.ret1 rfl rfl
end
end Go.Proofs.Ytnmlfjohoeebiaa.Wk
