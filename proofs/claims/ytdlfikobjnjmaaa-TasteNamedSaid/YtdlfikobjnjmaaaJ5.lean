/- Texts of the law, joined. -/
import Derived.Test.YtdlfikobjnjmaaaJ4
/- Clone of ints; ints and sales the other way round. -/
namespace Go.Proofs.Ytdlfikobjnjmaaa.Tt
open Go Go.Abs Go.Mth
set_option linter.unusedVariables false
set_option linter.unusedSimpArgs false
theorem cells_take' : ∀ (i : Nat) (ws : List (Value × Value)), (cellsF pairV ws).take (i * 2) = cellsF pairV (ws.take i)
  | 0, ws => by simp [cellsF]
  | i + 1, [] => by simp [cellsF]
  | i + 1, w :: ws => by
    have ih := cells_take' i ws
    unfold cellsF at ih ⊢
    rw [List.take_succ_cons, List.map_cons, List.map_cons, List.flatten_cons, List.flatten_cons, ← ih]
    rw [show (i + 1) * 2 = i * 2 + 1 + 1 by omega]
    rfl
theorem cells_drop' : ∀ (i : Nat) (ws : List (Value × Value)), (cellsF pairV ws).drop (i * 2) = cellsF pairV (ws.drop i)
  | 0, ws => by simp
  | i + 1, [] => by simp [cellsF]
  | i + 1, w :: ws => by
    have ih := cells_drop' i ws
    unfold cellsF at ih ⊢
    rw [List.drop_succ_cons, List.map_cons, List.flatten_cons, ← ih]
    rw [show (i + 1) * 2 = i * 2 + 1 + 1 by omega]
    rfl
theorem cells_at' {ws : List (Value × Value)} {j : Nat} (h : j < ws.length) : ((cellsF pairV ws).drop (j * 2)).take 2 = [(ws.getD j noVal).1, (ws.getD j noVal).2] := by
  rw [cells_drop', List.drop_eq_getElem_cons h, getD_eq h]
  rfl
theorem cells_set {ws : List (Value × Value)} {k : Nat} {w : Value × Value} (h : k < ws.length) : cellsF pairV (ws.set k w) = splice (cellsF pairV ws) (k * 2) [w.1, w.2] := by
  unfold splice
  rw [List.set_eq_take_append_cons_drop, if_pos h, show k * 2 + [w.1, w.2].length = (k + 1) * 2 by simp; omega, cells_take', cells_drop']
  simp [cellsF, pairV]
attribute [local irreducible] gOK WS WC WR WD Ends FS YS OpV seqK blockK loopK midK retK rdK asgK rangeEnd sat Cell
section
variable {M : HL} {n0 : Nat} {H : Heap} {v w : Value}
theorem CloneI_fs (hH : hasH M n0 H) {l : List Int} (hS : Sl M 1 v (ints l)) (h0 : l ≠ []) (hl : l.length ≤ 1000) :
    FS C 5 [v] H (fun e H' => e = .slice (some ⟨n0 + 1, 0, some 0⟩) l.length (2 * 1) ∧ hasH ((n0 + 1, .row 3 0 0 (ints l)) :: M) (n0 + 2) H') := by
  have hne : ints l ≠ [] := fun h => h0 (List.map_eq_nil_iff.1 h)
  have hl0 : 0 < l.length := List.length_pos_iff.2 h0
  have hone : (ints l).all one = true := by rw [List.all_eq_true]; intro q hq; obtain ⟨x, _, rfl⟩ := List.mem_map.1 hq; rfl
  have hsm : ∃ a len cap, v = .slice (some a) len cap := by
    generalize ints l = cs at hS hne
    cases hS with
    | nil c => exact absurd rfl hne
    | emp a => exact ⟨_, _, _, rfl⟩
    | row => exact ⟨_, _, _, rfl⟩
  obtain ⟨a, len, cap, rfl⟩ := hsm
  refine FS.intro (pf := pf5) rfl rfl rfl ?_
  repeat' (first | refine zP ?_ | refine zA ?_ | (refine zM ?_; intro _ _) | refine zX ?_ | (refine zC ?_; intro _ _ _ _) | (refine zS ?_; intro _ _) | (apply Ws <;> intro hg))
  refine WR.bldS (by first | exact gN | exact gS rfl) rfl hH (vs := []) rfl (cs := []) (by rfl) rfl fun H3 hH3 => ?_
  repeat' (first | refine zP ?_ | refine zA ?_ | (refine zM ?_; intro _ _) | refine zX ?_ | (refine zC ?_; intro _ _ _ _) | (refine zS ?_; intro _ _) | (apply Ws <;> intro hg))
  obtain ⟨hk, hsr⟩ := (hS.cons (p := (n0, .row 3 0 0 []))).src hH3 hne
  refine WR.appendNew (by first | exact gN | exact gS rfl) rfl rfl rfl hH3 (.head _) (.row _ _ _ _) (Nat.zero_le _) (Nat.zero_le _) hk (by have := hsr _ (Nat.le_refl _); rw [List.take_length] at this; exact this) (by simp) (by simp; omega) hone (by omega) (by omega) (by simp; omega) fun H' hH' => ?_
  repeat' (first | refine zP ?_ | refine zA ?_ | (refine zM ?_; intro _ _) | refine zX ?_ | (refine zC ?_; intro _ _ _ _) | (refine zS ?_; intro _ _) | (apply Ws <;> intro hg))
  exact Ends.ret1 rfl ⟨by simp, hH'.sub (.cons_cons _ (List.sublist_cons_self _ _))⟩
theorem ReverseI_fs {o : List Int} {b u q cp : Nat} (hH : hasH ((b, .row 3 u q (ints o)) :: M) n0 H) (hol : o.length ≤ 1000) :
    FS C 6 [.slice (some ⟨b, q, some u⟩) o.length cp] H (fun e H' => hasH ((b, .row 3 u q (ints o.reverse)) :: M) n0 H') := by
  refine FS.intro (pf := pf6) rfl rfl rfl ?_
  repeat' (first | refine zP ?_ | refine zA ?_ | (refine zM ?_; intro _ _) | refine zX ?_ | (refine zC ?_; intro _ _ _ _) | (refine zS ?_; intro _ _) | (apply Ws <;> intro hg))
  refine WC.loopX [(0, .slice (some ⟨b, q, some u⟩) o.length cp)] (fun s : Nat × List Int => [(2, .int .i64 (s.1 : Int)), (3, .int .i64 ((o.length : Int) - 1 - s.1))]) []
    (fun s H' => hasH ((b, .row 3 u q (ints s.2)) :: M) n0 H' ∧ 2 * s.1 ≤ o.length ∧ s.2.length = o.length ∧ ∀ k, k < o.length → s.2.getD k 0 = if k < s.1 ∨ o.length - s.1 ≤ k then o.getD (o.length - 1 - k) 0 else o.getD k 0) (fun s => o.length - s.1) (0, o) ?_ rfl
    ⟨hH, Nat.zero_le _, rfl, fun k hk => by simp only; rw [if_neg (by omega)]⟩ ?_
  · refine .cons rfl (.cons ?_ (.cons rfl .nil))
    show some (Value.int .i64 ((o.length : Int) - 1)) = some (.int .i64 ((o.length : Int) - 1 - ((0 : Nat) : Int)))
    simp
  clear hH
  rintro ⟨k, ys⟩ H1 ⟨hH1, hk, hyl, hys⟩
  simp only at hH1 hk hyl hys
  dsimp only [List.cons_append, List.nil_append]
  repeat' (first | refine zP ?_ | refine zA ?_ | (refine zM ?_; intro _ _) | refine zX ?_ | (refine zC ?_; intro _ _ _ _) | (refine zS ?_; intro _ _) | (apply Ws <;> intro hg))
  refine WC.condP rfl (fun hlt => ?_) (fun hlt => ?_)
  · have hk' : k < o.length := by omega
    obtain ⟨j, hj⟩ : ∃ j : Nat, (o.length : Int) - 1 - k = j := ⟨o.length - 1 - k, by omega⟩
    rw [hj]
    repeat' (first | refine zP ?_ | refine zA ?_ | (refine zM ?_; intro _ _) | refine zX ?_ | (refine zC ?_; intro _ _ _ _) | (refine zS ?_; intro _ _) | (apply Ws <;> intro hg))
    refine WR.op (by first | exact gN | exact gS rfl) rfl (OpV.load1 (v := .int .i64 (ys.getD j 0)) rfl hH1 (.head _) (.row _ _ _ _) (Nat.le_add_right _ _) (by rw [show q + j - q = j by omega]; exact ints_get (by omega))) ?_
    repeat' (first | refine zP ?_ | refine zA ?_ | (refine zM ?_; intro _ _) | refine zX ?_ | (refine zC ?_; intro _ _ _ _) | (refine zS ?_; intro _ _) | (apply Ws <;> intro hg))
    refine WR.op (by first | exact gN | exact gS rfl) rfl (OpV.load1 (v := .int .i64 (ys.getD k 0)) rfl hH1 (.head _) (.row _ _ _ _) (Nat.le_add_right _ _) (by rw [show q + k - q = k by omega]; exact ints_get (by omega))) ?_
    repeat' (first | refine zP ?_ | refine zA ?_ | (refine zM ?_; intro _ _) | refine zX ?_ | (refine zC ?_; intro _ _ _ _) | (refine zS ?_; intro _ _) | (apply Ws <;> intro hg))
    refine WR.store1 (cs' := ints (ys.set k (ys.getD j 0))) (by first | exact gN | exact gS rfl) hH1 rfl rfl rfl .here (Nat.le_add_right _ _) (by simp; omega) (by rw [show q + k - q = k by omega]; simp [List.map_set]) fun H2 hH2 => ?_
    have hl2 : (ys.set k (ys.getD j 0)).length = o.length := by simp [hyl]
    repeat' (first | refine zP ?_ | refine zA ?_ | (refine zM ?_; intro _ _) | refine zX ?_ | (refine zC ?_; intro _ _ _ _) | (refine zS ?_; intro _ _) | (apply Ws <;> intro hg))
    refine WR.store1 (cs' := ints ((ys.set k (ys.getD j 0)).set j (ys.getD k 0))) (by first | exact gN | exact gS rfl) hH2 rfl rfl rfl .here (Nat.le_add_right _ _) (by simp; omega) (by rw [show q + j - q = j by omega]; simp [List.map_set]) fun H3 hH3 => ?_
    repeat' (first | refine zP ?_ | refine zA ?_ | (refine zM ?_; intro _ _) | refine zX ?_ | (refine zC ?_; intro _ _ _ _) | (refine zS ?_; intro _ _) | (apply Ws <;> intro hg))
    rw [show (j : Int) - 1 = (o.length : Int) - 1 - ((k + 1 : Nat) : Int) by omega]
    refine Ends.loop (k + 1, (ys.set k (ys.getD j 0)).set j (ys.getD k 0)) (by simp only; omega) (by repeat' (first | exact .nil | refine .cons rfl ?_)) rfl ⟨hH3, by simp only; omega, by simp [hyl], fun i hi => ?_⟩
    simp only
    rw [getD_set' (by omega), getD_set' (by omega)]
    have hjk := hys j (by omega)
    have hkk := hys k (by omega)
    rw [if_neg (by omega)] at hjk hkk
    by_cases h1 : i = j
    · rw [if_pos h1, if_pos (by omega), hkk]; congr 1; omega
    · rw [if_neg h1]
      by_cases h2 : i = k
      · rw [if_pos h2, if_pos (by omega), hjk]; congr 1; omega
      · rw [if_neg h2, hys i hi]
        by_cases h3 : i < k ∨ o.length - k ≤ i
        · rw [if_pos h3, if_pos (by omega)]
        · rw [if_neg h3, if_neg (by omega)]
  · have hre : ys = o.reverse := by
      refine ext_getD (a := 0) (by simp [hyl]) fun i hi => ?_
      rw [hys i (by omega), getD_eq (show i < o.reverse.length by simp; omega), List.getElem_reverse]
      by_cases h3 : i < k ∨ o.length - k ≤ i
      · rw [if_pos h3, getD_eq (by omega)]
      · rw [if_neg h3, getD_eq (by omega)]
        congr 1; omega
    subst hre
    repeat' (first | refine zP ?_ | refine zA ?_ | (refine zM ?_; intro _ _) | refine zX ?_ | (refine zC ?_; intro _ _ _ _) | (refine zS ?_; intro _ _) | (apply Ws <;> intro hg))
    exact Ends.end0 hH1
theorem ReverseS0_fs (H : Heap) : FS C 7 [.slice none 0 0] H (fun e H' => H' = H) := by
  refine FS.intro (pf := pf7) rfl rfl rfl ?_
  repeat' (first | refine zP ?_ | refine zA ?_ | (refine zM ?_; intro _ _) | refine zX ?_ | (refine zC ?_; intro _ _ _ _) | (refine zS ?_; intro _ _) | (apply Ws <;> intro hg))
  refine WC.loopX [(0, .slice none 0 0)] (fun s : Nat => [(2, .int .i64 0), (3, .int .i64 (-1))]) [] (fun s H' => H' = H) (fun s => 0) 0 (by repeat' (first | exact .nil | refine .cons rfl ?_)) rfl rfl ?_
  rintro s _ rfl
  dsimp only [List.cons_append, List.nil_append]
  repeat' (first | refine zP ?_ | refine zA ?_ | (refine zM ?_; intro _ _) | refine zX ?_ | (refine zC ?_; intro _ _ _ _) | (refine zS ?_; intro _ _) | (apply Ws <;> intro hg))
  exact Ends.end0 rfl
theorem ReverseS_fs {b u q cp N : Nat} {us : List (Value × Value)} (hH : hasH ((b, .row 31 u q (cellsF pairV us)) :: M) n0 H) (hul : us.length = N) (hN : N ≤ 1000) (hone : ∀ i, i < N → one (us.getD i noVal).1 = true ∧ one (us.getD i noVal).2 = true) :
    FS C 7 [.slice (some ⟨b, q, some u⟩) N cp] H (fun e H' => hasH ((b, .row 31 u q (cellsF pairV us.reverse)) :: M) n0 H') := by
  refine FS.intro (pf := pf7) rfl rfl rfl ?_
  repeat' (first | refine zP ?_ | refine zA ?_ | (refine zM ?_; intro _ _) | refine zX ?_ | (refine zC ?_; intro _ _ _ _) | (refine zS ?_; intro _ _) | (apply Ws <;> intro hg))
  refine WC.loopX [(0, .slice (some ⟨b, q, some u⟩) N cp)] (fun s : Nat × List (Value × Value) => [(2, .int .i64 (s.1 : Int)), (3, .int .i64 ((N : Int) - 1 - s.1))]) []
    (fun s H' => hasH ((b, .row 31 u q (cellsF pairV s.2)) :: M) n0 H' ∧ 2 * s.1 ≤ N ∧ s.2.length = N ∧ ∀ k, k < N → s.2.getD k noVal = if k < s.1 ∨ N - s.1 ≤ k then us.getD (N - 1 - k) noVal else us.getD k noVal) (fun s => N - s.1) (0, us) ?_ rfl
    ⟨hH, Nat.zero_le _, hul, fun k hk => by simp only; rw [if_neg (by omega)]⟩ ?_
  · refine .cons rfl (.cons ?_ (.cons rfl .nil))
    show some (Value.int .i64 ((N : Int) - 1)) = some (.int .i64 ((N : Int) - 1 - ((0 : Nat) : Int)))
    simp
  clear hH
  rintro ⟨k, ys⟩ H1 ⟨hH1, hk, hyl, hys⟩
  simp only at hH1 hk hyl hys
  dsimp only [List.cons_append, List.nil_append]
  repeat' (first | refine zP ?_ | refine zA ?_ | (refine zM ?_; intro _ _) | refine zX ?_ | (refine zC ?_; intro _ _ _ _) | (refine zS ?_; intro _ _) | (apply Ws <;> intro hg))
  refine WC.condP rfl (fun hlt => ?_) (fun hlt => ?_)
  · have hk' : k < N := by omega
    obtain ⟨j, hj⟩ : ∃ j : Nat, (N : Int) - 1 - k = j := ⟨N - 1 - k, by omega⟩
    rw [hj]
    have hjk := hys j (by omega)
    have hkk := hys k (by omega)
    rw [if_neg (by omega)] at hjk hkk
    have g1 : one (ys.getD j noVal).1 = true ∧ one (ys.getD j noVal).2 = true := by rw [hjk]; exact hone j (by omega)
    have g2 : one (ys.getD k noVal).1 = true ∧ one (ys.getD k noVal).2 = true := by rw [hkk]; exact hone k (by omega)
    have hcl := cellsF_len pairV_len ys
    repeat' (first | refine zP ?_ | refine zA ?_ | (refine zM ?_; intro _ _) | refine zX ?_ | (refine zC ?_; intro _ _ _ _) | (refine zS ?_; intro _ _) | (apply Ws <;> intro hg))
    refine WR.op (by first | exact gN | exact gS rfl) rfl (OpV.loadN (l := [(ys.getD j noVal).1, (ys.getD j noVal).2]) rfl hH1 (.head _) (.row _ _ _ _) (Nat.le_add_right _ _) (by omega) (by rw [show q + j * 2 - q = j * 2 by omega]; exact cells_at' (by omega))) ?_
    repeat' (first | refine zP ?_ | refine zA ?_ | (refine zM ?_; intro _ _) | refine zX ?_ | (refine zC ?_; intro _ _ _ _) | (refine zS ?_; intro _ _) | (apply Ws <;> intro hg))
    refine WR.op (by first | exact gN | exact gS rfl) rfl (OpV.loadN (l := [(ys.getD k noVal).1, (ys.getD k noVal).2]) rfl hH1 (.head _) (.row _ _ _ _) (Nat.le_add_right _ _) (by omega) (by rw [show q + k * 2 - q = k * 2 by omega]; exact cells_at' (by omega))) ?_
    repeat' (first | refine zP ?_ | refine zA ?_ | (refine zM ?_; intro _ _) | refine zX ?_ | (refine zC ?_; intro _ _ _ _) | (refine zS ?_; intro _ _) | (apply Ws <;> intro hg))
    refine WR.storeL (cs' := cellsF pairV (ys.set k (ys.getD j noVal))) (by first | exact gN | exact gS rfl) hH1 rfl rfl (ls := [(ys.getD j noVal).1, (ys.getD j noVal).2]) rfl rfl .here (one2 g1.1 g1.2) (Nat.le_add_right _ _) (by simp only [List.length_cons, List.length_nil]; omega) (by rw [show q + k * 2 - q = k * 2 by omega]; exact cells_set (by omega)) fun H2 hH2 => ?_
    have hl2 : (ys.set k (ys.getD j noVal)).length = N := by simp [hyl]
    have hcl2 := cellsF_len pairV_len (ys.set k (ys.getD j noVal))
    repeat' (first | refine zP ?_ | refine zA ?_ | (refine zM ?_; intro _ _) | refine zX ?_ | (refine zC ?_; intro _ _ _ _) | (refine zS ?_; intro _ _) | (apply Ws <;> intro hg))
    refine WR.storeL (cs' := cellsF pairV ((ys.set k (ys.getD j noVal)).set j (ys.getD k noVal))) (by first | exact gN | exact gS rfl) hH2 rfl rfl (ls := [(ys.getD k noVal).1, (ys.getD k noVal).2]) rfl rfl .here (one2 g2.1 g2.2) (Nat.le_add_right _ _) (by simp only [List.length_cons, List.length_nil]; omega) (by rw [show q + j * 2 - q = j * 2 by omega]; exact cells_set (by omega)) fun H3 hH3 => ?_
    repeat' (first | refine zP ?_ | refine zA ?_ | (refine zM ?_; intro _ _) | refine zX ?_ | (refine zC ?_; intro _ _ _ _) | (refine zS ?_; intro _ _) | (apply Ws <;> intro hg))
    rw [show (j : Int) - 1 = (N : Int) - 1 - ((k + 1 : Nat) : Int) by omega]
    refine Ends.loop (k + 1, (ys.set k (ys.getD j noVal)).set j (ys.getD k noVal)) (by simp only; omega) (by repeat' (first | exact .nil | refine .cons rfl ?_)) rfl ⟨hH3, by simp only; omega, by simp [hyl], fun i hi => ?_⟩
    simp only
    rw [getD_set' (by omega), getD_set' (by omega)]
    by_cases h1 : i = j
    · rw [if_pos h1, if_pos (by omega), hkk]; congr 1; omega
    · rw [if_neg h1]
      by_cases h2 : i = k
      · rw [if_pos h2, if_pos (by omega), hjk]; congr 1; omega
      · rw [if_neg h2, hys i hi]
        by_cases h3 : i < k ∨ N - k ≤ i
        · rw [if_pos h3, if_pos (by omega)]
        · rw [if_neg h3, if_neg (by omega)]
  · have hre : ys = us.reverse := by
      refine ext_getD (a := noVal) (by simp [hyl, hul]) fun i hi => ?_
      rw [hys i (by omega), getD_eq (show i < us.reverse.length by simp; omega), List.getElem_reverse]
      by_cases h3 : i < k ∨ N - k ≤ i
      · rw [if_pos h3, getD_eq (by omega)]
        congr 1; omega
      · rw [if_neg h3, getD_eq (by omega)]
        congr 1; omega
    subst hre
    repeat' (first | refine zP ?_ | refine zA ?_ | (refine zM ?_; intro _ _) | refine zX ?_ | (refine zC ?_; intro _ _ _ _) | (refine zS ?_; intro _ _) | (apply Ws <;> intro hg))
    exact Ends.end0 hH1
def OwnE (v : Value) (us : List (Value × Value)) (Mx : HL) : Prop := (us = [] ∧ v = .slice none 0 0 ∧ Mx = []) ∨ (us ≠ [] ∧ OwnR 31 2 v (cellsF pairV us) Mx)
theorem OwnE.own {v : Value} {us : List (Value × Value)} {Mx : HL} (h : OwnE v us Mx) : Own 31 2 v (cellsF pairV us) Mx := by
  rcases h with ⟨rfl, rfl, rfl⟩ | ⟨_, h⟩
  · exact .nil
  · exact h.own
theorem RevOwn_fs {us : List (Value × Value)} {Mx : HL} (hO : OwnE v us Mx) (hH : hasH (Mx ++ M) n0 H) (hN : us.length ≤ 1000) (hone : ∀ i, i < us.length → one (us.getD i noVal).1 = true ∧ one (us.getD i noVal).2 = true) :
    FS C 7 [v] H (fun e H' => ∃ My, hasH (My ++ M) n0 H' ∧ Sl (My ++ M) 2 v (cellsF pairV us.reverse)) := by
  rcases hO with ⟨rfl, rfl, rfl⟩ | ⟨hne, hO⟩
  · refine (ReverseS0_fs H).mono ?_
    rintro _ _ rfl
    exact ⟨[], hH, .nil 0⟩
  · cases hO with
    | @mk b u q len _ hl =>
      have hcl := cellsF_len pairV_len us
      obtain rfl : us.length = len := by omega
      refine (ReverseS_fs (cp := 2 * 2) hH rfl hN hone).mono ?_
      intro _ H' h
      refine ⟨[(b, .row 31 u q (cellsF pairV us.reverse))], h, ?_⟩
      have hk := (OwnR.mk (e := 31) (sz := 2) (b := b) (u := u) (o := q) (len := us.length) (cs := cellsF pairV us.reverse) (by rw [cellsF_len pairV_len, List.length_reverse])).own.sl M
      exact hk
theorem SalR.reverse {M : HL} {ws : List (Value × Value)} {S : List Sal} (h : SalR M ws S) : SalR M ws.reverse S.reverse := by
  refine ⟨by simp [h.1], fun i hi => ?_⟩
  have hl := h.1
  rw [List.length_reverse] at hi
  rw [getD_eq (l := ws.reverse) (by rw [List.length_reverse]; omega), getD_eq (l := S.reverse) (by rw [List.length_reverse]; omega), List.getElem_reverse, List.getElem_reverse]
  have k := h.2 (S.length - 1 - i) (by omega)
  rw [getD_eq (l := ws) (by omega), getD_eq (l := S) (by omega)] at k
  have e : ws.length - 1 - i = S.length - 1 - i := by omega
  simp only [e]
  exact k
theorem SalR.one_ {M : HL} {ws : List (Value × Value)} {S : List Sal} (h : SalR M ws S) : ∀ i, i < ws.length → one (ws.getD i noVal).1 = true ∧ one (ws.getD i noVal).2 = true := fun i hi => by
  have := h.2 i (by rw [← h.1]; exact hi)
  exact ⟨this.1.one_, this.2.one_⟩
theorem prs_congr {h h' : Nat → Nat → Bool} {n : Nat} (k : ∀ a b, a < n → b < n → h a b = h' a b) : prs h n n 0 = prs h' n n 0 := by
  have e : ∀ a, a < n → rowK h a n = rowK h' a n := fun a ha => by
    unfold rowK
    rw [List.filter_congr fun j hj => by rw [k a j ha (List.mem_range.1 hj)]]
  unfold prs
  have e2 : (List.range n).flatMap (fun i => rowK h i n) = (List.range n).flatMap (fun i => rowK h' i n) := by
    rw [List.flatMap_def, List.flatMap_def, List.map_congr_left fun i hi => e i (List.mem_range.1 hi)]
  rw [e2]; rfl
theorem RingOut.ok' {M : HL} {g : Nat} {S : List Sal} {e : Value} (hok : OKS g S) (h : RingOut M g S e) : ∃ u, one u = true ∧ e = .tuple #[u, .int .i64 (if tasteB (matS S) = true then 13 else 0)] ∧ Sl M 1 u (nodes ((firstRing (matS S)).getD [])) := by
  obtain ⟨u, hu, ⟨h1, h2, h3⟩ | ⟨h1, h3, z, h4, h5⟩⟩ := h.ok hok
  · refine ⟨u, hu, by rw [if_pos h1]; exact h3, ?_⟩
    rw [firstRing_none h1, h2]; exact .nil 0
  · refine ⟨u, hu, by rw [h1]; exact h3, ?_⟩
    rw [h4]; exact h5
def rotS (S : List Sal) (t : Nat) : List Sal := (List.range S.length).map fun i => S.getD ((i + t) % S.length) noSal
theorem rot_len (S : List Sal) (t : Nat) : (rotS S t).length = S.length := by simp [rotS]
theorem rot_get {S : List Sal} {t i : Nat} (h : i < S.length) : (rotS S t).getD i noSal = S.getD ((i + t) % S.length) noSal := by
  rw [getD_eq (by rw [rot_len]; exact h)]; simp [rotS]
theorem rot_oth {S : List Sal} {t i : Nat} (h : i < S.length) : (rotS S t).reverse.getD i noSal = S.getD (othF S.length t i) noSal := by
  have hl := rot_len S t
  rw [getD_eq (by rw [List.length_reverse, hl]; exact h), List.getElem_reverse, ← getD_eq (a := noSal), rot_get (by omega)]
  unfold othF
  rw [hl]
theorem sal_take {X : List Sal} {i : Nat} (h : i < X.length) : X.take (i + 1) = X.take i ++ [X.getD i noSal] := by rw [List.take_succ_eq_append_getElem h, getD_eq h]
end
end Go.Proofs.Ytdlfikobjnjmaaa.Tt

/- TasteNamed: the walk. -/
namespace Go.Proofs.Ytdlfikobjnjmaaa.Tt
open Go Go.Abs Go.Mth
set_option linter.unusedVariables false
set_option linter.unusedSimpArgs false
structure NW where
  k : Nat
  vg : Value
  vo : Value
  vd : Value
  wg : List (Value × Value)
  wo : List (Value × Value)
  wd : List (Value × Value)
  Mg : HL
  Mo : HL
  Md : HL
  Mi : HL
  n : Nat
attribute [local irreducible] gOK WS WC WR WD Ends FS YS OpV seqK blockK loopK midK retK rdK asgK rangeEnd sat Cell
section
variable {M : HL} {n0 : Nat} {H : Heap} {v w u : Value}
set_option maxHeartbeats 8000000 in
theorem TasteNamed_fs (hH : hasH M n0 H) {xs : List Nat} (hl : xs.length = 39) (hb : ∀ x ∈ xs, x ≤ 255) {ot : Nat} (hot : ot ≤ 255) {wh : Nat} (hwh : wh ≤ 255) :
    FS C 3 [.agg (numsK .u8 xs).toArray, .int .u8 (ot : Int), .int .u8 (wh : Int)] H (fun e H' => e = .bool true) := by
  have hoN := numsK_one .u8 xs
  have hxl : (numsK .u8 xs).length = 39 := by simpa using hl
  have hfin : ∀ {H' : Heap}, FS C 15 [] H' (fun e H'' => e = .bool true ∧ H'' = H') := fun {H'} => FS.works ⟨rfl, rfl⟩
  refine FS.intro (pf := pf3) rfl rfl rfl ?_
  repeat' (first | refine zP ?_ | refine zA ?_ | (refine zM ?_; intro _ _) | refine zX ?_ | (refine zC ?_; intro _ _ _ _) | (refine zS ?_; intro _ _) | (apply Ws <;> intro hg))
  rename_i H1 hH1
  clear hH
  refine WR.call (by first | exact gN | exact gS rfl) rfl rfl (made_fs hH1 hl hb (most := 6) (by omega)) ?_
  rintro _ H4 ⟨S, v, n4, M4, hSE, hSl, hn4, hH4, hS, rfl⟩
  obtain ⟨g, hg⟩ : ∃ g, 1 + xs.getD 0 0 % 3 = g := ⟨_, rfl⟩
  rw [hg] at hSE
  have hmod := Nat.mod_lt (xs.getD 1 0) (show 0 < 6 + 1 by omega)
  have hok : OKS g S := .of (by omega) (by omega) (by omega) hSE
  have hlen6 : S.length ≤ 6 := by omega
  have hg1 := hok.g1
  have hg3 := hok.g3
  rw [hg]
  generalize M4 ++ (n0, Ch.row 25 0 0 (numsK .u8 xs)) :: M = T at hH4 hS
  clear hH1 hSl hmod hoN hxl hl hb hn4 hg
  have hv := hS.one_
  obtain ⟨ws, hV, hwl, hrow⟩ := hS.at
  repeat' (first | refine zP ?_ | refine zA ?_ | (refine zM ?_; intro _ _) | refine zX ?_ | (refine zC ?_; intro _ _ _ _) | (refine zS ?_; intro _ _) | (apply Ws <;> intro hg))
  refine WR.op (by first | exact gN | exact gS rfl) rfl (OpV.lenK pairV_len (by decide) rfl hV) ?_
  rw [hwl]
  repeat' (first | refine zP ?_ | refine zA ?_ | (refine zM ?_; intro _ _) | refine zX ?_ | (refine zC ?_; intro _ _ _ _) | (refine zS ?_; intro _ _) | (apply Ws <;> intro hg))
  obtain ⟨W, hW⟩ : ∃ W, wh % S.length = W := ⟨_, rfl⟩
  refine WC.loopX [(1, .int .u8 (ot : Int)), (2, .int .u8 (wh : Int)), (7, .int .i64 (g : Int)), (8, v), (37, v), (38, .int .i64 (S.length : Int))] (fun s : NW => [(9, s.vg), (10, s.vo), (11, s.vd), (39, .int .i64 (s.k : Int))]) []
    (fun s H' => s.k ≤ S.length ∧ Own 31 2 s.vg (cellsF pairV s.wg) s.Mg ∧ OwnE s.vo s.wo s.Mo ∧ Own 31 2 s.vd (cellsF pairV s.wd) s.Md ∧ SalR (s.Mi ++ T) s.wg ((revS S).take s.k) ∧ SalR (s.Mi ++ T) s.wo ((rotS S ot).take s.k) ∧ SalR (s.Mi ++ T) s.wd ((dearS S W).take s.k) ∧
      hasH (s.Mg ++ (s.Mo ++ (s.Md ++ (s.Mi ++ T)))) s.n H') (fun s => S.length - s.k)
    ⟨0, _, _, _, [], [], [], [], [], [], [], n4⟩ (by repeat' (first | exact .nil | refine .cons rfl ?_)) rfl ⟨Nat.zero_le _, .nil, .inl ⟨rfl, rfl, rfl⟩, .nil, .nil _, .nil _, .nil _, hH4⟩ ?_
  clear hH4
  rintro ⟨k, vg, vo, vd, wg, wo, wd, Mg, Mo, Md, Mi, n1⟩ H2 ⟨hk, hOg, hOo, hOd, hRg, hRo, hRd, hH⟩
  simp only at hk hOg hOo hOd hRg hRo hRd hH
  have hwgl := hRg.1
  have hwol := hRo.1
  have hwdl := hRd.1
  rw [List.length_take, rev_len, Nat.min_eq_left hk] at hwgl
  rw [List.length_take, rot_len, Nat.min_eq_left hk] at hwol
  rw [List.length_take, dear_len, Nat.min_eq_left hk] at hwdl
  have hvg : one vg = true := (hOg.sl []).one_
  have hvo : one vo = true := (hOo.own.sl []).one_
  have hvd : one vd = true := (hOd.sl []).one_
  dsimp only [List.cons_append, List.nil_append]
  repeat' (first | refine zP ?_ | refine zA ?_ | (refine zM ?_; intro _ _) | refine zX ?_ | (refine zC ?_; intro _ _ _ _) | (refine zS ?_; intro _ _) | (apply Ws <;> intro hg))
  refine WC.condP rfl (fun hltk => ?_) (fun hltk => ?_)
  · have hk' : k < S.length := by omega
    obtain ⟨hp, ht⟩ := hrow k hk'
    have hlp := hok.lp k hk'
    have hlt := hok.lt k hk'
    have hwk : ws[k] = ws.getD k noVal := (getD_eq (by omega)).symm
    have hOE : OKE g (S.getD k noSal) := hSE _ (getD_mem hk')
    have hre := rev_get (S := S) hk'
    have hro := rot_get (S := S) (t := ot) hk'
    have hde := dear_get (S := S) (w := W) hk'
    have hVV : Sl (Mg ++ (Mo ++ (Md ++ (Mi ++ T)))) 2 v (cellsF pairV ws) := hV.mono fun q hq => by simp [hq]
    replace hp := hp.mono (M' := Mg ++ (Mo ++ (Md ++ (Mi ++ T)))) fun q hq => by simp [hq]
    replace ht := ht.mono (M' := Mg ++ (Mo ++ (Md ++ (Mi ++ T)))) fun q hq => by simp [hq]
    repeat' (first | refine zP ?_ | refine zA ?_ | (refine zM ?_; intro _ _) | refine zX ?_ | (refine zC ?_; intro _ _ _ _) | (refine zS ?_; intro _ _) | (apply Ws <;> intro hg))
    refine WR.idxK pairV_len (by decide) (by first | exact gN | exact gS rfl) rfl rfl hVV rfl (by omega) fun b o u hC => ?_
    rw [hwk] at hC
    have hone := one2 hp.one_ ht.one_
    obtain ⟨wk, hwk2⟩ : ∃ wk, ws.getD k noVal = wk := ⟨_, rfl⟩
    rw [hwk2] at hp ht hC hone
    obtain ⟨w1, w2⟩ := wk
    simp only at hp ht hone
    refine WR.op (by first | exact gN | exact gS rfl) rfl (OpV.loadK rfl hC hH rfl) ?_
    repeat' (first | refine zP ?_ | refine zA ?_ | (refine zM ?_; intro _ _) | refine zX ?_ | (refine zC ?_; intro _ _ _ _) | (refine zS ?_; intro _ _) | (apply Ws <;> intro hg))
    rename_i H3 hH3
    refine WR.storeAll (by first | exact gN | exact gS rfl) hH3 rfl rfl (ls := [w1, w2]) rfl rfl .here hone rfl fun H4 hH4 => ?_
    clear hH3 hH hC
    generalize hsk : S.getD k noSal = sk at hp ht hlp hlt hOE hre hde
    obtain ⟨p, tk⟩ := sk
    simp only at hp ht hlp hlt hre hde
    have hp0 : p ≠ [] := fun e => by rw [e] at hlp; simp at hlp; omega
    have ht0 : tk ≠ [] := fun e => by rw [e] at hlt; simp at hlt; omega
    replace hp := hp.cons (p := (n1, Ch.row 31 0 0 [w1, w2]))
    replace ht := ht.cons (p := (n1, Ch.row 31 0 0 [w1, w2]))
    repeat' (first | refine zP ?_ | refine zA ?_ | (refine zM ?_; intro _ _) | refine zX ?_ | (refine zC ?_; intro _ _ _ _) | (refine zS ?_; intro _ _) | (apply Ws <;> intro hg))
    refine WC.regionD ?_
    repeat' (first | refine zD ?_ | (refine zE ?_; intro _ _ _ _))
    refine WD.call (by first | exact gN | exact gS rfl) rfl rfl (CloneI_fs hH4 hp hp0 (by omega)) ?_
    rintro _ H5 ⟨rfl, hH5⟩
    refine ⟨stands_cons (.inr (holds_at (hH5.read (b := n1) (u := 0) (lo := 0) (o := 1) (v := w2) (.tail _ (.head _)) (.row _ _ _ _) (Nat.zero_le _) rfl) ht.same)) (stands_cons (.inl rfl) stands_nil'), WD.toWR rfl ?_⟩
    clear hH4
    have ht5 := ht.cons (p := (n1 + 1 + 1, Ch.row 3 0 0 (ints p)))
    refine WR.call (by first | exact gN | exact gS rfl) rfl rfl (CloneI_fs hH5 ht5 ht0 (by omega)) ?_
    rintro _ H6 ⟨rfl, hH6⟩
    clear hH5 ht5
    generalize n1 + 1 + 2 + 1 = bt at hH6 ⊢
    generalize n1 + 1 + 2 + 2 = n6 at hH6
    generalize n1 + 1 + 1 = bp at hH6 ⊢
    repeat' (first | refine zP ?_ | refine zA ?_ | (refine zM ?_; intro _ _) | refine zX ?_ | (refine zC ?_; intro _ _ _ _) | (refine zS ?_; intro _ _) | (apply Ws <;> intro hg))
    refine WR.call (by first | exact gN | exact gS rfl) rfl rfl (ReverseI_fs (hH6.perm (M' := (bp, Ch.row 3 0 0 (ints p)) :: (bt, Ch.row 3 0 0 (ints tk)) :: (n1, Ch.row 31 0 0 [w1, w2]) :: (Mg ++ (Mo ++ (Md ++ (Mi ++ T))))) (by classical exact List.perm_iff_count.2 (fun a => by simp only [defds, List.map_cons, List.map_nil, List.count_append, List.count_cons, List.count_nil, List.cons_append, List.nil_append, List.append_nil]; omega))) (by omega)) ?_
    rintro _ H7 hH7
    clear hH6
    repeat' (first | refine zP ?_ | refine zA ?_ | (refine zM ?_; intro _ _) | refine zX ?_ | (refine zC ?_; intro _ _ _ _) | (refine zS ?_; intro _ _) | (apply Ws <;> intro hg))
    refine WR.call (by first | exact gN | exact gS rfl) rfl rfl (ReverseI_fs (hH7.perm (M' := (bt, Ch.row 3 0 0 (ints tk)) :: (bp, Ch.row 3 0 0 (ints p.reverse)) :: (n1, Ch.row 31 0 0 [w1, w2]) :: (Mg ++ (Mo ++ (Md ++ (Mi ++ T))))) (by classical exact List.perm_iff_count.2 (fun a => by simp only [defds, List.map_cons, List.map_nil, List.count_append, List.count_cons, List.count_nil, List.cons_append, List.nil_append, List.append_nil]; omega))) (by omega)) ?_
    rintro _ H8 hH8
    clear hH7
    have hSp : Sl [(bp, Ch.row 3 0 0 (ints p.reverse))] 1 (.slice (some ⟨bp, 0, some 0⟩) p.length (2 * 1)) (ints p.reverse) := by
      have := (OwnR.mk (e := 3) (sz := 1) (b := bp) (u := 0) (o := 0) (len := p.length) (cs := ints p.reverse) (by simp)).own.sl []
      exact this
    have hSt : Sl [(bt, Ch.row 3 0 0 (ints tk.reverse))] 1 (.slice (some ⟨bt, 0, some 0⟩) tk.length (2 * 1)) (ints tk.reverse) := by
      have := (OwnR.mk (e := 3) (sz := 1) (b := bt) (u := 0) (o := 0) (len := tk.length) (cs := ints tk.reverse) (by simp)).own.sl []
      exact this
    have hone1 := one2 hSp.one_ hSt.one_
    have hfl1 := fill2 hSp.one_ hSt.one_
    generalize Value.slice (some ⟨bp, 0, some 0⟩) p.length (2 * 1) = vp at hSp hone1 hfl1 ⊢
    generalize Value.slice (some ⟨bt, 0, some 0⟩) tk.length (2 * 1) = vt at hSt hone1 hfl1 ⊢
    repeat' (first | refine zP ?_ | refine zA ?_ | (refine zM ?_; intro _ _) | refine zX ?_ | (refine zC ?_; intro _ _ _ _) | (refine zS ?_; intro _ _) | (apply Ws <;> intro hg))
    refine WR.op (by first | exact gN | exact gS rfl) rfl (OpV.bldT rfl hfl1) ?_
    refine WR.append1F [(bt, Ch.row 3 0 0 (ints tk.reverse)), (bp, Ch.row 3 0 0 (ints p.reverse)), (n1, Ch.row 31 0 0 [w1, w2])] Mg (Mo ++ (Md ++ (Mi ++ T))) rfl rfl rfl rfl hOg hH8 (new := [vp, vt]) (by rfl) hone1 rfl (by decide) (by decide) (by rw [cellsF_len pairV_len]; simp; omega) fun vg2 Mg2 n9 H9 hOg2 hH9 hn9 => ?_
    rw [cells_snoc] at hOg2
    clear hH8 hOg
    obtain ⟨Mj, hMj⟩ : ∃ Mj, [(bt, Ch.row 3 0 0 (ints tk.reverse)), (bp, Ch.row 3 0 0 (ints p.reverse))] ++ Mi = Mj := ⟨_, rfl⟩
    have hH10 : hasH ((n1, Ch.row 31 0 0 [w1, w2]) :: (Mg2 ++ (Mo ++ (Md ++ (Mj ++ T))))) n9 H9 := by rw [← hMj]; exact hH9.perm (by classical exact List.perm_iff_count.2 (fun a => by simp only [defds, List.map_cons, List.map_nil, List.count_append, List.count_cons, List.count_nil, List.cons_append, List.nil_append, List.append_nil]; omega))
    have hRg2 : SalR (Mj ++ T) (wg ++ [(vp, vt)]) ((revS S).take (k + 1)) := by
      rw [sal_take (by rw [rev_len]; exact hk'), hre]
      refine (hRg.mono fun q hq => ?_).snoc (hSp.mono fun q hq => ?_) (hSt.mono fun q hq => ?_)
      · rw [← hMj, List.append_assoc]; exact List.mem_append_right _ hq
      · rw [List.mem_singleton.1 hq, ← hMj]; simp
      · rw [List.mem_singleton.1 hq, ← hMj]; simp
    have hRo1 : SalR (Mj ++ T) wo ((rotS S ot).take k) := hRo.mono fun q hq => by rw [← hMj, List.append_assoc]; exact List.mem_append_right _ hq
    have hRd1 : SalR (Mj ++ T) wd ((dearS S W).take k) := hRd.mono fun q hq => by rw [← hMj, List.append_assoc]; exact List.mem_append_right _ hq
    have hvg2 : one vg2 = true := (hOg2.sl []).one_
    clear hH9 hRg hRo hRd hMj hSp hSt hone1 hfl1 hvg hVV hp ht
    have hVV : Sl ((n1, Ch.row 31 0 0 [w1, w2]) :: (Mg2 ++ (Mo ++ (Md ++ (Mj ++ T))))) 2 v (cellsF pairV ws) := hV.mono fun q hq => by simp [hq]
    repeat' (first | refine zP ?_ | refine zA ?_ | (refine zM ?_; intro _ _) | refine zX ?_ | (refine zC ?_; intro _ _ _ _) | (refine zS ?_; intro _ _) | (apply Ws <;> intro hg))
    refine WR.op (by first | exact gN | exact gS rfl) rfl (OpV.conv u8k i64k rfl (c := (ot : Int)) (IntWalk.i64_in _ (by omega))) ?_
    repeat' (first | refine zP ?_ | refine zA ?_ | (refine zM ?_; intro _ _) | refine zX ?_ | (refine zC ?_; intro _ _ _ _) | (refine zS ?_; intro _ _) | refine zO ?_ | (apply Ws <;> intro hg))
    refine WR.op (by first | exact gN | exact gS rfl) rfl (OpV.lenK pairV_len (by decide) rfl hVV) ?_
    rw [hwl]
    have hmi := Nat.mod_lt (k + ot) (show 0 < S.length by omega)
    have hposI : 0 < (S.length : Int) := by omega
    repeat' (first | refine zP ?_ | refine zA ?_ | (refine zM ?_; intro _ _) | refine zX ?_ | (refine zC ?_; intro _ _ _ _) | (refine zS ?_; intro _ _) | refine zO ?_ | (apply Ws <;> intro hg))
    rw [show ((k : Int) + (ot : Int)) % (S.length : Int) = (((k + ot) % S.length : Nat) : Int) by simp]
    generalize (k + ot) % S.length = I at hmi hro ⊢
    refine WR.idxK pairV_len (by decide) (by first | exact gN | exact gS rfl) rfl rfl hVV rfl (show I < ws.length by omega) fun b3 p3 u3 hC3 => ?_
    obtain ⟨hrp, hrt⟩ := hrow I (by omega)
    have hwI : ws[I]'(by omega) = ws.getD I noVal := (getD_eq (by omega)).symm
    rw [hwI] at hC3
    generalize ws.getD I noVal = wI at hrp hrt hC3
    obtain ⟨w3, w4⟩ := wI
    simp only at hrp hrt
    refine WR.op (by first | exact gN | exact gS rfl) rfl (OpV.loadK rfl hC3 hH10 rfl) ?_
    clear hC3
    refine WR.append1RF ((n1, Ch.row 31 0 0 [w1, w2]) :: Mg2) Mo (Md ++ (Mj ++ T)) rfl rfl rfl rfl hOo.own hH10 (new := [w3, w4]) (by rfl) (one2 hrp.one_ hrt.one_) rfl (by decide) (by decide) (by rw [cellsF_len pairV_len]; simp; omega) fun vo2 Mo2 n11 H11 hOo2 hH11 hn11 => ?_
    rw [cells_snoc] at hOo2
    have hOo3 : OwnE vo2 (wo ++ [(w3, w4)]) Mo2 := .inr ⟨by simp, hOo2⟩
    have hRo2 : SalR (Mj ++ T) (wo ++ [(w3, w4)]) ((rotS S ot).take (k + 1)) := by
      rw [sal_take (by rw [rot_len]; exact hk'), hro]
      exact hRo1.snoc (hrp.mono fun q hq => List.mem_append_right _ hq) (hrt.mono fun q hq => List.mem_append_right _ hq)
    have hvo2 : one vo2 = true := (hOo2.own.sl []).one_
    clear hVV hRo1 hOo2 hOo hvo hH10 hrp hrt
    have hH12 : hasH ((n1, Ch.row 31 0 0 [w1, w2]) :: (Mg2 ++ (Mo2 ++ (Md ++ (Mj ++ T))))) n11 H11 := hH11
    clear hH11
    obtain ⟨hp, ht⟩ := hrow k hk'
    rw [hsk, hwk2] at hp ht
    simp only at hp ht
    replace hp := hp.mono (M' := (n1, Ch.row 31 0 0 [w1, w2]) :: (Mg2 ++ (Mo2 ++ (Md ++ (Mj ++ T))))) fun q hq => by simp [hq]
    replace ht := ht.mono (M' := (n1, Ch.row 31 0 0 [w1, w2]) :: (Mg2 ++ (Mo2 ++ (Md ++ (Mj ++ T))))) fun q hq => by simp [hq]
    repeat' (first | refine zP ?_ | refine zA ?_ | (refine zM ?_; intro _ _) | refine zX ?_ | (refine zC ?_; intro _ _ _ _) | (refine zS ?_; intro _ _) | (apply Ws <;> intro hg))
    refine WR.call (by first | exact gN | exact gS rfl) rfl rfl (CloneI_fs hH12 hp hp0 (by omega)) ?_
    rintro _ H13 ⟨rfl, hH13⟩
    clear hH12
    have hVV : Sl ((n11 + 1, Ch.row 3 0 0 (ints p)) :: (n1, Ch.row 31 0 0 [w1, w2]) :: (Mg2 ++ (Mo2 ++ (Md ++ (Mj ++ T))))) 2 v (cellsF pairV ws) := hV.mono fun q hq => by simp [hq]
    generalize n11 + 1 = bd at hH13 hVV ⊢
    generalize n11 + 2 = n13 at hH13
    repeat' (first | refine zP ?_ | refine zA ?_ | (refine zM ?_; intro _ _) | refine zX ?_ | (refine zC ?_; intro _ _ _ _) | (refine zS ?_; intro _ _) | refine zO ?_ | (apply Ws <;> intro hg))
    refine WR.op (by first | exact gN | exact gS rfl) rfl (OpV.conv u8k i64k rfl (c := (wh : Int)) (IntWalk.i64_in _ (by omega))) ?_
    repeat' (first | refine zP ?_ | refine zA ?_ | (refine zM ?_; intro _ _) | refine zX ?_ | (refine zC ?_; intro _ _ _ _) | (refine zS ?_; intro _ _) | refine zO ?_ | (apply Ws <;> intro hg))
    refine WR.op (by first | exact gN | exact gS rfl) rfl (OpV.lenK pairV_len (by decide) rfl hVV) ?_
    rw [hwl]
    repeat' (first | refine zP ?_ | refine zA ?_ | (refine zM ?_; intro _ _) | refine zX ?_ | (refine zC ?_; intro _ _ _ _) | (refine zS ?_; intro _ _) | refine zO ?_ | (apply Ws <;> intro hg))
    rw [show (wh : Int) % (S.length : Int) = ((wh % S.length : Nat) : Int) by simp]
    rw [hW]
    have hbp : ∀ i, i < p.length → 1 ≤ p.getD i 0 ∧ p.getD i 0 ≤ 4 := fun i hi => hOE.2.2.1 _ (getD_mem hi)
    by_cases hw : k = W
    case' pos =>
      rw [if_pos hw] at hde
      repeat' (first | refine zP ?_ | refine zA ?_ | (refine zM ?_; intro _ _) | refine zX ?_ | (refine zC ?_; intro _ _ _ _) | (refine zS ?_; intro _ _) | refine zO ?_ | (apply Ws <;> intro hg))
      refine WC.loopX [(1, .int .u8 (ot : Int)), (2, .int .u8 (wh : Int)), (7, .int .i64 (g : Int)), (8, v), (9, vg2), (10, vo2), (11, vd), (12, .int .i64 (k : Int)), (13, .pointer (some ⟨n1, 0, some 0⟩)), (14, .slice (some ⟨bd, 0, some 0⟩) p.length (2 * 1)), (37, v), (38, .int .i64 (S.length : Int)), (39, .int .i64 (k : Int)), (83, .slice (some ⟨bd, 0, some 0⟩) p.length (2 * 1)), (84, .int .i64 (p.length : Int))] (fun s : Nat × List Int => [(85, .int .i64 (s.1 : Int))]) []
        (fun s H' => s.1 ≤ p.length ∧ s.2.length = p.length ∧ (∀ i, i < p.length → s.2.getD i 0 = if i < s.1 then p.getD i 0 * 2 else p.getD i 0) ∧ hasH ((bd, Ch.row 3 0 0 (ints s.2)) :: (n1, Ch.row 31 0 0 [w1, w2]) :: (Mg2 ++ (Mo2 ++ (Md ++ (Mj ++ T))))) n13 H') (fun s => p.length - s.1)
        (0, p) (by repeat' (first | exact .nil | refine .cons rfl ?_)) rfl ⟨Nat.zero_le _, rfl, fun i hi => by simp only; rw [if_neg (Nat.not_lt_zero _)], hH13⟩ ?_
      clear hH13
      rintro ⟨j, ys⟩ H14 ⟨hj, hyl, hys, hH13⟩
      simp only at hj hyl hys hH13
      dsimp only [List.cons_append, List.nil_append]
      repeat' (first | refine zP ?_ | refine zA ?_ | (refine zM ?_; intro _ _) | refine zX ?_ | (refine zC ?_; intro _ _ _ _) | (refine zS ?_; intro _ _) | (apply Ws <;> intro hg))
      refine WC.condP rfl (fun hltj => ?_) (fun hltj => ?_)
      · have hj' : j < p.length := by omega
        have hyj := hys j hj'
        rw [if_neg (Nat.lt_irrefl _)] at hyj
        have hbj := hbp j hj'
        rw [← hyj] at hbj
        repeat' (first | refine zP ?_ | refine zA ?_ | (refine zM ?_; intro _ _) | refine zX ?_ | (refine zC ?_; intro _ _ _ _) | (refine zS ?_; intro _ _) | (apply Ws <;> intro hg))
        rename_i H15 hH15
        refine Ends.loop (j + 1, ys.set j (ys.getD j 0 * 2)) (by simp only; omega) (by repeat' (first | exact .nil | refine .cons rfl ?_)) rfl ⟨by simp only; omega, by simp [hyl], fun i hi => ?_, hH15⟩
        simp only
        rw [getD_set' (by omega)]
        by_cases e : i = j
        · rw [if_pos e, if_pos (by omega), hyj, e]
        · rw [if_neg e, hys i hi]
          by_cases e2 : i < j
          · rw [if_pos e2, if_pos (by omega)]
          · rw [if_neg e2, if_neg (by omega)]
      have hre2 : ys = p.map (· * 2) := by
        refine ext_getD (a := 0) (by simp [hyl]) fun i hi => ?_
        rw [hys i (by omega), if_pos (by omega), getD_eq (show i < (p.map (· * 2)).length by simp; omega), List.getElem_map, getD_eq (by omega)]
      have hpd : (dearS S W).getD k noSal = (ys, tk) := by rw [hde, hre2]; rfl
      have hpdl : ys.length = p.length := hyl
      clear hre2 hys hltj hyl hj
      repeat' (first | refine zP ?_ | refine zA ?_ | (refine zM ?_; intro _ _) | refine zX ?_ | (refine zC ?_; intro _ _ _ _) | (refine zS ?_; intro _ _) | refine zO ?_ | (apply Ws <;> intro hg))
    case' neg =>
      rw [if_neg hw] at hde
      obtain ⟨ys, hyse⟩ : ∃ ys, p = ys := ⟨_, rfl⟩
      have hpd : (dearS S W).getD k noSal = (ys, tk) := by rw [hde, hyse]
      have hpdl : ys.length = p.length := by rw [hyse]
      replace hH13 : hasH ((bd, Ch.row 3 0 0 (ints ys)) :: (n1, Ch.row 31 0 0 [w1, w2]) :: (Mg2 ++ (Mo2 ++ (Md ++ (Mj ++ T))))) n13 H13 := by rw [← hyse]; exact hH13
      repeat' (first | refine zP ?_ | refine zA ?_ | (refine zM ?_; intro _ _) | refine zX ?_ | (refine zC ?_; intro _ _ _ _) | (refine zS ?_; intro _ _) | refine zO ?_ | (apply Ws <;> intro hg))
    all_goals
      replace ht := ht.cons (p := (bd, Ch.row 3 0 0 (ints ys)))
      refine WR.call (by first | exact gN | exact gS rfl) rfl rfl (CloneI_fs hH13 ht ht0 (by omega)) ?_
      rintro _ H16 ⟨rfl, hH16⟩
      clear hH13 hVV ht hp
      generalize n13 + 1 = be at hH16 ⊢
      generalize n13 + 2 = n16 at hH16
      have hSp : Sl [(bd, Ch.row 3 0 0 (ints ys))] 1 (.slice (some ⟨bd, 0, some 0⟩) p.length (2 * 1)) (ints ys) := by
        have := (OwnR.mk (e := 3) (sz := 1) (b := bd) (u := 0) (o := 0) (len := p.length) (cs := ints ys) (by simp [hpdl])).own.sl []
        exact this
      have hSt : Sl [(be, Ch.row 3 0 0 (ints tk))] 1 (.slice (some ⟨be, 0, some 0⟩) tk.length (2 * 1)) (ints tk) := by
        have := (OwnR.mk (e := 3) (sz := 1) (b := be) (u := 0) (o := 0) (len := tk.length) (cs := ints tk) (by simp)).own.sl []
        exact this
      have hone1 := one2 hSp.one_ hSt.one_
      have hfl1 := fill2 hSp.one_ hSt.one_
      generalize Value.slice (some ⟨bd, 0, some 0⟩) p.length (2 * 1) = vpd at hSp hone1 hfl1 ⊢
      generalize Value.slice (some ⟨be, 0, some 0⟩) tk.length (2 * 1) = vtd at hSt hone1 hfl1 ⊢
      repeat' (first | refine zP ?_ | refine zA ?_ | (refine zM ?_; intro _ _) | refine zX ?_ | (refine zC ?_; intro _ _ _ _) | (refine zS ?_; intro _ _) | (apply Ws <;> intro hg))
      refine WR.op (by first | exact gN | exact gS rfl) rfl (OpV.bldT rfl hfl1) ?_
      refine WR.append1F ((be, Ch.row 3 0 0 (ints tk)) :: (bd, Ch.row 3 0 0 (ints ys)) :: (n1, Ch.row 31 0 0 [w1, w2]) :: (Mg2 ++ Mo2)) Md (Mj ++ T) rfl rfl rfl rfl hOd (hH16.perm (by simp)) (new := [vpd, vtd]) (by rfl) hone1 rfl (by decide) (by decide) (by rw [cellsF_len pairV_len]; simp; omega) fun vd2 Md2 n17 H17 hOd2 hH17 hn17 => ?_
      rw [cells_snoc] at hOd2
      obtain ⟨Mk, hMk⟩ : ∃ Mk, [(be, Ch.row 3 0 0 (ints tk)), (bd, Ch.row 3 0 0 (ints ys))] ++ Mj = Mk := ⟨_, rfl⟩
      have hH18 : hasH (Mg2 ++ (Mo2 ++ (Md2 ++ (Mk ++ T)))) n17 H17 := by
        rw [← hMk]
        exact (hH17.perm (M' := (n1, Ch.row 31 0 0 [w1, w2]) :: (Mg2 ++ (Mo2 ++ (Md2 ++ (([(be, Ch.row 3 0 0 (ints tk)), (bd, Ch.row 3 0 0 (ints ys))] ++ Mj) ++ T))))) (by classical exact List.perm_iff_count.2 (fun a => by simp only [defds, List.map_cons, List.map_nil, List.count_append, List.count_cons, List.count_nil, List.cons_append, List.nil_append, List.append_nil]; omega))).tail
      have hRd2 : SalR (Mk ++ T) (wd ++ [(vpd, vtd)]) ((dearS S W).take (k + 1)) := by
        rw [sal_take (by rw [dear_len]; exact hk'), hpd]
        refine (hRd1.mono fun q hq => ?_).snoc (hSp.mono fun q hq => ?_) (hSt.mono fun q hq => ?_)
        · rw [← hMk, List.append_assoc]; exact List.mem_append_right _ hq
        · rw [List.mem_singleton.1 hq, ← hMk]; simp
        · rw [List.mem_singleton.1 hq, ← hMk]; simp
      have hRg3 : SalR (Mk ++ T) (wg ++ [(vp, vt)]) ((revS S).take (k + 1)) := hRg2.mono fun q hq => by rw [← hMk, List.append_assoc]; exact List.mem_append_right _ hq
      have hRo3 : SalR (Mk ++ T) (wo ++ [(w3, w4)]) ((rotS S ot).take (k + 1)) := hRo2.mono fun q hq => by rw [← hMk, List.append_assoc]; exact List.mem_append_right _ hq
      repeat' (first | refine zP ?_ | refine zA ?_ | (refine zM ?_; intro _ _) | refine zX ?_ | (refine zC ?_; intro _ _ _ _) | (refine zS ?_; intro _ _) | (apply Ws <;> intro hg))
      exact Ends.loop ⟨k + 1, vg2, vo2, vd2, wg ++ [(vp, vt)], wo ++ [(w3, w4)], wd ++ [(vpd, vtd)], Mg2, Mo2, Md2, Mk, n17⟩ (by simp only; omega) (by repeat' (first | exact .nil | refine .cons rfl ?_)) rfl ⟨hk', hOg2, hOo3, hOd2, hRg3, hRo3, hRd2, hH18⟩
  · have hkl : k = S.length := by omega
    subst hkl
    rw [List.take_of_length_le (by rw [rev_len]; exact Nat.le_refl _)] at hRg
    rw [List.take_of_length_le (by rw [rot_len]; exact Nat.le_refl _)] at hRo
    rw [List.take_of_length_le (by rw [dear_len]; exact Nat.le_refl _)] at hRd
    have hwo1 := hRo.one_
    repeat' (first | refine zP ?_ | refine zA ?_ | (refine zM ?_; intro _ _) | refine zX ?_ | (refine zC ?_; intro _ _ _ _) | (refine zS ?_; intro _ _) | (apply Ws <;> intro hg))
    refine WR.call (by first | exact gN | exact gS rfl) rfl rfl (RevOwn_fs hOo (hH.perm (M' := Mo ++ (Mg ++ (Md ++ (Mi ++ T)))) (by classical exact List.perm_iff_count.2 (fun a => by simp only [defds, List.map_cons, List.map_nil, List.count_append, List.count_cons, List.count_nil, List.cons_append, List.nil_append, List.append_nil]; omega))) (by omega) hwo1) ?_
    rintro _ H5 ⟨My, hH5, hSo⟩
    have hIg : SalesI (My ++ (Mg ++ (Md ++ (Mi ++ T)))) vg (revS S) := (hRg.mono fun q hq => by simp only [List.mem_append] at hq ⊢; exact .inr (.inr (.inr hq))).sales ((hOg.sl (Md ++ (Mi ++ T))).mono fun q hq => List.mem_append_right _ hq)
    have hIo : SalesI (My ++ (Mg ++ (Md ++ (Mi ++ T)))) vo (rotS S ot).reverse := (hRo.reverse.mono fun q hq => by simp only [List.mem_append] at hq ⊢; exact .inr (.inr (.inr hq))).sales hSo
    have hId : SalesI (My ++ (Mg ++ (Md ++ (Mi ++ T)))) vd (dearS S W) := (hRd.mono fun q hq => by simp only [List.mem_append] at hq ⊢; exact .inr (.inr (.inr hq))).sales ((hOd.sl (Mi ++ T)).mono fun q hq => List.mem_append_right _ (List.mem_append_right _ hq))
    replace hS := hS.mono (M' := My ++ (Mg ++ (Md ++ (Mi ++ T)))) fun q hq => by simp [hq]
    have hokg := rev_ok hok
    have hoko : OKS g (rotS S ot).reverse := .of hok.g1 hok.g3 (by rw [List.length_reverse, rot_len]; exact hlen6) fun s hs => by
      obtain ⟨i, hi, rfl⟩ := List.mem_map.1 (List.mem_reverse.1 hs)
      have hi := List.mem_range.1 hi
      exact hSE _ (getD_mem (Nat.mod_lt _ (by omega)))
    have hokd := dear_ok hok (fun i hi y hy => ((hSE _ (getD_mem hi)).2.2.1 y hy).2) W
    have hmg := rev_mat hok
    have hrl := rev_len S
    have hdl := dear_len S W
    have hoth := taste_oth (S := S) (S' := (rotS S ot).reverse) (t := ot) (by rw [List.length_reverse, rot_len]) fun i hi => rot_oth hi
    have hps : prs (gD (DP (matS (dearS S W)))) S.length S.length 0 = prs (gD (DP (matS S))) S.length S.length 0 := prs_congr fun a b ha hb => dear_ge ha hb
    have hpb : prs (fun a b => decide (0 < DP (matS (dearS S W)) a b)) S.length S.length 0 = prs (fun a b => decide (0 < DP (matS S) a b)) S.length S.length 0 := prs_congr fun a b ha hb => dear_gt ha hb
    have hA1 := prs_len (h := gD (DP (matS S))) (n := S.length) (a := S.length) (b := 0) hlen6 hlen6 (by omega)
    have hA2 := prs_len (h := fun a b => decide (0 < DP (matS S) a b)) (n := S.length) (a := S.length) (b := 0) hlen6 hlen6 (by omega)
    clear hH hOg hOo hOd hRg hRo hRd hSo hV hrow hwo1 hwgl hwol hwdl
    generalize My ++ (Mg ++ (Md ++ (Mi ++ T))) = X5 at hH5 hS hIg hIo hId
    repeat' (first | refine zP ?_ | refine zA ?_ | (refine zM ?_; intro _ _) | refine zX ?_ | (refine zC ?_; intro _ _ _ _) | (refine zS ?_; intro _ _) | (apply Ws <;> intro hg))
    refine WR.call (by first | exact gN | exact gS rfl) rfl rfl (Shows_fs hH5 hok hS) ?_
    rintro _ H20 ⟨n20, M20, u20, hn20, hH20, rfl, hSl20⟩
    replace hS := hS.mono (M' := M20 ++ X5) fun q hq => List.mem_append_right _ hq
    replace hIg := hIg.mono (M' := M20 ++ X5) fun q hq => List.mem_append_right _ hq
    replace hIo := hIo.mono (M' := M20 ++ X5) fun q hq => List.mem_append_right _ hq
    replace hId := hId.mono (M' := M20 ++ X5) fun q hq => List.mem_append_right _ hq
    clear hH5
    have hu20 := hSl20.one_
    generalize M20 ++ X5 = X20 at hH20 hS hIg hIo hId hSl20
    repeat' (first | refine zP ?_ | refine zA ?_ | (refine zM ?_; intro _ _) | refine zX ?_ | (refine zC ?_; intro _ _ _ _) | (refine zS ?_; intro _ _) | refine zO ?_ | (apply Ws <;> intro hg))
    refine WR.call (by first | exact gN | exact gS rfl) rfl rfl (Shows_fs hH20 hokg hIg) ?_
    rintro _ H21 ⟨n21, M21, u21, hn21, hH21, rfl, hSl21⟩
    replace hS := hS.mono (M' := M21 ++ X20) fun q hq => List.mem_append_right _ hq
    replace hIg := hIg.mono (M' := M21 ++ X20) fun q hq => List.mem_append_right _ hq
    replace hIo := hIo.mono (M' := M21 ++ X20) fun q hq => List.mem_append_right _ hq
    replace hId := hId.mono (M' := M21 ++ X20) fun q hq => List.mem_append_right _ hq
    replace hSl20 := hSl20.mono (M' := M21 ++ X20) fun q hq => List.mem_append_right _ hq
    clear hH20
    rw [hmg, hrl] at hSl21
    have hu21 := hSl21.one_
    generalize M21 ++ X20 = X21 at hH21 hS hIg hIo hId hSl20 hSl21
    repeat' (first | refine zP ?_ | refine zA ?_ | (refine zM ?_; intro _ _) | refine zX ?_ | (refine zC ?_; intro _ _ _ _) | (refine zS ?_; intro _ _) | refine zO ?_ | (apply Ws <;> intro hg))
    refine WR.call (by first | exact gN | exact gS rfl) rfl rfl (Shows_fs hH21 hokd hId) ?_
    rintro _ H22 ⟨n22, M22, u22, hn22, hH22, rfl, hSl22⟩
    replace hS := hS.mono (M' := M22 ++ X21) fun q hq => List.mem_append_right _ hq
    replace hIg := hIg.mono (M' := M22 ++ X21) fun q hq => List.mem_append_right _ hq
    replace hIo := hIo.mono (M' := M22 ++ X21) fun q hq => List.mem_append_right _ hq
    replace hId := hId.mono (M' := M22 ++ X21) fun q hq => List.mem_append_right _ hq
    replace hSl20 := hSl20.mono (M' := M22 ++ X21) fun q hq => List.mem_append_right _ hq
    replace hSl21 := hSl21.mono (M' := M22 ++ X21) fun q hq => List.mem_append_right _ hq
    clear hH21
    rw [hdl, hps] at hSl22
    have hu22 := hSl22.one_
    generalize M22 ++ X21 = X22 at hH22 hS hIg hIo hId hSl20 hSl21 hSl22
    repeat' (first | refine zP ?_ | refine zA ?_ | (refine zM ?_; intro _ _) | refine zX ?_ | (refine zC ?_; intro _ _ _ _) | (refine zS ?_; intro _ _) | refine zO ?_ | (apply Ws <;> intro hg))
    refine WR.call (by first | exact gN | exact gS rfl) rfl rfl (lpairs_fs hH22 hSl20 hSl21 (by omega) rfl) ?_
    rintro _ _ ⟨rfl, rfl⟩
    repeat' (first | refine zP ?_ | refine zA ?_ | (refine zM ?_; intro _ _) | refine zX ?_ | (refine zC ?_; intro _ _ _ _) | (refine zS ?_; intro _ _) | refine zO ?_ | (apply Ws <;> intro hg))
    refine WR.call (by first | exact gN | exact gS rfl) rfl rfl (lpairs_fs hH22 hSl20 hSl22 (by omega) rfl) ?_
    rintro _ _ ⟨rfl, rfl⟩
    repeat' (first | refine zP ?_ | refine zA ?_ | (refine zM ?_; intro _ _) | refine zX ?_ | (refine zC ?_; intro _ _ _ _) | (refine zS ?_; intro _ _) | refine zO ?_ | (apply Ws <;> intro hg))
    clear hSl20 hSl21 hSl22
    refine WR.call (by first | exact gN | exact gS rfl) rfl rfl (Better_fs hH22 hok hS) ?_
    rintro _ H23 ⟨n23, M23, u23, hn23, hH23, rfl, hSl23⟩
    replace hS := hS.mono (M' := M23 ++ X22) fun q hq => List.mem_append_right _ hq
    replace hIg := hIg.mono (M' := M23 ++ X22) fun q hq => List.mem_append_right _ hq
    replace hIo := hIo.mono (M' := M23 ++ X22) fun q hq => List.mem_append_right _ hq
    replace hId := hId.mono (M' := M23 ++ X22) fun q hq => List.mem_append_right _ hq
    clear hH22
    have hu23 := hSl23.one_
    generalize M23 ++ X22 = X23 at hH23 hS hIg hIo hId hSl23
    repeat' (first | refine zP ?_ | refine zA ?_ | (refine zM ?_; intro _ _) | refine zX ?_ | (refine zC ?_; intro _ _ _ _) | (refine zS ?_; intro _ _) | refine zO ?_ | (apply Ws <;> intro hg))
    refine WR.call (by first | exact gN | exact gS rfl) rfl rfl (Better_fs hH23 hokg hIg) ?_
    rintro _ H24 ⟨n24, M24, u24, hn24, hH24, rfl, hSl24⟩
    replace hS := hS.mono (M' := M24 ++ X23) fun q hq => List.mem_append_right _ hq
    replace hIg := hIg.mono (M' := M24 ++ X23) fun q hq => List.mem_append_right _ hq
    replace hIo := hIo.mono (M' := M24 ++ X23) fun q hq => List.mem_append_right _ hq
    replace hId := hId.mono (M' := M24 ++ X23) fun q hq => List.mem_append_right _ hq
    replace hSl23 := hSl23.mono (M' := M24 ++ X23) fun q hq => List.mem_append_right _ hq
    clear hH23
    rw [hmg, hrl] at hSl24
    have hu24 := hSl24.one_
    generalize M24 ++ X23 = X24 at hH24 hS hIg hIo hId hSl23 hSl24
    repeat' (first | refine zP ?_ | refine zA ?_ | (refine zM ?_; intro _ _) | refine zX ?_ | (refine zC ?_; intro _ _ _ _) | (refine zS ?_; intro _ _) | refine zO ?_ | (apply Ws <;> intro hg))
    refine WR.call (by first | exact gN | exact gS rfl) rfl rfl (Better_fs hH24 hokd hId) ?_
    rintro _ H25 ⟨n25, M25, u25, hn25, hH25, rfl, hSl25⟩
    replace hS := hS.mono (M' := M25 ++ X24) fun q hq => List.mem_append_right _ hq
    replace hIg := hIg.mono (M' := M25 ++ X24) fun q hq => List.mem_append_right _ hq
    replace hIo := hIo.mono (M' := M25 ++ X24) fun q hq => List.mem_append_right _ hq
    replace hId := hId.mono (M' := M25 ++ X24) fun q hq => List.mem_append_right _ hq
    replace hSl23 := hSl23.mono (M' := M25 ++ X24) fun q hq => List.mem_append_right _ hq
    replace hSl24 := hSl24.mono (M' := M25 ++ X24) fun q hq => List.mem_append_right _ hq
    clear hH24
    rw [hdl, hpb] at hSl25
    have hu25 := hSl25.one_
    generalize M25 ++ X24 = X25 at hH25 hS hIg hIo hId hSl23 hSl24 hSl25
    repeat' (first | refine zP ?_ | refine zA ?_ | (refine zM ?_; intro _ _) | refine zX ?_ | (refine zC ?_; intro _ _ _ _) | (refine zS ?_; intro _ _) | refine zO ?_ | (apply Ws <;> intro hg))
    refine WR.call (by first | exact gN | exact gS rfl) rfl rfl (lpairs_fs hH25 hSl23 hSl24 (by omega) rfl) ?_
    rintro _ _ ⟨rfl, rfl⟩
    repeat' (first | refine zP ?_ | refine zA ?_ | (refine zM ?_; intro _ _) | refine zX ?_ | (refine zC ?_; intro _ _ _ _) | (refine zS ?_; intro _ _) | refine zO ?_ | (apply Ws <;> intro hg))
    refine WR.call (by first | exact gN | exact gS rfl) rfl rfl (lpairs_fs hH25 hSl23 hSl25 (by omega) rfl) ?_
    rintro _ _ ⟨rfl, rfl⟩
    repeat' (first | refine zP ?_ | refine zA ?_ | (refine zM ?_; intro _ _) | refine zX ?_ | (refine zC ?_; intro _ _ _ _) | (refine zS ?_; intro _ _) | refine zO ?_ | (apply Ws <;> intro hg))
    clear hSl23 hSl24 hSl25
    obtain ⟨c, hc⟩ : ∃ c : Int, (if tasteB (matS S) = true then (13 : Int) else 0) = c := ⟨_, rfl⟩
    obtain ⟨z, hz⟩ : ∃ z, (firstRing (matS S)).getD [] = z := ⟨_, rfl⟩
    have hzl : z.length ≤ 100000 := by
      rw [← hz]
      cases hf : firstRing (matS S) with
      | none => simp
      | some y => have := (ring_facts hf).2.1; simp only [Option.getD_some]; omega
    refine WR.call (by first | exact gN | exact gS rfl) rfl rfl (Ring_fs hH25 hS hok.lens g) ?_
    rintro _ H26 ⟨n26, M26, hn26, hH26, hRO26⟩
    replace hS := hS.mono (M' := M26 ++ X25) fun q hq => List.mem_append_right _ hq
    replace hIg := hIg.mono (M' := M26 ++ X25) fun q hq => List.mem_append_right _ hq
    replace hIo := hIo.mono (M' := M26 ++ X25) fun q hq => List.mem_append_right _ hq
    replace hId := hId.mono (M' := M26 ++ X25) fun q hq => List.mem_append_right _ hq
    clear hH25
    obtain ⟨u26, hu26, rfl, hSl26⟩ := hRO26.ok' hok
    rw [hz] at hSl26
    rw [hc]
    generalize M26 ++ X25 = X26 at hH26 hS hIg hIo hId hSl26
    repeat' (first | refine zP ?_ | refine zA ?_ | (refine zM ?_; intro _ _) | refine zX ?_ | (refine zC ?_; intro _ _ _ _) | (refine zS ?_; intro _ _) | refine zO ?_ | (apply Ws <;> intro hg))
    refine WR.call (by first | exact gN | exact gS rfl) rfl rfl (Ring_fs hH26 hIg hokg.lens g) ?_
    rintro _ H27 ⟨n27, M27, hn27, hH27, hRO27⟩
    replace hS := hS.mono (M' := M27 ++ X26) fun q hq => List.mem_append_right _ hq
    replace hIg := hIg.mono (M' := M27 ++ X26) fun q hq => List.mem_append_right _ hq
    replace hIo := hIo.mono (M' := M27 ++ X26) fun q hq => List.mem_append_right _ hq
    replace hId := hId.mono (M' := M27 ++ X26) fun q hq => List.mem_append_right _ hq
    replace hSl26 := hSl26.mono (M' := M27 ++ X26) fun q hq => List.mem_append_right _ hq
    clear hH26
    obtain ⟨u27, hu27, rfl, hSl27⟩ := hRO27.ok' hokg
    rw [hmg, hz] at hSl27
    rw [hmg, hc]
    generalize M27 ++ X26 = X27 at hH27 hS hIg hIo hId hSl26 hSl27
    repeat' (first | refine zP ?_ | refine zA ?_ | (refine zM ?_; intro _ _) | refine zX ?_ | (refine zC ?_; intro _ _ _ _) | (refine zS ?_; intro _ _) | refine zO ?_ | (apply Ws <;> intro hg))
    refine WR.call (by first | exact gN | exact gS rfl) rfl rfl (Wrong_fs hH27 hS hok.lens g) ?_
    rintro _ H28 ⟨n28, M28, hn28, hH28, hWO28⟩
    replace hS := hS.mono (M' := M28 ++ X27) fun q hq => List.mem_append_right _ hq
    replace hIg := hIg.mono (M' := M28 ++ X27) fun q hq => List.mem_append_right _ hq
    replace hIo := hIo.mono (M' := M28 ++ X27) fun q hq => List.mem_append_right _ hq
    replace hId := hId.mono (M' := M28 ++ X27) fun q hq => List.mem_append_right _ hq
    replace hSl26 := hSl26.mono (M' := M28 ++ X27) fun q hq => List.mem_append_right _ hq
    replace hSl27 := hSl27.mono (M' := M28 ++ X27) fun q hq => List.mem_append_right _ hq
    clear hH27
    obtain ⟨u28, l28, hu28, hBW28, hSl28, rfl⟩ := hWO28.ok hok
    generalize M28 ++ X27 = X28 at hH28 hS hIg hIo hId hSl26 hSl27 hSl28
    repeat' (first | refine zP ?_ | refine zA ?_ | (refine zM ?_; intro _ _) | refine zX ?_ | (refine zC ?_; intro _ _ _ _) | (refine zS ?_; intro _ _) | refine zO ?_ | (apply Ws <;> intro hg))
    refine WR.call (by first | exact gN | exact gS rfl) rfl rfl (Wrong_fs hH28 hIo hoko.lens g) ?_
    rintro _ H29 ⟨n29, M29, hn29, hH29, hWO29⟩
    replace hS := hS.mono (M' := M29 ++ X28) fun q hq => List.mem_append_right _ hq
    replace hIg := hIg.mono (M' := M29 ++ X28) fun q hq => List.mem_append_right _ hq
    replace hIo := hIo.mono (M' := M29 ++ X28) fun q hq => List.mem_append_right _ hq
    replace hId := hId.mono (M' := M29 ++ X28) fun q hq => List.mem_append_right _ hq
    replace hSl26 := hSl26.mono (M' := M29 ++ X28) fun q hq => List.mem_append_right _ hq
    replace hSl27 := hSl27.mono (M' := M29 ++ X28) fun q hq => List.mem_append_right _ hq
    replace hSl28 := hSl28.mono (M' := M29 ++ X28) fun q hq => List.mem_append_right _ hq
    clear hH28
    obtain ⟨u29, l29, hu29, hBW29, hSl29, rfl⟩ := hWO29.ok hoko
    generalize M29 ++ X28 = X29 at hH29 hS hIg hIo hId hSl26 hSl27 hSl28 hSl29
    repeat' (first | refine zP ?_ | refine zA ?_ | (refine zM ?_; intro _ _) | refine zX ?_ | (refine zC ?_; intro _ _ _ _) | (refine zS ?_; intro _ _) | refine zO ?_ | (apply Ws <;> intro hg))
    refine WR.call (by first | exact gN | exact gS rfl) rfl rfl (Taste_fs hH29 hS hok.lens g) ?_
    rintro _ H30 ⟨n30, hn30, hH30, rfl⟩
    clear hH29
    rw [err0 hok, decide_eq_true (show (0 : Int) = 0 from rfl), Bool.true_and]
    repeat' (first | refine zP ?_ | refine zA ?_ | (refine zM ?_; intro _ _) | refine zX ?_ | (refine zC ?_; intro _ _ _ _) | (refine zS ?_; intro _ _) | refine zO ?_ | (apply Ws <;> intro hg))
    refine WR.call (by first | exact gN | exact gS rfl) rfl rfl (Taste_fs hH30 hIo hoko.lens g) ?_
    rintro _ H31 ⟨n31, hn31, hH31, rfl⟩
    clear hH30
    rw [err0 hoko, decide_eq_true (show (0 : Int) = 0 from rfl), Bool.true_and, hoth.1]
    have hll := hoth.2 _ _ hBW28 hBW29
    rw [← nodes_ints] at hSl26 hSl27
    repeat' (first | refine zP ?_ | refine zA ?_ | (refine zM ?_; intro _ _) | refine zX ?_ | (refine zC ?_; intro _ _ _ _) | (refine zS ?_; intro _ _) | refine zO ?_ | (apply Ws <;> intro hg))
    refine WR.call (by first | exact gN | exact gS rfl) rfl rfl (same_fs hH31 hSl26 hSl27 (by rw [IL_len]; omega)) ?_
    rintro _ _ ⟨rfl, rfl⟩
    rw [decide_eq_true rfl]
    repeat' (first | refine zP ?_ | refine zA ?_ | (refine zM ?_; intro _ _) | refine zX ?_ | (refine zC ?_; intro _ _ _ _) | (refine zS ?_; intro _ _) | refine zO ?_ | (apply Ws <;> intro hg))
    refine WR.op (by first | exact gN | exact gS rfl) rfl (OpV.eqB (eqlB _ _) rfl rfl) ?_
    rw [show (tasteB (matS S) == tasteB (matS S)) = true by cases tasteB (matS S) <;> rfl]
    repeat' (first | refine zP ?_ | refine zA ?_ | (refine zM ?_; intro _ _) | refine zX ?_ | (refine zC ?_; intro _ _ _ _) | (refine zS ?_; intro _ _) | refine zO ?_ | (apply Ws <;> intro hg))
    refine WR.call (by first | exact gN | exact gS rfl) rfl rfl hfin ?_
    rintro _ _ ⟨rfl, rfl⟩
    repeat' (first | refine zP ?_ | refine zA ?_ | (refine zM ?_; intro _ _) | refine zX ?_ | (refine zC ?_; intro _ _ _ _) | (refine zS ?_; intro _ _) | refine zO ?_ | (apply Ws <;> intro hg))
    exact Ends.ret1 rfl rfl
end
end Go.Proofs.Ytdlfikobjnjmaaa.Tt
