/- Texts of the law, joined. -/
import Derived.Test.YtaipmdhnhffckaaJ3
namespace Go.Proofs.Ytaipmdhnhffckaa.Sh
open Go Go.Abs Go.Mth
set_option linter.unusedVariables false
set_option linter.unusedSimpArgs false
theorem neqB2 : ∀ a b : Bool, pureRun C.c.P (binOp .neq 4 (.bool a) (.bool b)) = some (.bool (a != b)) := by
  intro a b
  cases a <;> cases b <;> kernel_rfl
/-- Each finder's share is worth at least the n-th part to it. -/
def partK (vs : List (List Nat)) (ss : List Nat) (n : Nat) : Nat → Bool
  | 0 => true
  | i + 1 => partK vs ss n i && decide (sumN (fun j => wor (vs.getD i []) (ss.getD j 0)) n ≤ n * wor (vs.getD i []) (ss.getD i 0))
theorem part_iff {vs : List (List Nat)} {ss : List Nat} {n : Nat} : ∀ {k : Nat}, partK vs ss n k = true ↔ ∀ i, i < k → sumN (fun j => wor (vs.getD i []) (ss.getD j 0)) n ≤ n * wor (vs.getD i []) (ss.getD i 0)
  | 0 => by simp [partK]
  | k + 1 => by
    rw [partK, Bool.and_eq_true, part_iff, decide_eq_true_eq]
    constructor
    · rintro ⟨h1, h2⟩ i hi
      by_cases e : i = k
      · rw [e]; exact h2
      · exact h1 i (by omega)
    · exact fun h => ⟨fun i hi => h i (by omega), h k (by omega)⟩
theorem sum_le_mul {f : Nat → Nat} {c : Nat} : ∀ {n : Nat}, (∀ i, i < n → f i ≤ c) → sumN f n ≤ n * c
  | 0, _ => by simp [sumN]
  | n + 1, h => by
    have h1 := sum_le_mul (n := n) fun i hi => h i (by omega)
    have h2 := h n (by omega)
    simp only [sumN]
    rw [Nat.succ_mul]
    omega
theorem env_false {vs : List (List Nat)} {ss : List Nat} {a b : Nat} : envP vs ss a b = false ↔ wor (vs.getD a []) (ss.getD b 0) ≤ wor (vs.getD a []) (ss.getD a 0) := by
  unfold envP envB
  rw [decide_eq_false_iff_not]; omega
theorem part_of_fair {vs : List (List Nat)} {ss : List Nat} {n : Nat} (h : (pairsL (envP vs ss) n).isEmpty = true) : partK vs ss n n = true := by
  rw [List.isEmpty_iff, pairs_nil] at h
  exact part_iff.2 fun i hi => sum_le_mul fun j hj => env_false.1 (h i j hi hj)
theorem fair_of_part {vs : List (List Nat)} {ss : List Nat} (h : partK vs ss 2 2 = true) : (pairsL (envP vs ss) 2).isEmpty = true := by
  rw [List.isEmpty_iff, pairs_nil]
  intro a b ha hb
  rw [env_false]
  have h0 := part_iff.1 h 0 (by omega)
  have h1 := part_iff.1 h 1 (by omega)
  simp only [sumN] at h0 h1
  obtain rfl | rfl : a = 0 ∨ a = 1 := by omega
  · obtain rfl | rfl : b = 0 ∨ b = 1 := by omega
    · omega
    · omega
  · obtain rfl | rfl : b = 0 ∨ b = 1 := by omega
    · omega
    · omega
theorem isEmpty_snoc {α : Type} (l : List α) (z : α) : (l ++ [z]).isEmpty = false := by cases l <;> rfl
theorem done_step {p : Nat → Nat → Bool} {n i j : Nat} : (doneP p n i (j + 1)).isEmpty = ((doneP p n i j).isEmpty && !p i j) := by
  cases h : p i j with
  | true => rw [done_yes h, isEmpty_snoc]; simp
  | false => rw [done_no h]; simp
theorem env_not {vs : List (List Nat)} {ss : List Nat} {a b : Nat} : (!envP vs ss a b) = decide (((wor (vs.getD a []) (ss.getD b 0) : Nat) : Int) ≤ ((wor (vs.getD a []) (ss.getD a 0) : Nat) : Int)) := by
  unfold envP envB
  rw [← decide_not, decide_eq_decide]; omega
attribute [local irreducible] gOK WS WC WR WD Ends FS YS OpV seqK blockK loopK midK retK rdK asgK rangeEnd sat Cell
section
variable {M : HL} {n0 : Nat} {H : Heap} {v w : Value} {vs : List (List Nat)} {n m : Nat}
set_option maxHeartbeats 4000000 in
theorem free1_fs {X : HL} {vb nb gb cb fb rb : Nat} {c : Nat} {fv : Value} {l : List Nat}
    (hH : hasH ((gb, .row 4 0 0 [.bool true]) :: (cb, .row 3 0 0 [.int .i64 (c : Nat)]) :: (fb, .row 23 0 0 [fv]) :: X) n0 H)
    (hV : OKV vs n m) (hR : ValsN X v vs) (hv : (vb, .row 22 0 0 [v]) ∈ X) (hn : (nb, .row 3 0 0 [.int .i64 (n : Nat)]) ∈ X)
    (hrm : (rb, .row 3 0 0 (nodes l)) ∈ X) (hll : l.length = m) (ho : OKD (IL l) n m) (hc : c ≤ 4096) :
    FS C 63 [.slice (some ⟨rb, 0, some 0⟩) m (2 * m + 1), .pointer (some ⟨vb, 0, some 0⟩), .pointer (some ⟨nb, 0, some 0⟩), .pointer (some ⟨gb, 0, some 0⟩), .pointer (some ⟨cb, 0, some 0⟩), .pointer (some ⟨fb, 0, some 0⟩)] H (fun _ H' => ∃ n', n0 ≤ n' ∧
      (((pairsL (envP vs (shs n (IL l))) n).isEmpty = false ∧ hasH ((gb, .row 4 0 0 [.bool true]) :: (cb, .row 3 0 0 [.int .i64 (c : Nat)]) :: (fb, .row 23 0 0 [fv]) :: X) n' H') ∨
       ((pairsL (envP vs (shs n (IL l))) n).isEmpty = true ∧ ((c ≠ 0 ∧ hasH ((gb, .row 4 0 0 [.bool true]) :: (cb, .row 3 0 0 [.int .i64 (c + 1 : Nat)]) :: (fb, .row 23 0 0 [fv]) :: X) n' H') ∨
        (c = 0 ∧ ∃ b cp, Sl [(b, .row 3 0 0 (nodes l))] 1 (.slice (some ⟨b, 0, some 0⟩) m cp) (nodes l) ∧ hasH ((gb, .row 4 0 0 [.bool true]) :: (cb, .row 3 0 0 [.int .i64 (1 : Nat)]) :: (fb, .row 23 0 0 [.slice (some ⟨b, 0, some 0⟩) m cp]) :: (b, .row 3 0 0 (nodes l)) :: X) n' H'))))) := by
  have hvl := hV.len
  have hn4 := hV.n4
  have hn1 := hV.pos
  have hm6 := hV.m6
  have hO : ∀ {Y : HL}, (rb, Ch.row 3 0 0 (nodes l)) ∈ Y → Sl Y 1 (.slice (some ⟨rb, 0, some 0⟩) m (2 * m + 1)) (ints (IL l)) := fun {Y} h => Sl.asInts ((show Sl [(rb, Ch.row 3 0 0 (nodes l))] 1 (.slice (some ⟨rb, 0, some 0⟩) m (2 * m + 1)) (nodes l) from Sl.mkd (by simp [hll])).mono fun q hq => by rw [List.mem_singleton.1 hq]; exact h)
  have hv3 : (vb, Ch.row 22 0 0 [v]) ∈ (gb, Ch.row 4 0 0 [.bool true]) :: (cb, .row 3 0 0 [.int .i64 (c : Nat)]) :: (fb, .row 23 0 0 [fv]) :: X := .tail _ (.tail _ (.tail _ hv))
  refine FS.intro (pf := pf63) rfl rfl rfl ?_
  repeat' (first | refine zP ?_ | refine zA ?_ | (refine zM ?_; intro _ _) | refine zX ?_ | (refine zC ?_; intro _ _ _ _) | (refine zS ?_; intro _ _) | (apply Ws <;> intro hg))
  refine WR.call (by first | exact gN | exact gS rfl) rfl rfl (worths_fs hH hV hR.cons.cons.cons (hO (.tail _ (.tail _ (.tail _ hrm)))) ho.part) ?_
  rintro _ H1 ⟨us, Mi, n1, rfl, hRW, hn1, hH1⟩
  clear hH hv3
  obtain ⟨ss, hss⟩ : ∃ ss, ss = shs n (IL l) := ⟨_, rfl⟩
  rw [← hss] at hRW ⊢
  have hssl : ss.length = n := by rw [hss, shs_len]
  have hul : us.length = n := by rw [hRW.1]; simp [worM, hvl]
  have hwl : (worM vs ss).length = n := by simp [worM, hvl]
  have hRl : ∀ {i}, i < n → ((worM vs ss).getD i []).length = n := fun hi => by rw [worM_get (by omega), List.length_map, hssl]
  have hRij : ∀ {i j}, i < n → j < n → ((worM vs ss).getD i []).getD j 0 = wor (vs.getD i []) (ss.getD j 0) := fun hi hj => by rw [worM_at (by omega) (by omega)]
  have hbd : ∀ {i j}, i < n → wor (vs.getD i []) (ss.getD j 0) ≤ 120 := fun hi => hV.wor hi
  replace hH1 := hH1.perm (M' := (gb, .row 4 0 0 [.bool true]) :: (cb, .row 3 0 0 [.int .i64 (c : Nat)]) :: (fb, .row 23 0 0 [fv]) :: (n0, .row 23 0 0 us) :: (Mi ++ X)) (by
    exact List.perm_append_comm_assoc ((n0, .row 23 0 0 us) :: Mi) [_, _, _] X)
  have hSu : Sl ((gb, .row 4 0 0 [.bool true]) :: (cb, .row 3 0 0 [.int .i64 (c : Nat)]) :: (fb, .row 23 0 0 [fv]) :: (n0, .row 23 0 0 us) :: (Mi ++ X)) 1 (.slice (some ⟨n0, 0, some 0⟩) n (2 * n + 1)) us := ((Sl.mkd (M := Mi ++ X) hul).cons).cons.cons
  have hRow : ∀ {i}, i < n → Sl ((gb, .row 4 0 0 [.bool true]) :: (cb, .row 3 0 0 [.int .i64 (c : Nat)]) :: (fb, .row 23 0 0 [fv]) :: (n0, .row 23 0 0 us) :: (Mi ++ X)) 1 (us.getD i undef) (nodes ((worM vs ss).getD i [])) := fun {i} hi => (hRW.2 i (by omega)).mono fun q hq => by
    simp only [List.mem_append, List.mem_cons] at hq ⊢
    rcases hq with h | h | h | h | h <;> simp [h]
  have hnn : (nb, Ch.row 3 0 0 [.int .i64 (n : Nat)]) ∈ (gb, Ch.row 4 0 0 [.bool true]) :: (cb, .row 3 0 0 [.int .i64 (c : Nat)]) :: (fb, .row 23 0 0 [fv]) :: (n0, .row 23 0 0 us) :: (Mi ++ X) := .tail _ (.tail _ (.tail _ (.tail _ (List.mem_append_right _ hn))))
  have hback : ∀ {f : HL} {n' : Nat} {H' : Heap}, hasH (f ++ ((n0, Ch.row 23 0 0 us) :: (Mi ++ X))) n' H' → hasH (f ++ X) n' H' := fun {f _ _} h => h.sub (List.Sublist.append (List.Sublist.refl f) ((List.sublist_append_right Mi X).trans (List.sublist_cons_self _ _)))
  clear hRW
  generalize Value.slice (some ⟨n0, 0, some 0⟩) n (2 * n + 1) = u at hSu ⊢
  generalize hW : worM vs ss = W at hRow hRl hRij hwl
  repeat' (first | refine zP ?_ | refine zA ?_ | (refine zM ?_; intro _ _) | refine zX ?_ | (refine zC ?_; intro _ _ _ _) | (refine zS ?_; intro _ _) | (apply Ws <;> intro hg))
  rw [hul]
  refine WC.loopX [(0, _), (1, _), (2, _), (3, _), (4, _), (5, _), (7, _), (16, _), (17, _)] (fun s : Nat => [(8, .bool (partK vs ss n s)), (9, .bool (doneP (envP vs ss) n s 0).isEmpty), (18, .int .i64 (s : Int))]) []
    (fun s H' => s ≤ n ∧ H' = H1) (fun s => n - s) 0 (by repeat' (first | exact .nil | refine .cons rfl ?_)) rfl ⟨Nat.zero_le _, rfl⟩ ?_
  rintro i H2 ⟨hi, rfl⟩
  dsimp only [List.cons_append, List.nil_append]
  repeat' (first | refine zP ?_ | refine zA ?_ | (refine zM ?_; intro _ _) | refine zX ?_ | (refine zC ?_; intro _ _ _ _) | (refine zS ?_; intro _ _) | (apply Ws <;> intro hg))
  refine WC.condP rfl (fun hlt => ?_) (fun hlt => ?_)
  · have hi' : i < n := by omega
    have hri := hRow hi'
    have hrl := hRl hi'
    repeat' (first | refine zP ?_ | refine zA ?_ | (refine zM ?_; intro _ _) | refine zX ?_ | (refine zC ?_; intro _ _ _ _) | (refine zS ?_; intro _ _) | (apply Ws <;> intro hg))
    rw [hul]
    refine WC.loopX [(0, _), (1, _), (2, _), (3, _), (4, _), (5, _), (7, _), (8, _), (10, _), (16, _), (17, _), (18, _), (21, _), (22, _)] (fun s : Nat => [(9, .bool (doneP (envP vs ss) n i s).isEmpty), (11, .int .i64 (sumN (fun j => wor (vs.getD i []) (ss.getD j 0)) s : Nat)), (23, .int .i64 (s : Int))]) []
      (fun s H' => s ≤ n ∧ H' = H2) (fun s => n - s) 0 (by repeat' (first | exact .nil | refine .cons rfl ?_)) rfl ⟨Nat.zero_le _, rfl⟩ ?_
    rintro j H3 ⟨hj, rfl⟩
    dsimp only [List.cons_append, List.nil_append]
    repeat' (first | refine zP ?_ | refine zA ?_ | (refine zM ?_; intro _ _) | refine zX ?_ | (refine zC ?_; intro _ _ _ _) | (refine zS ?_; intro _ _) | (apply Ws <;> intro hg))
    refine WC.condP rfl (fun hlt2 => ?_) (fun hlt2 => ?_)
    · have hj' : j < n := by omega
      have hr1 := hRij hi' hj'
      have hr2 := hRij hi' hi'
      have hb1 := hbd (j := j) hi'
      have hb2 := hbd (j := i) hi'
      have hsu : sumN (fun j => wor (vs.getD i []) (ss.getD j 0)) j ≤ j * 120 := sum_le_mul fun x _ => hbd hi'
      repeat' (first | refine zP ?_ | refine zA ?_ | (refine zM ?_; intro _ _) | refine zX ?_ | (refine zC ?_; intro _ _ _ _) | (refine zS ?_; intro _ _) | (apply Ws <;> intro hg))
      rw [show ((sumN (fun j => wor (vs.getD i []) (ss.getD j 0)) j : Nat) : Int) + (((W.getD i []).getD j 0 : Nat) : Int) = ((sumN (fun j => wor (vs.getD i []) (ss.getD j 0)) (j + 1) : Nat) : Int) by rw [hr1]; simp only [sumN]; omega]
      have hds := done_step (p := envP vs ss) (n := n) (i := i) (j := j)
      cases hd : (doneP (envP vs ss) n i j).isEmpty with
      | true =>
        rw [hd, Bool.true_and, env_not, ← hr1, ← hr2] at hds
        repeat' (first | refine zP ?_ | refine zA ?_ | (refine zM ?_; intro _ _) | refine zX ?_ | (refine zC ?_; intro _ _ _ _) | (refine zS ?_; intro _ _) | refine zO ?_ | (apply Ws <;> intro hg))
        rw [← hds]
        repeat' (first | refine zP ?_ | refine zA ?_ | (refine zM ?_; intro _ _) | refine zX ?_ | (refine zC ?_; intro _ _ _ _) | (refine zS ?_; intro _ _) | (apply Ws <;> intro hg))
        rw [show (j : Int) + 1 = ((j + 1 : Nat) : Int) by omega]
        exact Ends.loop (j + 1) (by omega) (by repeat' (first | exact .nil | refine .cons rfl ?_)) rfl ⟨hj', rfl⟩
      | false =>
        rw [hd, Bool.false_and] at hds
        repeat' (first | refine zP ?_ | refine zA ?_ | (refine zM ?_; intro _ _) | refine zX ?_ | (refine zC ?_; intro _ _ _ _) | (refine zS ?_; intro _ _) | refine zO ?_ | (apply Ws <;> intro hg))
        rw [show (j : Int) + 1 = ((j + 1 : Nat) : Int) by omega]
        exact Ends.loop (j + 1) (by omega) (by rw [hds]; exact (by repeat' (first | exact .nil | refine .cons rfl ?_))) rfl ⟨hj', rfl⟩
    · have hjn : j = n := by omega
      have hr2 := hRij hi' hi'
      have hb2 := hbd (j := i) hi'
      have hmu : n * wor (vs.getD i []) (ss.getD i 0) ≤ 4 * 120 := Nat.mul_le_mul hn4 hb2
      have hmi : (n : Int) * (((W.getD i []).getD i 0 : Nat) : Int) = ((n * wor (vs.getD i []) (ss.getD i 0) : Nat) : Int) := by rw [hr2]; simp
      have hmj : 0 ≤ (n : Int) * (((W.getD i []).getD i 0 : Nat) : Int) ∧ (n : Int) * (((W.getD i []).getD i 0 : Nat) : Int) ≤ 480 := by rw [hmi]; omega
      have hsn : sumN (fun j => wor (vs.getD i []) (ss.getD j 0)) n ≤ n * 120 := sum_le_mul fun x _ => hbd hi'
      have hpk : partK vs ss n (i + 1) = (partK vs ss n i && decide (sumN (fun j => wor (vs.getD i []) (ss.getD j 0)) n ≤ n * wor (vs.getD i []) (ss.getD i 0))) := rfl
      rw [hjn, ← done_next]
      cases hp : partK vs ss n i with
      | true =>
        rw [hp, Bool.true_and] at hpk
        repeat' (first | refine zP ?_ | refine zA ?_ | (refine zM ?_; intro _ _) | refine zX ?_ | (refine zC ?_; intro _ _ _ _) | (refine zS ?_; intro _ _) | refine zO ?_ | (apply Ws <;> intro hg))
        rw [hmi, show decide (((sumN (fun j => wor (vs.getD i []) (ss.getD j 0)) n : Nat) : Int) ≤ ((n * wor (vs.getD i []) (ss.getD i 0) : Nat) : Int)) = partK vs ss n (i + 1) by rw [hpk, decide_eq_decide]; omega]
        repeat' (first | refine zP ?_ | refine zA ?_ | (refine zM ?_; intro _ _) | refine zX ?_ | (refine zC ?_; intro _ _ _ _) | (refine zS ?_; intro _ _) | (apply Ws <;> intro hg))
        rw [show (i : Int) + 1 = ((i + 1 : Nat) : Int) by omega]
        exact Ends.loop (i + 1) (by omega) (by repeat' (first | exact .nil | refine .cons rfl ?_)) rfl ⟨hi', rfl⟩
      | false =>
        rw [hp, Bool.false_and] at hpk
        repeat' (first | refine zP ?_ | refine zA ?_ | (refine zM ?_; intro _ _) | refine zX ?_ | (refine zC ?_; intro _ _ _ _) | (refine zS ?_; intro _ _) | refine zO ?_ | (apply Ws <;> intro hg))
        rw [show (i : Int) + 1 = ((i + 1 : Nat) : Int) by omega]
        exact Ends.loop (i + 1) (by omega) (by rw [hpk]; exact (by repeat' (first | exact .nil | refine .cons rfl ?_))) rfl ⟨hi', rfl⟩
  · have hin : i = n := by omega
    have hff : (doneP (envP vs ss) n n 0).isEmpty = (pairsL (envP vs ss) n).isEmpty := by rw [done_all]
    rw [hin, hff]
    clear hRow hRij hRl hSu
    replace hH1 : hasH ((gb, .row 4 0 0 [.bool true]) :: (cb, .row 3 0 0 [.int .i64 (c : Nat)]) :: (fb, .row 23 0 0 [fv]) :: X) n1 H2 := hback (f := [_, _, _]) hH1
    replace hn : (nb, Ch.row 3 0 0 [.int .i64 (n : Nat)]) ∈ (gb, Ch.row 4 0 0 [.bool true]) :: (cb, .row 3 0 0 [.int .i64 (c : Nat)]) :: (fb, .row 23 0 0 [fv]) :: X := .tail _ (.tail _ (.tail _ hn))
    clear hnn hback hO
    cases hf : (pairsL (envP vs ss) n).isEmpty with
    | true =>
      rw [part_of_fair hf]
      by_cases hn2 : n = 2
      · by_cases hc0 : c = 0
        · subst hc0
          repeat' (first | refine zP ?_ | refine zA ?_ | (refine zM ?_; intro _ _) | refine zX ?_ | (refine zC ?_; intro _ _ _ _) | (refine zS ?_; intro _ _) | refine zO ?_ | (apply Ws <;> intro hg))
          refine WR.op (by first | exact gN | exact gS rfl) rfl (OpV.neB (neqB2 _ _) rfl rfl) ?_
          rw [show (true != true) = false from rfl]
          repeat' (first | refine zP ?_ | refine zA ?_ | (refine zM ?_; intro _ _) | refine zX ?_ | (refine zC ?_; intro _ _ _ _) | (refine zS ?_; intro _ _) | refine zO ?_ | (apply Ws <;> intro hg))
          refine WR.call (by first | exact gN | exact gS rfl) rfl rfl (cloneR_fs (m := m) hH1 (.tail _ (.tail _ (.tail _ hrm))) hll (by omega)) ?_
          rintro _ H3 ⟨b, cp, n3, rfl, hSc, hn3, hH3⟩
          refine WR.storeBox (by first | exact gN | exact gS rfl) hH3 rfl rfl rfl (.there (.there (.there .here))) fun H4 hH4 => ?_
          repeat' (first | refine zP ?_ | refine zA ?_ | (refine zM ?_; intro _ _) | refine zX ?_ | (refine zC ?_; intro _ _ _ _) | (refine zS ?_; intro _ _) | (apply Ws <;> intro hg))
          rename_i H5 hH5
          rw [show ((0 : Nat) : Int) + 1 = ((1 : Nat) : Int) from rfl] at hH5
          refine Ends.end0 ?_
          exact ⟨n3, by omega, .inr ⟨rfl, .inr ⟨rfl, b, cp, hSc, hH5.perm (List.perm_middle (l₁ := [_, _, _])).symm⟩⟩⟩
        · repeat' (first | refine zP ?_ | refine zA ?_ | (refine zM ?_; intro _ _) | refine zX ?_ | (refine zC ?_; intro _ _ _ _) | (refine zS ?_; intro _ _) | refine zO ?_ | (apply Ws <;> intro hg))
          refine WR.op (by first | exact gN | exact gS rfl) rfl (OpV.neB (neqB2 _ _) rfl rfl) ?_
          rw [show (true != true) = false from rfl]
          repeat' (first | refine zP ?_ | refine zA ?_ | (refine zM ?_; intro _ _) | refine zX ?_ | (refine zC ?_; intro _ _ _ _) | (refine zS ?_; intro _ _) | refine zO ?_ | (apply Ws <;> intro hg))
          rename_i H5 hH5
          rw [show (c : Int) + 1 = ((c + 1 : Nat) : Int) by omega] at hH5
          refine Ends.end0 ?_
          exact ⟨n1, by omega, .inr ⟨rfl, .inl ⟨hc0, hH5⟩⟩⟩
      · by_cases hc0 : c = 0
        · subst hc0
          repeat' (first | refine zP ?_ | refine zA ?_ | (refine zM ?_; intro _ _) | refine zX ?_ | (refine zC ?_; intro _ _ _ _) | (refine zS ?_; intro _ _) | refine zO ?_ | (apply Ws <;> intro hg))
          refine WR.call (by first | exact gN | exact gS rfl) rfl rfl (cloneR_fs (m := m) hH1 (.tail _ (.tail _ (.tail _ hrm))) hll (by omega)) ?_
          rintro _ H3 ⟨b, cp, n3, rfl, hSc, hn3, hH3⟩
          refine WR.storeBox (by first | exact gN | exact gS rfl) hH3 rfl rfl rfl (.there (.there (.there .here))) fun H4 hH4 => ?_
          repeat' (first | refine zP ?_ | refine zA ?_ | (refine zM ?_; intro _ _) | refine zX ?_ | (refine zC ?_; intro _ _ _ _) | (refine zS ?_; intro _ _) | (apply Ws <;> intro hg))
          rename_i H5 hH5
          rw [show ((0 : Nat) : Int) + 1 = ((1 : Nat) : Int) from rfl] at hH5
          refine Ends.end0 ?_
          exact ⟨n3, by omega, .inr ⟨rfl, .inr ⟨rfl, b, cp, hSc, hH5.perm (List.perm_middle (l₁ := [_, _, _])).symm⟩⟩⟩
        · repeat' (first | refine zP ?_ | refine zA ?_ | (refine zM ?_; intro _ _) | refine zX ?_ | (refine zC ?_; intro _ _ _ _) | (refine zS ?_; intro _ _) | refine zO ?_ | (apply Ws <;> intro hg))
          rename_i H5 hH5
          rw [show (c : Int) + 1 = ((c + 1 : Nat) : Int) by omega] at hH5
          refine Ends.end0 ?_
          exact ⟨n1, by omega, .inr ⟨rfl, .inl ⟨hc0, hH5⟩⟩⟩
    | false =>
      by_cases hn2 : n = 2
      · cases hp : partK vs ss n n with
        | true =>
          rw [hn2] at hp hf; rw [fair_of_part hp] at hf; cases hf
        | false =>
          repeat' (first | refine zP ?_ | refine zA ?_ | (refine zM ?_; intro _ _) | refine zX ?_ | (refine zC ?_; intro _ _ _ _) | (refine zS ?_; intro _ _) | refine zO ?_ | (apply Ws <;> intro hg))
          refine WR.op (by first | exact gN | exact gS rfl) rfl (OpV.neB (neqB2 _ _) rfl rfl) ?_
          rw [show (false != false) = false from rfl]
          repeat' (first | refine zP ?_ | refine zA ?_ | (refine zM ?_; intro _ _) | refine zX ?_ | (refine zC ?_; intro _ _ _ _) | (refine zS ?_; intro _ _) | refine zO ?_ | (apply Ws <;> intro hg))
          refine Ends.end0 ?_
          exact ⟨n1, by omega, .inl ⟨rfl, hH1⟩⟩
      · cases hp : partK vs ss n n with
        | true =>
          repeat' (first | refine zP ?_ | refine zA ?_ | (refine zM ?_; intro _ _) | refine zX ?_ | (refine zC ?_; intro _ _ _ _) | (refine zS ?_; intro _ _) | refine zO ?_ | (apply Ws <;> intro hg))
          refine Ends.end0 ?_
          exact ⟨n1, by omega, .inl ⟨rfl, hH1⟩⟩
        | false =>
          repeat' (first | refine zP ?_ | refine zA ?_ | (refine zM ?_; intro _ _) | refine zX ?_ | (refine zC ?_; intro _ _ _ _) | (refine zS ?_; intro _ _) | refine zO ?_ | (apply Ws <;> intro hg))
          refine Ends.end0 ?_
          exact ⟨n1, by omega, .inl ⟨rfl, hH1⟩⟩
end
end Go.Proofs.Ytaipmdhnhffckaa.Sh

namespace Go.Proofs.Ytaipmdhnhffckaa.Sh
open Go Go.Abs Go.Mth
set_option linter.unusedVariables false
set_option linter.unusedSimpArgs false
theorem okv_one {vs us : List (List Nat)} {n m N k : Nat} (h : OKV vs n m) (hu : OKV us N k) (he : ILL us = ILL vs) : us = vs ∧ N = n ∧ k = m := by
  have h1 : us = vs := by rw [← natV_ILL us, he, natV_ILL]
  subst h1
  have h2 : N = n := by rw [← hu.len, h.len]
  subst h2
  refine ⟨rfl, rfl, ?_⟩
  rw [← hu.rowLen hu.pos, h.rowLen hu.pos]
theorem cnt_zero {p : Nat → Bool} : ∀ {k : Nat}, cntK p k = 0 → ∀ i, i < k → p i = false
  | 0, _, i, hi => absurd hi (Nat.not_lt_zero _)
  | k + 1, h, i, hi => by
    have h1 : cntK p k + (if p k = true then 1 else 0) = 0 := h
    by_cases e : i = k
    · rw [e]
      cases hp : p k with
      | false => rfl
      | true => rw [hp, if_pos rfl] at h1; omega
    · exact cnt_zero (k := k) (by omega) i (by omega)
attribute [local irreducible] gOK WS WC WR WD Ends FS YS OpV seqK blockK loopK midK retK rdK asgK rangeEnd sat Cell
section
variable {M : HL} {n0 : Nat} {H : Heap}
set_option maxHeartbeats 16000000 in
theorem ShareFree_fs (hH : hasH M n0 H) {a b : Int} {hs : List Int} (ha : 0 ≤ a ∧ a ≤ 255) (hb : 0 ≤ b ∧ b ≤ 255) (hl : hs.length = 24) (hu : ∀ x ∈ hs, 0 ≤ x ∧ x ≤ 255) :
    FS C 10 [.agg (heapV a b hs).toArray] H (fun e H' => e = .bool true) := by
  have hone := heap_one a b hs
  refine FS.intro (pf := pf10) rfl rfl rfl ?_
  repeat' (first | refine zP ?_ | refine zA ?_ | (refine zM ?_; intro _ _) | refine zX ?_ | (refine zC ?_; intro _ _ _ _) | (refine zS ?_; intro _ _))
  rename_i H1 hH1
  refine WR.op (by first | exact gN | exact gS rfl) rfl (OpV.loadAll (k := 26) rfl hH1 (.head _) (.row _ _ _ _) (by simp [heapV, hl])) ?_
  refine WR.call (by first | exact gN | exact gS rfl) rfl rfl (made_fs hH1 ha hb hl hu (fi := 3) (th := 6) (most := 6) (by omega) (by omega) (by omega)) ?_
  rintro v H3 ⟨ws, Mo, Mi, n3, hO, hR, hn3, hH3⟩
  clear hH1
  have hV := made_ok (a := a) (b := b) (hs := hs) (fi := 3) (th := 6) (most := 6) (by omega) (by omega) (by omega)
  have hSv := hO.own.sl (Mi ++ (n0, Ch.row 49 0 0 (heapV a b hs)) :: M)
  have hRU := hR.mono (M' := Mo ++ (Mi ++ (n0, Ch.row 49 0 0 (heapV a b hs)) :: M)) fun q hq => List.mem_append_right _ hq
  have hwl : ws.length = 1 + a.toNat % 3 := by rw [hR.1, hV.len]
  clear hO hone hR
  generalize Mo ++ (Mi ++ (n0, Ch.row 49 0 0 (heapV a b hs)) :: M) = U at hH3 hRU hSv
  generalize madeVs a b hs 3 6 6 = vs at hRU hV
  generalize 1 + a.toNat % 3 = N at hV hwl
  generalize b.toNat % (6 + 1) = m at hV
  have hN1 := hV.pos
  have hN4 := hV.n4
  have hm6 := hV.m6
  have hvl := hV.len
  have hv1 := hSv.one_
  have hpw := pow_4096 hN4 hm6 hN1
  have hVU : ValsN U v vs := ⟨ws, hSv, hRU⟩
  repeat' (first | refine zP ?_ | refine zA ?_ | (refine zM ?_; intro _ _) | refine zX ?_ | (refine zC ?_; intro _ _ _ _) | (refine zS ?_; intro _ _) | (apply Ws <;> intro hg))
  rename_i hH4
  rw [hwl] at hH4
  refine WR.call (by first | exact gN | exact gS rfl) rfl rfl (ldivisions_fs (g := 63) (vs := vs) (n := N) (m := m)
    (J := fun k M' n' => n3 ≤ n' ∧ ∃ fv Mf, M' = (n3 + 1 + 1 + 1 + 1, Ch.row 4 0 0 [.bool true]) :: (n3 + 1 + 1 + 1, .row 3 0 0 [.int .i64 (cntK (fairK vs N m) k : Nat)]) :: (n3 + 1 + 1, .row 23 0 0 [fv]) :: (Mf ++ ((n3 + 1, .row 3 0 0 [.int .i64 (N : Nat)]) :: (n3, .row 22 0 0 [v]) :: U)) ∧
      ((cntK (fairK vs N m) k = 0 ∧ Mf = []) ∨ (cntK (fairK vs N m) k ≠ 0 ∧ ∃ k0 b cp, k0 < k ∧ fairK vs N m k0 = true ∧ (∀ i, i < k0 → fairK vs N m i = false) ∧ fv = .slice (some ⟨b, 0, some 0⟩) m cp ∧ Mf = [(b, .row 3 0 0 (nodes (divK N m k0)))] ∧ Sl Mf 1 fv (nodes (divK N m k0)))))
    hV (hVU.mono fun q hq => by simp [hq]) ?_ (fun k M' n' n'' h1 h2 => ⟨by omega, h1.2⟩) ?_ hH4 ⟨by omega, .slice none 0 0, [], rfl, .inl ⟨rfl, rfl⟩⟩) ?_
  · rintro k _ n' ⟨_, fv, Mf, rfl, _⟩
    exact hVU.mono fun q hq => by simp [hq]
  · rintro k _ n' H5 ⟨hn', fv, Mf, rfl, hcase⟩ hk hH5
    have hcs : cntK (fairK vs N m) (k + 1) = cntK (fairK vs N m) k + (if fairK vs N m k = true then 1 else 0) := rfl
    have hcl := cntK_le (fairK vs N m) k
    refine FS.mono (free1_fs (l := divK N m k) (hH5.perm (List.perm_middle (l₁ := [_, _, _])).symm) hV (hVU.mono fun q hq => by simp [hq]) (by simp) (by simp) (.head _) (divK_len N m k) (divK_ok hN1) (by omega)) ?_
    rintro _ H6 ⟨n6, hn6, ⟨hf, hH6⟩ | ⟨hf, ⟨hc0, hH6⟩ | ⟨hc0, b6, cp, hSc, hH6⟩⟩⟩
    · have hf' : fairK vs N m k = false := hf
      rw [hf', if_neg (by decide), Nat.add_zero] at hcs
      refine ⟨_, n6, hH6.perm (List.perm_middle (l₁ := [_, _, _])), by omega, fv, Mf, by rw [hcs]; rfl, ?_⟩
      rw [hcs]
      rcases hcase with h | ⟨h1, k0, b0, cp0, h2, h3⟩
      · exact .inl h
      · exact .inr ⟨h1, k0, b0, cp0, by omega, h3⟩
    · have hf' : fairK vs N m k = true := hf
      rw [hf', if_pos rfl] at hcs
      refine ⟨_, n6, hH6.perm (List.perm_middle (l₁ := [_, _, _])), by omega, fv, Mf, by rw [hcs]; rfl, ?_⟩
      rw [hcs]
      rcases hcase with h | ⟨h1, k0, b0, cp0, h2, h3⟩
      · exact absurd h.1 hc0
      · exact .inr ⟨by omega, k0, b0, cp0, by omega, h3⟩
    · have hf' : fairK vs N m k = true := hf
      rw [hf', if_pos rfl, hc0] at hcs
      rcases hcase with ⟨h1, rfl⟩ | ⟨h1, _⟩
      · refine ⟨_, n6, hH6.perm (List.perm_middle (l₁ := [_, _, _, _])), by omega, .slice (some ⟨b6, 0, some 0⟩) m cp, [(b6, .row 3 0 0 (nodes (divK N m k)))], by rw [hcs]; rfl, ?_⟩
        rw [hcs]
        exact .inr ⟨by omega, k, b6, cp, by omega, hf', cnt_zero hc0, rfl, rfl, hSc⟩
      · exact absurd hc0 h1
  rintro _ H5 ⟨_, n5, hH5, hn5, fv, Mf, rfl, hcase⟩
  clear hH4 hH3
  obtain ⟨cn, hcn⟩ : ∃ cn, cn = cntK (fairK vs N m) (N ^ m) := ⟨_, rfl⟩
  have hcl := cntK_le (fairK vs N m) (N ^ m)
  rw [← hcn] at hH5 hcase hcl
  have hr0 := hRU.2 0 (by omega)
  have hfl : (ILL vs).length = N := by simp [hvl]
  have hll : ∀ l ∈ ILL vs, l.length ≤ 1000 := fun l hl => by
    obtain ⟨q, hq, rfl⟩ := List.mem_map.1 hl
    rw [List.length_map, hV.row q hq]; omega
  have hc0 := vals_intro hV
  rcases hcase with ⟨h0, rfl⟩ | ⟨h0, k0, b0, cp0, hk0, hf0, hb0, rfl, rfl, hS0⟩
  · have hno := cnt_zero (hcn.symm.trans h0)
    subst h0
    replace hVU : ValsN _ v vs := hVU.mono (M' := (n3 + 1 + 1 + 1 + 1, Ch.row 4 0 0 [.bool true]) :: (n3 + 1 + 1 + 1, .row 3 0 0 [.int .i64 (0 : Nat)]) :: (n3 + 1 + 1, .row 23 0 0 [fv]) :: (n3 + 1, .row 3 0 0 [.int .i64 (N : Nat)]) :: (n3, .row 22 0 0 [v]) :: U) fun q hq => by simp [hq]
    simp only [List.nil_append] at hH5
    clear hRU hSv hr0
    repeat' (first | refine zP ?_ | refine zA ?_ | (refine zM ?_; intro _ _) | refine zX ?_ | (refine zC ?_; intro _ _ _ _) | (refine zS ?_; intro _ _) | (apply Ws <;> intro hg))
    refine WR.call (by first | exact gN | exact gS rfl) rfl rfl (Free_fs hH5 hVU.rows (by simp [hvl]; omega) hll) ?_
    rintro _ H6 ⟨n6, hn6, ⟨h, _⟩ | ⟨us, N2, m2, he, hV2, ⟨_, rfl, hH6⟩ | ⟨k2, b2, cp2, hk2, hf2, _⟩⟩⟩
    · exact absurd hc0 h
    · clear hH5
      repeat' (first | refine zP ?_ | refine zA ?_ | (refine zM ?_; intro _ _) | refine zX ?_ | (refine zC ?_; intro _ _ _ _) | (refine zS ?_; intro _ _) | (apply Ws <;> intro hg))
      refine WR.call (by first | exact gN | exact gS rfl) rfl rfl (Count_fs hH6 hVU.rows (by simp [hvl]; omega) hll) ?_
      rintro _ H7 ⟨n7, hn7, hH7, ⟨h, _⟩ | ⟨us3, N3, m3, he3, hV3, rfl⟩⟩
      · exact absurd hc0 h
      obtain ⟨rfl, rfl, rfl⟩ := okv_one hV hV3 he3.symm
      rw [← hcn]
      clear hH6
      repeat' (first | refine zP ?_ | refine zA ?_ | (refine zM ?_; intro _ _) | refine zX ?_ | (refine zC ?_; intro _ _ _ _) | (refine zS ?_; intro _ _) | refine zO ?_ | (apply Ws <;> intro hg))
      refine WR.call (by first | exact gN | exact gS rfl) rfl rfl (FS.works (C := C) (R := fun v H' => v = .bool true) rfl) ?_
      rintro _ _ rfl
      repeat' (first | refine zP ?_ | refine zA ?_ | (refine zM ?_; intro _ _) | refine zX ?_ | (refine zC ?_; intro _ _ _ _) | (refine zS ?_; intro _ _) | (apply Ws <;> intro hg))
      exact Ends.ret1 rfl rfl
    · obtain ⟨rfl, rfl, rfl⟩ := okv_one hV hV2 he.symm
      rw [hno k2 hk2] at hf2; cases hf2
  · replace hVU : ValsN _ v vs := hVU.mono (M' := (n3 + 1 + 1 + 1 + 1, Ch.row 4 0 0 [.bool true]) :: (n3 + 1 + 1 + 1, .row 3 0 0 [.int .i64 (cn : Nat)]) :: (n3 + 1 + 1, .row 23 0 0 [.slice (some ⟨b0, 0, some 0⟩) m cp0]) :: (b0, .row 3 0 0 (nodes (divK N m k0))) :: (n3 + 1, .row 3 0 0 [.int .i64 (N : Nat)]) :: (n3, .row 22 0 0 [v]) :: U) fun q hq => by simp [hq]
    simp only [List.cons_append, List.nil_append] at hH5
    have hSf : Sl ((n3 + 1 + 1 + 1 + 1, Ch.row 4 0 0 [.bool true]) :: (n3 + 1 + 1 + 1, .row 3 0 0 [.int .i64 (cn : Nat)]) :: (n3 + 1 + 1, .row 23 0 0 [.slice (some ⟨b0, 0, some 0⟩) m cp0]) :: (b0, .row 3 0 0 (nodes (divK N m k0))) :: (n3 + 1, .row 3 0 0 [.int .i64 (N : Nat)]) :: (n3, .row 22 0 0 [v]) :: U) 1 (.slice (some ⟨b0, 0, some 0⟩) m cp0) (ints (IL (divK N m k0))) := Sl.asInts (hS0.mono fun q hq => by rw [List.mem_singleton.1 hq]; simp)
    have hmg : (n3 + 1 + 1 + 1 + 1, Ch.row 4 0 0 [.bool true]) ∈ (n3 + 1 + 1 + 1 + 1, Ch.row 4 0 0 [.bool true]) :: (n3 + 1 + 1 + 1, .row 3 0 0 [.int .i64 (cn : Nat)]) :: (n3 + 1 + 1, .row 23 0 0 [.slice (some ⟨b0, 0, some 0⟩) m cp0]) :: (b0, .row 3 0 0 (nodes (divK N m k0))) :: (n3 + 1, .row 3 0 0 [.int .i64 (N : Nat)]) :: (n3, .row 22 0 0 [v]) :: U := by simp
    have hmc : (n3 + 1 + 1 + 1, Ch.row 3 0 0 [.int .i64 (cn : Nat)]) ∈ (n3 + 1 + 1 + 1 + 1, Ch.row 4 0 0 [.bool true]) :: (n3 + 1 + 1 + 1, .row 3 0 0 [.int .i64 (cn : Nat)]) :: (n3 + 1 + 1, .row 23 0 0 [.slice (some ⟨b0, 0, some 0⟩) m cp0]) :: (b0, .row 3 0 0 (nodes (divK N m k0))) :: (n3 + 1, .row 3 0 0 [.int .i64 (N : Nat)]) :: (n3, .row 22 0 0 [v]) :: U := by simp
    have hmf : (n3 + 1 + 1, Ch.row 23 0 0 [.slice (some ⟨b0, 0, some 0⟩) m cp0]) ∈ (n3 + 1 + 1 + 1 + 1, Ch.row 4 0 0 [.bool true]) :: (n3 + 1 + 1 + 1, .row 3 0 0 [.int .i64 (cn : Nat)]) :: (n3 + 1 + 1, .row 23 0 0 [.slice (some ⟨b0, 0, some 0⟩) m cp0]) :: (b0, .row 3 0 0 (nodes (divK N m k0))) :: (n3 + 1, .row 3 0 0 [.int .i64 (N : Nat)]) :: (n3, .row 22 0 0 [v]) :: U := by simp
    have hmv : (n3, Ch.row 22 0 0 [v]) ∈ (n3 + 1 + 1 + 1 + 1, Ch.row 4 0 0 [.bool true]) :: (n3 + 1 + 1 + 1, .row 3 0 0 [.int .i64 (cn : Nat)]) :: (n3 + 1 + 1, .row 23 0 0 [.slice (some ⟨b0, 0, some 0⟩) m cp0]) :: (b0, .row 3 0 0 (nodes (divK N m k0))) :: (n3 + 1, .row 3 0 0 [.int .i64 (N : Nat)]) :: (n3, .row 22 0 0 [v]) :: U := by simp
    generalize (n3 + 1 + 1 + 1 + 1, Ch.row 4 0 0 [.bool true]) :: (n3 + 1 + 1 + 1, .row 3 0 0 [.int .i64 (cn : Nat)]) :: (n3 + 1 + 1, .row 23 0 0 [.slice (some ⟨b0, 0, some 0⟩) m cp0]) :: (b0, .row 3 0 0 (nodes (divK N m k0))) :: (n3 + 1, .row 3 0 0 [.int .i64 (N : Nat)]) :: (n3, .row 22 0 0 [v]) :: U = T at hH5 hVU hSf hmg hmc hmf hmv
    clear hRU hSv hr0
    repeat' (first | refine zP ?_ | refine zA ?_ | (refine zM ?_; intro _ _) | refine zX ?_ | (refine zC ?_; intro _ _ _ _) | (refine zS ?_; intro _ _) | (apply Ws <;> intro hg))
    refine WR.call (by first | exact gN | exact gS rfl) rfl rfl (Free_fs hH5 hVU.rows (by simp [hvl]; omega) hll) ?_
    rintro _ H6 ⟨n6, hn6, ⟨h, _⟩ | ⟨us, N2, m2, he, hV2, ⟨hno, _, _⟩ | ⟨k2, b2, cp2, hk2, hf2, hb2, rfl, hS2, hH6⟩⟩⟩
    · exact absurd hc0 h
    · obtain ⟨rfl, rfl, rfl⟩ := okv_one hV hV2 he.symm
      rw [hno k0 hk0] at hf0; cases hf0
    obtain ⟨rfl, rfl, rfl⟩ := okv_one hV hV2 he.symm
    obtain rfl : k2 = k0 := by
      rcases Nat.lt_trichotomy k2 k0 with h | h | h
      · rw [hb0 k2 h] at hf2; cases hf2
      · exact h
      · rw [hb2 k0 h] at hf0; cases hf0
    have hdl := divK_len N2 m2 k2
    have hok := divK_ok (m := m2) (k := k2) hN1
    have hE := div_intro hV hok
    have hfc : fairC (ILL us) (IL (divK N2 m2 k2)) = 2 := by
      have h2 := (fairK_two hvl).1 hf2
      unfold fairC
      rw [if_pos hE, natV_ILL, hfl]
      exact h2
    replace hVU := hVU.cons (p := (b2, .row 3 0 0 (nodes (divK N2 m2 k2))))
    replace hSf := hSf.cons (p := (b2, .row 3 0 0 (nodes (divK N2 m2 k2))))
    replace hmg := List.mem_cons_of_mem (b2, Ch.row 3 0 0 (nodes (divK N2 m2 k2))) hmg
    replace hmc := List.mem_cons_of_mem (b2, Ch.row 3 0 0 (nodes (divK N2 m2 k2))) hmc
    replace hmf := List.mem_cons_of_mem (b2, Ch.row 3 0 0 (nodes (divK N2 m2 k2))) hmf
    replace hmv := List.mem_cons_of_mem (b2, Ch.row 3 0 0 (nodes (divK N2 m2 k2))) hmv
    have hSo : Sl ((b2, .row 3 0 0 (nodes (divK N2 m2 k2))) :: T) 1 (.slice (some ⟨b2, 0, some 0⟩) m2 cp2) (ints (IL (divK N2 m2 k2))) := Sl.asInts (hS2.mono fun q hq => by rw [List.mem_singleton.1 hq]; simp)
    generalize (b2, Ch.row 3 0 0 (nodes (divK N2 m2 k2))) :: T = Z at hH6 hVU hSf hmg hmc hmf hmv hSo
    clear hH5
    repeat' (first | refine zP ?_ | refine zA ?_ | (refine zM ?_; intro _ _) | refine zX ?_ | (refine zC ?_; intro _ _ _ _) | (refine zS ?_; intro _ _) | (apply Ws <;> intro hg))
    refine WR.call (by first | exact gN | exact gS rfl) rfl rfl (Count_fs hH6 hVU.rows (by simp [hvl]; omega) hll) ?_
    rintro _ H7 ⟨n7, hn7, hH7, ⟨h, _⟩ | ⟨us3, N3, m3, he3, hV3, rfl⟩⟩
    · exact absurd hc0 h
    obtain ⟨rfl, rfl, rfl⟩ := okv_one hV hV3 he3.symm
    rw [← hcn]
    clear hH6
    repeat' (first | refine zP ?_ | refine zA ?_ | (refine zM ?_; intro _ _) | refine zX ?_ | (refine zC ?_; intro _ _ _ _) | (refine zS ?_; intro _ _) | refine zO ?_ | (apply Ws <;> intro hg))
    refine WR.call (by first | exact gN | exact gS rfl) rfl rfl (Fair_fs hH7 hVU.rows (by simp [hvl]; omega) hll hSo (by simp [hdl]; omega)) ?_
    rintro _ H8 ⟨rfl, n8, hn8, hH8⟩
    rw [hE, hfc]
    clear hH7
    repeat' (first | refine zP ?_ | refine zA ?_ | (refine zM ?_; intro _ _) | refine zX ?_ | (refine zC ?_; intro _ _ _ _) | (refine zS ?_; intro _ _) | refine zO ?_ | (apply Ws <;> intro hg))
    refine WR.call (by first | exact gN | exact gS rfl) rfl rfl (sameI_fs hH8 hSo hSf (by simp [hdl]; omega) (by simp [hdl]; omega)) ?_
    rintro _ _ ⟨rfl, rfl⟩
    rw [decide_eq_true rfl]
    repeat' (first | refine zP ?_ | refine zA ?_ | (refine zM ?_; intro _ _) | refine zX ?_ | (refine zC ?_; intro _ _ _ _) | (refine zS ?_; intro _ _) | refine zO ?_ | (apply Ws <;> intro hg))
    refine WR.call (by first | exact gN | exact gS rfl) rfl rfl (FS.works (C := C) (R := fun v H' => v = .bool true) rfl) ?_
    rintro _ _ rfl
    repeat' (first | refine zP ?_ | refine zA ?_ | (refine zM ?_; intro _ _) | refine zX ?_ | (refine zC ?_; intro _ _ _ _) | (refine zS ?_; intro _ _) | (apply Ws <;> intro hg))
    exact Ends.ret1 rfl rfl
end
end Go.Proofs.Ytaipmdhnhffckaa.Sh
