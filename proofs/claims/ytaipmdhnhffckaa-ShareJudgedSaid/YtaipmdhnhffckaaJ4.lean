/- Texts of the law, joined. -/
import Derived.Test.YtaipmdhnhffckaaJ3
import Derived.Test.YtaipmdhnhffckaaJ1
namespace Go.Proofs.Ytaipmdhnhffckaa.Sh
open Go Go.Abs Go.Mth
set_option linter.unusedVariables false
set_option linter.unusedSimpArgs false
/-- What Proves answers. -/
def pvE (fs : List (List Int)) (o : List Int) (i j : Int) : Int :=
  if divE fs o ≠ 0 then divE fs o else if belowB fs.length [i, j] = false then 2 else if i = j then 6 else if muchP (natV fs) (shs fs.length o) i.toNat j.toNat = true then 0 else 14
attribute [local irreducible] gOK WS WC WR WD Ends FS YS OpV seqK blockK loopK midK retK rdK asgK rangeEnd sat Cell
section
variable {M : HL} {n0 : Nat} {H : Heap} {v w : Value}
set_option maxHeartbeats 4000000 in
theorem Proves_fs (hH : hasH M n0 H) {fs : List (List Int)} (hR : RowsI M v fs) (hl : fs.length ≤ 1000) (hll : ∀ l ∈ fs, l.length ≤ 1000) {o : List Int} (hO : Sl M 1 w (ints o)) (hol : o.length ≤ 1000) (i j : Int) :
    FS C 31 [v, w, .int .i64 i, .int .i64 j] H (fun e H' => e = .int .i64 (pvE fs o i j) ∧ ∃ n', n0 ≤ n' ∧ hasH M n' H') := by
  have hv1 := hR.one_
  obtain ⟨E, hE⟩ : ∃ E, E = pvE fs o i j := ⟨_, rfl⟩
  rw [← hE]
  refine FS.intro (pf := pf31) rfl rfl rfl ?_
  repeat' (first | refine zP ?_ | refine zA ?_ | (refine zM ?_; intro _ _) | refine zX ?_ | (refine zC ?_; intro _ _ _ _) | (refine zS ?_; intro _ _) | (apply Ws <;> intro hg))
  rename_i hH3
  refine WR.call (by first | exact gN | exact gS rfl) rfl rfl (checked_fs hH3 hR.cons.cons.cons hl hll hO.cons.cons.cons hol) ?_
  rintro _ H4 ⟨n4, hn4, ⟨hd, rfl, hH4⟩ | ⟨hd, sb, rfl, hH4⟩⟩
  · have hc : E = divE fs o := by rw [hE]; unfold pvE; rw [if_pos hd]
    repeat' (first | refine zP ?_ | refine zA ?_ | (refine zM ?_; intro _ _) | refine zX ?_ | (refine zC ?_; intro _ _ _ _) | (refine zS ?_; intro _ _) | (apply Ws <;> intro hg))
    rename_i hH5
    refine WR.store2 (by first | exact gN | exact gS rfl) hH5 rfl rfl rfl rfl .here fun H6 hH6 => ?_
    repeat' (first | refine zP ?_ | refine zA ?_ | (refine zM ?_; intro _ _) | refine zX ?_ | (refine zC ?_; intro _ _ _ _) | (refine zS ?_; intro _ _) | refine zO ?_ | (apply Ws <;> intro hg))
    rename_i hH7
    exact retC1D (v := .int .i64 (divE fs o)) trivial rfl hH7 (List.Sublist.refl _) (List.Perm.refl _) fun H' h' => ⟨h'.read (.tail _ (.head _)) (.row _ _ _ _) (Nat.zero_le _) rfl, by rw [hc], n4 + 1, by omega, h'.tail.tail.tail.tail⟩
  obtain ⟨vs, n, m, rfl, hnv, hfl, hvl, ho, hD⟩ := divM_of (b := sb) hR hd
  have hV := hD.ok
  have hm6 := hV.m6
  have hn4' := hV.n4
  have hn1 := hV.pos
  rw [hfl] at hH4 ⊢
  have hEE : E = if belowB n [i, j] = false then 2 else if i = j then 6 else if muchP vs (shs n o) i.toNat j.toNat = true then 0 else 14 := by
    rw [hE]; unfold pvE; rw [if_neg (by simpa using hd), hfl, hnv]
  clear hE
  repeat' (first | refine zP ?_ | refine zA ?_ | (refine zM ?_; intro _ _) | refine zX ?_ | (refine zC ?_; intro _ _ _ _) | (refine zS ?_; intro _ _) | (apply Ws <;> intro hg))
  rename_i hH5
  refine WR.store2 (by first | exact gN | exact gS rfl) hH5 rfl rfl hv1 rfl .here fun H6 hH6 => ?_
  clear hH5 hH4 hH3
  have hlv : ∃ ws, Sl M 1 v ws ∧ ws.length = n := by
    obtain ⟨ws, g1, g2, _⟩ := (RowsI.vals hR).ex
    exact ⟨ws, g1, by rw [g2, hvl]⟩
  obtain ⟨ws, hW, hwl⟩ := hlv
  have hW6 := hW.mono (M' := (n4, .row 78 0 0 [v, .slice (some ⟨sb, 0, some 0⟩) n (2 * n + 1)]) :: (sb, .row 116 0 0 (u64s (shs n o))) :: (n0 + 1 + 1, .row 26 0 0 [.int .i64 0]) :: (n0 + 1, .row 3 0 0 [.int .i64 j]) :: (n0, .row 3 0 0 [.int .i64 i]) :: M) fun q hq => by simp [hq]
  repeat' (first | refine zP ?_ | refine zA ?_ | (refine zM ?_; intro _ _) | refine zX ?_ | (refine zC ?_; intro _ _ _ _) | (refine zS ?_; intro _ _) | refine zO ?_ | (apply Ws <;> intro hg))
  refine WR.bldS (by first | exact gN | exact gS rfl) rfl hH6 (vs := [(0, .int .i64 i), (1, .int .i64 j)]) rfl (cs := ints [i, j]) (by rfl) rfl fun H7 hH7 => ?_
  refine WR.call (by first | exact gN | exact gS rfl) rfl rfl (below_fs hH7 (xs := [i, j]) (Sl.mkd rfl) (by simp) _) ?_
  rintro _ _ ⟨rfl, rfl⟩
  rw [hwl]
  replace hH7 := hH7.tail
  clear hH6
  have hcon : n4 + 1 + 1 = n4 + 1 + 1 := rfl
  cases hbl : belowB n [i, j] with
  | false =>
    rw [if_pos hbl] at hEE
    repeat' (first | refine zP ?_ | refine zA ?_ | (refine zM ?_; intro _ _) | refine zX ?_ | (refine zC ?_; intro _ _ _ _) | (refine zS ?_; intro _ _) | refine zO ?_ | (apply Ws <;> intro hg))
    rename_i hH8
    exact retC1D (v := .int .i64 2) trivial rfl hH8 (List.Sublist.refl _) (List.Perm.refl _) fun H' h' => ⟨h'.read (.tail _ (.tail _ (.head _))) (.row _ _ _ _) (Nat.zero_le _) rfl, by rw [hEE], n4 + 1 + 1, by omega, h'.tail.tail.tail.tail.tail⟩
  | true =>
    have hbi := belowB_iff.1 hbl
    have hi := hbi i (by simp)
    have hj := hbi j (by simp)
    rw [if_neg (by rw [hbl]; decide)] at hEE
    by_cases hij : i = j
    · rw [if_pos hij] at hEE
      repeat' (first | refine zP ?_ | refine zA ?_ | (refine zM ?_; intro _ _) | refine zX ?_ | (refine zC ?_; intro _ _ _ _) | (refine zS ?_; intro _ _) | refine zO ?_ | (apply Ws <;> intro hg))
      rename_i hH8
      exact retC1D (v := .int .i64 6) trivial rfl hH8 (List.Sublist.refl _) (List.Perm.refl _) fun H' h' => ⟨h'.read (.tail _ (.tail _ (.head _))) (.row _ _ _ _) (Nat.zero_le _) rfl, by rw [hEE], n4 + 1 + 1, by omega, h'.tail.tail.tail.tail.tail⟩
    · rw [if_neg hij] at hEE
      obtain ⟨a, rfl⟩ : ∃ a : Nat, i = a := ⟨i.toNat, by omega⟩
      obtain ⟨b, rfl⟩ : ∃ b : Nat, j = b := ⟨j.toNat, by omega⟩
      rw [Int.toNat_natCast, Int.toNat_natCast] at hEE
      have hs1 := hD.shar.one_
      repeat' (first | refine zP ?_ | refine zA ?_ | (refine zM ?_; intro _ _) | refine zX ?_ | (refine zC ?_; intro _ _ _ _) | (refine zS ?_; intro _ _) | refine zO ?_ | (apply Ws <;> intro hg))
      refine WR.call (by first | exact gN | exact gS rfl) rfl rfl (pairs_fs hH7 hv1 hs1 81) ?_
      rintro _ H8 ⟨rfl, hH8⟩
      clear hH7
      repeat' (first | refine zP ?_ | refine zA ?_ | (refine zM ?_; intro _ _) | refine zX ?_ | (refine zC ?_; intro _ _ _ _) | (refine zS ?_; intro _ _) | (apply Ws <;> intro hg))
      refine WC.range0 (va := []) (vb := [.pointer (some ⟨n4 + 1 + 1, 0, some 0⟩), .pointer (some ⟨n4 + 1 + 1 + 1, 0, some 0⟩)]) rfl hH8 fun t ht H9 hH9 => ?_
      clear hH8
      generalize hRR : ({ state := .ready, pending := none, fn := 31, tmps := t, params := [33], assign := _, body := _, nt := _ } : LoopE) = R at hH9
      have hP : ((a, b) ∈ pairsL (quP muchB vs (shs n o)) n) ↔ muchP vs (shs n o) a b = true := by
        rw [pairs_mem]
        exact ⟨fun h => h.2.2, fun h => ⟨by omega, by omega, h⟩⟩
      generalize hPP : pairsL (quP muchB vs (shs n o)) n = P at hP
      refine FS.mono (pairs1_fs (lY := n4 + 1 + 1 + 2 + 1) (bd := n4 + 1 + 1) (bq := n4 + 1 + 1 + 1) (e := 78) (eq := 90) (g := 81) (p := muchB) (vv := v) (sv := .slice (some ⟨sb, 0, some 0⟩) n (2 * n + 1)) (vs := vs) (ss := shs n o) (n := n) (m := m) (n0 := n4 + 1 + 1 + 2 + 2)
        (B := (n4 + 1 + 1 + 1, .row 90 0 0 [.func (.func 81) [].toArray [].toArray]) :: (n4 + 1 + 1, .row 78 0 0 [v, .slice (some ⟨sb, 0, some 0⟩) n (2 * n + 1)]) :: (n4, .row 78 0 0 [v, .slice (some ⟨sb, 0, some 0⟩) n (2 * n + 1)]) :: (sb, .row 116 0 0 (u64s (shs n o))) :: (n0 + 1 + 1, .row 26 0 0 [.int .i64 (0)]) :: (n0 + 1, .row 3 0 0 [.int .i64 (b : Nat)]) :: (n0, .row 3 0 0 [.int .i64 (a : Nat)]) :: M)
        (M := (n4 + 1 + 1 + 2 + 1, .loop R) :: (n4 + 1 + 1 + 2, .defd false) :: (n4 + 1 + 1 + 1, .row 90 0 0 [.func (.func 81) [].toArray [].toArray]) :: (n4 + 1 + 1, .row 78 0 0 [v, .slice (some ⟨sb, 0, some 0⟩) n (2 * n + 1)]) :: (n4, .row 78 0 0 [v, .slice (some ⟨sb, 0, some 0⟩) n (2 * n + 1)]) :: (sb, .row 116 0 0 (u64s (shs n o))) :: (n0 + 1 + 1, .row 26 0 0 [.int .i64 (0)]) :: (n0 + 1, .row 3 0 0 [.int .i64 (b : Nat)]) :: (n0, .row 3 0 0 [.int .i64 (a : Nat)]) :: M)
        (J := fun zs M' n' => n4 ≤ n' ∧ ((a, b) ∈ zs ↔ (a, b) ∈ P) ∧ M' = (n4 + 1 + 1 + 2 + 1, .loop R) :: (n4 + 1 + 1 + 2, .defd false) :: (n4 + 1 + 1 + 1, .row 90 0 0 [.func (.func 81) [].toArray [].toArray]) :: (n4 + 1 + 1, .row 78 0 0 [v, .slice (some ⟨sb, 0, some 0⟩) n (2 * n + 1)]) :: (n4, .row 78 0 0 [v, .slice (some ⟨sb, 0, some 0⟩) n (2 * n + 1)]) :: (sb, .row 116 0 0 (u64s (shs n o))) :: (n0 + 1 + 1, .row 26 0 0 [.int .i64 (0)]) :: (n0 + 1, .row 3 0 0 [.int .i64 (b : Nat)]) :: (n0, .row 3 0 0 [.int .i64 (a : Nat)]) :: M)
        (S := fun M' n' => n4 ≤ n' ∧ (a, b) ∈ P ∧ M' = (n4 + 1 + 1 + 2 + 1, .loop { R with state := .done, pending := some .ret }) :: (n4 + 1 + 1 + 2, .defd false) :: (n4 + 1 + 1 + 1, .row 90 0 0 [.func (.func 81) [].toArray [].toArray]) :: (n4 + 1 + 1, .row 78 0 0 [v, .slice (some ⟨sb, 0, some 0⟩) n (2 * n + 1)]) :: (n4, .row 78 0 0 [v, .slice (some ⟨sb, 0, some 0⟩) n (2 * n + 1)]) :: (sb, .row 116 0 0 (u64s (shs n o))) :: (n0 + 1 + 1, .row 26 0 0 [.int .i64 (0)]) :: (n0 + 1, .row 3 0 0 [.int .i64 (b : Nat)]) :: (n0, .row 3 0 0 [.int .i64 (a : Nat)]) :: M)
        quest_more (hD.mono fun q hq => by rcases List.mem_cons.1 hq with h | h <;> simp [h]) (by simp) (by simp) ?_ (fun zs M' n' n'' h1 h2 => ⟨by omega, h1.2.1, h1.2.2⟩) ?_ hH9 ⟨by omega, by rw [hPP], rfl⟩) ?_
      · rintro zs M' n' ⟨_, _, rfl⟩ q hq
        exact .tail _ (.tail _ hq)
      · rintro z zs F _ n' H6 ⟨hn', hzs, rfl⟩ hzm hH6
        replace hH6 := hasH.pull (Mx := [_, _, _, _, _, _, _, _, _]) hH6
        simp only [List.cons_append, List.nil_append] at hH6
        refine YS.intro hH6 (.head _) (by rw [← hRR]) (by rw [← hRR]) (by rw [← hRR]; rfl) (by rw [← hRR]; exact ht) ?_
        subst hRR
        dsimp only
        repeat' (first | refine zA ?_ | (refine zM ?_; intro _ _) | (apply Ws <;> intro hg))
        rename_i H7 hH7
        refine WR.store2 (by first | exact gN | exact gS rfl) hH7 rfl rfl rfl rfl .here fun H8 hH8 => ?_
        clear hH6 hH7
        repeat' (first | refine zA ?_ | (refine zM ?_; intro _ _) | (apply Ws <;> intro hg))
        refine Ends.asg hH8 (.there .here) fun HA hHA => ?_
        dsimp only
        clear hH8
        repeat' (first | refine zP ?_ | refine zA ?_ | (refine zM ?_; intro _ _) | refine zX ?_ | (refine zC ?_; intro _ _ _ _) | (refine zS ?_; intro _ _) | (apply Ws <;> intro hg))
        refine WR.op (by first | exact gN | exact gS rfl) rfl (OpV.load1 rfl hHA (.tail _ (.tail _ (.tail _ (.tail _ (.tail _ (.tail _ (.tail _ (.tail _ (.tail _ (.head _)))))))))) (.row _ _ _ _) (Nat.zero_le _) rfl) ?_
        refine WR.op (by first | exact gN | exact gS rfl) rfl (OpV.load1 rfl hHA (.tail _ (.tail _ (.tail _ (.tail _ (.tail _ (.tail _ (.tail _ (.tail _ (.head _))))))))) (.row _ _ _ _) (Nat.zero_le _) rfl) ?_
        refine WR.op (by first | exact gN | exact gS rfl) rfl (OpV.bldA (cs := [Value.int .i64 (a : Int), .int .i64 (b : Int)].toArray) rfl rfl) ?_
        refine WR.op (by first | exact gN | exact gS rfl) rfl (OpV.opAgg (eqArrG _ _ _ _ _ _) (eqArrOp _ _ _ _) rfl rfl rfl rfl) ?_
        by_cases hz : z = (a, b)
        · have hin : (a, b) ∈ P := by rw [← hPP, ← hz]; exact hzm
          subst hz
          rw [show ((((a, b).1 : Nat) : Int) == ((a : Nat) : Int) && (((a, b).2 : Nat) : Int) == ((b : Nat) : Int)) = true by simp]
          repeat' (first | refine zP ?_ | refine zA ?_ | (refine zM ?_; intro _ _) | refine zX ?_ | (refine zC ?_; intro _ _ _ _) | (refine zS ?_; intro _ _) | (apply Ws <;> intro hg))
          refine WR.storeBox (by first | exact gN | exact gS rfl) hHA rfl rfl rfl (.there (.there (.there (.there (.there (.there (.there .here))))))) fun HB hHB => ?_
          repeat' (first | refine zP ?_ | refine zA ?_ | (refine zM ?_; intro _ _) | refine zX ?_ | (refine zC ?_; intro _ _ _ _) | (refine zS ?_; intro _ _) | (apply Ws <;> intro hg))
          exact Ends.rd rfl rfl rfl hHB (.there .here) fun H' h' => ⟨_ :: _ :: _ :: _ :: _ :: _ :: _ :: _ :: _ :: M, n' + 1, by omega, hasH.push (Mx := [_, _, _, _, _, _, _, _, _]) h'.tail, .inr ⟨rfl, by omega, hin, rfl⟩⟩
        · rw [show (((z.1 : Nat) : Int) == ((a : Nat) : Int) && ((z.2 : Nat) : Int) == ((b : Nat) : Int)) = false by
            rw [Bool.eq_false_iff]
            intro h
            rw [Bool.and_eq_true, beq_iff_eq, beq_iff_eq] at h
            exact hz (Prod.ext (Int.ofNat.inj h.1) (Int.ofNat.inj h.2))]
          repeat' (first | refine zP ?_ | refine zA ?_ | (refine zM ?_; intro _ _) | refine zX ?_ | (refine zC ?_; intro _ _ _ _) | (refine zS ?_; intro _ _) | (apply Ws <;> intro hg))
          exact Ends.rd rfl rfl rfl hHA (.there .here) fun H' h' => ⟨_ :: _ :: _ :: _ :: _ :: _ :: _ :: _ :: _ :: M, n' + 1, by omega, hasH.push (Mx := [_, _, _, _, _, _, _, _, _]) h'.tail, .inl ⟨rfl, by omega, by rw [← hzs, List.mem_cons]; exact ⟨fun h => .inr h, fun h => h.resolve_left fun e => hz e.symm⟩, rfl⟩⟩
      · rintro _ H7 ⟨M7, n7, hn7, hH7, ⟨_, hzs, rfl⟩ | ⟨_, hin, rfl⟩⟩
        · refine rangeEnd_of hH7 .here (by rw [← hRR]; simp) (by rw [← hRR]; rfl) fun H8 hH8 => ?_
          have hnot : ¬ muchP vs (shs n o) a b = true := fun h => by have := hzs.2 (hP.2 h); cases this
          rw [if_neg hnot] at hEE
          repeat' (first | refine zP ?_ | refine zA ?_ | (refine zM ?_; intro _ _) | refine zX ?_ | (refine zC ?_; intro _ _ _ _) | (refine zS ?_; intro _ _) | (apply Ws <;> intro hg))
          refine WR.storeBox (by first | exact gN | exact gS rfl) hH8 rfl rfl rfl (.there (.there (.there (.there (.there (.there .here)))))) fun H9 hH9 => ?_
          repeat' (first | refine zP ?_ | refine zA ?_ | (refine zM ?_; intro _ _) | refine zX ?_ | (refine zC ?_; intro _ _ _ _) | (refine zS ?_; intro _ _) | (apply Ws <;> intro hg))
          exact retC1D (v := .int .i64 14) trivial rfl hH9 (.cons _ (List.Sublist.refl _)) (List.Perm.refl _) fun H' h' => ⟨h'.read (.tail _ (.tail _ (.tail _ (.tail _ (.head _))))) (.row _ _ _ _) (Nat.zero_le _) rfl, by rw [hEE], n7, by omega, h'.tail.tail.tail.tail.tail.tail.tail⟩
        · refine rangeEnd_of hH7 .here (by simp) rfl fun H8 hH8 => ?_
          rw [if_pos (hP.1 hin)] at hEE
          repeat' (first | refine zP ?_ | refine zA ?_ | (refine zM ?_; intro _ _) | refine zX ?_ | (refine zC ?_; intro _ _ _ _) | (refine zS ?_; intro _ _) | (apply Ws <;> intro hg))
          exact retC1D (v := .int .i64 0) trivial rfl hH8 (.cons _ (List.Sublist.refl _)) (List.Perm.refl _) fun H' h' => ⟨h'.read (.tail _ (.tail _ (.tail _ (.tail _ (.head _))))) (.row _ _ _ _) (Nat.zero_le _) rfl, by rw [hEE], n7, by omega, h'.tail.tail.tail.tail.tail.tail.tail⟩
end
end Go.Proofs.Ytaipmdhnhffckaa.Sh

/- Rows of elements of several cells each. -/
namespace Go.Abs
set_option linter.unusedSectionVars false
variable [Globs]
open Go Go.Mth
set_option linter.unusedVariables false
def cellsF {α : Type} (F : α → List Value) (l : List α) : List Value := (l.map F).flatten
section
variable {α : Type} {F : α → List Value} {K : Nat}
theorem cellsF_len (hF : ∀ a, (F a).length = K) : ∀ l : List α, (cellsF F l).length = l.length * K
  | [] => by simp [cellsF]
  | a :: l => by
    have := cellsF_len hF l
    simp only [cellsF, List.map_cons, List.flatten_cons, List.length_append, List.length_cons, hF] at this ⊢
    rw [this, Nat.succ_mul]; omega
theorem cellsF_drop (hF : ∀ a, (F a).length = K) : ∀ (l : List α) (m : Nat), (cellsF F l).drop (m * K) = cellsF F (l.drop m)
  | l, 0 => by simp
  | [], m + 1 => by simp [cellsF]
  | a :: l, m + 1 => by
    have := cellsF_drop hF l m
    simp only [cellsF, List.map_cons, List.flatten_cons, List.drop_succ_cons] at this ⊢
    rw [← this, Nat.succ_mul, Nat.add_comm, ← List.drop_drop, List.drop_left' (hF a)]
theorem cellsF_at (hF : ∀ a, (F a).length = K) {l : List α} {m : Nat} (h : m < l.length) : ((cellsF F l).drop (m * K)).take K = F l[m] := by
  rw [cellsF_drop hF, List.drop_eq_getElem_cons h]
  simp only [cellsF, List.map_cons, List.flatten_cons]
  exact List.take_left' (hF _)
/-- Several cells, one behind another. -/
def KCell (M : HL) (b o u : Nat) (vs : List Value) : Prop := ∃ ch lo cs, (b, ch) ∈ M ∧ ch.cellsAre u lo cs ∧ lo ≤ o ∧ o - lo + vs.length ≤ cs.length ∧ (cs.drop (o - lo)).take vs.length = vs
theorem KCell.at {M : HL} {b o u j : Nat} {vs : List Value} {v : Value} (h : KCell M b o u vs) (hv : vs[j]? = some v) : Cell M b (o + j) u v := by
  obtain ⟨ch, lo, cs, h1, h2, h3, h4, h5⟩ := h
  have hj : j < vs.length := (List.getElem?_eq_some_iff.1 hv).1
  refine ⟨ch, lo, cs, h1, h2, by omega, ?_⟩
  rw [← h5, List.getElem?_take_of_lt hj, List.getElem?_drop] at hv
  rw [← hv]; congr 1; omega
theorem KCell.mono {M M' : HL} {b o u : Nat} {vs : List Value} (h : KCell M b o u vs) (k : ∀ p ∈ M, p ∈ M') : KCell M' b o u vs := by
  obtain ⟨ch, lo, cs, h1, h2⟩ := h
  exact ⟨ch, lo, cs, k _ h1, h2⟩
theorem Sl.lenK {M : HL} {v : Value} {l : List α} (hF : ∀ a, (F a).length = K) (hK : 1 ≤ K) (h : Sl M K v (cellsF F l)) : ∃ a c, v = .slice a l.length c := by
  have hl := cellsF_len hF l
  generalize cellsF F l = cs at h hl
  have h0 : ∀ {n : Nat}, n * K = 0 → n = 0 := fun {n} h => by rcases Nat.mul_eq_zero.1 h with h | h <;> omega
  cases h with
  | nil c => have := h0 (n := l.length) (by simp at hl; omega)
             exact ⟨none, c, by rw [this]⟩
  | emp a => have := h0 (n := l.length) (by simp at hl; omega)
             exact ⟨some a, _, by rw [this]⟩
  | row hm hcl hlo hln hv hin hcap =>
    rename_i b o u lo len cap ch cs'
    have : l.length = len := Nat.eq_of_mul_eq_mul_right hK (by omega)
    exact ⟨_, _, by rw [this]⟩
end
section
variable {C : CW} {nt : Nat} {L : Env} {D : List Nat} {H : Heap} {K : St → Prop} {M M' : HL} {n i d : Nat} {gd : Option (Tmp × Bool)} {lo : List Nat} {l : List POp} {rs : List Rd}
variable {α : Type} {F : α → List Value} {z : Nat}
theorem OpV.lenK {x : Operand} {v : Value} {ps : List α} (hF : ∀ a, (F a).length = z) (hz : 1 ≤ z) (hx : ev L x = some v) (hS : Sl M z v (cellsF F ps)) : OpV C (.len x) L H (.int .i64 (ps.length : Int)) H := by
  obtain ⟨a, c, rfl⟩ := hS.lenK hF hz
  exact OpV.len hx
theorem OpV.idxK {x ix : Operand} {kd : IntKind} {m : Nat} {v : Value} {ps : List α} (hF : ∀ a, (F a).length = z) (hz : 1 ≤ z) (hx : ev L x = some v) (hS : Sl M z v (cellsF F ps)) (hi : ev L ix = some (.int kd (m : Int))) (hm : m < ps.length) :
    ∃ b o u, OpV C (.idxS x ix z) L H (.pointer (some ⟨b, o, some u⟩)) H ∧ KCell M b o u (F ps[m]) := by
  have hg := cellsF_at hF hm
  have hl := cellsF_len hF ps
  generalize cellsF F ps = cs at hS hg hl
  have hm1 : m * z + z ≤ ps.length * z := by
    have := Nat.mul_le_mul_right z (show m + 1 ≤ ps.length by omega)
    rwa [Nat.succ_mul] at this
  cases hS with
  | nil c =>
    have h : ps.length * z = 0 := by simp only [List.length_nil] at hl; omega
    rcases Nat.mul_eq_zero.1 h with h | h <;> omega
  | emp a =>
    have h : ps.length * z = 0 := by simp only [List.length_nil] at hl; omega
    rcases Nat.mul_eq_zero.1 h with h | h <;> omega
  | row hm2 hc hlo hln hv hin hp =>
    rename_i b o u lo' len cap ch cs'
    have hlen : ps.length = len := Nat.eq_of_mul_eq_mul_right hz (by omega)
    refine ⟨b, o + m * z, u, OpV.idxS hx hi rfl (by omega) rfl, ch, lo', cs', hm2, hc, by omega, by rw [hF]; omega, ?_⟩
    rw [hF, ← hg, ← hv, List.drop_take, List.take_take, List.drop_drop, show o + m * z - lo' = o - lo' + m * z by omega, Nat.min_eq_left (by omega)]
theorem WR.idxK {x ix : Operand} {kd : IntKind} {m : Nat} {v : Value} {ps : List α} (hF : ∀ a, (F a).length = z) (hz : 1 ≤ z) (hg : gOK L gd) (hd : Nat.blt d nt = true) (hx : ev L x = some v) (hS : Sl M z v (cellsF F ps)) (hi : ev L ix = some (.int kd (m : Int))) (hm : m < ps.length)
    (k : ∀ b o u, KCell M b o u (F ps[m]) → WR C nt l ((d, .pointer (some ⟨b, o, some u⟩)) :: L) D H K) : WR C nt (⟨i, some d, .idxS x ix z, gd, lo⟩ :: l) L D H K := by
  obtain ⟨b, o, u, h1, h2⟩ := OpV.idxK (C := C) (H := H) hF hz hx hS hi hm
  exact WR.op hg hd h1 (k b o u h2)
theorem OpV.loadK {x : Operand} {b o u k : Nat} {vs : List Value} (hx : ev L x = some (.pointer (some ⟨b, o, some u⟩))) (hP : KCell M b o u vs) (hH : hasH M n H) (hk : vs.length = k) : OpV C (.loadN x k) L H (.agg vs.toArray) H := by
  obtain ⟨ch, lo', cs, h1, h2, h3, h4, h5⟩ := hP
  subst hk
  exact OpV.loadN hx hH h1 h2 h3 h4 h5
end
end Go.Abs

namespace Go.Proofs.Ytaipmdhnhffckaa.Sh
open Go Go.Abs Go.Mth
set_option linter.unusedVariables false
set_option linter.unusedSimpArgs false
def pairF (z : Nat × Nat) : List Value := [.int .i64 (z.1 : Nat), .int .i64 (z.2 : Nat)]
theorem pairF_len (z : Nat × Nat) : (pairF z).length = 2 := rfl
theorem flat_len {α β : Type} {f : α → List β} {c : Nat} : ∀ {l : List α}, (∀ x ∈ l, (f x).length ≤ c) → (l.flatMap f).length ≤ l.length * c
  | [], _ => by simp
  | x :: l, h => by
    have h1 := h x (by simp)
    have h2 := flat_len (l := l) (f := f) fun y hy => h y (by simp [hy])
    rw [List.flatMap_cons, List.length_append, List.length_cons, Nat.succ_mul]
    omega
theorem pairs_len (p : Nat → Nat → Bool) (n : Nat) : (pairsL p n).length ≤ n * n := by
  have := flat_len (l := List.range n) (f := rowL p n) (c := n) fun x _ => by
    unfold rowL
    rw [List.length_map]
    exact Nat.le_trans (List.length_filter_le _ _) (by simp)
  rw [List.length_range] at this
  exact this
theorem cellsF_snoc {α : Type} (F : α → List Value) (l : List α) (a : α) : cellsF F (l ++ [a]) = cellsF F l ++ F a := by simp [cellsF]
attribute [local irreducible] gOK WS WC WR WD Ends FS YS OpV seqK blockK loopK midK retK rdK asgK rangeEnd sat Cell
section
variable {M B : HL} {n0 : Nat} {H : Heap} {v w vv sv : Value} {vs : List (List Nat)} {ss : List Nat} {n m : Nat}
set_option maxHeartbeats 4000000 in
/-- All pairs are gathered. -/
theorem AppendSeq_fs {bd bq : Nat} {g : FuncId} {p : List Nat → Nat → Nat → Bool} (hq : QuestR g p) (hD : DivM M vv sv vs ss n m) (hmd : (bd, Ch.row 78 0 0 [vv, sv]) ∈ M) (hmq : (bq, Ch.row 90 0 0 [.func (.func g) [].toArray [].toArray]) ∈ M) (hH : hasH M n0 H) :
    FS C 105 [.slice none 0 0, .func (.func 106) [].toArray [.pointer (some ⟨bd, 0, some 0⟩), .pointer (some ⟨bq, 0, some 0⟩)].toArray] H (fun e H' => ∃ Mx n', n0 ≤ n' ∧ Own 58 2 e (cellsF pairF (pairsL (quP p vs ss) n)) Mx ∧ hasH (Mx ++ M) n' H') := by
  refine FS.intro (pf := pf105) rfl rfl rfl ?_
  repeat' (first | refine zP ?_ | refine zA ?_ | (refine zM ?_; intro _ _) | refine zX ?_ | (refine zC ?_; intro _ _ _ _) | (refine zS ?_; intro _ _) | (apply Ws <;> intro hg))
  rename_i H1 hH1
  refine WC.range0 (va := []) (vb := [.pointer (some ⟨bd, 0, some 0⟩), .pointer (some ⟨bq, 0, some 0⟩)]) rfl hH1 fun t ht H2 hH2 => ?_
  clear hH1
  generalize hRR : ({ state := .ready, pending := none, fn := 105, tmps := t, params := [7], assign := _, body := _, nt := _ } : LoopE) = R at hH2
  generalize hPP : pairsL (quP p vs ss) n = P
  have hPl : P.length ≤ 16 := by
    have h1 := pairs_len (quP p vs ss) n
    have h2 : n * n ≤ 4 * 4 := Nat.mul_le_mul hD.ok.n4 hD.ok.n4
    rw [hPP] at h1
    omega
  refine FS.mono (pairs1_fs (lY := n0 + 1 + 1) (bd := bd) (bq := bq) (e := 78) (eq := 90) (g := g) (p := p) (vv := vv) (sv := sv) (vs := vs) (ss := ss) (n := n) (m := m) (n0 := n0 + 1 + 2)
    (B := M)
    (M := (n0 + 1 + 1, .loop R) :: (n0 + 1, .defd false) :: (n0, .row 29 0 0 [.slice none 0 0]) :: M)
    (J := fun zs M' n' => n0 ≤ n' ∧ ∃ (sl : Value) (xs : List (Nat × Nat)) (Mx : HL), xs ++ zs = P ∧ Own 58 2 sl (cellsF pairF xs) Mx ∧ M' = (n0 + 1 + 1, .loop R) :: (n0 + 1, .defd false) :: (n0, .row 29 0 0 [sl]) :: (Mx ++ M))
    (S := fun M' n' => False)
    hq hD hmd hmq ?_ (fun zs M' n' n'' h1 h2 => ⟨by omega, h1.2⟩) ?_ hH2 ⟨by omega, .slice none 0 0, [], [], by rw [hPP]; rfl, .nil, rfl⟩) ?_
  · rintro zs M' n' ⟨_, sl, xs, Mx, _, _, rfl⟩ q hq
    exact .tail _ (.tail _ (.tail _ (List.mem_append_right _ hq)))
  · rintro z zs F _ n' H6 ⟨hn', sl, xs, Mx, hxz, hO, rfl⟩ hzm hH6
    have hxl : xs.length ≤ 16 := by
      have := congrArg List.length hxz
      simp at this
      omega
    replace hH6 := hasH.pull (Mx := [_, _, _]) hH6
    simp only [List.cons_append, List.nil_append] at hH6
    refine YS.intro hH6 (.head _) (by rw [← hRR]) (by rw [← hRR]) (by rw [← hRR]; rfl) (by rw [← hRR]; exact ht) ?_
    subst hRR
    dsimp only
    repeat' (first | refine zA ?_ | (refine zM ?_; intro _ _) | (apply Ws <;> intro hg))
    rename_i H7 hH7
    refine WR.store2 (by first | exact gN | exact gS rfl) hH7 rfl rfl rfl rfl .here fun H8 hH8 => ?_
    clear hH6 hH7
    repeat' (first | refine zA ?_ | (refine zM ?_; intro _ _) | (apply Ws <;> intro hg))
    refine Ends.asg hH8 (.there .here) fun HA hHA => ?_
    dsimp only
    clear hH8
    have hs1 : one sl = true := (hO.sl []).one_
    repeat' (first | refine zP ?_ | refine zA ?_ | (refine zM ?_; intro _ _) | refine zX ?_ | (refine zC ?_; intro _ _ _ _) | (refine zS ?_; intro _ _) | (apply Ws <;> intro hg))
    refine WR.append1F ([_, _, _, _] ++ F) Mx M rfl rfl rfl rfl hO (by rw [List.append_assoc]; exact hHA) (new := [.int .i64 (z.1 : Nat), .int .i64 (z.2 : Nat)]) (by rfl) rfl rfl (by decide) (by decide) (by rw [cellsF_len pairF_len]; simp; omega) fun sl' Mx' n5 H5 hO' hH5 hn5 => ?_
    rw [List.append_assoc] at hH5
    simp only [List.cons_append, List.nil_append] at hH5
    clear hHA
    have hs2 : one sl' = true := (hO'.sl []).one_
    refine WR.storeBox (by first | exact gN | exact gS rfl) hH5 rfl rfl hs2 (.there (.there (.there .here))) fun HB hHB => ?_
    repeat' (first | refine zP ?_ | refine zA ?_ | (refine zM ?_; intro _ _) | refine zX ?_ | (refine zC ?_; intro _ _ _ _) | (refine zS ?_; intro _ _) | (apply Ws <;> intro hg))
    exact Ends.rd rfl rfl rfl hHB (.there .here) fun H' h' => ⟨_ :: _ :: _ :: (Mx' ++ M), n5, by omega, hasH.push (Mx := [_, _, _]) h'.tail, .inl ⟨rfl, by omega, sl', xs ++ [z], Mx', by rw [List.append_assoc]; exact hxz, by rw [cellsF_snoc]; exact hO', rfl⟩⟩
  · rintro _ H7 ⟨M7, n7, hn7, hH7, ⟨_, sl, xs, Mx, hxz, hO, rfl⟩ | h⟩
    · refine rangeEnd_of hH7 .here (by rw [← hRR]; simp) (by rw [← hRR]; rfl) fun H8 hH8 => ?_
      rw [List.append_nil] at hxz
      subst hxz
      repeat' (first | refine zP ?_ | refine zA ?_ | (refine zM ?_; intro _ _) | refine zX ?_ | (refine zC ?_; intro _ _ _ _) | (refine zS ?_; intro _ _) | (apply Ws <;> intro hg))
      exact Ends.ret1D rfl hH8 (.cons _ (List.Sublist.refl _)) (List.Perm.refl _) fun H' h' => ⟨Mx, n7, by omega, hO, h'.tail⟩
    · exact h.elim
end
end Go.Proofs.Ytaipmdhnhffckaa.Sh

namespace Go.Proofs.Ytaipmdhnhffckaa.Sh
open Go Go.Abs Go.Mth
set_option linter.unusedVariables false
set_option linter.unusedSimpArgs false
attribute [local irreducible] gOK WS WC WR WD Ends FS YS OpV seqK blockK loopK midK retK rdK asgK rangeEnd sat Cell
section
variable {M B : HL} {n0 : Nat} {H : Heap} {v w : Value}
set_option maxHeartbeats 4000000 in
theorem Envy_fs (hH : hasH M n0 H) {fs : List (List Int)} (hR : RowsI M v fs) (hl : fs.length ≤ 1000) (hll : ∀ l ∈ fs, l.length ≤ 1000) {o : List Int} (hO : Sl M 1 w (ints o)) (hol : o.length ≤ 1000) :
    FS C 21 [v, w] H (fun e H' => ∃ n', n0 ≤ n' ∧ ((divE fs o ≠ 0 ∧ e = .tuple #[.slice none 0 0, .int .i64 (divE fs o)] ∧ hasH M n' H') ∨ (∃ vs n m, fs = ILL vs ∧ OKV vs n m ∧ OKD o n m ∧
      ∃ r Mx, e = .tuple #[r, .int .i64 0] ∧ Own 58 2 r (cellsF pairF (pairsL (envP vs (shs n o)) n)) Mx ∧ hasH (Mx ++ M) n' H'))) := by
  have hv1 := hR.one_
  refine FS.intro (pf := pf21) rfl rfl rfl ?_
  repeat' (first | refine zP ?_ | refine zA ?_ | (refine zM ?_; intro _ _) | refine zX ?_ | (refine zC ?_; intro _ _ _ _) | (refine zS ?_; intro _ _) | (apply Ws <;> intro hg))
  refine WR.call (by first | exact gN | exact gS rfl) rfl rfl (checked_fs hH hR hl hll hO hol) ?_
  rintro _ H1 ⟨n1, hn1, ⟨hd, rfl, hH1⟩ | ⟨hd, b, rfl, hH1⟩⟩
  · repeat' (first | refine zP ?_ | refine zA ?_ | (refine zM ?_; intro _ _) | refine zX ?_ | (refine zC ?_; intro _ _ _ _) | (refine zS ?_; intro _ _) | (apply Ws <;> intro hg))
    rename_i H2 hH2
    refine WR.store2 (by first | exact gN | exact gS rfl) hH2 rfl rfl rfl rfl .here fun H3 hH3 => ?_
    repeat' (first | refine zP ?_ | refine zA ?_ | (refine zM ?_; intro _ _) | refine zX ?_ | (refine zC ?_; intro _ _ _ _) | (refine zS ?_; intro _ _) | refine zO ?_ | (apply Ws <;> intro hg))
    exact Ends.ret2 rfl rfl ⟨n1 + 1, by omega, .inl ⟨hd, rfl, hH3.tail⟩⟩
  · obtain ⟨vs, n, m, rfl, hnv, hfl, hvl, ho, hD⟩ := divM_of (b := b) hR hd
    rw [hfl] at hH1 ⊢
    have hV := hD.ok
    repeat' (first | refine zP ?_ | refine zA ?_ | (refine zM ?_; intro _ _) | refine zX ?_ | (refine zC ?_; intro _ _ _ _) | (refine zS ?_; intro _ _) | (apply Ws <;> intro hg))
    rename_i H2 hH2
    refine WR.store2 (by first | exact gN | exact gS rfl) hH2 rfl rfl hv1 rfl .here fun H3 hH3 => ?_
    clear hH1 hH2
    repeat' (first | refine zP ?_ | refine zA ?_ | (refine zM ?_; intro _ _) | refine zX ?_ | (refine zC ?_; intro _ _ _ _) | (refine zS ?_; intro _ _) | refine zO ?_ | (apply Ws <;> intro hg))
    have hs1 := hD.shar.one_
    refine WR.call (by first | exact gN | exact gS rfl) rfl rfl (pairs_fs hH3 hv1 hs1 77) ?_
    rintro _ H4 ⟨rfl, hH4⟩
    clear hH3
    refine WR.call (by first | exact gN | exact gS rfl) rfl rfl (FS.intro (pf := pf75) rfl rfl rfl (R := fun e H' => ∃ Mx n', n1 + 1 ≤ n' ∧ Own 58 2 e (cellsF pairF (pairsL (envP vs (shs n o)) n)) Mx ∧ hasH (Mx ++ M) n' H') ?_) ?_
    · repeat' (first | refine zP ?_ | refine zA ?_ | (refine zM ?_; intro _ _) | refine zX ?_ | (refine zC ?_; intro _ _ _ _) | (refine zS ?_; intro _ _) | (apply Ws <;> intro hg))
      refine WR.call (by first | exact gN | exact gS rfl) rfl rfl (AppendSeq_fs quest_env (hD.mono fun q hq => by rcases List.mem_cons.1 hq with h | h <;> simp [h]) (.tail _ (.head _)) (.head _) hH4) ?_
      rintro r H5 ⟨Mx, n5, hn5, hO5, hH5⟩
      repeat' (first | refine zP ?_ | refine zA ?_ | (refine zM ?_; intro _ _) | refine zX ?_ | (refine zC ?_; intro _ _ _ _) | (refine zS ?_; intro _ _) | (apply Ws <;> intro hg))
      exact Ends.ret1 rfl ⟨Mx, n5, by omega, hO5, hH5.sub (List.Sublist.append (List.Sublist.refl Mx) (.cons _ (.cons _ (.cons _ (.cons _ (List.Sublist.refl M))))))⟩
    rintro r H5 ⟨Mx, n5, hn5, hO5, hH5⟩
    repeat' (first | refine zP ?_ | refine zA ?_ | (refine zM ?_; intro _ _) | refine zX ?_ | (refine zC ?_; intro _ _ _ _) | (refine zS ?_; intro _ _) | (apply Ws <;> intro hg))
    exact Ends.ret2 rfl rfl ⟨n5, by omega, .inr ⟨vs, n, m, rfl, hV, ho, r, Mx, rfl, hO5, hH5⟩⟩
set_option maxHeartbeats 1000000 in
/-- Lists of pairs that are alike. -/
theorem lpairs_fs (hH : hasH M n0 H) {P : List (Nat × Nat)} (hS : Sl M 2 v (cellsF pairF P)) (hU : Sl M 2 w (cellsF pairF P)) (hl : P.length ≤ 1000) :
    FS C 26 [v, w] H (fun e H' => e = .bool true ∧ H' = H) := by
  refine FS.intro (pf := pf26) rfl rfl rfl ?_
  repeat' (first | refine zP ?_ | refine zA ?_ | (refine zM ?_; intro _ _) | refine zX ?_ | (refine zC ?_; intro _ _ _ _) | (refine zS ?_; intro _ _) | (apply Ws <;> intro hg))
  refine WR.op (by first | exact gN | exact gS rfl) rfl (OpV.lenK pairF_len (by decide) rfl hS) ?_
  repeat' (first | refine zP ?_ | refine zA ?_ | (refine zM ?_; intro _ _) | refine zX ?_ | (refine zC ?_; intro _ _ _ _) | (refine zS ?_; intro _ _) | (apply Ws <;> intro hg))
  refine WR.op (by first | exact gN | exact gS rfl) rfl (OpV.lenK pairF_len (by decide) rfl hU) ?_
  repeat' (first | refine zP ?_ | refine zA ?_ | (refine zM ?_; intro _ _) | refine zX ?_ | (refine zC ?_; intro _ _ _ _) | (refine zS ?_; intro _ _) | refine zO ?_ | (apply Ws <;> intro hg))
  refine WC.loopX [(0, _), (1, _)] (fun k : Nat => [(5, .int .i64 (k : Int))]) [] (fun k H' => H' = H ∧ k ≤ P.length) (fun k => P.length - k) 0 (by repeat' (first | exact .nil | refine .cons rfl ?_)) rfl ⟨rfl, Nat.zero_le _⟩ ?_
  rintro k H' ⟨rfl, hk⟩
  dsimp only [List.cons_append, List.nil_append]
  repeat' (first | refine zP ?_ | refine zA ?_ | (refine zM ?_; intro _ _) | refine zX ?_ | (refine zC ?_; intro _ _ _ _) | (refine zS ?_; intro _ _) | (apply Ws <;> intro hg))
  refine WR.op (by first | exact gN | exact gS rfl) rfl (OpV.lenK pairF_len (by decide) rfl hS) ?_
  repeat' (first | refine zP ?_ | refine zA ?_ | (refine zM ?_; intro _ _) | refine zX ?_ | (refine zC ?_; intro _ _ _ _) | (refine zS ?_; intro _ _) | (apply Ws <;> intro hg))
  refine WC.condP rfl (fun hlt => ?_) (fun hlt => ?_)
  · have hk' : k < P.length := by omega
    repeat' (first | refine zP ?_ | refine zA ?_ | (refine zM ?_; intro _ _) | refine zX ?_ | (refine zC ?_; intro _ _ _ _) | (refine zS ?_; intro _ _) | (apply Ws <;> intro hg))
    refine WR.idxK pairF_len (by decide) (by first | exact gN | exact gS rfl) rfl rfl hS rfl hk' fun b1' o1' u1' hP => ?_
    refine WR.op (by first | exact gN | exact gS rfl) rfl (OpV.loadK rfl hP hH rfl) ?_
    repeat' (first | refine zP ?_ | refine zA ?_ | (refine zM ?_; intro _ _) | refine zX ?_ | (refine zC ?_; intro _ _ _ _) | (refine zS ?_; intro _ _) | (apply Ws <;> intro hg))
    refine WR.idxK pairF_len (by decide) (by first | exact gN | exact gS rfl) rfl rfl hU rfl hk' fun b2' o2' u2' hQ => ?_
    refine WR.op (by first | exact gN | exact gS rfl) rfl (OpV.loadK rfl hQ hH rfl) ?_
    refine WR.op (by first | exact gN | exact gS rfl) rfl (OpV.opAgg (neArrG _ _ _ _ _ _) (neArrOp _ _ _ _) rfl rfl rfl rfl) ?_
    rw [show (!(((P[k].1 : Nat) : Int) == ((P[k].1 : Nat) : Int) && ((P[k].2 : Nat) : Int) == ((P[k].2 : Nat) : Int))) = false by simp]
    repeat' (first | refine zP ?_ | refine zA ?_ | (refine zM ?_; intro _ _) | refine zX ?_ | (refine zC ?_; intro _ _ _ _) | (refine zS ?_; intro _ _) | refine zO ?_ | (apply Ws <;> intro hg))
    exact Ends.loop (k + 1) (by omega) (by repeat' (first | exact .nil | refine .cons rfl ?_)) rfl ⟨rfl, hk'⟩
  · repeat' (first | refine zP ?_ | refine zA ?_ | (refine zM ?_; intro _ _) | refine zX ?_ | (refine zC ?_; intro _ _ _ _) | (refine zS ?_; intro _ _) | (apply Ws <;> intro hg))
    exact Ends.ret1 rfl ⟨rfl, rfl⟩
end
end Go.Proofs.Ytaipmdhnhffckaa.Sh

namespace Go.Proofs.Ytaipmdhnhffckaa.Sh
open Go Go.Abs Go.Mth
set_option linter.unusedVariables false
set_option linter.unusedSimpArgs false
structure KJP where
  k : Nat
  v : Value
  Mx : HL
  n : Nat
theorem done_len (p : Nat → Nat → Bool) (n i j : Nat) : (doneP p n i j).length ≤ i * n + j := by
  unfold doneP
  rw [List.length_append, List.length_map]
  have h1 := flat_len (l := List.range i) (f := rowL p n) (c := n) fun x _ => by
    unfold rowL
    rw [List.length_map]
    exact Nat.le_trans (List.length_filter_le _ _) (by simp)
  have h2 := List.length_filter_le (p i) (List.range j)
  rw [List.length_range] at h1 h2
  omega
theorem pv_eq {vs : List (List Nat)} {N m : Nat} {o : List Int} (hV : OKV vs N m) (ho : OKD o N m) {i j : Nat} (hi : i < N) (hj : j < N) : pvE (ILL vs) o (i : Int) (j : Int) = if i = j then 6 else if muchP vs (shs N o) i j = true then 0 else 14 := by
  have hfl : (ILL vs).length = N := by simp [hV.len]
  have hb : belowB (N : Int) [(i : Int), (j : Int)] = true := belowB_iff.2 fun x hx => by
    simp at hx
    rcases hx with rfl | rfl <;> omega
  unfold pvE
  rw [if_neg (by rw [div_intro hV ho]; simp), hfl, natV_ILL, if_neg (by rw [hb]; decide), Int.toNat_natCast, Int.toNat_natCast]
  by_cases e : i = j
  · rw [if_pos e, if_pos (by omega)]
  · rw [if_neg e, if_neg (by omega)]
attribute [local irreducible] gOK WS WC WR WD Ends FS YS OpV seqK blockK loopK midK retK rdK asgK rangeEnd sat Cell
section
variable {M : HL} {n0 : Nat} {H : Heap}
set_option maxHeartbeats 16000000 in
theorem ShareJudged_fs (hH : hasH M n0 H) {a b : Int} {hs bs : List Int} (ha : 0 ≤ a ∧ a ≤ 255) (hb : 0 ≤ b ∧ b ≤ 255) (hl : hs.length = 24) (hu : ∀ x ∈ hs, 0 ≤ x ∧ x ≤ 255) (hbl : bs.length = 6) (hbb : ∀ x ∈ bs, 0 ≤ x ∧ x ≤ 255) :
    FS C 11 [.agg (heapV a b hs).toArray, .agg (bytesV bs).toArray] H (fun e H' => e = .bool true) := by
  have hone := heap_one a b hs
  have hone2 := bytes_one bs
  refine FS.intro (pf := pf11) rfl rfl rfl ?_
  repeat' (first | refine zP ?_ | refine zA ?_ | (refine zM ?_; intro _ _) | refine zX ?_ | (refine zC ?_; intro _ _ _ _) | (refine zS ?_; intro _ _))
  rename_i H1 hH1 H2 hH2
  refine WR.op (by first | exact gN | exact gS rfl) rfl (OpV.loadAll (k := 26) rfl hH2 (.tail _ (.head _)) (.row _ _ _ _) (by simp [heapV, hl])) ?_
  refine WR.call (by first | exact gN | exact gS rfl) rfl rfl (made_fs hH2 ha hb hl hu (fi := 4) (th := 6) (most := 20) (by omega) (by omega) (by omega)) ?_
  rintro v H3 ⟨ws, Mo, Mi, n3, hO, hR, hn3, hH3⟩
  clear hH1 hH2
  have hV := made_ok (a := a) (b := b) (hs := hs) (fi := 4) (th := 6) (most := 20) (by omega) (by omega) (by omega)
  rw [bytes_nat hbb] at hH3 hR
  have hbn := nat_le hbb
  have hbnl : (bs.map Int.toNat).length = 6 := by simp [hbl]
  generalize bs.map Int.toNat = bn at hH3 hR hbn hbnl
  have hmb : (n0 + 1, Ch.row 46 0 0 (numsK .u8 bn)) ∈ Mi ++ (n0 + 1, .row 46 0 0 (numsK .u8 bn)) :: (n0, .row 49 0 0 (heapV a b hs)) :: M := List.mem_append_right _ (.head _)
  generalize Mi ++ (n0 + 1, Ch.row 46 0 0 (numsK .u8 bn)) :: (n0, .row 49 0 0 (heapV a b hs)) :: M = T at hH3 hR hmb
  have hSv := hO.own.sl T
  have hRU := hR.mono (M' := Mo ++ T) fun q hq => List.mem_append_right _ hq
  replace hmb := List.mem_append_right Mo hmb
  have hwl : ws.length = 1 + a.toNat % 4 := by rw [hR.1, hV.len]
  clear hO hone hone2 hR
  generalize Mo ++ T = X at hH3 hRU hSv hmb
  generalize madeVs a b hs 4 6 20 = vs at hRU hV
  generalize 1 + a.toNat % 4 = N at hV hwl
  generalize b.toNat % (6 + 1) = m at hV
  have hN1 := hV.pos
  have hN4 := hV.n4
  have hm6 := hV.m6
  have hvl := hV.len
  have hv1 := hSv.one_
  have hr0 := hRU.2 0 (by omega)
  have hrl := hV.rowLen hN1
  repeat' (first | refine zP ?_ | refine zA ?_ | (refine zM ?_; intro _ _) | refine zX ?_ | (refine zC ?_; intro _ _ _ _) | (refine zS ?_; intro _ _) | (apply Ws <;> intro hg))
  rw [hrl]
  refine WC.loopX [(2, _), (3, _), (5, _), (29, _)] (fun s : KJP => [(6, s.v), (30, .int .i64 (s.k : Int))]) []
    (fun s H' => s.k ≤ m ∧ Own 3 1 s.v (nodes (byL bn N s.k)) s.Mx ∧ hasH (s.Mx ++ X) s.n H') (fun s => m - s.k) ⟨0, .slice none 0 0, [], n3⟩ (by repeat' (first | exact .nil | refine .cons rfl ?_)) rfl
    ⟨Nat.zero_le _, .nil, hH3⟩ ?_
  clear hH3
  rintro ⟨j, w, Mx, n4⟩ H5 ⟨hj, hOw, hH5⟩
  simp only at hj hOw hH5
  have hSv5 := hSv.mono (M' := Mx ++ X) fun q hq => List.mem_append_right _ hq
  have hmb5 := List.mem_append_right Mx hmb
  dsimp only [List.cons_append, List.nil_append]
  repeat' (first | refine zP ?_ | refine zA ?_ | (refine zM ?_; intro _ _) | refine zX ?_ | (refine zC ?_; intro _ _ _ _) | (refine zS ?_; intro _ _) | (apply Ws <;> intro hg))
  refine WC.condP rfl (fun hlt => ?_) (fun hlt => ?_)
  · have hj' : j < m := by omega
    have hxb := getD_le hbn j
    repeat' (first | refine zP ?_ | refine zA ?_ | (refine zM ?_; intro _ _) | refine zX ?_ | (refine zC ?_; intro _ _ _ _) | (refine zS ?_; intro _ _) | (apply Ws <;> intro hg))
    refine WR.op (by first | exact gN | exact gS rfl) rfl (OpV.conv u8k i64k rfl (c := (bn.getD j 0 : Int)) (IntWalk.i64_in _ (by omega))) ?_
    repeat' (first | refine zP ?_ | refine zA ?_ | (refine zM ?_; intro _ _) | refine zX ?_ | (refine zC ?_; intro _ _ _ _) | (refine zS ?_; intro _ _) | (apply Ws <;> intro hg))
    rw [hwl]
    repeat' (first | refine zP ?_ | refine zA ?_ | (refine zM ?_; intro _ _) | refine zX ?_ | (refine zC ?_; intro _ _ _ _) | (refine zS ?_; intro _ _) | (apply Ws <;> intro hg))
    rw [show ((bn.getD j 0 : Nat) : Int) % (N : Int) = ((bn.getD j 0 % N : Nat) : Int) by simp]
    refine WR.append1F [] Mx X rfl rfl rfl rfl hOw hH5 (new := [.int .i64 (bn.getD j 0 % N : Nat)]) (by rfl) rfl rfl (Nat.le_refl _) (by omega) (by simp [byL]; omega) fun v3 M3 n6 H6 hO3 hH6 hn6 => ?_
    repeat' (first | refine zP ?_ | refine zA ?_ | (refine zM ?_; intro _ _) | refine zX ?_ | (refine zC ?_; intro _ _ _ _) | (refine zS ?_; intro _ _) | (apply Ws <;> intro hg))
    rw [show (j : Int) + 1 = ((j + 1 : Nat) : Int) by omega]
    refine Ends.loop ⟨j + 1, v3, M3, n6⟩ (by simp only; omega) (by repeat' (first | exact .nil | refine .cons rfl ?_)) rfl ⟨hj', ?_, hH6⟩
    simp only
    rw [byL_succ]
    simpa [nodes] using hO3
  have hjm : j = m := by omega
  subst hjm
  have hSw := hOw.sl X
  have hVal : ValsN (Mx ++ X) v vs := ⟨ws, hSv5, hRU.mono fun q hq => List.mem_append_right _ hq⟩
  clear hlt hOw hmb hmb5 hj hSv hRU hr0 hSv5
  have hok := okd_of (byL_len bn N j) (byL_lt (bs := bn) (m := j) hN1)
  generalize byL bn N j = ol at hSw hok
  replace hSw := Sl.asInts hSw
  generalize IL ol = o at hSw hok
  generalize Mx ++ X = Y at hH5 hSw hVal
  have hfl : (ILL vs).length = N := by simp [hvl]
  have hl1 : (ILL vs).length ≤ 1000 := by omega
  have hll : ∀ l ∈ ILL vs, l.length ≤ 1000 := fun l hl => by
    obtain ⟨q, hq, rfl⟩ := List.mem_map.1 hl
    rw [List.length_map, hV.row q hq]; omega
  have hE := div_intro hV hok
  have hol := hok.len
  have hol1 : o.length ≤ 1000 := by omega
  have hfc : fairC (ILL vs) o = fairN vs (shs N o) := by unfold fairC; rw [if_pos hE, natV_ILL, hfl]
  have hwc : whyL (ILL vs) o = pairsL (muchP vs (shs N o)) N := by unfold whyL; rw [if_pos hE, natV_ILL, hfl]
  have hwy : whyC (ILL vs) o = if (pairsL (muchP vs (shs N o)) N).isEmpty = true then 13 else 0 := by unfold whyC; rw [if_pos hE, hwc]
  repeat' (first | refine zP ?_ | refine zA ?_ | (refine zM ?_; intro _ _) | refine zX ?_ | (refine zC ?_; intro _ _ _ _) | (refine zS ?_; intro _ _) | (apply Ws <;> intro hg))
  refine WR.call (by first | exact gN | exact gS rfl) rfl rfl (Worth_fs hH5 hVal.rows hl1 hll hSw hol1) ?_
  rintro _ H6 ⟨n6, hn6, ⟨h, _⟩ | ⟨us, N', m', he, hV', _, r, rs, Mo, Mi, rfl, hOr, hRW, hH6⟩⟩
  · exact absurd hE h
  obtain ⟨e1, e2, e3⟩ := okv_one hV hV' he.symm
  obtain rfl := e1.symm
  obtain rfl := e2.symm
  obtain rfl := e3.symm
  have hSr : Sl (Mo ++ (Mi ++ Y)) 1 r rs := hOr.own.sl _
  replace hRW := hRW.mono (M' := Mo ++ (Mi ++ Y)) fun q hq => List.mem_append_right _ hq
  have hYp : ∀ q ∈ Y, q ∈ Mo ++ (Mi ++ Y) := fun q hq => List.mem_append_right _ (List.mem_append_right _ hq)
  replace hVal := hVal.mono hYp
  replace hSw := hSw.mono hYp
  clear hH5 hYp hOr
  generalize Mo ++ (Mi ++ Y) = Z at hH6 hVal hSw hSr hRW
  repeat' (first | refine zP ?_ | refine zA ?_ | (refine zM ?_; intro _ _) | refine zX ?_ | (refine zC ?_; intro _ _ _ _) | (refine zS ?_; intro _ _) | (apply Ws <;> intro hg))
  refine WR.call (by first | exact gN | exact gS rfl) rfl rfl (Fair_fs hH6 hVal.rows hl1 hll hSw hol1) ?_
  rintro _ H7 ⟨rfl, n7, hn7, hH7⟩
  rw [hE, hfc]
  clear hH6
  repeat' (first | refine zP ?_ | refine zA ?_ | (refine zM ?_; intro _ _) | refine zX ?_ | (refine zC ?_; intro _ _ _ _) | (refine zS ?_; intro _ _) | (apply Ws <;> intro hg))
  refine WR.call (by first | exact gN | exact gS rfl) rfl rfl (Why_fs hH7 hVal.rows hl1 hll hSw hol1) ?_
  rintro _ H8 ⟨rfl, n8, hn8, hH8⟩
  rw [hwc, hwy]
  clear hH7
  repeat' (first | refine zP ?_ | refine zA ?_ | (refine zM ?_; intro _ _) | refine zX ?_ | (refine zC ?_; intro _ _ _ _) | (refine zS ?_; intro _ _) | (apply Ws <;> intro hg))
  refine WR.call (by first | exact gN | exact gS rfl) rfl rfl (judged_fs hH8 hV hVal hSw hok.part) ?_
  rintro _ H9 ⟨rfl, n9, hn9, hH9⟩
  clear hH8
  have hfz : fairN vs (shs N o) = 0 ↔ pairsL (muchP vs (shs N o)) N ≠ [] := by
    have h1 := fair_pos (vs := vs) (ss := shs N o)
    rw [hvl, ← pairs_nil] at h1
    constructor
    · intro h e
      have := h1.2 e
      omega
    · intro h
      exact Nat.eq_zero_of_not_pos fun h2 => h (h1.1 h2)
  obtain ⟨cd, hcd⟩ : ∃ cd : Int, cd = if (pairsL (muchP vs (shs N o)) N).isEmpty = true then 13 else 0 := ⟨_, rfl⟩
  have hc1 : cd = 0 ∨ cd = 13 := by rw [hcd]; split <;> simp
  have hcF : (decide (cd = 0) != decide (((fairN vs (shs N o) : Nat) : Int) = 0)) = false := by
    have h2 : cd = 0 ↔ ((fairN vs (shs N o) : Nat) : Int) = 0 := by
      rw [show (((fairN vs (shs N o) : Nat) : Int) = 0 ↔ fairN vs (shs N o) = 0) from by omega, hfz, hcd]
      by_cases e : pairsL (muchP vs (shs N o)) N = []
      · rw [e]; simp
      · rw [if_neg (by rw [List.isEmpty_iff]; exact e)]; simp [e]
    by_cases e : cd = 0
    · rw [decide_eq_true e, decide_eq_true (h2.1 e)]; rfl
    · rw [decide_eq_false e, decide_eq_false (fun h => e (h2.2 h))]; rfl
  rw [← hcd]
  clear hcd hfz hwc hwy hfc
  generalize (pairsL (muchP vs (shs N o)) N).headD (0, 0) = z at hH9 ⊢
  generalize fairN vs (shs N o) = F at hcF ⊢
  repeat' (first | refine zP ?_ | refine zA ?_ | (refine zM ?_; intro _ _) | refine zX ?_ | (refine zC ?_; intro _ _ _ _) | (refine zS ?_; intro _ _) | (apply Ws <;> intro hg))
  rename_i hHA
  refine WR.store2 (by first | exact gN | exact gS rfl) hHA rfl rfl rfl rfl .here fun HB hHB => ?_
  replace hVal := hVal.cons (p := (n9, .row 58 0 0 [.int .i64 (z.1 : Nat), .int .i64 (z.2 : Nat)]))
  replace hSw := hSw.cons (p := (n9, .row 58 0 0 [.int .i64 (z.1 : Nat), .int .i64 (z.2 : Nat)]))
  replace hSr := hSr.cons (p := (n9, .row 58 0 0 [.int .i64 (z.1 : Nat), .int .i64 (z.2 : Nat)]))
  replace hRW := hRW.cons (p := (n9, .row 58 0 0 [.int .i64 (z.1 : Nat), .int .i64 (z.2 : Nat)]))
  have hmz : (n9, Ch.row 58 0 0 [.int .i64 (z.1 : Nat), .int .i64 (z.2 : Nat)]) ∈ (n9, Ch.row 58 0 0 [.int .i64 (z.1 : Nat), .int .i64 (z.2 : Nat)]) :: Z := .head _
  clear hHA hH9
  generalize (n9, Ch.row 58 0 0 [.int .i64 (z.1 : Nat), .int .i64 (z.2 : Nat)]) :: Z = Q at hHB hVal hSw hSr hRW hmz
  repeat' (first | refine zP ?_ | refine zA ?_ | (refine zM ?_; intro _ _) | refine zX ?_ | (refine zC ?_; intro _ _ _ _) | (refine zS ?_; intro _ _) | refine zO ?_ | (apply Ws <;> intro hg))
  refine WR.call (by first | exact gN | exact gS rfl) rfl rfl (worths_fs hHB hV hVal hSw hok.part) ?_
  rintro _ HC ⟨us, Mi2, nC, rfl, hRW2, hnC, hHC⟩
  have hul : us.length = N := by rw [hRW2.1]; simp [worM, hvl]
  have hsub : ∀ q ∈ Q, q ∈ (n9 + 1, Ch.row 23 0 0 us) :: (Mi2 ++ Q) := fun q hq => .tail _ (List.mem_append_right _ hq)
  repeat' (first | refine zP ?_ | refine zA ?_ | (refine zM ?_; intro _ _) | refine zX ?_ | (refine zC ?_; intro _ _ _ _) | (refine zS ?_; intro _ _) | (apply Ws <;> intro hg))
  refine WR.call (by first | exact gN | exact gS rfl) rfl rfl (lists_fs hHC (hSr.mono hsub) (Sl.mkd hul) (hRW.mono hsub) hRW2.cons (by simp [worM, hvl]; omega) fun i hi => by
    have hi' : i < vs.length := by simpa [worM] using hi
    rw [worM_get hi', List.length_map, shs_len]; omega) ?_
  rintro _ _ ⟨rfl, rfl⟩
  replace hHC : hasH Q nC _ := hHC.sub ((List.sublist_append_right _ _).trans (List.sublist_cons_self _ _))
  clear hHB hsub hRW2 hSr hRW
  repeat' (first | refine zP ?_ | refine zA ?_ | (refine zM ?_; intro _ _) | refine zX ?_ | (refine zC ?_; intro _ _ _ _) | (refine zS ?_; intro _ _) | refine zO ?_ | (apply Ws <;> intro hg))
  refine WR.op (by first | exact gN | exact gS rfl) rfl (OpV.neB (neqB2 _ _) rfl rfl) ?_
  rw [hcF]
  repeat' (first | refine zP ?_ | refine zA ?_ | (refine zM ?_; intro _ _) | refine zX ?_ | (refine zC ?_; intro _ _ _ _) | (refine zS ?_; intro _ _) | refine zO ?_ | (apply Ws <;> intro hg))
  refine WR.op (by first | exact gN | exact gS rfl) rfl (OpV.bldA (cs := [Value.int .i64 (z.1 : Nat), .int .i64 (z.2 : Nat)].toArray) rfl rfl) ?_
  repeat' (first | refine zP ?_ | refine zA ?_ | (refine zM ?_; intro _ _) | refine zX ?_ | (refine zC ?_; intro _ _ _ _) | (refine zS ?_; intro _ _) | refine zO ?_ | (apply Ws <;> intro hg))
  refine WR.op (by first | exact gN | exact gS rfl) rfl (OpV.opAgg (neArrG _ _ _ _ _ _) (neArrOp _ _ _ _) rfl rfl rfl rfl) ?_
  rw [show (!(((z.1 : Nat) : Int) == ((z.1 : Nat) : Int) && ((z.2 : Nat) : Int) == ((z.2 : Nat) : Int))) = false by simp]
  have hSx : ∃ ws2, Sl Q 1 v ws2 ∧ ws2.length = N := by
    obtain ⟨ws2, g1, g2, _⟩ := hVal.ex
    exact ⟨ws2, g1, by rw [g2, hvl]⟩
  obtain ⟨ws2, hSx, hwx⟩ := hSx
  clear hcF hmz
  rcases hc1 with rfl | rfl
  all_goals
    repeat' (first | refine zP ?_ | refine zA ?_ | (refine zM ?_; intro _ _) | refine zX ?_ | (refine zC ?_; intro _ _ _ _) | (refine zS ?_; intro _ _) | refine zO ?_ | (apply Ws <;> intro hg))
    rw [hwx]
    refine WC.loopX [(5, _), (6, _), (110, _), (111, _)] (fun s : KJP => [(17, s.v), (112, .int .i64 (s.k : Int))]) []
      (fun s H' => s.k ≤ N ∧ Own 58 2 s.v (cellsF pairF (doneP (envP vs (shs N o)) N s.k 0)) s.Mx ∧ hasH (s.Mx ++ Q) s.n H') (fun s => N - s.k) ⟨0, .slice none 0 0, [], nC⟩ (by repeat' (first | exact .nil | refine .cons rfl ?_)) rfl ⟨Nat.zero_le _, by simp only [done_zero]; exact .nil, hHC⟩ ?_
    clear hHC
    rintro ⟨i, sl, Mx, nD⟩ HD ⟨hi, hOs, hHD⟩
    simp only at hi hOs hHD
    have hSx4 := hSx.mono (M' := Mx ++ Q) fun q hq => List.mem_append_right _ hq
    dsimp only [List.cons_append, List.nil_append]
    repeat' (first | refine zP ?_ | refine zA ?_ | (refine zM ?_; intro _ _) | refine zX ?_ | (refine zC ?_; intro _ _ _ _) | (refine zS ?_; intro _ _) | (apply Ws <;> intro hg))
    refine WC.condP rfl (fun hlt => ?_) (fun hlt => ?_)
    · have hi' : i < N := by omega
      repeat' (first | refine zP ?_ | refine zA ?_ | (refine zM ?_; intro _ _) | refine zX ?_ | (refine zC ?_; intro _ _ _ _) | (refine zS ?_; intro _ _) | (apply Ws <;> intro hg))
      rw [hwx]
      clear hSx4
      refine WC.loopX [(5, _), (6, _), (18, _), (110, _), (111, _), (112, _), (115, _), (116, _)] (fun s : KJP => [(17, s.v), (117, .int .i64 (s.k : Int))]) []
        (fun s H' => s.k ≤ N ∧ Own 58 2 s.v (cellsF pairF (doneP (envP vs (shs N o)) N i s.k)) s.Mx ∧ hasH (s.Mx ++ Q) s.n H') (fun s => N - s.k) ⟨0, sl, Mx, nD⟩ (by repeat' (first | exact .nil | refine .cons rfl ?_)) rfl ⟨Nat.zero_le _, hOs, hHD⟩ ?_
      clear hHD hOs
      rintro ⟨j, sl, Mx, nD⟩ HD ⟨hj, hOs, hHD⟩
      simp only at hj hOs hHD
      have hmo : ∀ q ∈ Q, q ∈ Mx ++ Q := fun q hq => List.mem_append_right _ hq
      dsimp only [List.cons_append, List.nil_append]
      repeat' (first | refine zP ?_ | refine zA ?_ | (refine zM ?_; intro _ _) | refine zX ?_ | (refine zC ?_; intro _ _ _ _) | (refine zS ?_; intro _ _) | (apply Ws <;> intro hg))
      refine WC.condP rfl (fun hlt2 => ?_) (fun hlt2 => ?_)
      · have hj' : j < N := by omega
        have hpv := pv_eq hV hok hi' hj'
        have hdl := done_len (envP vs (shs N o)) N i j
        have hin : i * N ≤ 4 * 4 := Nat.mul_le_mul (by omega) hN4
        repeat' (first | refine zP ?_ | refine zA ?_ | (refine zM ?_; intro _ _) | refine zX ?_ | (refine zC ?_; intro _ _ _ _) | (refine zS ?_; intro _ _) | (apply Ws <;> intro hg))
        refine WR.call (by first | exact gN | exact gS rfl) rfl rfl (lenvies_fs hHD hV (hVal.mono hmo) (hSw.mono hmo) hok.part hi' hj') ?_
        rintro _ HF ⟨rfl, nF, hnF, hHF⟩
        clear hHD
        cases hen : envP vs (shs N o) i j with
        | false =>
          have hmf : muchP vs (shs N o) i j = false := by
            cases h : muchP vs (shs N o) i j with
            | false => rfl
            | true => rw [much_envP h] at hen; cases hen
          have hdn := done_no (n := N) hen
          rw [hmf] at hpv ⊢
          rw [if_neg (show ¬ false = true by decide)] at hpv
          by_cases hij : i = j
          · rw [if_pos hij] at hpv
            repeat' (first | refine zP ?_ | refine zA ?_ | (refine zM ?_; intro _ _) | refine zX ?_ | (refine zC ?_; intro _ _ _ _) | (refine zS ?_; intro _ _) | refine zO ?_ | (apply Ws <;> intro hg))
            refine WR.call (by first | exact gN | exact gS rfl) rfl rfl (Proves_fs hHF (hVal.mono hmo).rows hl1 hll (hSw.mono hmo) hol1 _ _) ?_
            rintro _ HG ⟨rfl, nG, hnG, hHG⟩
            rw [hpv]
            repeat' (first | refine zP ?_ | refine zA ?_ | (refine zM ?_; intro _ _) | refine zX ?_ | (refine zC ?_; intro _ _ _ _) | (refine zS ?_; intro _ _) | refine zO ?_ | (apply Ws <;> intro hg))
            rw [show (j : Int) + 1 = ((j + 1 : Nat) : Int) by omega]
            exact Ends.loop ⟨j + 1, sl, Mx, nG⟩ (by simp only; omega) (by repeat' (first | exact .nil | refine .cons rfl ?_)) rfl ⟨hj', by simp only; rw [hdn]; exact hOs, hHG⟩
          · rw [if_neg hij] at hpv
            repeat' (first | refine zP ?_ | refine zA ?_ | (refine zM ?_; intro _ _) | refine zX ?_ | (refine zC ?_; intro _ _ _ _) | (refine zS ?_; intro _ _) | refine zO ?_ | (apply Ws <;> intro hg))
            refine WR.call (by first | exact gN | exact gS rfl) rfl rfl (Proves_fs hHF (hVal.mono hmo).rows hl1 hll (hSw.mono hmo) hol1 _ _) ?_
            rintro _ HG ⟨rfl, nG, hnG, hHG⟩
            rw [hpv]
            repeat' (first | refine zP ?_ | refine zA ?_ | (refine zM ?_; intro _ _) | refine zX ?_ | (refine zC ?_; intro _ _ _ _) | (refine zS ?_; intro _ _) | refine zO ?_ | (apply Ws <;> intro hg))
            rw [show (j : Int) + 1 = ((j + 1 : Nat) : Int) by omega]
            exact Ends.loop ⟨j + 1, sl, Mx, nG⟩ (by simp only; omega) (by repeat' (first | exact .nil | refine .cons rfl ?_)) rfl ⟨hj', by simp only; rw [hdn]; exact hOs, hHG⟩
        | true =>
          have hij : i ≠ j := fun e => by
            rw [e] at hen
            unfold envP at hen
            rw [env_self] at hen; cases hen
          have hdn := done_yes (n := N) hen
          rw [if_neg hij] at hpv
          repeat' (first | refine zP ?_ | refine zA ?_ | (refine zM ?_; intro _ _) | refine zX ?_ | (refine zC ?_; intro _ _ _ _) | (refine zS ?_; intro _ _) | refine zO ?_ | (apply Ws <;> intro hg))
          refine WR.op (by first | exact gN | exact gS rfl) rfl (OpV.bldA (cs := [Value.int .i64 (i : Int), .int .i64 (j : Int)].toArray) rfl rfl) ?_
          refine WR.append1F [] Mx Q rfl rfl rfl rfl hOs hHF (new := [.int .i64 (i : Int), .int .i64 (j : Int)]) (by rfl) rfl rfl (by decide) (by decide) (by rw [cellsF_len pairF_len]; simp; omega) fun sl' Mx' n5 H5 hO' hH5 hn5 => ?_
          replace hH5 : hasH (Mx' ++ Q) n5 H5 := hH5
          have hmo' : ∀ q ∈ Q, q ∈ Mx' ++ Q := fun q hq => List.mem_append_right _ hq
          clear hHF hmo
          cases hmu : muchP vs (shs N o) i j with
          | false =>
            rw [hmu, if_neg (show ¬ false = true by decide)] at hpv
            repeat' (first | refine zP ?_ | refine zA ?_ | (refine zM ?_; intro _ _) | refine zX ?_ | (refine zC ?_; intro _ _ _ _) | (refine zS ?_; intro _ _) | refine zO ?_ | (apply Ws <;> intro hg))
            refine WR.call (by first | exact gN | exact gS rfl) rfl rfl (Proves_fs hH5 (hVal.mono hmo').rows hl1 hll (hSw.mono hmo') hol1 _ _) ?_
            rintro _ HG ⟨rfl, nG, hnG, hHG⟩
            rw [hpv]
            repeat' (first | refine zP ?_ | refine zA ?_ | (refine zM ?_; intro _ _) | refine zX ?_ | (refine zC ?_; intro _ _ _ _) | (refine zS ?_; intro _ _) | refine zO ?_ | (apply Ws <;> intro hg))
            rw [show (j : Int) + 1 = ((j + 1 : Nat) : Int) by omega]
            exact Ends.loop ⟨j + 1, sl', Mx', nG⟩ (by simp only; omega) (by repeat' (first | exact .nil | refine .cons rfl ?_)) rfl ⟨hj', by simp only; rw [hdn, cellsF_snoc]; exact hO', hHG⟩
          | true =>
            rw [hmu, if_pos rfl] at hpv
            repeat' (first | refine zP ?_ | refine zA ?_ | (refine zM ?_; intro _ _) | refine zX ?_ | (refine zC ?_; intro _ _ _ _) | (refine zS ?_; intro _ _) | refine zO ?_ | (apply Ws <;> intro hg))
            refine WR.call (by first | exact gN | exact gS rfl) rfl rfl (Proves_fs hH5 (hVal.mono hmo').rows hl1 hll (hSw.mono hmo') hol1 _ _) ?_
            rintro _ HG ⟨rfl, nG, hnG, hHG⟩
            rw [hpv]
            repeat' (first | refine zP ?_ | refine zA ?_ | (refine zM ?_; intro _ _) | refine zX ?_ | (refine zC ?_; intro _ _ _ _) | (refine zS ?_; intro _ _) | refine zO ?_ | (apply Ws <;> intro hg))
            rw [show (j : Int) + 1 = ((j + 1 : Nat) : Int) by omega]
            exact Ends.loop ⟨j + 1, sl', Mx', nG⟩ (by simp only; omega) (by repeat' (first | exact .nil | refine .cons rfl ?_)) rfl ⟨hj', by simp only; rw [hdn, cellsF_snoc]; exact hO', hHG⟩
      · have hjn : j = N := by omega
        rw [hjn, ← done_next] at hOs
        repeat' (first | refine zP ?_ | refine zA ?_ | (refine zM ?_; intro _ _) | refine zX ?_ | (refine zC ?_; intro _ _ _ _) | (refine zS ?_; intro _ _) | (apply Ws <;> intro hg))
        rw [show (i : Int) + 1 = ((i + 1 : Nat) : Int) by omega]
        exact Ends.loop ⟨i + 1, sl, Mx, nD⟩ (by simp only; omega) (by repeat' (first | exact .nil | refine .cons rfl ?_)) rfl ⟨hi', hOs, hHD⟩
    · have hin : i = N := by omega
      rw [hin, done_all] at hOs
      have hmo : ∀ q ∈ Q, q ∈ Mx ++ Q := fun q hq => List.mem_append_right _ hq
      clear hSx4
      repeat' (first | refine zP ?_ | refine zA ?_ | (refine zM ?_; intro _ _) | refine zX ?_ | (refine zC ?_; intro _ _ _ _) | (refine zS ?_; intro _ _) | (apply Ws <;> intro hg))
      refine WR.call (by first | exact gN | exact gS rfl) rfl rfl (Envy_fs hHD (hVal.mono hmo).rows hl1 hll (hSw.mono hmo) hol1) ?_
      rintro _ HE ⟨nE, hnE, ⟨h, _⟩ | ⟨w4, N4, m4', he4, hV4, _, r2, My, rfl, hO2, hHE⟩⟩
      · exact absurd hE h
      obtain ⟨e1, e2, e3⟩ := okv_one hV hV4 he4.symm
      obtain rfl := e1.symm
      obtain rfl := e2.symm
      obtain rfl := e3.symm
      clear hHD
      repeat' (first | refine zP ?_ | refine zA ?_ | (refine zM ?_; intro _ _) | refine zX ?_ | (refine zC ?_; intro _ _ _ _) | (refine zS ?_; intro _ _) | refine zO ?_ | (apply Ws <;> intro hg))
      refine WR.call (by first | exact gN | exact gS rfl) rfl rfl (lpairs_fs hHE (hO2.sl (Mx ++ Q)) ((hOs.sl Q).mono fun q hq => List.mem_append_right _ hq) (by have := pairs_len (envP vs (shs N o)) N; have := Nat.mul_le_mul hN4 hN4; omega)) ?_
      rintro _ _ ⟨rfl, rfl⟩
      repeat' (first | refine zP ?_ | refine zA ?_ | (refine zM ?_; intro _ _) | refine zX ?_ | (refine zC ?_; intro _ _ _ _) | (refine zS ?_; intro _ _) | refine zO ?_ | (apply Ws <;> intro hg))
      refine WR.call (by first | exact gN | exact gS rfl) rfl rfl (FS.works (C := C) (R := fun v H' => v = .bool true) rfl) ?_
      rintro _ _ rfl
      repeat' (first | refine zP ?_ | refine zA ?_ | (refine zM ?_; intro _ _) | refine zX ?_ | (refine zC ?_; intro _ _ _ _) | (refine zS ?_; intro _ _) | (apply Ws <;> intro hg))
      exact Ends.ret1 rfl rfl
end
end Go.Proofs.Ytaipmdhnhffckaa.Sh
