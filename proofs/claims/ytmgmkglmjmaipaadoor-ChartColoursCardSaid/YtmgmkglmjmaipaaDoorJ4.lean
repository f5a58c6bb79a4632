/- Texts of the law, joined. -/
import Derived.Test.YtmgmkglmjmaipaaDoorJ3
import Derived.Test.YtmgmkglmjmaipaaDoorJ2
/- The reference's fewest, Fewest, Colour. -/
namespace Go.Proofs.YtmgmkglmjmaipaaDoor.Ct
open Go Go.Abs Go.Mth
set_option linter.unusedVariables false
set_option linter.unusedSimpArgs false
theorem fitC_take {A : List Nat} {N j : Nat} {l : List Nat} (hj : j < l.length) : fitC A N (l.take (j + 1)) = true ↔ ∀ q, q < j → l.getD q 0 = l.getD j 0 → ¬ adjP (fun e => A.getD e 0) N j q := by
  have e1 : (l.take (j + 1)).length = j + 1 := by rw [List.length_take]; omega
  have e2 : ((l.take (j + 1)).take j).length = j := by rw [List.length_take]; omega
  unfold fitC freeB
  rw [e1, show j + 1 - 1 = j by omega, e2, getD_take (by omega), List.all_eq_true]
  constructor
  · intro h q hq he ha
    have := h q (List.mem_range.2 hq)
    rw [getD_take hq, getD_take (by omega), decide_eq_true he, adjB_iff.2 ha] at this
    cases this
  · intro h q hq
    have hq' := List.mem_range.1 hq
    rw [getD_take hq', getD_take (by omega)]
    by_cases he : l.getD q 0 = l.getD j 0
    · have := h q hq' he
      rw [decide_eq_true he, Bool.true_and]
      cases hb : adjB A N j q with
      | false => rfl
      | true => exact absurd (adjB_iff.1 hb) this
    · rw [decide_eq_false he]; rfl
theorem colsC {A : List Nat} {L V f : Nat} {l : List Nat} (hpt : ∀ e, e < 2 * L → A.getD e 0 < V) (hno : ¬ loopy (fun e => A.getD e 0) L) (hl : l.length = V) : okP (fitC A (2 * L)) f l ↔ colsOK (fun e => A.getD e 0) L V f l := by
  constructor
  · intro h
    refine ⟨hl, fun x hx => ?_, fun k hk he => ?_⟩
    · obtain ⟨j, hj, rfl⟩ := List.mem_iff_getElem.1 hx
      have := (h j hj).1
      rwa [getD_eq hj] at this
    · have h1 := hpt (2 * k) (by omega)
      have h2 := hpt (2 * k + 1) (by omega)
      have a1 : adjP (fun e => A.getD e 0) (2 * L) (A.getD (2 * k) 0) (A.getD (2 * k + 1) 0) := ⟨2 * k, by omega, rfl, by rw [oth_even]⟩
      have a2 := a1.symm (by omega)
      rcases Nat.lt_trichotomy (A.getD (2 * k) 0) (A.getD (2 * k + 1) 0) with e | e | e
      · exact (fitC_take (by omega)).1 (h _ (by omega)).2 _ e he a2
      · exact hno ⟨k, hk, e⟩
      · exact (fitC_take (by omega)).1 (h _ (by omega)).2 _ e he.symm a1
  · rintro ⟨_, h1, h2⟩ j hj
    refine ⟨h1 _ (getD_mem hj), (fitC_take hj).2 fun q hq he ha => ?_⟩
    obtain ⟨k, hk, ⟨rfl, rfl⟩ | ⟨rfl, rfl⟩⟩ := ha.line
    · exact h2 k hk he.symm
    · exact h2 k hk he
theorem firstG_cols {A : List Nat} {L V f : Nat} {l : List Nat} (hpt : ∀ e, e < 2 * L → A.getD e 0 < V) (hno : ¬ loopy (fun e => A.getD e 0) L) (h : FirstG (fitC A (2 * L)) f V [] l) : colsOK (fun e => A.getD e 0) L V f l ∧ ∀ l', colsOK (fun e => A.getD e 0) L V f l' → ¬ lexP l' l :=
  ⟨(colsC hpt hno h.1.1).1 h.1.2.2, fun l' h' => h.2 l' ⟨h'.1, rfl, (colsC hpt hno h'.1).2 h'⟩⟩
theorem noneG_cols {A : List Nat} {L V f : Nat} (hpt : ∀ e, e < 2 * L → A.getD e 0 < V) (hno : ¬ loopy (fun e => A.getD e 0) L) (h : ∀ l, ¬ ExtG (fitC A (2 * L)) f V [] l) : ∀ l, ¬ colsOK (fun e => A.getD e 0) L V f l :=
  fun l hl => h l ⟨hl.1, rfl, (colsC hpt hno hl.1).2 hl⟩
theorem FewR.unique {pt : Nat → Nat} {L V f f' : Nat} {l l' : List Nat} (h : FewR pt L V f l) (k : FewR pt L V f' l') : f = f' ∧ l = l' := by
  have e : f = f' := by
    rcases Nat.lt_trichotomy f f' with e | e | e
    · exact absurd h.1 (k.2.2 f e l)
    · exact e
    · exact absurd k.1 (h.2.2 f' e l')
  subst e
  refine ⟨rfl, ?_⟩
  apply Decidable.byContradiction
  intro hne
  rcases lexP_total (h.1.1.trans k.1.1.symm) hne with e | e
  · exact k.2.1 l h.1 e
  · exact h.2.1 l' k.1 e
attribute [local irreducible] gOK WS WC WR WD Ends FS YS OpV seqK blockK loopK midK retK rdK asgK rangeEnd sat Cell
section
variable {M : HL} {n0 : Nat} {H : Heap} {v w : Value}
set_option maxHeartbeats 1000000 in
theorem rfewest_fs (hH : hasH M n0 H) {Q : List (List Nat)} (hQ : OKM Q) (hR : RowsI M v (castP Q)) {A : List Nat} (hpt : PtOf Q (fun e => A.getD e 0)) (hlt : ∀ e, e < sizeL Q → A.getD e 0 < Q.length) (hno : ¬ loopy (fun e => A.getD e 0) (sizeL Q / 2)) :
    FS C 84 [.agg [v].toArray] H (fun e H' => ∃ n' M2 f l u, n0 ≤ n' ∧ f ≤ Q.length ∧ FewR (fun e => A.getD e 0) (sizeL Q / 2) Q.length f l ∧ hasH (M2 ++ M) n' H' ∧ Sl (M2 ++ M) 1 u (nodes l) ∧ e = .tuple #[u, .int .i64 (f : Int)]) := by
  have hle := hQ.le
  have hlen := hQ.len
  have hpair := hQ.pair
  have hlt2 : ∀ e, e < 2 * (sizeL Q / 2) → A.getD e 0 < Q.length := fun e h => hlt e (by omega)
  have hv := hR.one_
  refine FS.intro (pf := pf84) rfl rfl rfl ?_
  repeat' (first | refine zP ?_ | refine zA ?_ | (refine zM ?_; intro _ _) | refine zX ?_ | (refine zC ?_; intro _ _ _ _) | (refine zS ?_; intro _ _) | (apply Ws <;> intro hg))
  rename_i H1 hH1
  refine WC.loopX [(1, .pointer (some ⟨n0, 0, some 0⟩))] (fun a : Nat × Nat => [(4, .int .i64 (a.1 : Int))]) []
    (fun a H' => a.1 ≤ Q.length ∧ n0 ≤ a.2 ∧ (∀ f', f' < a.1 → ∀ l', ¬ colsOK (fun e => A.getD e 0) (sizeL Q / 2) Q.length f' l') ∧ hasH ((n0, .row 27 0 0 [v]) :: M) a.2 H') (fun a => Q.length - a.1) (0, n0 + 1) (by repeat' (first | exact .nil | refine .cons rfl ?_)) rfl
    ⟨Nat.zero_le _, by simp only; omega, fun f' h => absurd h (Nat.not_lt_zero _), hH1⟩ ?_
  clear hH hH1
  rintro ⟨f, n1⟩ H2 ⟨hf, hn1, hnone, hH2⟩
  simp only at hf hn1 hnone hH2
  dsimp only [List.cons_append, List.nil_append]
  repeat' (first | refine zP ?_ | refine zA ?_ | (refine zM ?_; intro _ _) | refine zX ?_ | (refine zC ?_; intro _ _ _ _) | (refine zS ?_; intro _ _) | (apply Ws <;> intro hg))
  refine WR.call (by first | exact gN | exact gS rfl) rfl rfl (coloured_fs hQ hpt (f := f) (by omega) Q.length (l := []) (by simp) (fun j hj => absurd hj (Nat.not_lt_zero _)) hH2 hR.cons (.inl ⟨rfl, rfl⟩)) ?_
  rintro _ H3 ⟨n3, hn3, ⟨l, u, M2, hF, hH3, hSu, rfl⟩ | ⟨hF, hH3, u, hu, rfl⟩⟩
  · have hu := hSu.one_
    rw [hpair] at hF
    obtain ⟨h1, h2⟩ := firstG_cols hlt2 hno hF
    repeat' (first | refine zP ?_ | refine zA ?_ | (refine zM ?_; intro _ _) | refine zX ?_ | (refine zC ?_; intro _ _ _ _) | (refine zS ?_; intro _ _) | (apply Ws <;> intro hg))
    exact Ends.ret2 rfl rfl ⟨n3, M2 ++ [(n0, Ch.row 27 0 0 [v])], f, l, u, by omega, hf, ⟨h1, h2, hnone⟩, by simpa using hH3, by simpa using hSu, rfl⟩
  · rw [hpair] at hF
    have hnf := noneG_cols hlt2 hno hF
    have hfV : f ≠ Q.length := by
      intro e
      subst e
      exact hnf _ (cols_id hlt2 hno)
    repeat' (first | refine zP ?_ | refine zA ?_ | (refine zM ?_; intro _ _) | refine zX ?_ | (refine zC ?_; intro _ _ _ _) | (refine zS ?_; intro _ _) | (apply Ws <;> intro hg))
    refine Ends.loop (f + 1, n3) (by simp only; omega) (by repeat' (first | exact .nil | refine .cons rfl ?_)) rfl ⟨by simp only; omega, by simp only; omega, fun f' hf' l' hl' => ?_, hH3⟩
    by_cases e : f' = f
    · subst e; exact hnf _ hl'
    · exact hnone f' (by simp only at hf'; omega) l' hl'
/-- The reference's answers about colours. -/
def FewX (P : List (List Int)) (A : List Nat) (res : Nat → List Nat → Value → Prop) (z e : Value) : Prop :=
  (errM P ≠ 0 ∧ e = .tuple #[z, .int .i64 (errM P)]) ∨ ∃ Q, P = castP Q ∧ OKM Q ∧ ((loopy (fun e => A.getD e 0) (sizeL Q / 2) ∧ e = .tuple #[z, .int .i64 12]) ∨
    (¬ loopy (fun e => A.getD e 0) (sizeL Q / 2) ∧ ∃ f l u, f ≤ Q.length ∧ FewR (fun e => A.getD e 0) (sizeL Q / 2) Q.length f l ∧ res f l u ∧ e = .tuple #[u, .int .i64 0]))
set_option maxHeartbeats 2000000 in
theorem rFewest_fs (hH : hasH M n0 H) {P : List (List Int)} (hR : RowsI M v P) (hl : P.length ≤ 1000) (hr : ∀ i, i < P.length → (P.getD i []).length ≤ 1000) {A : List Nat} (hpt : ∀ Q, P = castP Q → OKM Q → PtOf Q (fun e => A.getD e 0) ∧ ∀ e, e < sizeL Q → A.getD e 0 < Q.length) :
    FS C 37 [.agg [v].toArray] H (fun e H' => ∃ n', n0 ≤ n' ∧ hasH M n' H' ∧ FewX P A (fun f _ u => u = .int .i64 (f : Int)) (.int .i64 0) e) := by
  have hv := hR.one_
  have hrg := err_range P
  have hR0 := hR
  refine FS.intro (pf := pf37) rfl rfl rfl ?_
  repeat' (first | refine zP ?_ | refine zA ?_ | (refine zM ?_; intro _ _) | refine zX ?_ | (refine zC ?_; intro _ _ _ _) | (refine zS ?_; intro _ _) | (apply Ws <;> intro hg))
  rename_i H1 hH1
  refine WR.call (by first | exact gN | exact gS rfl) rfl rfl (rCheck_fs hH1 hR0.cons hl hr) ?_
  rintro _ H2 ⟨n2, hn2, hH2, rfl⟩
  clear hH hH1
  by_cases h0 : errM P = 0
  · obtain ⟨Q, rfl, hQ⟩ := err_nat h0
    obtain ⟨hp, hlt⟩ := hpt Q rfl hQ
    have hle := hQ.le
    have hlen := hQ.len
    rw [h0]
    repeat' (first | refine zP ?_ | refine zA ?_ | (refine zM ?_; intro _ _) | refine zX ?_ | (refine zC ?_; intro _ _ _ _) | (refine zS ?_; intro _ _) | refine zO ?_ | (apply Ws <;> intro hg))
    refine WR.call (by first | exact gN | exact gS rfl) rfl rfl (rlooped_fs hH2 hQ hR0.cons hp hlt) ?_
    rintro _ H3 ⟨n3, bb, hn3, hH3, hbb, rfl⟩
    clear hH2
    cases bb with
    | true =>
      repeat' (first | refine zP ?_ | refine zA ?_ | (refine zM ?_; intro _ _) | refine zX ?_ | (refine zC ?_; intro _ _ _ _) | (refine zS ?_; intro _ _) | refine zO ?_ | (apply Ws <;> intro hg))
      exact Ends.ret2 rfl rfl ⟨n3, by omega, hH3.tail, .inr ⟨Q, rfl, hQ, .inl ⟨hbb.1 rfl, rfl⟩⟩⟩
    | false =>
      have hnl : ¬ loopy (fun e => A.getD e 0) (sizeL Q / 2) := fun h => by have := hbb.2 h; cases this
      repeat' (first | refine zP ?_ | refine zA ?_ | (refine zM ?_; intro _ _) | refine zX ?_ | (refine zC ?_; intro _ _ _ _) | (refine zS ?_; intro _ _) | refine zO ?_ | (apply Ws <;> intro hg))
      refine WR.call (by first | exact gN | exact gS rfl) rfl rfl (rfewest_fs hH3 hQ hR0.cons hp hlt hnl) ?_
      rintro _ H4 ⟨n4, M2, f, l, u, hn4, hfV, hF, hH4, hSu, rfl⟩
      have hu := hSu.one_
      repeat' (first | refine zP ?_ | refine zA ?_ | (refine zM ?_; intro _ _) | refine zX ?_ | (refine zC ?_; intro _ _ _ _) | (refine zS ?_; intro _ _) | (apply Ws <;> intro hg))
      exact Ends.ret2 rfl rfl ⟨n4, by omega, (hH4.sub (List.sublist_append_right _ _)).tail, .inr ⟨Q, rfl, hQ, .inr ⟨hnl, f, l, _, hfV, hF, rfl, rfl⟩⟩⟩
  · repeat' (first | refine zP ?_ | refine zA ?_ | (refine zM ?_; intro _ _) | refine zX ?_ | (refine zC ?_; intro _ _ _ _) | (refine zS ?_; intro _ _) | refine zO ?_ | (apply Ws <;> intro hg))
    exact Ends.ret2 rfl rfl ⟨n2, by omega, hH2.tail, .inl ⟨h0, rfl⟩⟩
set_option maxHeartbeats 2000000 in
theorem rColour_fs (hH : hasH M n0 H) {P : List (List Int)} (hR : RowsI M v P) (hl : P.length ≤ 1000) (hr : ∀ i, i < P.length → (P.getD i []).length ≤ 1000) {A : List Nat} (hpt : ∀ Q, P = castP Q → OKM Q → PtOf Q (fun e => A.getD e 0) ∧ ∀ e, e < sizeL Q → A.getD e 0 < Q.length) :
    FS C 39 [.agg [v].toArray] H (fun e H' => ∃ n' M2, n0 ≤ n' ∧ hasH (M2 ++ M) n' H' ∧ FewX P A (fun _ l u => Sl (M2 ++ M) 1 u (nodes l)) (.slice none 0 0) e) := by
  have hv := hR.one_
  have hrg := err_range P
  have hR0 := hR
  refine FS.intro (pf := pf39) rfl rfl rfl ?_
  repeat' (first | refine zP ?_ | refine zA ?_ | (refine zM ?_; intro _ _) | refine zX ?_ | (refine zC ?_; intro _ _ _ _) | (refine zS ?_; intro _ _) | (apply Ws <;> intro hg))
  rename_i H1 hH1
  refine WR.call (by first | exact gN | exact gS rfl) rfl rfl (rCheck_fs hH1 hR0.cons hl hr) ?_
  rintro _ H2 ⟨n2, hn2, hH2, rfl⟩
  clear hH hH1
  by_cases h0 : errM P = 0
  · obtain ⟨Q, rfl, hQ⟩ := err_nat h0
    obtain ⟨hp, hlt⟩ := hpt Q rfl hQ
    have hle := hQ.le
    have hlen := hQ.len
    rw [h0]
    repeat' (first | refine zP ?_ | refine zA ?_ | (refine zM ?_; intro _ _) | refine zX ?_ | (refine zC ?_; intro _ _ _ _) | (refine zS ?_; intro _ _) | refine zO ?_ | (apply Ws <;> intro hg))
    refine WR.call (by first | exact gN | exact gS rfl) rfl rfl (rlooped_fs hH2 hQ hR0.cons hp hlt) ?_
    rintro _ H3 ⟨n3, bb, hn3, hH3, hbb, rfl⟩
    clear hH2
    cases bb with
    | true =>
      repeat' (first | refine zP ?_ | refine zA ?_ | (refine zM ?_; intro _ _) | refine zX ?_ | (refine zC ?_; intro _ _ _ _) | (refine zS ?_; intro _ _) | refine zO ?_ | (apply Ws <;> intro hg))
      exact Ends.ret2 rfl rfl ⟨n3, [], by omega, hH3.tail, .inr ⟨Q, rfl, hQ, .inl ⟨hbb.1 rfl, rfl⟩⟩⟩
    | false =>
      have hnl : ¬ loopy (fun e => A.getD e 0) (sizeL Q / 2) := fun h => by have := hbb.2 h; cases this
      repeat' (first | refine zP ?_ | refine zA ?_ | (refine zM ?_; intro _ _) | refine zX ?_ | (refine zC ?_; intro _ _ _ _) | (refine zS ?_; intro _ _) | refine zO ?_ | (apply Ws <;> intro hg))
      refine WR.call (by first | exact gN | exact gS rfl) rfl rfl (rfewest_fs hH3 hQ hR0.cons hp hlt hnl) ?_
      rintro _ H4 ⟨n4, M2, f, l, u, hn4, hfV, hF, hH4, hSu, rfl⟩
      have hu := hSu.one_
      repeat' (first | refine zP ?_ | refine zA ?_ | (refine zM ?_; intro _ _) | refine zX ?_ | (refine zC ?_; intro _ _ _ _) | (refine zS ?_; intro _ _) | (apply Ws <;> intro hg))
      exact Ends.ret2 rfl rfl ⟨n4, M2 ++ [(n0, Ch.row 27 0 0 [v])], by omega, by simpa using hH4, .inr ⟨Q, rfl, hQ, .inr ⟨hnl, f, l, _, hfV, hF, by simpa using hSu, rfl⟩⟩⟩
  · repeat' (first | refine zP ?_ | refine zA ?_ | (refine zM ?_; intro _ _) | refine zX ?_ | (refine zC ?_; intro _ _ _ _) | (refine zS ?_; intro _ _) | refine zO ?_ | (apply Ws <;> intro hg))
    exact Ends.ret2 rfl rfl ⟨n2, [], by omega, hH2.tail, .inl ⟨h0, rfl⟩⟩
end
end Go.Proofs.YtmgmkglmjmaipaaDoor.Ct

/- Proper, here and there. -/
namespace Go.Proofs.YtmgmkglmjmaipaaDoor.Ct
open Go Go.Abs Go.Mth
set_option linter.unusedVariables false
set_option linter.unusedSimpArgs false
/-- What Proper answers. -/
def ProV (P : List (List Int)) (cs : List Int) (A : List Nat) (e : Value) : Prop :=
  (errM P ≠ 0 ∧ e = .tuple #[.bool false, .int .i64 (errM P)]) ∨ ∃ Q, P = castP Q ∧ OKM Q ∧ ((cs.length ≠ Q.length ∧ e = .tuple #[.bool false, .int .i64 5]) ∨ (cs.length = Q.length ∧
    (((∃ x ∈ cs, x < 0) ∧ e = .tuple #[.bool false, .int .i64 1]) ∨ ((∀ x ∈ cs, 0 ≤ x) ∧ ∃ bb : Bool, (bb = true ↔ ∀ k, k < sizeL Q / 2 → cs.getD (A.getD (2 * k) 0) 0 ≠ cs.getD (A.getD (2 * k + 1) 0) 0) ∧ e = .tuple #[.bool bb, .int .i64 0]))))
theorem ints_nat {cs : List Int} (h : ∀ x ∈ cs, 0 ≤ x) : ints cs = nodes (cs.map Int.toNat) := by
  rw [nodes_cast]
  congr 1
  unfold castL
  rw [List.map_map]
  conv => lhs; rw [← List.map_id cs]
  refine List.map_congr_left fun x hx => ?_
  show x = ((x.toNat : Nat) : Int)
  rw [Int.toNat_of_nonneg (h x hx)]
theorem get_nat {cs : List Int} (h : ∀ x ∈ cs, 0 ≤ x) {i : Nat} (hi : i < cs.length) : cs.getD i 0 = (((cs.map Int.toNat).getD i 0 : Nat) : Int) := by
  rw [map_getD (a := 0) hi, Int.toNat_of_nonneg (h _ (getD_mem hi))]
attribute [local irreducible] gOK WS WC WR WD Ends FS YS OpV seqK blockK loopK midK retK rdK asgK rangeEnd sat Cell
section
variable {M : HL} {n0 : Nat} {H : Heap} {v s w : Value}
theorem Min_fs (hH : hasH M n0 H) {cs : List Int} (hS : Sl M 1 v (ints cs)) (hl : cs.length ≤ 100000) (h0 : 0 < cs.length) :
    FS C 78 [v] H (fun e H' => H' = H ∧ ∃ m, e = .int .i64 m ∧ m ∈ cs ∧ ∀ x ∈ cs, m ≤ x) := by
  refine FS.intro (pf := pf78) rfl rfl rfl ?_
  repeat' (first | refine zP ?_ | refine zA ?_ | (refine zM ?_; intro _ _) | refine zX ?_ | (refine zC ?_; intro _ _ _ _) | (refine zS ?_; intro _ _) | refine zO ?_ | (apply Ws <;> intro hg))
  refine WC.loopX [(0, _)] (fun a : Nat × Int => [(4, .int .i64 (a.1 : Int)), (3, .int .i64 a.2)]) [] (fun a H' => H' = H ∧ 1 ≤ a.1 ∧ a.1 ≤ cs.length ∧ a.2 ∈ cs ∧ ∀ j, j < a.1 → a.2 ≤ cs.getD j 0) (fun a => cs.length - a.1) (1, cs.getD 0 0) (by repeat' (first | exact .nil | refine .cons rfl ?_)) rfl
    ⟨rfl, Nat.le_refl _, h0, getD_mem h0, fun j hj => ?_⟩ ?_
  · obtain rfl : j = 0 := by simp only at hj; omega
    exact Int.le_refl _
  rintro ⟨k, m⟩ H2 ⟨rfl, hk1, hk, hm, hle⟩
  simp only at hk1 hk hm hle
  dsimp only [List.cons_append, List.nil_append]
  repeat' (first | refine zP ?_ | refine zA ?_ | (refine zM ?_; intro _ _) | refine zX ?_ | (refine zC ?_; intro _ _ _ _) | (refine zS ?_; intro _ _) | (apply Ws <;> intro hg))
  refine WC.condP rfl (fun hlt => ?_) (fun hlt => ?_)
  · have hk' : k < cs.length := by omega
    repeat' (first | refine zP ?_ | refine zA ?_ | (refine zM ?_; intro _ _) | refine zX ?_ | (refine zC ?_; intro _ _ _ _) | (refine zS ?_; intro _ _) | (apply Ws <;> intro hg))
    refine Ends.loop (k + 1, min m (cs.getD k 0)) (by simp only; omega) (by repeat' (first | exact .nil | refine .cons rfl ?_)) rfl ⟨rfl, by simp only; omega, hk', ?_, fun j hj => ?_⟩
    · rcases Int.le_total m (cs.getD k 0) with e | e
      · rw [Int.min_eq_left e]; exact hm
      · rw [Int.min_eq_right e]; exact getD_mem hk'
    · simp only at hj ⊢
      by_cases e : j = k
      · subst e; exact Int.min_le_right _ _
      · exact Int.le_trans (Int.min_le_left _ _) (hle j (by omega))
  · have hkl : k = cs.length := by omega
    subst hkl
    repeat' (first | refine zP ?_ | refine zA ?_ | (refine zM ?_; intro _ _) | refine zX ?_ | (refine zC ?_; intro _ _ _ _) | (refine zS ?_; intro _ _) | (apply Ws <;> intro hg))
    refine Ends.ret1 rfl ⟨rfl, m, rfl, hm, fun x hx => ?_⟩
    obtain ⟨j, hj, rfl⟩ := List.mem_iff_getElem.1 hx
    have := hle j hj
    rwa [getD_eq hj] at this
set_option maxHeartbeats 2000000 in
theorem Proper_fs (hH : hasH M n0 H) {P : List (List Int)} (hR : RowsI M v P) (hl : P.length ≤ 1000) (hr : ∀ i, i < P.length → (P.getD i []).length ≤ 1000) {cs : List Int} (hS : Sl M 1 s (ints cs)) (hcl : cs.length ≤ 1000) :
    FS C 34 [.agg [v].toArray, s] H (fun e H' => ∃ n' A, n0 ≤ n' ∧ hasH M n' H' ∧ (∀ Q, P = castP Q → OKM Q → PtOf Q (fun e => A.getD e 0) ∧ ∀ e, e < sizeL Q → A.getD e 0 < Q.length) ∧ ProV P cs A e) := by
  have hv : one v = true := hR.one_
  have hs1 := hS.one_
  refine FS.intro (pf := pf34) rfl rfl rfl ?_
  repeat' (first | refine zP ?_ | refine zA ?_ | (refine zM ?_; intro _ _) | refine zX ?_ | (refine zC ?_; intro _ _ _ _) | (refine zS ?_; intro _ _) | (apply Ws <;> intro hg))
  rename_i H1 hH1
  refine WR.call (by first | exact gN | exact gS rfl) rfl rfl (draw_fs hH1 hR.cons hl hr) ?_
  rintro _ H3 ⟨n3, hn3, hH3, ⟨h0, rfl⟩ | ⟨Q, A, F, B, rfl, hQ, hD, rfl⟩⟩
  · repeat' (first | refine zP ?_ | refine zA ?_ | (refine zM ?_; intro _ _) | refine zX ?_ | (refine zC ?_; intro _ _ _ _) | (refine zS ?_; intro _ _) | (apply Ws <;> intro hg))
    rename_i H4 hH4
    refine WR.storeAll (by first | exact gN | exact gS rfl) hH4 rfl rfl (ls := nodes (List.replicate 50 0)) (by simp [Value.cells]) rfl .here (nodes_one' _) rfl fun H5 hH5 => ?_
    repeat' (first | refine zP ?_ | refine zA ?_ | (refine zM ?_; intro _ _) | refine zX ?_ | (refine zC ?_; intro _ _ _ _) | (refine zS ?_; intro _ _) | refine zO ?_ | (apply Ws <;> intro hg))
    exact Ends.ret2 rfl rfl ⟨n3 + 1, [], by omega, hH5.tail.tail, (fun Q hP hQ => absurd (by rw [hP]; exact ok_err hQ) h0), .inl ⟨h0, rfl⟩⟩
  · have hle := hQ.le
    have hlen := hQ.len
    have hdl := dw_len (V := Q.length) (c := sizeL Q) hD.hA hD.hF hD.hB
    have hN0 : (dw Q.length (sizeL Q) A F B).getD 0 0 = Q.length := rfl
    have hAq : ∀ Q', castP Q = castP Q' → OKM Q' → PtOf Q' (fun e => A.getD e 0) ∧ ∀ e, e < sizeL Q' → A.getD e 0 < Q'.length := fun Q' hP hQ' => by
      obtain rfl := castP_inj hP
      exact ⟨hD.pt, fun e he => hD.pt_lt he⟩
    repeat' (first | refine zP ?_ | refine zA ?_ | (refine zM ?_; intro _ _) | refine zX ?_ | (refine zC ?_; intro _ _ _ _) | (refine zS ?_; intro _ _) | (apply Ws <;> intro hg))
    rename_i H4 hH4
    refine WR.storeAll (by first | exact gN | exact gS rfl) hH4 rfl rfl (ls := nodes (dw Q.length (sizeL Q) A F B)) (by simp [Value.cells]) (by simp [hdl]) .here (nodes_one' _) (by simp [hdl]) fun H5 hH5 => ?_
    repeat' (first | refine zP ?_ | refine zA ?_ | (refine zM ?_; intro _ _) | refine zX ?_ | (refine zC ?_; intro _ _ _ _) | (refine zS ?_; intro _ _) | refine zO ?_ | (apply Ws <;> intro hg))
    refine WC.condP rfl (fun hsh => ?_) (fun hsh => ?_)
    · repeat' (first | refine zP ?_ | refine zA ?_ | (refine zM ?_; intro _ _) | refine zX ?_ | (refine zC ?_; intro _ _ _ _) | (refine zS ?_; intro _ _) | refine zO ?_ | (apply Ws <;> intro hg))
      exact Ends.ret2 rfl rfl ⟨n3 + 1, A, by omega, hH5.tail.tail, hAq, .inr ⟨Q, rfl, hQ, .inl ⟨by omega, rfl⟩⟩⟩
    · have hcV : cs.length = Q.length := by omega
      have hbool : (∀ x ∈ cs, 0 ≤ x) → ∀ j, j < sizeL Q / 2 → (cs.getD (A.getD (2 * j) 0) 0 ≠ cs.getD (A.getD (2 * j + 1) 0) 0 ↔ (cs.map Int.toNat).getD (A.getD (2 * j) 0) 0 ≠ (cs.map Int.toNat).getD (A.getD (2 * j + 1) 0) 0) := fun hx j hj => by
        have p1 := hD.pt_lt (e := 2 * j) (by omega)
        have p2 := hD.pt_lt (e := 2 * j + 1) (by omega)
        rw [get_nat hx (by omega), get_nat hx (by omega)]
        omega
      have hpro : (∀ x ∈ cs, 0 ≤ x) → (properB A (sizeL Q / 2) (cs.map Int.toNat) = true ↔ ∀ k, k < sizeL Q / 2 → cs.getD (A.getD (2 * k) 0) 0 ≠ cs.getD (A.getD (2 * k + 1) 0) 0) := fun hx => by
        rw [properB_iff]
        constructor
        · intro h j hj
          have p1 := hD.pt_lt (e := 2 * j) (by omega)
          have p2 := hD.pt_lt (e := 2 * j + 1) (by omega)
          exact (hbool hx j hj).2 (h j hj (by rw [List.length_map]; omega) (by rw [List.length_map]; omega))
        · exact fun h j hj _ _ => (hbool hx j hj).1 (h j hj)
      by_cases hc0 : cs.length = 0
      · have hx : ∀ x ∈ cs, 0 ≤ x := fun x hx => by rw [List.eq_nil_of_length_eq_zero hc0] at hx; cases hx
        have hSn := hS
        rw [ints_nat hx] at hSn
        repeat' (first | refine zP ?_ | refine zA ?_ | (refine zM ?_; intro _ _) | refine zX ?_ | (refine zC ?_; intro _ _ _ _) | (refine zS ?_; intro _ _) | refine zO ?_ | (apply Ws <;> intro hg))
        refine WR.op (by first | exact gN | exact gS rfl) rfl (OpV.loadAll rfl hH5 (.head _) (.row _ _ _ _) (by simp [hdl])) ?_
        repeat' (first | refine zP ?_ | refine zA ?_ | (refine zM ?_; intro _ _) | refine zX ?_ | (refine zC ?_; intro _ _ _ _) | (refine zS ?_; intro _ _) | refine zO ?_ | (apply Ws <;> intro hg))
        refine WR.call (by first | exact gN | exact gS rfl) rfl rfl (properF_fs hH5 hD.hA hD.hF hD.hB hle (l := cs.map Int.toNat) hSn.cons.cons (by simp; omega) fun j hj => by have := hD.pt_lt hj; omega) ?_
        rintro _ H6 ⟨n6, hn6, hH6, rfl⟩
        repeat' (first | refine zP ?_ | refine zA ?_ | (refine zM ?_; intro _ _) | refine zX ?_ | (refine zC ?_; intro _ _ _ _) | (refine zS ?_; intro _ _) | refine zO ?_ | (apply Ws <;> intro hg))
        exact Ends.ret2 rfl rfl ⟨n6, A, by omega, hH6.tail.tail, hAq, .inr ⟨Q, rfl, hQ, .inr ⟨hcV, .inr ⟨hx, _, hpro hx, rfl⟩⟩⟩⟩
      · repeat' (first | refine zP ?_ | refine zA ?_ | (refine zM ?_; intro _ _) | refine zX ?_ | (refine zC ?_; intro _ _ _ _) | (refine zS ?_; intro _ _) | refine zO ?_ | (apply Ws <;> intro hg))
        refine WR.call (by first | exact gN | exact gS rfl) rfl rfl (Min_fs hH5 hS.cons.cons (by omega) (by omega)) ?_
        rintro _ H6 ⟨hx6, m, rfl, hm, hmin⟩
        subst hx6
        by_cases hneg : m < 0
        · repeat' (first | refine zP ?_ | refine zA ?_ | (refine zM ?_; intro _ _) | refine zX ?_ | (refine zC ?_; intro _ _ _ _) | (refine zS ?_; intro _ _) | refine zO ?_ | (apply Ws <;> intro hg))
          exact Ends.ret2 rfl rfl ⟨n3 + 1, A, by omega, hH5.tail.tail, hAq, .inr ⟨Q, rfl, hQ, .inr ⟨hcV, .inl ⟨⟨m, hm, hneg⟩, rfl⟩⟩⟩⟩
        · have hx : ∀ x ∈ cs, 0 ≤ x := fun x hx => by have := hmin x hx; omega
          have hSn := hS
          rw [ints_nat hx] at hSn
          repeat' (first | refine zP ?_ | refine zA ?_ | (refine zM ?_; intro _ _) | refine zX ?_ | (refine zC ?_; intro _ _ _ _) | (refine zS ?_; intro _ _) | refine zO ?_ | (apply Ws <;> intro hg))
          refine WR.op (by first | exact gN | exact gS rfl) rfl (OpV.loadAll rfl hH5 (.head _) (.row _ _ _ _) (by simp [hdl])) ?_
          repeat' (first | refine zP ?_ | refine zA ?_ | (refine zM ?_; intro _ _) | refine zX ?_ | (refine zC ?_; intro _ _ _ _) | (refine zS ?_; intro _ _) | refine zO ?_ | (apply Ws <;> intro hg))
          refine WR.call (by first | exact gN | exact gS rfl) rfl rfl (properF_fs hH5 hD.hA hD.hF hD.hB hle (l := cs.map Int.toNat) hSn.cons.cons (by simp; omega) fun j hj => by have := hD.pt_lt hj; omega) ?_
          rintro _ H7 ⟨n7, hn7, hH7, rfl⟩
          repeat' (first | refine zP ?_ | refine zA ?_ | (refine zM ?_; intro _ _) | refine zX ?_ | (refine zC ?_; intro _ _ _ _) | (refine zS ?_; intro _ _) | refine zO ?_ | (apply Ws <;> intro hg))
          exact Ends.ret2 rfl rfl ⟨n7, A, by omega, hH7.tail.tail, hAq, .inr ⟨Q, rfl, hQ, .inr ⟨hcV, .inr ⟨hx, _, hpro hx, rfl⟩⟩⟩⟩
end
end Go.Proofs.YtmgmkglmjmaipaaDoor.Ct

/- The reference's Proper. -/
namespace Go.Proofs.YtmgmkglmjmaipaaDoor.Ct
open Go Go.Abs Go.Mth
set_option linter.unusedVariables false
set_option linter.unusedSimpArgs false
attribute [local irreducible] gOK WS WC WR WD Ends FS YS OpV seqK blockK loopK midK retK rdK asgK rangeEnd sat Cell
section
variable {M : HL} {n0 : Nat} {H : Heap} {v s w : Value}
set_option maxHeartbeats 4000000 in
theorem rProper_fs (hH : hasH M n0 H) {P : List (List Int)} (hR : RowsI M v P) (hl : P.length ≤ 1000) (hr : ∀ i, i < P.length → (P.getD i []).length ≤ 1000) {cs : List Int} (hS : Sl M 1 s (ints cs)) (hcl : cs.length ≤ 1000) {A : List Nat} (hpt : ∀ Q, P = castP Q → OKM Q → PtOf Q (fun e => A.getD e 0) ∧ ∀ e, e < sizeL Q → A.getD e 0 < Q.length) :
    FS C 35 [.agg [v].toArray, s] H (fun e H' => ∃ n', n0 ≤ n' ∧ hasH M n' H' ∧ ProV P cs A e) := by
  have hv : one v = true := hR.one_
  have hs1 := hS.one_
  have hrg := err_range P
  have hR0 := hR
  obtain ⟨ws, hSw, hwl, hrow⟩ := hR
  refine FS.intro (pf := pf35) rfl rfl rfl ?_
  repeat' (first | refine zP ?_ | refine zA ?_ | (refine zM ?_; intro _ _) | refine zX ?_ | (refine zC ?_; intro _ _ _ _) | (refine zS ?_; intro _ _) | (apply Ws <;> intro hg))
  rename_i H1 hH1
  refine WR.call (by first | exact gN | exact gS rfl) rfl rfl (rCheck_fs hH1 hR0.cons hl hr) ?_
  rintro _ H2 ⟨n2, hn2, hH2, rfl⟩
  clear hH hH1
  obtain ⟨e0, he0⟩ : ∃ e0 : Int, e0 = if errM P = 0 ∧ cs.length ≠ P.length then 5 else errM P := ⟨_, rfl⟩
  have hcs : (errM P = 0 ∧ cs.length = P.length ∧ e0 = 0) ∨ (errM P = 0 ∧ cs.length ≠ P.length ∧ e0 = 5) ∨ (errM P ≠ 0 ∧ e0 = errM P) := by
    by_cases h0 : errM P = 0
    · by_cases hsh : cs.length = P.length
      · exact .inl ⟨h0, hsh, by rw [he0, if_neg (fun h => h.2 hsh), h0]⟩
      · exact .inr (.inl ⟨h0, hsh, by rw [he0, if_pos ⟨h0, hsh⟩]⟩)
    · exact .inr (.inr ⟨h0, by rw [he0, if_neg (fun h => h0 h.1)]⟩)
  have hcs2 := hcs
  clear he0
  rcases hcs with ⟨h0, hsh, hee⟩ | ⟨h0, hsh, hee⟩ | ⟨h0, hee⟩
  case' inl =>
    rw [h0]
    repeat' (first | refine zP ?_ | refine zA ?_ | (refine zM ?_; intro _ _) | refine zX ?_ | (refine zC ?_; intro _ _ _ _) | (refine zS ?_; intro _ _) | refine zO ?_ | (apply Ws <;> intro hg))
  case' inr.inl =>
    rw [h0]
    repeat' (first | refine zP ?_ | refine zA ?_ | (refine zM ?_; intro _ _) | refine zX ?_ | (refine zC ?_; intro _ _ _ _) | (refine zS ?_; intro _ _) | refine zO ?_ | (apply Ws <;> intro hg))
  case' inr.inr => repeat' (first | refine zP ?_ | refine zA ?_ | (refine zM ?_; intro _ _) | refine zX ?_ | (refine zC ?_; intro _ _ _ _) | (refine zS ?_; intro _ _) | refine zO ?_ | (apply Ws <;> intro hg))
  all_goals
    clear h0
    try clear hsh
    refine WC.loopX [(1, s), (2, .pointer (some ⟨n0, 0, some 0⟩))] (fun a : Nat × Int => [(7, .int .i64 (a.1 : Int)), (6, .int .i64 a.2)]) []
      (fun a H' => H' = H2 ∧ a.1 ≤ cs.length ∧ ((a.1 = 0 ∧ a.2 = e0) ∨ (e0 = 0 ∧ a.2 = 0 ∧ ∀ j, j < a.1 → 0 ≤ cs.getD j 0) ∨ (e0 = 0 ∧ a.2 = 1 ∧ ∃ x ∈ cs, x < 0))) (fun a => cs.length - a.1) (0, e0) (by rw [hee]; exact (by repeat' (first | exact .nil | refine .cons rfl ?_))) rfl ⟨rfl, Nat.zero_le _, .inl ⟨rfl, rfl⟩⟩ ?_
    clear hee
    rintro ⟨k, er⟩ H3 ⟨hx3, hk, hI⟩
    subst hx3
    simp only at hk hI
    dsimp only [List.cons_append, List.nil_append]
    by_cases hlt : k < cs.length ∧ er = 0
    · obtain ⟨hk', rfl⟩ := hlt
      have hall : e0 = 0 ∧ ∀ j, j < k → 0 ≤ cs.getD j 0 := by
        rcases hI with ⟨h1, h2⟩ | ⟨h1, _, h2⟩ | ⟨_, h2, _⟩
        · exact ⟨h2.symm, fun j hj => by omega⟩
        · exact ⟨h1, h2⟩
        · omega
      clear hI
      repeat' (first | refine zP ?_ | refine zA ?_ | (refine zM ?_; intro _ _) | refine zX ?_ | (refine zC ?_; intro _ _ _ _) | (refine zS ?_; intro _ _) | refine zO ?_ | (apply Ws <;> intro hg))
      refine WC.condP rfl (fun hneg => ?_) (fun hneg => ?_)
      · repeat' (first | refine zP ?_ | refine zA ?_ | (refine zM ?_; intro _ _) | refine zX ?_ | (refine zC ?_; intro _ _ _ _) | (refine zS ?_; intro _ _) | (apply Ws <;> intro hg))
        exact Ends.loop (k + 1, 1) (by simp only; omega) (by repeat' (first | exact .nil | refine .cons rfl ?_)) rfl ⟨rfl, hk', .inr (.inr ⟨hall.1, rfl, _, getD_mem hk', hneg⟩)⟩
      · repeat' (first | refine zP ?_ | refine zA ?_ | (refine zM ?_; intro _ _) | refine zX ?_ | (refine zC ?_; intro _ _ _ _) | (refine zS ?_; intro _ _) | (apply Ws <;> intro hg))
        refine Ends.loop (k + 1, 0) (by simp only; omega) (by repeat' (first | exact .nil | refine .cons rfl ?_)) rfl ⟨rfl, hk', .inr (.inl ⟨hall.1, rfl, fun j hj => ?_⟩)⟩
        by_cases e : j = k
        · subst e; omega
        · exact hall.2 j (by simp only at hj; omega)
    · have hfin : (e0 ≠ 0 ∧ er = e0) ∨ (e0 = 0 ∧ er = 0 ∧ ∀ x ∈ cs, 0 ≤ x) ∨ (e0 = 0 ∧ er = 1 ∧ ∃ x ∈ cs, x < 0) := by
        rcases hI with ⟨h1, h2⟩ | ⟨h1, h3, h2⟩ | h
        · by_cases e : e0 = 0
          · refine .inr (.inl ⟨e, by omega, fun x hx => ?_⟩)
            have := List.length_pos_iff.2 (List.ne_nil_of_mem hx)
            exact absurd ⟨by omega, by omega⟩ hlt
          · exact .inl ⟨e, h2⟩
        · refine .inr (.inl ⟨h1, h3, fun x hx => ?_⟩)
          obtain ⟨j, hj, rfl⟩ := List.mem_iff_getElem.1 hx
          have := h2 j (by have : ¬ k < cs.length := fun h => hlt ⟨h, h3⟩; omega)
          rwa [getD_eq hj] at this
        · exact .inr (.inr h)
      by_cases her : er = 0
      · have hk2 : ¬ k < cs.length := fun h => hlt ⟨h, her⟩
        obtain ⟨h0, hsh, hx⟩ : errM P = 0 ∧ cs.length = P.length ∧ ∀ x ∈ cs, 0 ≤ x := by
          rcases hfin with ⟨h1, h2⟩ | ⟨h1, _, h2⟩ | ⟨_, h2, _⟩
          · omega
          · rcases hcs2 with ⟨g1, g2, _⟩ | ⟨_, _, g⟩ | ⟨g1, g2⟩
            · exact ⟨g1, g2, h2⟩
            · omega
            · omega
          · omega
        clear hlt hI hfin hcs2
        subst her
        obtain ⟨Q, rfl, hQ⟩ := err_nat h0
        obtain ⟨hp, hltA⟩ := hpt Q rfl hQ
        have hle := hQ.le
        have hlen := hQ.len
        have hev := hQ.even
        have hsz := castP_size Q
        rw [castP_len] at hsh
        have hvs : same1 v v = true := hSw.same
        have hvs2 : sameL [v] [v] = true := by simp only [sameL, hvs, Bool.and_self]
        have hrd : ∀ {H : Heap} {n : Nat}, hasH ((n0, Ch.row 27 0 0 [v]) :: M) n H → H.readN ⟨n0, 0, some 0⟩ 1 = some [v] := fun h => readAll h (.head _) rfl
        repeat' (first | refine zP ?_ | refine zA ?_ | (refine zM ?_; intro _ _) | refine zX ?_ | (refine zC ?_; intro _ _ _ _) | (refine zS ?_; intro _ _) | refine zO ?_ | (apply Ws <;> intro hg))
        refine WC.loopX [(1, s), (2, .pointer (some ⟨n0, 0, some 0⟩))] (fun a : Nat × Nat => [(8, .int .i64 (a.1 : Int))]) []
          (fun a H' => a.1 ≤ sizeL Q / 2 ∧ n2 ≤ a.2 ∧ (∀ j, j < a.1 → cs.getD (A.getD (2 * j) 0) 0 ≠ cs.getD (A.getD (2 * j + 1) 0) 0) ∧ hasH ((n0, .row 27 0 0 [v]) :: M) a.2 H') (fun a => sizeL Q / 2 - a.1) (0, n2) (by repeat' (first | exact .nil | refine .cons rfl ?_)) rfl
          ⟨Nat.zero_le _, Nat.le_refl _, fun j h => absurd h (Nat.not_lt_zero _), hH2⟩ ?_
        clear hH2 hk hk2
        rintro ⟨j, n4⟩ H4 ⟨hj, hn4, hno, hH4⟩
        simp only at hj hn4 hno hH4
        dsimp only [List.cons_append, List.nil_append]
        repeat' (first | refine zP ?_ | refine zA ?_ | (refine zM ?_; intro _ _) | refine zX ?_ | (refine zC ?_; intro _ _ _ _) | (refine zS ?_; intro _ _) | (apply Ws <;> intro hg))
        refine WR.call (by first | exact gN | exact gS rfl) rfl rfl (rends_fs hH4 hR0.cons hl hr) ?_
        rintro _ H5 ⟨n5, hn5, hH5, rfl⟩
        clear hH4
        rw [castP_size]
        repeat' (first | refine zP ?_ | refine zA ?_ | (refine zM ?_; intro _ _) | refine zX ?_ | (refine zC ?_; intro _ _ _ _) | (refine zS ?_; intro _ _) | (apply Ws <;> intro hg))
        rw [show (sizeL Q : Int) / 2 = ((sizeL Q / 2 : Nat) : Int) by omega]
        refine WC.condP rfl (fun hlt => ?_) (fun hlt => ?_)
        · have hj' : j < sizeL Q / 2 := by omega
          have q1 := hltA (2 * j) (by omega)
          have q2 := hltA (2 * j + 1) (by omega)
          repeat' (first | refine zP ?_ | refine zA ?_ | (refine zM ?_; intro _ _) | refine zX ?_ | (refine zC ?_; intro _ _ _ _) | (refine zS ?_; intro _ _) | (apply Ws <;> intro hg))
          refine WC.regionD ?_
          repeat' (first | refine zD ?_ | (refine zE ?_; intro _ _ _ _))
          rw [show (2 : Int) * (j : Int) = ((2 * j : Nat) : Int) by omega, show ((2 * j : Nat) : Int) + 1 = ((2 * j + 1 : Nat) : Int) by omega]
          refine WD.call (by first | exact gN | exact gS rfl) rfl rfl (rat_fs hH5 hQ hR0.cons hp (by omega)) ?_
          rintro _ H6 ⟨n6, hn6, hH6, rfl⟩
          refine ⟨stands_cons (.inr (holdsN' (hrd hH6) hvs2)) (stands_cons (.inl rfl) stands_nil'), ?_⟩
          clear hH5
          repeat' (first | refine zD ?_ | (refine zE ?_; intro _ _ _ _))
          rename_i hcell
          refine WD.call (by first | exact gN | exact gS rfl) rfl rfl (rat_fs hH6 hQ hR0.cons hp (by omega)) ?_
          rintro _ H7 ⟨n7, hn7, hH7, rfl⟩
          refine ⟨stands_cons (.inr (holds_at (hcell.read hH7) (same_int _ _))) (stands_cons (.inl rfl) (stands_cons (.inl rfl) stands_nil')), ?_⟩
          clear hH6
          refine WD.toWR rfl ?_
          repeat' (first | refine zP ?_ | refine zA ?_ | (refine zM ?_; intro _ _) | refine zX ?_ | (refine zC ?_; intro _ _ _ _) | (refine zS ?_; intro _ _) | (apply Ws <;> intro hg))
          refine WC.condP rfl (fun heq => ?_) (fun heq => ?_)
          · repeat' (first | refine zP ?_ | refine zA ?_ | (refine zM ?_; intro _ _) | refine zX ?_ | (refine zC ?_; intro _ _ _ _) | (refine zS ?_; intro _ _) | (apply Ws <;> intro hg))
            refine Ends.ret2 rfl rfl ⟨n7, by omega, hH7.tail, .inr ⟨Q, rfl, hQ, .inr ⟨hsh, .inr ⟨hx, false, ⟨fun h => (by cases h), fun h => absurd heq (h j hj')⟩, rfl⟩⟩⟩⟩
          · repeat' (first | refine zP ?_ | refine zA ?_ | (refine zM ?_; intro _ _) | refine zX ?_ | (refine zC ?_; intro _ _ _ _) | (refine zS ?_; intro _ _) | (apply Ws <;> intro hg))
            refine Ends.loop (j + 1, n7) (by simp only; omega) (by repeat' (first | exact .nil | refine .cons rfl ?_)) rfl ⟨by simp only; omega, by simp only; omega, fun i hi => ?_, hH7⟩
            by_cases e : i = j
            · subst e; exact heq
            · exact hno i (by simp only at hi; omega)
        · have hjl : j = sizeL Q / 2 := by omega
          subst hjl
          repeat' (first | refine zP ?_ | refine zA ?_ | (refine zM ?_; intro _ _) | refine zX ?_ | (refine zC ?_; intro _ _ _ _) | (refine zS ?_; intro _ _) | (apply Ws <;> intro hg))
          exact Ends.ret2 rfl rfl ⟨n5, by omega, hH5.tail, .inr ⟨Q, rfl, hQ, .inr ⟨hsh, .inr ⟨hx, true, ⟨fun _ => hno, fun _ => rfl⟩, rfl⟩⟩⟩⟩
      · have fin : ProV P cs A (.tuple #[.bool false, .int .i64 er]) := by
          rcases hfin with ⟨h1, rfl⟩ | ⟨_, h, _⟩ | ⟨h1, rfl, h2⟩
          · rcases hcs2 with ⟨_, _, g⟩ | ⟨g1, g2, g3⟩ | ⟨g1, rfl⟩
            · omega
            · subst g3
              obtain ⟨Q, rfl, hQ⟩ := err_nat g1
              rw [castP_len] at g2
              exact .inr ⟨Q, rfl, hQ, .inl ⟨g2, rfl⟩⟩
            · exact .inl ⟨g1, rfl⟩
          · exact absurd h her
          · rcases hcs2 with ⟨g1, g2, _⟩ | ⟨_, _, g⟩ | ⟨g1, g2⟩
            · obtain ⟨Q, rfl, hQ⟩ := err_nat g1
              rw [castP_len] at g2
              exact .inr ⟨Q, rfl, hQ, .inr ⟨g2, .inl ⟨h2, rfl⟩⟩⟩
            · omega
            · omega
        by_cases hk2 : k < cs.length
        case' pos => repeat' (first | refine zP ?_ | refine zA ?_ | (refine zM ?_; intro _ _) | refine zX ?_ | (refine zC ?_; intro _ _ _ _) | (refine zS ?_; intro _ _) | refine zO ?_ | (apply Ws <;> intro hg))
        case' neg => repeat' (first | refine zP ?_ | refine zA ?_ | (refine zM ?_; intro _ _) | refine zX ?_ | (refine zC ?_; intro _ _ _ _) | (refine zS ?_; intro _ _) | refine zO ?_ | (apply Ws <;> intro hg))
        all_goals exact Ends.ret2 rfl rfl ⟨n2, by omega, hH2.tail, fin⟩
end
end Go.Proofs.YtmgmkglmjmaipaaDoor.Ct

/- ChartRings. -/
namespace Go.Proofs.YtmgmkglmjmaipaaDoor.Ct
open Go Go.Abs Go.Mth
set_option linter.unusedVariables false
set_option linter.unusedSimpArgs false
attribute [local irreducible] gOK WS WC WR WD Ends FS YS OpV seqK blockK loopK midK retK rdK asgK rangeEnd sat Cell
section
variable {M : HL} {n0 : Nat} {H : Heap} {v w : Value}
set_option maxHeartbeats 1000000 in
theorem large_fs (hH : hasH M n0 H) {P : List (List Int)} (hR : RowsI M v P) :
    FS C 15 [.agg [v].toArray] H (fun e H' => ∃ n' bb, n0 ≤ n' ∧ hasH M n' H' ∧ (bb = false → P.length ≤ 40 ∧ ∀ i, i < P.length → (P.getD i []).length ≤ 40) ∧ e = .bool bb) := by
  obtain ⟨ws, hS, hwl, hrow⟩ := hR
  have hv := hS.one_
  refine FS.intro (pf := pf15) rfl rfl rfl ?_
  repeat' (first | refine zP ?_ | refine zA ?_ | (refine zM ?_; intro _ _) | refine zX ?_ | (refine zC ?_; intro _ _ _ _) | (refine zS ?_; intro _ _) | (apply Ws <;> intro hg))
  rename_i H1 hH1
  refine WC.condP rfl (fun hbig => ?_) (fun hbig => ?_)
  · repeat' (first | refine zP ?_ | refine zA ?_ | (refine zM ?_; intro _ _) | refine zX ?_ | (refine zC ?_; intro _ _ _ _) | (refine zS ?_; intro _ _) | (apply Ws <;> intro hg))
    exact Ends.ret1 rfl ⟨n0 + 1, true, by omega, hH1.tail, (fun h => by cases h), rfl⟩
  · have hP : P.length ≤ 40 := by omega
    repeat' (first | refine zP ?_ | refine zA ?_ | (refine zM ?_; intro _ _) | refine zX ?_ | (refine zC ?_; intro _ _ _ _) | (refine zS ?_; intro _ _) | (apply Ws <;> intro hg))
    refine WC.loopX [(1, .pointer (some ⟨n0, 0, some 0⟩))] (fun k : Nat => [(3, .int .i64 (k : Int))]) [] (fun k H' => H' = H1 ∧ k ≤ P.length ∧ ∀ i, i < k → (P.getD i []).length ≤ 40) (fun k => P.length - k) 0 (by repeat' (first | exact .nil | refine .cons rfl ?_)) rfl ⟨rfl, Nat.zero_le _, fun j h => absurd h (Nat.not_lt_zero _)⟩ ?_
    rintro k H2 ⟨rfl, hk, hno⟩
    dsimp only [List.cons_append, List.nil_append]
    repeat' (first | refine zP ?_ | refine zA ?_ | (refine zM ?_; intro _ _) | refine zX ?_ | (refine zC ?_; intro _ _ _ _) | (refine zS ?_; intro _ _) | (apply Ws <;> intro hg))
    refine WC.condP rfl (fun hlt => ?_) (fun hlt => ?_)
    · have hk' : k < P.length := by omega
      have hSi := hrow k hk'
      repeat' (first | refine zP ?_ | refine zA ?_ | (refine zM ?_; intro _ _) | refine zX ?_ | (refine zC ?_; intro _ _ _ _) | (refine zS ?_; intro _ _) | (apply Ws <;> intro hg))
      refine WC.condP rfl (fun hb2 => ?_) (fun hb2 => ?_)
      · repeat' (first | refine zP ?_ | refine zA ?_ | (refine zM ?_; intro _ _) | refine zX ?_ | (refine zC ?_; intro _ _ _ _) | (refine zS ?_; intro _ _) | (apply Ws <;> intro hg))
        exact Ends.ret1 rfl ⟨n0 + 1, true, by omega, hH1.tail, (fun h => by cases h), rfl⟩
      · repeat' (first | refine zP ?_ | refine zA ?_ | (refine zM ?_; intro _ _) | refine zX ?_ | (refine zC ?_; intro _ _ _ _) | (refine zS ?_; intro _ _) | (apply Ws <;> intro hg))
        refine Ends.loop (k + 1) (by omega) (by repeat' (first | exact .nil | refine .cons rfl ?_)) rfl ⟨rfl, hk', fun j hj => ?_⟩
        by_cases e : j = k
        · subst e; omega
        · exact hno j (by omega)
    · have hkp : k = P.length := by omega
      subst hkp
      repeat' (first | refine zP ?_ | refine zA ?_ | (refine zM ?_; intro _ _) | refine zX ?_ | (refine zC ?_; intro _ _ _ _) | (refine zS ?_; intro _ _) | (apply Ws <;> intro hg))
      exact Ends.ret1 rfl ⟨n0 + 1, false, by omega, hH1.tail, fun _ => ⟨hP, hno⟩, rfl⟩
end
end Go.Proofs.YtmgmkglmjmaipaaDoor.Ct

/- ChartColours. -/
namespace Go.Proofs.YtmgmkglmjmaipaaDoor.Ct
open Go Go.Abs Go.Mth
set_option linter.unusedVariables false
set_option linter.unusedSimpArgs false
theorem ProV.unique {P : List (List Int)} {cs : List Int} {A : List Nat} {e e' : Value} (h : ProV P cs A e) (k : ProV P cs A e') : e = e' := by
  rcases h with ⟨h0, rfl⟩ | ⟨Q, rfl, hQ, h⟩
  · rcases k with ⟨_, rfl⟩ | ⟨Q, hP, hQ, _⟩
    · rfl
    · exact absurd (by rw [hP]; exact ok_err hQ) h0
  · rcases k with ⟨h0, _⟩ | ⟨Q', hP, _, k⟩
    · exact absurd (ok_err hQ) h0
    · obtain rfl := castP_inj hP
      rcases h with ⟨h1, rfl⟩ | ⟨h1, h⟩
      · rcases k with ⟨_, rfl⟩ | ⟨k1, _⟩
        · rfl
        · exact absurd k1 h1
      · rcases k with ⟨k1, _⟩ | ⟨_, k⟩
        · exact absurd h1 k1
        · rcases h with ⟨⟨x, hx, hn⟩, rfl⟩ | ⟨h2, b, hb, rfl⟩
          · rcases k with ⟨_, rfl⟩ | ⟨k2, _⟩
            · rfl
            · have := k2 x hx; omega
          · rcases k with ⟨⟨x, hx, hn⟩, _⟩ | ⟨_, c, hc, rfl⟩
            · have := h2 x hx; omega
            · have : b = c := Bool.eq_iff_iff.2 (hb.trans hc.symm)
              rw [this]
theorem ProV.form {P : List (List Int)} {cs : List Int} {A : List Nat} {e : Value} (h : ProV P cs A e) : ∃ b x, e = .tuple #[.bool b, .int .i64 x] := by
  rcases h with ⟨_, rfl⟩ | ⟨Q, _, _, ⟨_, rfl⟩ | ⟨_, ⟨_, rfl⟩ | ⟨_, b, _, rfl⟩⟩⟩ <;> exact ⟨_, _, rfl⟩
theorem cols_congr {pt pt' : Nat → Nat} {L V f : Nat} {l : List Nat} (h : ∀ e, e < 2 * L → pt e = pt' e) (k : colsOK pt L V f l) : colsOK pt' L V f l :=
  ⟨k.1, k.2.1, fun j hj => by rw [← h _ (by omega), ← h _ (by omega)]; exact k.2.2 j hj⟩
theorem few_congr {pt pt' : Nat → Nat} {L V f : Nat} {l : List Nat} (h : ∀ e, e < 2 * L → pt e = pt' e) (k : FewR pt L V f l) : FewR pt' L V f l :=
  ⟨cols_congr h k.1, fun l' hl' => k.2.1 l' (cols_congr (fun e he => (h e he).symm) hl'), fun f' hf' l' hl' => k.2.2 f' hf' l' (cols_congr (fun e he => (h e he).symm) hl')⟩
theorem loopy_congr2 {pt pt' : Nat → Nat} {L : Nat} (h : ∀ e, e < 2 * L → pt e = pt' e) (k : loopy pt L) : loopy pt' L := by
  obtain ⟨j, h1, h2⟩ := k
  exact ⟨j, h1, by rw [← h _ (by omega), ← h _ (by omega)]; exact h2⟩
theorem FewV.toX {P : List (List Int)} {M : HL} {n0 : Nat} {A : List Nat} {res : Nat → List Nat → Value → Prop} {z e : Value} (h : FewV P M n0 res z e) (hA : ∀ Q, P = castP Q → OKM Q → PtOf Q (fun e => A.getD e 0) ∧ ∀ e, e < sizeL Q → A.getD e 0 < Q.length) : FewX P A res z e := by
  rcases h with h | ⟨Q, pt, hP, hQ, hpt, h⟩
  · exact .inl h
  · obtain ⟨h1, h2⟩ := hA Q hP hQ
    have hev := hQ.even
    have hc : ∀ e, e < 2 * (sizeL Q / 2) → pt e = A.getD e 0 := fun e he => hpt.uniq hQ h1 (by omega)
    refine .inr ⟨Q, hP, hQ, ?_⟩
    rcases h with ⟨h3, h4⟩ | ⟨h3, f, l, u, h4, h5, h6⟩
    · exact .inl ⟨loopy_congr2 hc h3, h4⟩
    · exact .inr ⟨fun k => h3 (loopy_congr2 (fun e he => (hc e he).symm) k), f, l, u, h4, few_congr hc h5, h6⟩
theorem FewX.both {P : List (List Int)} {A : List Nat} {r1 r2 : Nat → List Nat → Value → Prop} {z e e' : Value} (h : FewX P A r1 z e) (k : FewX P A r2 z e') :
    (∃ x, e = .tuple #[z, .int .i64 x] ∧ e' = .tuple #[z, .int .i64 x]) ∨ ∃ f l u u', l.length = P.length ∧ r1 f l u ∧ r2 f l u' ∧ e = .tuple #[u, .int .i64 0] ∧ e' = .tuple #[u', .int .i64 0] := by
  rcases h with ⟨h0, rfl⟩ | ⟨Q, rfl, hQ, h⟩
  · rcases k with ⟨_, rfl⟩ | ⟨Q, hP, hQ, _⟩
    · exact .inl ⟨_, rfl, rfl⟩
    · exact absurd (by rw [hP]; exact ok_err hQ) h0
  · rcases k with ⟨h0, _⟩ | ⟨Q', hP, _, k⟩
    · exact absurd (ok_err hQ) h0
    · obtain rfl := castP_inj hP
      rcases h with ⟨h1, rfl⟩ | ⟨h1, f, l, u, h2, h3, h4, rfl⟩
      · rcases k with ⟨_, rfl⟩ | ⟨k1, _⟩
        · exact .inl ⟨_, rfl, rfl⟩
        · exact absurd h1 k1
      · rcases k with ⟨k1, _⟩ | ⟨_, f', l', u', k2, k3, k4, rfl⟩
        · exact absurd k1 h1
        · obtain ⟨rfl, rfl⟩ := h3.unique k3
          exact .inr ⟨f, l, u, u', by rw [castP_len]; exact h3.1.1, h4, k4, rfl, rfl⟩
attribute [local irreducible] gOK WS WC WR WD Ends FS YS OpV seqK blockK loopK midK retK rdK asgK rangeEnd sat Cell
section
variable {M : HL} {n0 : Nat} {H : Heap} {v s w : Value}
set_option maxHeartbeats 4000000 in
theorem ChartColours_fs (hH : hasH M n0 H) {P : List (List Int)} {cs : List Int} (hR : RowsI M v P) (hS : Sl M 1 s (ints cs)) :
    FS C 5 [.agg [v].toArray, s] H (fun e H' => e = .bool true) := by
  have hv := hR.one_
  have hs1 := hS.one_
  refine FS.intro (pf := pf5) rfl rfl rfl ?_
  repeat' (first | refine zP ?_ | refine zA ?_ | (refine zM ?_; intro _ _) | refine zX ?_ | (refine zC ?_; intro _ _ _ _) | (refine zS ?_; intro _ _) | (apply Ws <;> intro hg))
  rename_i H1 hH1
  refine WR.call (by first | exact gN | exact gS rfl) rfl rfl (large_fs hH1 hR.cons) ?_
  rintro _ H2 ⟨n2, bb, hn2, hH2, hbb, rfl⟩
  clear hH hH1
  cases bb with
  | true =>
    repeat' (first | refine zP ?_ | refine zA ?_ | (refine zM ?_; intro _ _) | refine zX ?_ | (refine zC ?_; intro _ _ _ _) | (refine zS ?_; intro _ _) | (apply Ws <;> intro hg))
    refine WR.call (by first | exact gN | exact gS rfl) rfl rfl (FS.works ⟨rfl, rfl⟩ : FS C _ [] _ (fun e H' => e = .bool true ∧ H' = H2)) ?_
    rintro _ _ ⟨rfl, rfl⟩
    repeat' (first | refine zP ?_ | refine zA ?_ | (refine zM ?_; intro _ _) | refine zX ?_ | (refine zC ?_; intro _ _ _ _) | (refine zS ?_; intro _ _) | (apply Ws <;> intro hg))
    exact Ends.ret1 rfl rfl
  | false =>
    obtain ⟨hl, hr⟩ := hbb rfl
    have hl2 : P.length ≤ 1000 := by omega
    have hr2 : ∀ i, i < P.length → (P.getD i []).length ≤ 1000 := fun i hi => Nat.le_trans (hr i hi) (by decide)
    clear hbb hr
    repeat' (first | refine zP ?_ | refine zA ?_ | (refine zM ?_; intro _ _) | refine zX ?_ | (refine zC ?_; intro _ _ _ _) | (refine zS ?_; intro _ _) | (apply Ws <;> intro hg))
    refine WC.condP rfl (fun hbig => ?_) (fun hbig => ?_)
    · repeat' (first | refine zP ?_ | refine zA ?_ | (refine zM ?_; intro _ _) | refine zX ?_ | (refine zC ?_; intro _ _ _ _) | (refine zS ?_; intro _ _) | (apply Ws <;> intro hg))
      refine WR.call (by first | exact gN | exact gS rfl) rfl rfl (FS.works ⟨rfl, rfl⟩ : FS C _ [] _ (fun e H' => e = .bool true ∧ H' = H2)) ?_
      rintro _ _ ⟨rfl, rfl⟩
      repeat' (first | refine zP ?_ | refine zA ?_ | (refine zM ?_; intro _ _) | refine zX ?_ | (refine zC ?_; intro _ _ _ _) | (refine zS ?_; intro _ _) | (apply Ws <;> intro hg))
      exact Ends.ret1 rfl rfl
    · have hcl : cs.length ≤ 1000 := by omega
      repeat' (first | refine zP ?_ | refine zA ?_ | (refine zM ?_; intro _ _) | refine zX ?_ | (refine zC ?_; intro _ _ _ _) | (refine zS ?_; intro _ _) | (apply Ws <;> intro hg))
      rename_i H3 hH3
      refine WR.storeAll (by first | exact gN | exact gS rfl) hH3 rfl rfl (ls := [v]) (by simp [Value.cells]) rfl .here (one_one hv) rfl fun H4 hH4 => ?_
      clear hH2 hH3
      repeat' (first | refine zP ?_ | refine zA ?_ | (refine zM ?_; intro _ _) | refine zX ?_ | (refine zC ?_; intro _ _ _ _) | (refine zS ?_; intro _ _) | (apply Ws <;> intro hg))
      obtain ⟨X, hX⟩ : ∃ X : HL, X = (n2, Ch.row 27 0 0 [v]) :: (n0, Ch.row 24 0 0 [v]) :: M := ⟨_, rfl⟩
      have hRX : RowsI X v P := by rw [hX]; exact hR.cons.cons
      have hSX : Sl X 1 s (ints cs) := by rw [hX]; exact hS.cons.cons
      have hb1 : (n2, Ch.row 27 0 0 [v]) ∈ X := by rw [hX]; exact .head _
      have hb2 : (n0, Ch.row 24 0 0 [v]) ∈ X := by rw [hX]; exact .tail _ (.head _)
      rw [← hX] at hH4
      clear hX hR hS
      refine WR.call (by first | exact gN | exact gS rfl) rfl rfl (Proper_fs hH4 hRX hl2 hr2 hSX hcl) ?_
      rintro e1 H5 ⟨n5, A, hn5, hH5, hA, hP1⟩
      obtain ⟨pb, px, rfl⟩ := hP1.form
      clear hH4
      repeat' (first | refine zP ?_ | refine zA ?_ | (refine zM ?_; intro _ _) | refine zX ?_ | (refine zC ?_; intro _ _ _ _) | (refine zS ?_; intro _ _) | (apply Ws <;> intro hg))
      refine WR.call (by first | exact gN | exact gS rfl) rfl rfl (rProper_fs hH5 hRX hl2 hr2 hSX hcl hA) ?_
      rintro e2 H6 ⟨n6, hn6, hH6, hP2⟩
      obtain rfl := hP1.unique hP2
      clear hH5 hP1 hP2
      repeat' (first | refine zP ?_ | refine zA ?_ | (refine zM ?_; intro _ _) | refine zX ?_ | (refine zC ?_; intro _ _ _ _) | (refine zS ?_; intro _ _) | (apply Ws <;> intro hg))
      refine WR.call (by first | exact gN | exact gS rfl) rfl rfl (Fewest_fs hH6 hRX hl2 hr2) ?_
      rintro e3 H7 ⟨n7, hn7, hH7, hF1⟩
      have hX1 := hF1.toX hA
      clear hH6 hF1
      obtain ⟨fv, fx, rfl⟩ : ∃ fv fx : Int, e3 = .tuple #[.int .i64 fv, .int .i64 fx] := by
        rcases hX1.both hX1 with ⟨x, h, _⟩ | ⟨f, l, u, u', _, h, _, h2, _⟩
        · exact ⟨_, _, h⟩
        · subst h; exact ⟨_, _, h2⟩
      repeat' (first | refine zP ?_ | refine zA ?_ | (refine zM ?_; intro _ _) | refine zX ?_ | (refine zC ?_; intro _ _ _ _) | (refine zS ?_; intro _ _) | (apply Ws <;> intro hg))
      refine WR.call (by first | exact gN | exact gS rfl) rfl rfl (rFewest_fs hH7 hRX hl2 hr2 hA) ?_
      rintro e4 H8 ⟨n8, hn8, hH8, hX2⟩
      obtain rfl : e4 = .tuple #[.int .i64 fv, .int .i64 fx] := by
        rcases hX1.both hX2 with ⟨x, h, h2⟩ | ⟨f, l, u, u', _, h, h', h2, h3⟩
        · exact h2.trans h.symm
        · subst h; subst h'; exact h3.trans h2.symm
      clear hH7 hX1 hX2
      repeat' (first | refine zP ?_ | refine zA ?_ | (refine zM ?_; intro _ _) | refine zX ?_ | (refine zC ?_; intro _ _ _ _) | (refine zS ?_; intro _ _) | (apply Ws <;> intro hg))
      refine WR.call (by first | exact gN | exact gS rfl) rfl rfl (Colour_fs hH8 hRX hl2 hr2) ?_
      rintro e5 H9 ⟨n9, MC, hn9, hH9, hC1⟩
      have hY1 := hC1.toX hA
      clear hH8 hC1
      obtain ⟨a, ax, rfl⟩ : ∃ (a : Value) (ax : Int), e5 = .tuple #[a, .int .i64 ax] := by
        rcases hY1.both hY1 with ⟨x, h, _⟩ | ⟨f, l, u, u', _, h, _, h2, _⟩
        · exact ⟨_, _, h⟩
        · exact ⟨_, _, h2⟩
      have hRY : RowsI (MC ++ X) v P := hRX.mono fun q hq => List.mem_append_right _ hq
      have hb3 : (n2, Ch.row 27 0 0 [v]) ∈ MC ++ X := List.mem_append_right _ hb1
      repeat' (first | refine zP ?_ | refine zA ?_ | (refine zM ?_; intro _ _) | refine zX ?_ | (refine zC ?_; intro _ _ _ _) | (refine zS ?_; intro _ _) | (apply Ws <;> intro hg))
      refine WR.call (by first | exact gN | exact gS rfl) rfl rfl (rColour_fs hH9 hRY hl2 hr2 hA) ?_
      rintro e6 H10 ⟨n10, MR, hn10, hH10, hY2⟩
      obtain ⟨b, l, rfl, hll, hSa, hSb⟩ : ∃ b l, e6 = .tuple #[b, .int .i64 ax] ∧ (castL l).length ≤ 100000 ∧ Sl (MR ++ (MC ++ X)) 1 a (ints (castL l)) ∧ Sl (MR ++ (MC ++ X)) 1 b (ints (castL l)) := by
        rcases hY1.both hY2 with ⟨x, h, h2⟩ | ⟨f, l, u, u', hl3, h, h', h2, h3⟩
        · cases h
          exact ⟨_, [], h2, Nat.zero_le _, .nil 0, .nil 0⟩
        · cases h2
          rw [nodes_cast] at h h'
          exact ⟨u', l, h3, by rw [castL_len]; omega, h.mono fun q hq => List.mem_append_right _ (List.mem_append_left _ hq), h'⟩
      have hb1' := hSb.one_
      clear hH9 hY1 hY2
      repeat' (first | refine zP ?_ | refine zA ?_ | (refine zM ?_; intro _ _) | refine zX ?_ | (refine zC ?_; intro _ _ _ _) | (refine zS ?_; intro _ _) | (apply Ws <;> intro hg))
      refine WR.op (by first | exact gN | exact gS rfl) rfl (OpV.eqB (eqlB _ _) rfl rfl) ?_
      rw [show (pb == pb) = true by cases pb <;> rfl]
      repeat' (first | refine zP ?_ | refine zA ?_ | (refine zM ?_; intro _ _) | refine zX ?_ | (refine zC ?_; intro _ _ _ _) | (refine zS ?_; intro _ _) | refine zO ?_ | (apply Ws <;> intro hg))
      refine WR.call (by first | exact gN | exact gS rfl) rfl rfl (same_fs hH10 hSa hSb hll) ?_
      rintro _ H11 ⟨hx11, rfl⟩
      subst hx11
      rw [decide_eq_true rfl]
      repeat' (first | refine zP ?_ | refine zA ?_ | (refine zM ?_; intro _ _) | refine zX ?_ | (refine zC ?_; intro _ _ _ _) | (refine zS ?_; intro _ _) | refine zO ?_ | (apply Ws <;> intro hg))
      refine WR.call (by first | exact gN | exact gS rfl) rfl rfl (FS.works ⟨rfl, rfl⟩ : FS C _ [] _ (fun e H' => e = .bool true ∧ H' = H11)) ?_
      rintro _ _ ⟨rfl, rfl⟩
      repeat' (first | refine zP ?_ | refine zA ?_ | (refine zM ?_; intro _ _) | refine zX ?_ | (refine zC ?_; intro _ _ _ _) | (refine zS ?_; intro _ _) | (apply Ws <;> intro hg))
      exact Ends.ret1 rfl rfl
end
end Go.Proofs.YtmgmkglmjmaipaaDoor.Ct
