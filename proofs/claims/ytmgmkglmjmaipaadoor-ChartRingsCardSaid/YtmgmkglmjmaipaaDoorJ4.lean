/- Texts of the law, joined. -/
import Derived.Test.YtmgmkglmjmaipaaDoorJ3
import Derived.Test.YtmgmkglmjmaipaaDoorJ2
/- The reference's Odd. -/
namespace Go.Proofs.YtmgmkglmjmaipaaDoor.Ct
open Go Go.Abs Go.Mth
set_option linter.unusedVariables false
set_option linter.unusedSimpArgs false
theorem first_of {A : List Nat} {N V n : Nat} {l : List Nat} (h : FirstX A N V n [] l) : FirstR (fitO A N n) V n l :=
  ⟨h.1.1, h.1.2.2, fun l' h1 h2 => h.2 l' ⟨h1, rfl, h2⟩⟩
theorem none_of {A : List Nat} {N V n : Nat} (h : ∀ l', ¬ ExtR A N V n [] l') : ∀ l', l'.length = n → ¬ okP (fitO A N n) V l' := fun l' h1 h2 => h l' ⟨h1, rfl, h2⟩
attribute [local irreducible] gOK WS WC WR WD Ends FS YS OpV seqK blockK loopK midK retK rdK asgK rangeEnd sat Cell
section
variable {M : HL} {n0 : Nat} {H : Heap} {v w : Value}
set_option maxHeartbeats 2000000 in
theorem rOdd_fs (hH : hasH M n0 H) {P : List (List Int)} (hR : RowsI M v P) (hl : P.length ≤ 1000) (hr : ∀ i, i < P.length → (P.getD i []).length ≤ 1000) {A : List Nat} (hpt : ∀ Q, P = castP Q → OKM Q → PtOf Q (fun e => A.getD e 0) ∧ ∀ e, e < sizeL Q → A.getD e 0 < Q.length) :
    FS C 42 [.agg [v].toArray] H (fun e H' => ∃ n' M2, n0 ≤ n' ∧ hasH (M2 ++ M) n' H' ∧ ((errM P ≠ 0 ∧ e = .tuple #[.slice none 0 0, .int .i64 (errM P)]) ∨ ∃ Q, P = castP Q ∧ OKM Q ∧
      ((loopy (fun e => A.getD e 0) (sizeL Q / 2) ∧ e = .tuple #[.slice none 0 0, .int .i64 12]) ∨ (¬ loopy (fun e => A.getD e 0) (sizeL Q / 2) ∧
      ((∃ k l u, OddR A (sizeL Q) Q.length k l ∧ Sl (M2 ++ M) 1 u (nodes l) ∧ e = .tuple #[u, .int .i64 0]) ∨ (noOdd A (sizeL Q) Q.length (Q.length + 1) ∧ e = .tuple #[.slice none 0 0, .int .i64 13])))))) := by
  have hv := hR.one_
  have hrg := err_range P
  have hR0 := hR
  obtain ⟨ws, hS, hwl, hrow⟩ := hR
  refine FS.intro (pf := pf42) rfl rfl rfl ?_
  repeat' (first | refine zP ?_ | refine zA ?_ | (refine zM ?_; intro _ _) | refine zX ?_ | (refine zC ?_; intro _ _ _ _) | (refine zS ?_; intro _ _) | (apply Ws <;> intro hg))
  rename_i H1 hH1
  refine WR.call (by first | exact gN | exact gS rfl) rfl rfl (rCheck_fs hH1 hR0.cons hl hr) ?_
  rintro _ H2 ⟨n2, hn2, hH2, rfl⟩
  clear hH hH1
  by_cases h0 : errM P = 0
  · obtain ⟨Q, rfl, hQ⟩ := err_nat h0
    obtain ⟨hp, hlt⟩ := hpt Q rfl hQ
    have hle := hQ.le
    have hlen := hQ.len
    rw [h0]
    repeat' (first | refine zP ?_ | refine zA ?_ | (refine zM ?_; intro _ _) | refine zX ?_ | (refine zC ?_; intro _ _ _ _) | (refine zS ?_; intro _ _) | refine zO ?_ | (apply Ws <;> intro hg))
    refine WR.call (by first | exact gN | exact gS rfl) rfl rfl (rlooped_fs hH2 hQ hR0.cons hp hlt) ?_
    rintro _ H3 ⟨n3, bb, hn3, hH3, hbb, rfl⟩
    clear hH2
    cases bb with
    | true =>
      repeat' (first | refine zP ?_ | refine zA ?_ | (refine zM ?_; intro _ _) | refine zX ?_ | (refine zC ?_; intro _ _ _ _) | (refine zS ?_; intro _ _) | refine zO ?_ | (apply Ws <;> intro hg))
      exact Ends.ret2 rfl rfl ⟨n3, [], by omega, hH3.tail, .inr ⟨Q, rfl, hQ, .inl ⟨hbb.1 rfl, rfl⟩⟩⟩
    | false =>
      have hnl : ¬ loopy (fun e => A.getD e 0) (sizeL Q / 2) := fun h => by have := hbb.2 h; cases this
      rw [castP_len] at hwl
      repeat' (first | refine zP ?_ | refine zA ?_ | (refine zM ?_; intro _ _) | refine zX ?_ | (refine zC ?_; intro _ _ _ _) | (refine zS ?_; intro _ _) | refine zO ?_ | (apply Ws <;> intro hg))
      refine WC.loopX [(1, .pointer (some ⟨n0, 0, some 0⟩))] (fun a : Nat × Nat => [(5, .int .i64 (a.1 : Int))]) []
        (fun a H' => a.1 % 2 = 1 ∧ 3 ≤ a.1 ∧ a.1 ≤ Q.length + 3 ∧ n0 ≤ a.2 ∧ noOdd A (sizeL Q) Q.length a.1 ∧ hasH ((n0, .row 27 0 0 [v]) :: M) a.2 H') (fun a => Q.length + 3 - a.1) (3, n3) (by repeat' (first | exact .nil | refine .cons rfl ?_)) rfl
        ⟨by simp only, by simp only; omega, by simp only; omega, by simp only; omega, (fun k' h1 h2 h3 => absurd h3 (by simp only; omega)), hH3⟩ ?_
      clear hH3
      rintro ⟨k, n4⟩ H4 ⟨hk1, hk3, hkV, hn4, hno, hH4⟩
      simp only at hk1 hk3 hkV hn4 hno hH4
      dsimp only [List.cons_append, List.nil_append]
      repeat' (first | refine zP ?_ | refine zA ?_ | (refine zM ?_; intro _ _) | refine zX ?_ | (refine zC ?_; intro _ _ _ _) | (refine zS ?_; intro _ _) | (apply Ws <;> intro hg))
      refine WC.condP rfl (fun hlt2 => ?_) (fun hlt2 => ?_)
      · have hk' : k ≤ Q.length := by omega
        repeat' (first | refine zP ?_ | refine zA ?_ | (refine zM ?_; intro _ _) | refine zX ?_ | (refine zC ?_; intro _ _ _ _) | (refine zS ?_; intro _ _) | (apply Ws <;> intro hg))
        refine WR.call (by first | exact gN | exact gS rfl) rfl rfl (ring_fs hQ hp (many := k) (by omega) (by omega) k (l := []) (by simp) (fun j hj => absurd hj (Nat.not_lt_zero _)) hH4 hR0.cons (.inl ⟨rfl, rfl⟩)) ?_
        rintro _ H5 ⟨n5, hn5, ⟨l, u, M2, hF, hH5, hSu, rfl⟩ | ⟨hF, hH5, u, hu, rfl⟩⟩
        · have hu := hSu.one_
          repeat' (first | refine zP ?_ | refine zA ?_ | (refine zM ?_; intro _ _) | refine zX ?_ | (refine zC ?_; intro _ _ _ _) | (refine zS ?_; intro _ _) | (apply Ws <;> intro hg))
          exact Ends.ret2 rfl rfl ⟨n5, M2 ++ [(n0, Ch.row 27 0 0 [v])], by omega, by simpa using hH5, .inr ⟨Q, rfl, hQ, .inr ⟨hnl, .inl ⟨k, l, u, ⟨hk1, hk3, hk', first_of hF, hno⟩, by simpa using hSu, rfl⟩⟩⟩⟩
        · repeat' (first | refine zP ?_ | refine zA ?_ | (refine zM ?_; intro _ _) | refine zX ?_ | (refine zC ?_; intro _ _ _ _) | (refine zS ?_; intro _ _) | (apply Ws <;> intro hg))
          refine Ends.loop (k + 2, n5) (by simp only; omega) (by repeat' (first | exact .nil | refine .cons rfl ?_)) rfl ⟨by simp only; omega, by simp only; omega, by simp only; omega, by simp only; omega, (fun k' h1 h2 h3 l' hl' => ?_), hH5⟩
          simp only at h3
          by_cases e : k' = k
          · subst e; exact none_of hF l' hl'
          · exact hno k' h1 h2 (by omega) l' hl'
      · repeat' (first | refine zP ?_ | refine zA ?_ | (refine zM ?_; intro _ _) | refine zX ?_ | (refine zC ?_; intro _ _ _ _) | (refine zS ?_; intro _ _) | (apply Ws <;> intro hg))
        exact Ends.ret2 rfl rfl ⟨n4, [], by omega, hH4.tail, .inr ⟨Q, rfl, hQ, .inr ⟨hnl, .inr ⟨fun k' h1 h2 h3 => hno k' h1 h2 (by omega), rfl⟩⟩⟩⟩
  · repeat' (first | refine zP ?_ | refine zA ?_ | (refine zM ?_; intro _ _) | refine zX ?_ | (refine zC ?_; intro _ _ _ _) | (refine zS ?_; intro _ _) | refine zO ?_ | (apply Ws <;> intro hg))
    exact Ends.ret2 rfl rfl ⟨n2, [], by omega, hH2.tail, .inl ⟨h0, rfl⟩⟩
theorem lexP_total : ∀ {l l' : List Nat}, l.length = l'.length → l ≠ l' → lexP l l' ∨ lexP l' l
  | [], [], _, h => absurd rfl h
  | [], _ :: _, h, _ => by simp at h
  | _ :: _, [], h, _ => by simp at h
  | a :: l, b :: m, h, hne => by
    rcases Nat.lt_trichotomy a b with e | e | e
    · exact .inl ⟨0, by simp, rfl, e⟩
    · subst e
      have hl : l.length = m.length := by simpa using h
      rcases lexP_total hl (fun e => hne (by rw [e])) with ⟨p, h1, h2, h3⟩ | ⟨p, h1, h2, h3⟩
      · exact .inl ⟨p + 1, by simpa using h1, by simp [h2], h3⟩
      · exact .inr ⟨p + 1, by simpa using h1, by simp [h2], h3⟩
    · exact .inr ⟨0, by simp, rfl, e⟩
theorem FirstR.unique {fits : List Nat → Bool} {V n : Nat} {l l' : List Nat} (h : FirstR fits V n l) (k : FirstR fits V n l') : l = l' := by
  apply Decidable.byContradiction
  intro hne
  rcases lexP_total (h.1.trans k.1.symm) hne with e | e
  · exact k.2.2 l h.1 h.2.1 e
  · exact h.2.2 l' k.1 k.2.1 e
theorem OddR.unique {A : List Nat} {N V k k' : Nat} {l l' : List Nat} (h : OddR A N V k l) (g : OddR A N V k' l') : l = l' := by
  obtain ⟨a1, a2, a3, a4, a5⟩ := h
  obtain ⟨b1, b2, b3, b4, b5⟩ := g
  have : k = k' := by
    rcases Nat.lt_trichotomy k k' with e | e | e
    · exact absurd a4.2.1 (b5 k a1 a2 e l a4.1)
    · exact e
    · exact absurd b4.2.1 (a5 k' b1 b2 e l' b4.1)
  subst this
  exact a4.unique b4
theorem OddR.not {A : List Nat} {N V k : Nat} {l : List Nat} (h : OddR A N V k l) : ¬ noOdd A N V (V + 1) := fun hn => hn k h.1 h.2.1 (by have := h.2.2.1; omega) l h.2.2.2.1.1 h.2.2.2.1.2.1
end
end Go.Proofs.YtmgmkglmjmaipaaDoor.Ct

/- ChartRings. -/
namespace Go.Proofs.YtmgmkglmjmaipaaDoor.Ct
open Go Go.Abs Go.Mth
set_option linter.unusedVariables false
set_option linter.unusedSimpArgs false
attribute [local irreducible] gOK WS WC WR WD Ends FS YS OpV seqK blockK loopK midK retK rdK asgK rangeEnd sat Cell
section
variable {M : HL} {n0 : Nat} {H : Heap} {v w : Value}
set_option maxHeartbeats 1000000 in
theorem large_fs (hH : hasH M n0 H) {P : List (List Int)} (hR : RowsI M v P) :
    FS C 15 [.agg [v].toArray] H (fun e H' => ∃ n' bb, n0 ≤ n' ∧ hasH M n' H' ∧ (bb = false → P.length ≤ 40 ∧ ∀ i, i < P.length → (P.getD i []).length ≤ 40) ∧ e = .bool bb) := by
  obtain ⟨ws, hS, hwl, hrow⟩ := hR
  have hv := hS.one_
  refine FS.intro (pf := pf15) rfl rfl rfl ?_
  repeat' (first | refine zP ?_ | refine zA ?_ | (refine zM ?_; intro _ _) | refine zX ?_ | (refine zC ?_; intro _ _ _ _) | (refine zS ?_; intro _ _) | (apply Ws <;> intro hg))
  rename_i H1 hH1
  refine WC.condP rfl (fun hbig => ?_) (fun hbig => ?_)
  · repeat' (first | refine zP ?_ | refine zA ?_ | (refine zM ?_; intro _ _) | refine zX ?_ | (refine zC ?_; intro _ _ _ _) | (refine zS ?_; intro _ _) | (apply Ws <;> intro hg))
    exact Ends.ret1 rfl ⟨n0 + 1, true, by omega, hH1.tail, (fun h => by cases h), rfl⟩
  · have hP : P.length ≤ 40 := by omega
    repeat' (first | refine zP ?_ | refine zA ?_ | (refine zM ?_; intro _ _) | refine zX ?_ | (refine zC ?_; intro _ _ _ _) | (refine zS ?_; intro _ _) | (apply Ws <;> intro hg))
    refine WC.loopX [(1, .pointer (some ⟨n0, 0, some 0⟩))] (fun k : Nat => [(3, .int .i64 (k : Int))]) [] (fun k H' => H' = H1 ∧ k ≤ P.length ∧ ∀ i, i < k → (P.getD i []).length ≤ 40) (fun k => P.length - k) 0 (by repeat' (first | exact .nil | refine .cons rfl ?_)) rfl ⟨rfl, Nat.zero_le _, fun j h => absurd h (Nat.not_lt_zero _)⟩ ?_
    rintro k H2 ⟨rfl, hk, hno⟩
    dsimp only [List.cons_append, List.nil_append]
    repeat' (first | refine zP ?_ | refine zA ?_ | (refine zM ?_; intro _ _) | refine zX ?_ | (refine zC ?_; intro _ _ _ _) | (refine zS ?_; intro _ _) | (apply Ws <;> intro hg))
    refine WC.condP rfl (fun hlt => ?_) (fun hlt => ?_)
    · have hk' : k < P.length := by omega
      have hSi := hrow k hk'
      repeat' (first | refine zP ?_ | refine zA ?_ | (refine zM ?_; intro _ _) | refine zX ?_ | (refine zC ?_; intro _ _ _ _) | (refine zS ?_; intro _ _) | (apply Ws <;> intro hg))
      refine WC.condP rfl (fun hb2 => ?_) (fun hb2 => ?_)
      · repeat' (first | refine zP ?_ | refine zA ?_ | (refine zM ?_; intro _ _) | refine zX ?_ | (refine zC ?_; intro _ _ _ _) | (refine zS ?_; intro _ _) | (apply Ws <;> intro hg))
        exact Ends.ret1 rfl ⟨n0 + 1, true, by omega, hH1.tail, (fun h => by cases h), rfl⟩
      · repeat' (first | refine zP ?_ | refine zA ?_ | (refine zM ?_; intro _ _) | refine zX ?_ | (refine zC ?_; intro _ _ _ _) | (refine zS ?_; intro _ _) | (apply Ws <;> intro hg))
        refine Ends.loop (k + 1) (by omega) (by repeat' (first | exact .nil | refine .cons rfl ?_)) rfl ⟨rfl, hk', fun j hj => ?_⟩
        by_cases e : j = k
        · subst e; omega
        · exact hno j (by omega)
    · have hkp : k = P.length := by omega
      subst hkp
      repeat' (first | refine zP ?_ | refine zA ?_ | (refine zM ?_; intro _ _) | refine zX ?_ | (refine zC ?_; intro _ _ _ _) | (refine zS ?_; intro _ _) | (apply Ws <;> intro hg))
      exact Ends.ret1 rfl ⟨n0 + 1, false, by omega, hH1.tail, fun _ => ⟨hP, hno⟩, rfl⟩
set_option maxHeartbeats 2000000 in
theorem ChartRings_fs (hH : hasH M n0 H) {P : List (List Int)} (hR : RowsI M v P) :
    FS C 6 [.agg [v].toArray] H (fun e H' => e = .bool true) := by
  have hv := hR.one_
  refine FS.intro (pf := pf6) rfl rfl rfl ?_
  repeat' (first | refine zP ?_ | refine zA ?_ | (refine zM ?_; intro _ _) | refine zX ?_ | (refine zC ?_; intro _ _ _ _) | (refine zS ?_; intro _ _) | (apply Ws <;> intro hg))
  rename_i H1 hH1
  refine WR.call (by first | exact gN | exact gS rfl) rfl rfl (large_fs hH1 hR.cons) ?_
  rintro _ H2 ⟨n2, bb, hn2, hH2, hbb, rfl⟩
  cases bb with
  | true =>
    repeat' (first | refine zP ?_ | refine zA ?_ | (refine zM ?_; intro _ _) | refine zX ?_ | (refine zC ?_; intro _ _ _ _) | (refine zS ?_; intro _ _) | (apply Ws <;> intro hg))
    refine WR.call (by first | exact gN | exact gS rfl) rfl rfl (FS.works ⟨rfl, rfl⟩ : FS C _ [] _ (fun e H' => e = .bool true ∧ H' = H2)) ?_
    rintro _ _ ⟨rfl, rfl⟩
    repeat' (first | refine zP ?_ | refine zA ?_ | (refine zM ?_; intro _ _) | refine zX ?_ | (refine zC ?_; intro _ _ _ _) | (refine zS ?_; intro _ _) | (apply Ws <;> intro hg))
    exact Ends.ret1 rfl rfl
  | false =>
    obtain ⟨hl, hr⟩ := hbb rfl
    have hl2 : P.length ≤ 1000 := by omega
    have hr2 : ∀ i, i < P.length → (P.getD i []).length ≤ 1000 := fun i hi => Nat.le_trans (hr i hi) (by decide)
    clear hH hH1
    repeat' (first | refine zP ?_ | refine zA ?_ | (refine zM ?_; intro _ _) | refine zX ?_ | (refine zC ?_; intro _ _ _ _) | (refine zS ?_; intro _ _) | (apply Ws <;> intro hg))
    refine WR.call (by first | exact gN | exact gS rfl) rfl rfl (Odd_fs hH2 hR.cons hl2 hr2) ?_
    rintro e1 H3 ⟨n3, MO, hn3, hH3, hOV⟩
    obtain ⟨A, hA⟩ : ∃ A : List Nat, ((∀ Q, P = castP Q → OKM Q → PtOf Q (fun e => A.getD e 0) ∧ ∀ e, e < sizeL Q → A.getD e 0 < Q.length) ∧ ((errM P ≠ 0 ∧ e1 = .tuple #[.slice none 0 0, .int .i64 (errM P)]) ∨ ∃ Q, P = castP Q ∧ OKM Q ∧
      ((loopy (fun e => A.getD e 0) (sizeL Q / 2) ∧ e1 = .tuple #[.slice none 0 0, .int .i64 12]) ∨ (¬ loopy (fun e => A.getD e 0) (sizeL Q / 2) ∧
      ((∃ k l u, OddR A (sizeL Q) Q.length k l ∧ Sl MO 1 u (nodes l) ∧ e1 = .tuple #[u, .int .i64 0]) ∨ (noOdd A (sizeL Q) Q.length (Q.length + 1) ∧ e1 = .tuple #[.slice none 0 0, .int .i64 13])))))) := by
      rcases hOV with ⟨h0, he⟩ | ⟨Q, A, rfl, hQ, h1, h2, h3⟩
      · exact ⟨[], fun Q hP hQ => absurd (by rw [hP]; exact ok_err hQ) h0, .inl ⟨h0, he⟩⟩
      · exact ⟨A, fun Q' hP hQ' => by obtain rfl := castP_inj hP; exact ⟨h1, h2⟩, .inr ⟨Q, rfl, hQ, h3⟩⟩
    obtain ⟨hA1, hA2⟩ := hA
    clear hOV
    obtain ⟨a, ea, rfl⟩ : ∃ a ea, e1 = .tuple #[a, .int .i64 ea] := by
      rcases hA2 with ⟨_, h⟩ | ⟨Q, _, _, ⟨_, h⟩ | ⟨_, ⟨k, l, u, _, _, h⟩ | ⟨_, h⟩⟩⟩ <;> exact ⟨_, _, h⟩
    have ha1 : one a = true := by
      rcases hA2 with ⟨_, h⟩ | ⟨Q, _, _, ⟨_, h⟩ | ⟨_, ⟨k, l, u, _, hs, h⟩ | ⟨_, h⟩⟩⟩ <;> cases h
      · rfl
      · rfl
      · exact hs.one_
      · rfl
    have hR3 : RowsI (MO ++ (n0, Ch.row 24 0 0 [v]) :: M) v P := hR.mono fun q hq => List.mem_append_right _ (.tail _ hq)
    have hb3 : (n0, Ch.row 24 0 0 [v]) ∈ MO ++ (n0, Ch.row 24 0 0 [v]) :: M := List.mem_append_right _ (.head _)
    repeat' (first | refine zP ?_ | refine zA ?_ | (refine zM ?_; intro _ _) | refine zX ?_ | (refine zC ?_; intro _ _ _ _) | (refine zS ?_; intro _ _) | (apply Ws <;> intro hg))
    refine WR.call (by first | exact gN | exact gS rfl) rfl rfl (rOdd_fs hH3 hR3 hl2 hr2 hA1) ?_
    rintro e2 H4 ⟨n4, MR, hn4, hH4, hB2⟩
    obtain ⟨b, l, rfl, hll, hSa, hSb⟩ : ∃ b l, e2 = .tuple #[b, .int .i64 ea] ∧ (castL l).length ≤ 100000 ∧ Sl (MR ++ (MO ++ (n0, Ch.row 24 0 0 [v]) :: M)) 1 a (ints (castL l)) ∧ Sl (MR ++ (MO ++ (n0, Ch.row 24 0 0 [v]) :: M)) 1 b (ints (castL l)) := by
      rcases hA2 with ⟨h0, h⟩ | ⟨Q, rfl, hQ, hA2⟩
      · cases h
        rcases hB2 with ⟨_, h⟩ | ⟨Q, hP, hQ, _⟩
        · exact ⟨_, [], h, Nat.zero_le _, .nil 0, .nil 0⟩
        · exact absurd (by rw [hP]; exact ok_err hQ) h0
      · rcases hB2 with ⟨h0, _⟩ | ⟨Q', hP, hQ', hB2⟩
        · exact absurd (ok_err hQ) h0
        · obtain rfl := castP_inj hP
          rcases hA2 with ⟨hlo, h⟩ | ⟨hnl, hA2⟩
          · cases h
            rcases hB2 with ⟨_, h⟩ | ⟨hnl, _⟩
            · exact ⟨_, [], h, Nat.zero_le _, .nil 0, .nil 0⟩
            · exact absurd hlo hnl
          · rcases hB2 with ⟨hlo, _⟩ | ⟨_, hB2⟩
            · exact absurd hlo hnl
            · rcases hA2 with ⟨k, l, u, hO, hS, h⟩ | ⟨hno, h⟩
              · cases h
                rcases hB2 with ⟨k2, l2, u2, hO2, hS2, h2⟩ | ⟨hno2, _⟩
                · have := hO.unique hO2
                  subst this
                  rw [nodes_cast] at hS hS2
                  have hlk := hO.2.2.2.1.1
                  have hkq := hO.2.2.1
                  rw [castP_len] at hl
                  exact ⟨u2, l, h2, by rw [castL_len]; omega, hS.mono fun q hq => List.mem_append_right _ (List.mem_append_left _ hq), hS2⟩
                · exact absurd hno2 hO.not
              · cases h
                rcases hB2 with ⟨k2, l2, u2, hO2, hS2, h2⟩ | ⟨hno2, h2⟩
                · exact absurd hno hO2.not
                · exact ⟨_, [], h2, Nat.zero_le _, .nil 0, .nil 0⟩
    have hb1 := hSb.one_
    clear hA2 hB2
    repeat' (first | refine zP ?_ | refine zA ?_ | (refine zM ?_; intro _ _) | refine zX ?_ | (refine zC ?_; intro _ _ _ _) | (refine zS ?_; intro _ _) | (apply Ws <;> intro hg))
    refine WR.call (by first | exact gN | exact gS rfl) rfl rfl (same_fs hH4 hSa hSb hll) ?_
    rintro _ H5 ⟨hx5, rfl⟩
    subst hx5
    rw [decide_eq_true rfl]
    repeat' (first | refine zP ?_ | refine zA ?_ | (refine zM ?_; intro _ _) | refine zX ?_ | (refine zC ?_; intro _ _ _ _) | (refine zS ?_; intro _ _) | refine zO ?_ | (apply Ws <;> intro hg))
    refine WR.call (by first | exact gN | exact gS rfl) rfl rfl (FS.works ⟨rfl, rfl⟩ : FS C _ [] _ (fun e H' => e = .bool true ∧ H' = H5)) ?_
    rintro _ _ ⟨rfl, rfl⟩
    repeat' (first | refine zP ?_ | refine zA ?_ | (refine zM ?_; intro _ _) | refine zX ?_ | (refine zC ?_; intro _ _ _ _) | (refine zS ?_; intro _ _) | (apply Ws <;> intro hg))
    exact Ends.ret1 rfl rfl
end
end Go.Proofs.YtmgmkglmjmaipaaDoor.Ct
