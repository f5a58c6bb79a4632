import Derived.Test.YtckpocjeikkblaaJ2
namespace Go.Proofs.Ytckpocjeikkblaa.St
open Go Go.Abs Go.Mth
set_option linter.unusedVariables false
set_option linter.unusedSimpArgs false

theorem form_len {n : Int} {l : List Int} (hn : n ≤ 7) (h : formE n l = 0) : l.length ≤ 1000 := by
  obtain ⟨g1, g2, g3⟩ := form_ok h
  have h7 := List.pairwise_iff_getElem.1 g3
  have hbb : ∀ i (hi : i < l.length), (i : Int) ≤ l[i] := by
    intro i
    induction i with
    | zero => intro hi; have := g2 _ (List.getElem_mem hi); omega
    | succ i ih => intro hi; have := ih (by omega); have := h7 i (i + 1) (by omega) hi (by omega); omega
  have := hbb (l.length - 1) (by omega)
  have := g2 _ (List.getElem_mem (show l.length - 1 < l.length by omega))
  omega
/-- Two forms more. -/
theorem more_ok {N x : Nat} {fs : List (List Int)} (hx : x < N) (hf : findsE (N : Int) fs = 0) (h8 : fs.length ≤ 8) : findsE (N : Int) (fs ++ [[(x : Int)], upTo N]) = 0 := by
  obtain ⟨h1, h2, h3, h4⟩ := finds_ok hf
  refine finds_intro ⟨h1, h2⟩ (by simp; omega) fun l hl => ?_
  rcases List.mem_append.1 hl with h | h
  · exact h4 l h
  rcases List.mem_cons.1 h with rfl | h
  · exact form_intro (by simp) (fun y hy => by simp at hy; omega) (by simp)
  · obtain rfl := List.mem_singleton.1 h
    refine form_intro (by rw [upTo_len]; omega) (fun y hy => ?_) ?_
    · obtain ⟨i, hi, rfl⟩ := List.mem_map.1 hy
      have := List.mem_range.1 hi
      omega
    · refine List.pairwise_map.2 (List.pairwise_lt_range.imp fun h => ?_)
      omega
theorem less_ok {n : Int} {fs gs : List (List Int)} (hf : findsE n fs = 0) (hs : ∀ l ∈ gs, l ∈ fs) (hl : gs.length ≤ fs.length) : findsE n gs = 0 := by
  obtain ⟨h1, h2, h3, h4⟩ := finds_ok hf
  exact finds_intro ⟨h1, h2⟩ (by omega) fun l h => h4 l (hs l h)
theorem one_rows {M : HL} {vs : List Value} {fs : List (List Int)} (hl : vs.length = fs.length) (h : ∀ i, i < fs.length → Sl M 1 (vs.getD i undef) (ints (fs.getD i []))) : vs.all one = true := by
  rw [List.all_eq_true]
  intro q hq
  obtain ⟨i, hi, rfl⟩ := List.mem_iff_getElem.1 hq
  have := h i (by omega)
  rw [getD_eq hi] at this
  exact this.one_
attribute [local irreducible] gOK WS WC WR WD Ends FS YS OpV seqK blockK loopK midK retK rdK asgK rangeEnd sat Cell

theorem CloneO_fs {M : HL} {n0 : Nat} {H : Heap} {v : Value} {vs : List Value} (hH : hasH M n0 H) (hS : Sl M 1 v vs) (hone : vs.all one = true) (hx : vs.length ≤ 1000) (h0 : vs = [] → v = .slice none 0 0) :
    FS C 45 [v] H (fun e H' => ∃ Mx n', Own 25 1 e vs Mx ∧ n0 ≤ n' ∧ hasH (Mx ++ M) n' H') := by
  rcases Nat.eq_zero_or_pos vs.length with h | h
  · have hv := h0 (List.length_eq_zero_iff.1 h)
    have hvs := List.length_eq_zero_iff.1 h
    subst hv; subst hvs
    exact (CloneN_fs H).mono fun e H' ⟨h1, h2⟩ => ⟨[], n0, by rw [h1]; exact .nil, Nat.le_refl _, by rw [h2]; exact hH⟩
  · exact (CloneR_fs hH hS hone hx h).mono fun e H' ⟨b, n', h1, h2, h3⟩ => ⟨[_], n', by rw [h1]; exact .row (by omega), h2, h3⟩

set_option maxHeartbeats 4000000 in
theorem StyleMore_fs {M : HL} {n0 : Nat} {H : Heap} (hH : hasH M n0 H) {a b c : Int} {hs : List Int} (ha : 0 ≤ a ∧ a ≤ 255) (hb : 0 ≤ b ∧ b ≤ 255) (hc : 0 ≤ c ∧ c ≤ 255) (hl : hs.length = 10) (hu : ∀ x ∈ hs, 0 ≤ x ∧ x ≤ 255) :
    FS C 12 [.agg (trays a b hs).toArray, .int .u8 c] H (fun e H' => e = .bool true) := by
  have hone := trays_one a b hs
  refine FS.intro (pf := pf12) rfl rfl rfl ?_
  repeat' (first | refine zP ?_ | refine zA ?_ | (refine zM ?_; intro _ _) | refine zX ?_ | (refine zC ?_; intro _ _ _ _) | (refine zS ?_; intro _ _))
  rename_i H1 hH1
  refine WR.op (by first | exact gN | exact gS rfl) rfl (OpV.loadAll (k := 12) rfl hH1 (.head _) (.row _ _ _ _) (by simp [trays, hl])) ?_
  generalize (n0, Ch.row 60 0 0 (trays a b hs)) :: M = T at hH1
  refine WR.call (by first | exact gN | exact gS rfl) rfl rfl (made_fs hH1 ha hb hl hu (ly := 6) (fm := 8) (by omega) (by omega)) ?_
  rintro _ H2 ⟨v, M2, n2, rfl, hn2, hR, hH2, hv0⟩
  obtain ⟨N, hN⟩ : ∃ N, 1 + a.toNat % 6 = N := ⟨_, rfl⟩
  obtain ⟨m, hm⟩ : ∃ m, b.toNat % (8 + 1) = m := ⟨_, rfl⟩
  rw [hN, hm] at hR hv0
  rw [hN]
  have hN6 : 1 ≤ N ∧ N ≤ 6 := by omega
  have hm8 : m ≤ 8 := by omega
  have hf0 := trays_ok (n := N) (m := m) (hs := hs) (by omega) (by omega)
  have hl8 : (traysF N m hs).length ≤ 8 := by simp [traysF]; omega
  generalize traysF N m hs = fs at hR hf0 hv0 hl8
  have h1 := hR.one_
  clear hH1 hN hm
  generalize M2 ++ T = T at hH2 hR
  repeat' (first | refine zP ?_ | refine zA ?_ | (refine zM ?_; intro _ _) | refine zX ?_ | (refine zC ?_; intro _ _ _ _) | (refine zS ?_; intro _ _) | (apply Ws <;> intro hg))
  rename_i H3 hH3
  refine WR.storeAll (by first | exact gN | exact gS rfl) hH3 rfl rfl (ls := [.int .i64 (N : Int), v]) rfl rfl .here (by (repeat' (first | exact all_nil | refine all_cons (by first | rfl | assumption) ?_))) rfl fun H4 hH4 => ?_
  clear hH3 hH2
  have hmF : (n2, Ch.row 24 0 0 [.int .i64 (N : Int), v]) ∈ (n2, Ch.row 24 0 0 [.int .i64 (N : Int), v]) :: T := .head _
  replace hR := hR.cons (p := (n2, .row 24 0 0 [.int .i64 (N : Int), v]))
  generalize (n2, Ch.row 24 0 0 [.int .i64 (N : Int), v]) :: T = T at hH4 hR hmF
  obtain ⟨hn1, hn7, hl10, hfo⟩ := finds_ok hf0
  have hl1 : fs.length ≤ 1000 := by omega
  have hll1 : ∀ l ∈ fs, l.length ≤ 1000 := fun l hl => form_len hn7 (hfo l hl)
  repeat' (first | refine zP ?_ | refine zA ?_ | (refine zM ?_; intro _ _) | refine zX ?_ | (refine zC ?_; intro _ _ _ _) | (refine zS ?_; intro _ _) | (apply Ws <;> intro hg))
  refine WR.call (by first | exact gN | exact gS rfl) rfl rfl (Count_fs hH4 hR hl1 hll1 (N : Int)) ?_
  rintro _ H5 ⟨rfl, n5, hn5, hH5⟩
  clear hH4
  rw [hf0, if_pos rfl, Int.toNat_natCast]
  have hA2 := fitL_len (N := N) (fs := fs) (by omega)
  obtain ⟨A, hA⟩ : ∃ A, (fitL N fs).length = A := ⟨_, rfl⟩
  rw [hA] at hA2 ⊢
  repeat' (first | refine zP ?_ | refine zA ?_ | (refine zM ?_; intro _ _) | refine zX ?_ | (refine zC ?_; intro _ _ _ _) | (refine zS ?_; intro _ _) | refine zO ?_ | (apply Ws <;> intro hg))
  -- all of them
  refine WC.loopX [(1, _), (5, _), (6, _), (27, _)] (fun s : OV => [(8, s.v), (28, .int .i64 (s.k : Int))]) []
    (fun s H' => s.k ≤ N ∧ n5 ≤ s.n ∧ hasH (s.Mx ++ T) s.n H' ∧ ((s.k = 0 ∧ s.v = .slice none 0 0 ∧ s.Mx = []) ∨ OwnR 3 1 s.v (ints (upTo s.k)) s.Mx)) (fun s => N - s.k) ⟨0, .slice none 0 0, [], n5⟩ (by repeat' (first | exact .nil | refine .cons rfl ?_)) rfl ⟨Nat.zero_le _, Nat.le_refl _, hH5, .inl ⟨rfl, rfl, rfl⟩⟩ ?_
  clear hH5
  rintro ⟨k, w, Mx, n6⟩ H6 ⟨hk, hn6, hH6, hO⟩
  simp only at hk hn6 hH6 hO
  have hOwn : Own 3 1 w (ints (upTo k)) Mx := by
    rcases hO with ⟨rfl, rfl, rfl⟩ | h
    · exact .nil
    · exact h.own
  dsimp only [List.cons_append, List.nil_append]
  repeat' (first | refine zP ?_ | refine zA ?_ | (refine zM ?_; intro _ _) | refine zX ?_ | (refine zC ?_; intro _ _ _ _) | (refine zS ?_; intro _ _) | (apply Ws <;> intro hg))
  refine WC.condP rfl (fun hlt => ?_) (fun hlt => ?_)
  · have hk' : k < N := by omega
    repeat' (first | refine zP ?_ | refine zA ?_ | (refine zM ?_; intro _ _) | refine zX ?_ | (refine zC ?_; intro _ _ _ _) | (refine zS ?_; intro _ _) | (apply Ws <;> intro hg))
    refine WR.append1R rfl rfl rfl rfl hOwn hH6 (new := [.int .i64 (k : Int)]) (by rfl) rfl rfl (Nat.le_refl _) (by omega) (by simp [upTo]; omega) fun v3 M3 n3 H3 hO3 hH3 hn3 => ?_
    repeat' (first | refine zP ?_ | refine zA ?_ | (refine zM ?_; intro _ _) | refine zX ?_ | (refine zC ?_; intro _ _ _ _) | (refine zS ?_; intro _ _) | (apply Ws <;> intro hg))
    refine Ends.loop ⟨k + 1, v3, M3, n3⟩ (by simp only; omega) (by repeat' (first | exact .nil | refine .cons rfl ?_)) rfl ⟨hk', by simp only; omega, hH3, .inr ?_⟩
    rw [upTo_succ]
    simpa using hO3
  have hkN : N = k := by omega
  subst hkN
  clear hO hk
  have hSw : Sl (Mx ++ T) 1 w (ints (upTo N)) := hOwn.sl T
  replace hR : RowsI (Mx ++ T) v fs := hR.mono fun q hq => List.mem_append_right _ hq
  replace hmF := List.mem_append_right Mx hmF
  clear hOwn
  generalize Mx ++ T = T at hH6 hR hmF hSw
  obtain ⟨cn, rfl⟩ : ∃ cn : Nat, c = cn := ⟨c.toNat, by omega⟩
  obtain ⟨vs, hSv, hvl, hvs⟩ := id hR
  obtain ⟨aw, cw, rfl⟩ := hSw.len
  have hvo := one_rows hvl hvs
  repeat' (first | refine zP ?_ | refine zA ?_ | (refine zM ?_; intro _ _) | refine zX ?_ | (refine zC ?_; intro _ _ _ _) | (refine zS ?_; intro _ _) | (apply Ws <;> intro hg))
  refine WC.regionD ?_
  repeat' (first | refine zD ?_ | (refine zE ?_; intro _ _ _ _))
  refine WD.op (by first | exact gN | exact gS rfl) rfl (OpV.conv u8k i64k rfl (c := (cn : Int)) (IntWalk.i64_in _ (by omega))) rfl (stands_nil _ _) ?_
  repeat' (first | refine zD ?_ | (refine zE ?_; intro _ _ _ _))
  rw [show (cn : Int) % (N : Int) = ((cn % N : Nat) : Int) by simp]
  have hxN := Nat.mod_lt cn (show 0 < N by omega)
  obtain ⟨x, hx⟩ : ∃ x, cn % N = x := ⟨_, rfl⟩
  rw [hx] at hxN ⊢
  refine WD.call (by first | exact gN | exact gS rfl) rfl rfl (CloneO_fs hH6 hSv hvo (by omega) fun h => hv0 (List.length_eq_zero_iff.1 (by rw [← hvl, h]; rfl))) ?_
  rintro vc H7 ⟨Mc, n7, hOc, hn7, hH7⟩
  clear hH6
  have hm7 := List.mem_append_right Mc hmF
  refine ⟨zSt, ?_⟩
  refine WD.bldS (by first | exact gN | exact gS rfl) rfl hH7 (vs := [(0, .int .i64 (x : Int))]) rfl (cs := [.int .i64 (x : Int)]) (by rfl) rfl (fun H8 hH8 => zSt) fun H8 hH8 => ?_
  clear hH7
  refine WD.call (by first | exact gN | exact gS rfl) rfl rfl (list_fs _ _) ?_
  rintro _ _ ⟨rfl, rfl⟩
  have hm8' := List.mem_cons_of_mem (n7, Ch.row 3 0 0 [Value.int .i64 (x : Int)]) hm7
  refine ⟨zSt, ?_⟩
  have hone8 : [Value.slice (some ⟨n7, 0, some 0⟩) 1 (2 * 1 + 1), Value.slice aw N cw].all one = true := rfl
  have hul := upTo_len N
  rw [show (ints (upTo N)).length = N by simp [upTo]]
  refine WD.bldS (by first | exact gN | exact gS rfl) rfl hH8 (vs := [(0, .slice (some ⟨n7, 0, some 0⟩) 1 (2 * 1 + 1)), (1, .slice aw N cw)]) rfl (cs := [.slice (some ⟨n7, 0, some 0⟩) 1 (2 * 1 + 1), .slice aw N cw]) (by rfl) rfl (fun H9 hH9 => zSt) fun H9 hH9 => ?_
  clear hH8
  have hSx : Sl ((n7, Ch.row 3 0 0 [Value.int .i64 (x : Int)]) :: T) 1 (.slice (some ⟨n7, 0, some 0⟩) 1 (2 * 1 + 1)) (ints [(x : Int)]) :=
    .row (lo := 0) (cs := [.int .i64 (x : Int)]) (.head _) (.row _ _ _ _) (Nat.zero_le _) rfl rfl (by simp) (.inr ⟨1, rfl, Nat.le_refl _⟩)
  refine WD.append (Mx := Mc) (M0 := (n7 + 1, .row 25 0 0 [.slice (some ⟨n7, 0, some 0⟩) 1 (2 * 1 + 1), .slice aw N cw]) :: (n7, .row 3 0 0 [.int .i64 (x : Int)]) :: T) (k := 2) (new := [.slice (some ⟨n7, 0, some 0⟩) 1 (2 * 1 + 1), .slice aw N cw]) (by first | exact gN | exact gS rfl) rfl rfl rfl hOc hH9 (List.Sublist.refl _)
    (List.perm_append_comm_assoc [_, _] Mc T) rfl (by
      have := hH9.readN (b := n7 + 1) (u := 0) (lo := 0) (o := 0) (k := 2 * 1) (.head _) (.row _ _ _ _) (Nat.le_refl _) (by simp)
      simpa [srcCells] using this) rfl (by omega) rfl (Nat.le_refl _) (by omega) (by simp; omega) fun v' Mx' n' H10 hO10 hH10 hn10 => ?_
  clear hH9
  have hm10 : (n2, Ch.row 24 0 0 [.int .i64 (N : Int), v]) ∈ Mx' ++ ((n7 + 1, .row 25 0 0 [.slice (some ⟨n7, 0, some 0⟩) 1 (2 * 1 + 1), .slice aw N cw]) :: (n7, .row 3 0 0 [.int .i64 (x : Int)]) :: T) := List.mem_append_right _ (.tail _ (.tail _ hmF))
  refine ⟨zSt, ?_⟩
  have hS10 := hO10.sl ((n7 + 1, .row 25 0 0 [.slice (some ⟨n7, 0, some 0⟩) 1 (2 * 1 + 1), .slice aw N cw]) :: (n7, .row 3 0 0 [.int .i64 (x : Int)]) :: T)
  obtain ⟨a10, c10, rfl⟩ := hS10.len
  refine WD.op (by first | exact gN | exact gS rfl) rfl (OpV.bldT (vs := [(0, .int .i64 (N : Int)), (1, .slice a10 _ c10)]) rfl (cs := #[.int .i64 (N : Int), .slice a10 _ c10]) (by rfl)) rfl (stands_nil _ _) ?_
  refine WD.new rfl hH10 rfl (fun H11 hH11 => zSt) fun H11 hH11 => ?_
  refine WD.toWR rfl ?_
  have hone10 := hS10.one_
  refine WR.storeAll (by first | exact gN | exact gS rfl) hH11 rfl rfl (ls := [.int .i64 (N : Int), .slice a10 _ c10]) rfl rfl .here (by (repeat' (first | exact all_nil | refine all_cons (by first | rfl | assumption) ?_))) rfl fun H12 hH12 => ?_
  clear hH10 hH11
  have hf2 := more_ok hxN hf0 hl8
  obtain ⟨q10, hq10⟩ : ∃ q10, (vs ++ [Value.slice (some ⟨n7, 0, some 0⟩) 1 (2 * 1 + 1), .slice aw N cw]).length = q10 := ⟨_, rfl⟩
  rw [hq10] at hS10 hone10 hH12 ⊢
  obtain ⟨X, hX⟩ : ∃ X, (n', Ch.row 24 0 0 [.int .i64 (N : Int), .slice a10 q10 c10]) :: (Mx' ++ ((n7 + 1, .row 25 0 0 [.slice (some ⟨n7, 0, some 0⟩) 1 (2 * 1 + 1), .slice aw N cw]) :: (n7, .row 3 0 0 [.int .i64 (x : Int)]) :: T)) = X := ⟨_, rfl⟩
  have hXT : ∀ q ∈ T, q ∈ X := fun q hq => by rw [← hX]; exact .tail _ (List.mem_append_right _ (.tail _ (.tail _ hq)))
  have hX7 : (n7, Ch.row 3 0 0 [.int .i64 (x : Int)]) ∈ X := by rw [← hX]; exact .tail _ (List.mem_append_right _ (.tail _ (.head _)))
  have hm12 : (n', Ch.row 24 0 0 [.int .i64 (N : Int), .slice a10 q10 c10]) ∈ X := by rw [← hX]; exact .head _
  replace hS10 := hS10.cons (p := (n', Ch.row 24 0 0 [.int .i64 (N : Int), .slice a10 q10 c10]))
  rw [hX] at hH12 hS10
  have hSw2 := hSw.mono hXT
  rw [show (ints (upTo N)).length = N by simp [upTo]] at hSw2
  have hR2 : RowsI X (.slice a10 q10 c10) (fs ++ [[(x : Int)], upTo N]) := by
    refine ⟨_, hS10, by simp [hvl], fun i hi => ?_⟩
    rcases Nat.lt_or_ge i vs.length with h | h
    · rw [getD_app_l h, getD_app_l (by omega)]
      exact (hvs i (by omega)).mono hXT
    · have h2 : i = vs.length ∨ i = vs.length + 1 := by simp at hi; omega
      rcases h2 with rfl | rfl
      · rw [getD_right (Nat.le_refl _), hvl, getD_right (Nat.le_refl _)]
        simp only [Nat.sub_self]
        exact hSx.mono fun q hq => by
          rcases List.mem_cons.1 hq with h | h
          · exact h ▸ hX7
          · exact hXT q h
      · rw [getD_right (by omega), hvl, getD_right (by omega)]
        simp only [show fs.length + 1 - fs.length = 1 by omega]
        exact hSw2
  replace hR := hR.mono hXT
  replace hmF := hXT _ hmF
  clear hm10 hm7 hm8' hS10 hO10 hSx hone8 hOc hvo hvs hSv hone10 hX7 hXT hX hSw
  obtain ⟨hl2, hll2⟩ : (fs ++ [[(x : Int)], upTo N]).length ≤ 1000 ∧ ∀ l ∈ fs ++ [[(x : Int)], upTo N], l.length ≤ 1000 := ⟨by simp; omega, fun l hl => form_len (n := (N : Int)) (by omega) ((finds_ok hf2).2.2.2 l hl)⟩
  have hmore := fit_more hxN hf0 hf2
  repeat' (first | refine zP ?_ | refine zA ?_ | (refine zM ?_; intro _ _) | refine zX ?_ | (refine zC ?_; intro _ _ _ _) | (refine zS ?_; intro _ _) | (apply Ws <;> intro hg))
  refine WR.call (by first | exact gN | exact gS rfl) rfl rfl (Count_fs hH12 hR2 hl2 hll2 (N : Int)) ?_
  rintro _ H13 ⟨rfl, n13, hn13, hH13⟩
  clear hH12 hR2
  rw [hf2, if_pos rfl, Int.toNat_natCast, show fitL N (fs ++ [[(x : Int)], upTo N]) = fitL N fs from hmore, hA]
  obtain ⟨vs, hSv, hvl, hvs⟩ := id hR
  repeat' (first | refine zP ?_ | refine zA ?_ | (refine zM ?_; intro _ _) | refine zX ?_ | (refine zC ?_; intro _ _ _ _) | (refine zS ?_; intro _ _) | refine zO ?_ | (apply Ws <;> intro hg))
  refine WC.condP rfl (fun hne => ?_) (fun hne => ?_)
  · have hv00 : vs.length = 0 := by omega
    have hfs : fs = [] := List.length_eq_zero_iff.1 (by omega)
    subst hfs
    have hAN : A = factN N := by rw [← hA, fitL_nil]
    subst hAN
    clear hSv hvs hvl hne hv00
    repeat' (first | refine zP ?_ | refine zA ?_ | (refine zM ?_; intro _ _) | refine zX ?_ | (refine zC ?_; intro _ _ _ _) | (refine zS ?_; intro _ _) | (apply Ws <;> intro hg))
    refine WC.loopX [(1, _), (5, _), (6, _), (69, .int .i64 (N : Int))] (fun k : Nat => [(12, .int .i64 (factN k : Int)), (70, .int .i64 (k : Int))]) [] (fun k H' => H' = H13 ∧ k ≤ N) (fun k => N - k) 0 (by repeat' (first | exact .nil | refine .cons rfl ?_)) rfl ⟨rfl, Nat.zero_le _⟩ ?_
    rintro k HA ⟨rfl, hk⟩
    dsimp only [List.cons_append, List.nil_append]
    repeat' (first | refine zP ?_ | refine zA ?_ | (refine zM ?_; intro _ _) | refine zX ?_ | (refine zC ?_; intro _ _ _ _) | (refine zS ?_; intro _ _) | (apply Ws <;> intro hg))
    refine WC.condP rfl (fun hlt => ?_) (fun hlt => ?_)
    · have hk' : k < N := by omega
      have hfk : factN (k + 1) ≤ 5040 := factN_le (by omega)
      repeat' (first | refine zP ?_ | refine zA ?_ | (refine zM ?_; intro _ _) | refine zX ?_ | (refine zC ?_; intro _ _ _ _) | (refine zS ?_; intro _ _) | (apply Ws <;> intro hg))
      refine WR.op (by first | exact gN | exact gS rfl) rfl (OpV.mul' (c := ((factN (k + 1) : Nat) : Int)) rfl rfl (by rw [factN, Int.natCast_mul, Int.mul_comm]; simp) (by omega)) ?_
      repeat' (first | refine zP ?_ | refine zA ?_ | (refine zM ?_; intro _ _) | refine zX ?_ | (refine zC ?_; intro _ _ _ _) | (refine zS ?_; intro _ _) | (apply Ws <;> intro hg))
      exact Ends.loop (k + 1) (by omega) (by repeat' (first | exact .nil | refine .cons rfl ?_)) rfl ⟨rfl, by omega⟩
    · have hkN : N = k := by omega
      subst hkN
      repeat' (first | refine zP ?_ | refine zA ?_ | (refine zM ?_; intro _ _) | refine zX ?_ | (refine zC ?_; intro _ _ _ _) | (refine zS ?_; intro _ _))
      rw [dec_refl]
      repeat' (first | refine zP ?_ | refine zA ?_ | (refine zM ?_; intro _ _) | refine zX ?_ | (refine zC ?_; intro _ _ _ _) | (refine zS ?_; intro _ _))
      refine WR.call (by first | exact gN | exact gS rfl) rfl rfl (FS.works (C := C) (R := fun v H' => v = .bool true) rfl) ?_
      rintro _ _ rfl
      repeat' (first | refine zP ?_ | refine zA ?_ | (refine zM ?_; intro _ _) | refine zX ?_ | (refine zC ?_; intro _ _ _ _) | (refine zS ?_; intro _ _) | (apply Ws <;> intro hg))
      exact Ends.ret1 rfl rfl
  · have hvp : 1 ≤ vs.length := by omega
    have hvo := one_rows hvl hvs
    repeat' (first | refine zP ?_ | refine zA ?_ | (refine zM ?_; intro _ _) | refine zX ?_ | (refine zC ?_; intro _ _ _ _) | (refine zS ?_; intro _ _) | (apply Ws <;> intro hg))
    refine WR.op (by first | exact gN | exact gS rfl) rfl (OpV.conv u8k i64k rfl (c := (cn : Int)) (IntWalk.i64_in _ (by omega))) ?_
    repeat' (first | refine zP ?_ | refine zA ?_ | (refine zM ?_; intro _ _) | refine zX ?_ | (refine zC ?_; intro _ _ _ _) | (refine zS ?_; intro _ _) | refine zO ?_ | (apply Ws <;> intro hg))
    rw [show (cn : Int) % (vs.length : Int) = ((cn % vs.length : Nat) : Int) by simp]
    have hyl := Nat.mod_lt cn (show 0 < vs.length by omega)
    obtain ⟨y, hy⟩ : ∃ y, cn % vs.length = y := ⟨_, rfl⟩
    rw [hy] at hyl ⊢
    repeat' (first | refine zP ?_ | refine zA ?_ | (refine zM ?_; intro _ _) | refine zX ?_ | (refine zC ?_; intro _ _ _ _) | (refine zS ?_; intro _ _) | (apply Ws <;> intro hg))
    refine WC.regionD ?_
    repeat' (first | refine zD ?_ | (refine zE ?_; intro _ _ _ _))
    rw [show (y : Int) + 1 = ((y + 1 : Nat) : Int) by omega]
    refine WD.call (by first | exact gN | exact gS rfl) rfl rfl (CloneR_fs hH13 hSv hvo (by omega) hvp) ?_
    rintro _ H14 ⟨b14, n14, rfl, hn14, hH14⟩
    have hm14 := List.mem_cons_of_mem (b14, Ch.row 25 0 0 vs) hmF
    refine ⟨zSt, ?_⟩
    refine WD.call (by first | exact gN | exact gS rfl) rfl rfl (DeleteR_fs hH14 hvo (R := vs.length) (.inl ⟨rfl, rfl⟩) (Nat.le_refl _) (show y < y + 1 by omega) (by omega) (by omega)) ?_
    rintro _ H15 ⟨zs, rfl, hH15, hzl, hzt⟩
    clear hH14
    have hm15 := List.mem_cons_of_mem (b14, Ch.row 25 0 0 zs) hmF
    refine ⟨zSt, ?_⟩
    rw [show vs.length - (y + 1 - y) = vs.length - 1 by omega] at hzt ⊢
    rw [List.take_length] at hzt
    refine WD.op (by first | exact gN | exact gS rfl) rfl (OpV.bldT (vs := [(0, .int .i64 (N : Int)), (1, .slice (some ⟨b14, 0, some 0⟩) (vs.length - 1) (roomCode 1 vs.length))]) rfl (cs := #[.int .i64 (N : Int), .slice (some ⟨b14, 0, some 0⟩) (vs.length - 1) (roomCode 1 vs.length)]) (by rfl)) rfl (stands_nil _ _) ?_
    refine WD.new rfl hH15 rfl (fun H16 hH16 => zSt) fun H16 hH16 => ?_
    refine WD.toWR rfl ?_
    refine WR.storeAll (by first | exact gN | exact gS rfl) hH16 rfl rfl (ls := [.int .i64 (N : Int), .slice (some ⟨b14, 0, some 0⟩) (vs.length - 1) (roomCode 1 vs.length)]) rfl rfl .here (by (repeat' (first | exact all_nil | refine all_cons (by first | rfl | assumption) ?_))) rfl fun H17 hH17 => ?_
    clear hH15 hH16 hH13
    have hf3 := less_ok (gs := fs.take y ++ fs.drop (y + 1)) hf0 (fun l hl => by
      rcases List.mem_append.1 hl with h | h
      · exact List.mem_of_mem_take h
      · exact List.mem_of_mem_drop h) (by simp; omega)
    have hle := fit_less hf0 hf3 (fun l hl => by
      rcases List.mem_append.1 hl with h | h
      · exact List.mem_of_mem_take h
      · exact List.mem_of_mem_drop h)
    rw [hA] at hle
    have hcut : ∀ {α : Type} (a : α) (l : List α) (i : Nat), y < l.length → i + 1 < l.length → (l.take y ++ l.drop (y + 1)).getD i a = if i < y then l.getD i a else l.getD (i + 1) a := fun a l i h1 h2 => by
      by_cases h : i < y
      · rw [if_pos h, getD_app_l (by simp; omega), getD_take h]
      · rw [if_neg h, getD_right (by simp; omega), List.length_take, Nat.min_eq_left (by omega)]
        simp only [List.getD_eq_getElem?_getD, List.getElem?_drop]
        congr 2; omega
    have hSz : Sl ((n14, Ch.row 24 0 0 [.int .i64 (N : Int), .slice (some ⟨b14, 0, some 0⟩) (vs.length - 1) (roomCode 1 vs.length)]) :: (b14, Ch.row 25 0 0 zs) :: X) 1 (.slice (some ⟨b14, 0, some 0⟩) (vs.length - 1) (roomCode 1 vs.length)) (vs.take y ++ vs.drop (y + 1)) := by
      have hcl : (vs.take y ++ vs.drop (y + 1)).length = vs.length - 1 := by simp; omega
      refine .row (lo := 0) (cs := zs) (.tail _ (.head _)) (.row _ _ _ _) (Nat.zero_le _) (by rw [hcl]; omega) ?_ (by rw [hcl]; omega) (.inl (.inr ⟨_, rfl, by omega⟩))
      rw [hcl, Nat.sub_zero, List.drop_zero]; exact hzt
    have hXX : ∀ q ∈ X, q ∈ (n14, Ch.row 24 0 0 [.int .i64 (N : Int), .slice (some ⟨b14, 0, some 0⟩) (vs.length - 1) (roomCode 1 vs.length)]) :: (b14, Ch.row 25 0 0 zs) :: X := fun q hq => .tail _ (.tail _ hq)
    have hm17 : (n14, Ch.row 24 0 0 [.int .i64 (N : Int), .slice (some ⟨b14, 0, some 0⟩) (vs.length - 1) (roomCode 1 vs.length)]) ∈ (n14, Ch.row 24 0 0 [.int .i64 (N : Int), .slice (some ⟨b14, 0, some 0⟩) (vs.length - 1) (roomCode 1 vs.length)]) :: (b14, Ch.row 25 0 0 zs) :: X := .head _
    have hR3 : RowsI ((n14, Ch.row 24 0 0 [.int .i64 (N : Int), .slice (some ⟨b14, 0, some 0⟩) (vs.length - 1) (roomCode 1 vs.length)]) :: (b14, Ch.row 25 0 0 zs) :: X) (.slice (some ⟨b14, 0, some 0⟩) (vs.length - 1) (roomCode 1 vs.length)) (fs.take y ++ fs.drop (y + 1)) := by
      refine ⟨_, hSz, by simp; omega, fun i hi => ?_⟩
      have hi2 : i + 1 < fs.length := by simp at hi; omega
      rw [hcut _ _ _ (by omega) (by omega), hcut _ _ _ (by omega) (by omega)]
      split
      · exact (hvs i (by omega)).mono hXX
      · exact (hvs (i + 1) (by omega)).mono hXX
    replace hmF := hXX _ hmF
    clear hSz hSv hvs hcut hzt hzl hm14 hm15 hvo
    generalize (n14, Ch.row 24 0 0 [.int .i64 (N : Int), .slice (some ⟨b14, 0, some 0⟩) (vs.length - 1) (roomCode 1 vs.length)]) :: (b14, Ch.row 25 0 0 zs) :: X = Y at hH17 hR3 hmF hm17
    repeat' (first | refine zP ?_ | refine zA ?_ | (refine zM ?_; intro _ _) | refine zX ?_ | (refine zC ?_; intro _ _ _ _) | (refine zS ?_; intro _ _) | (apply Ws <;> intro hg))
    refine WR.call (by first | exact gN | exact gS rfl) rfl rfl (Count_fs hH17 hR3 (by simp; omega) (fun l hl => form_len (n := (N : Int)) (by omega) ((finds_ok hf3).2.2.2 l hl)) (N : Int)) ?_
    rintro _ H18 ⟨rfl, n18, hn18, hH18⟩
    clear hH17
    have hB2 := fitL_len (N := N) (fs := fs.take y ++ fs.drop (y + 1)) (by omega)
    rw [hf3, if_pos rfl, Int.toNat_natCast]
    generalize (fitL N (fs.take y ++ fs.drop (y + 1))).length = B at hle hB2
    have hev : N = 1 ∨ A % 2 = 0 := by
      rcases Nat.lt_or_ge N 2 with h | h
      · left; omega
      · right; rw [← hA]; exact fit_even hf0 h
    have hev2 : N = 1 ∨ (A : Int) % 2 = 0 := by omega
    clear hev hR3 hn18
    rcases Nat.decEq N 1 with h1N | h1N
    · have hev3 : (A : Int) % 2 = 0 := by omega
      repeat' (first | refine zP ?_ | refine zA ?_ | (refine zM ?_; intro _ _) | refine zX ?_ | (refine zC ?_; intro _ _ _ _) | (refine zS ?_; intro _ _) | refine zO ?_ | (apply Ws <;> intro hg))
      refine WR.call (by first | exact gN | exact gS rfl) rfl rfl (FS.works (C := C) (R := fun v H' => v = .bool true) rfl) ?_
      rintro _ _ rfl
      repeat' (first | refine zP ?_ | refine zA ?_ | (refine zM ?_; intro _ _) | refine zX ?_ | (refine zC ?_; intro _ _ _ _) | (refine zS ?_; intro _ _) | refine zO ?_ | (apply Ws <;> intro hg))
      exact Ends.ret1 rfl rfl
    · repeat' (first | refine zP ?_ | refine zA ?_ | (refine zM ?_; intro _ _) | refine zX ?_ | (refine zC ?_; intro _ _ _ _) | (refine zS ?_; intro _ _) | refine zO ?_ | (apply Ws <;> intro hg))
      refine WR.call (by first | exact gN | exact gS rfl) rfl rfl (FS.works (C := C) (R := fun v H' => v = .bool true) rfl) ?_
      rintro _ _ rfl
      repeat' (first | refine zP ?_ | refine zA ?_ | (refine zM ?_; intro _ _) | refine zX ?_ | (refine zC ?_; intro _ _ _ _) | (refine zS ?_; intro _ _) | refine zO ?_ | (apply Ws <;> intro hg))
      exact Ends.ret1 rfl rfl
end Go.Proofs.Ytckpocjeikkblaa.St
