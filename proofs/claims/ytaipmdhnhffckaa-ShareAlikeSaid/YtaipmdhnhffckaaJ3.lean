/- Texts of the law, joined. -/
import Derived.Test.YtaipmdhnhffckaaJ2
/- All finders have the same values: the law. -/
namespace Go.Proofs.Ytaipmdhnhffckaa.Sh
open Go Go.Abs Go.Mth
set_option linter.unusedVariables false
set_option linter.unusedSimpArgs false
/-- All pairs before a place. -/
def twoAll (q : Nat → Nat → Bool) (n i j : Nat) : Bool := (List.range i).all (fun a => (List.range n).all (q a)) && (List.range j).all (q i)
theorem two_succ (q : Nat → Nat → Bool) (n i j : Nat) : twoAll q n i (j + 1) = (twoAll q n i j && q i j) := by simp [twoAll, List.range_succ, Bool.and_assoc]
theorem two_next (q : Nat → Nat → Bool) (n i : Nat) : twoAll q n (i + 1) 0 = twoAll q n i n := by simp [twoAll, List.range_succ]
theorem two_iff {q : Nat → Nat → Bool} {n : Nat} : twoAll q n n 0 = true ↔ ∀ a b, a < n → b < n → q a b = true := by
  simp only [twoAll, List.range_zero, List.all_nil, Bool.and_true, List.all_eq_true, List.mem_range]
  exact ⟨fun h a b ha hb => h a ha b hb, fun h a ha b hb => h a b ha hb⟩
/-- The greatest thing of a share. -/
def topTo (f : List Nat) (s : Nat) : Nat → Nat
  | 0 => 0
  | k + 1 => max (topTo f s k) (if s.testBit k then f.getD k 0 else 0)
theorem topTo_or {f : List Nat} {s j : Nat} (hs : s.testBit j = false) : ∀ k, topTo f (s ||| 2 ^ j) k = max (topTo f s k) (if j < k then f.getD j 0 else 0)
  | 0 => by simp [topTo]
  | k + 1 => by
    show max (topTo f (s ||| 2 ^ j) k) (if (s ||| 2 ^ j).testBit k = true then _ else _) = max (max (topTo f s k) (if s.testBit k = true then _ else _)) _
    rw [topTo_or hs k, Nat.testBit_or, Nat.testBit_two_pow]
    by_cases h : j = k
    · subst h
      simp [hs]
    · rw [decide_eq_false h, Bool.or_false]
      by_cases h2 : j < k
      · rw [if_pos h2, if_pos (show j < k + 1 by omega)]; omega
      · rw [if_neg h2, if_neg (show ¬ j < k + 1 by omega)]; omega
def topN (f : List Nat) (s : Nat) : Nat := topTo f s f.length
theorem top_or {f : List Nat} {s j : Nat} (hs : s.testBit j = false) (hj : j < f.length) : topN f (s ||| 2 ^ j) = max (topN f s) (f.getD j 0) := by
  unfold topN
  rw [topTo_or hs, if_pos hj]
theorem top_zero (f : List Nat) : topN f 0 = 0 := by
  unfold topN
  generalize f.length = k
  induction k with
  | zero => rfl
  | succ k ih => simp [topTo, ih]
theorem top_ge {f : List Nat} {s j : Nat} (hb : s.testBit j = true) : ∀ {k : Nat}, j < k → f.getD j 0 ≤ topTo f s k
  | 0, h => absurd h (Nat.not_lt_zero _)
  | k + 1, h => by
    show _ ≤ max (topTo f s k) (if s.testBit k = true then f.getD k 0 else 0)
    by_cases e : j = k
    · subst e; rw [if_pos hb]; omega
    · have := top_ge (f := f) hb (k := k) (by omega); omega
theorem top_is {f : List Nat} {s : Nat} : ∀ {k : Nat}, topTo f s k = 0 ∨ ∃ j, j < k ∧ s.testBit j = true ∧ f.getD j 0 = topTo f s k
  | 0 => .inl rfl
  | k + 1 => by
    show max (topTo f s k) (if s.testBit k = true then f.getD k 0 else 0) = 0 ∨ ∃ j, j < k + 1 ∧ s.testBit j = true ∧ f.getD j 0 = max (topTo f s k) (if s.testBit k = true then f.getD k 0 else 0)
    by_cases hb : s.testBit k = true
    · rw [if_pos hb]
      rcases Nat.le_total (topTo f s k) (f.getD k 0) with h | h
      · exact .inr ⟨k, by omega, hb, by omega⟩
      · rcases top_is (f := f) (s := s) (k := k) with h1 | ⟨j, h1, h2, h3⟩
        · left; omega
        · exact .inr ⟨j, by omega, h2, by omega⟩
    · rw [if_neg hb]
      rcases top_is (f := f) (s := s) (k := k) with h1 | ⟨j, h1, h2, h3⟩
      · left; omega
      · exact .inr ⟨j, by omega, h2, by omega⟩
theorem top_le_wor {f : List Nat} {s : Nat} : topN f s ≤ wor f s := by
  unfold topN wor
  generalize f.length = k
  induction k with
  | zero => exact Nat.le_refl _
  | succ k ih => simp only [topTo, worTo]; omega
/-- Not envied by more than one thing, by the greatest thing. -/
theorem much_top {f : List Nat} {a b m : Nat} (hf : f.length = m) (hm : m ≤ 6) (hb : b < 2 ^ m) : muchB f a b = false ↔ wor f b - topN f b ≤ wor f a := by
  rw [not_much]
  have htw := top_le_wor (f := f) (s := b)
  constructor
  · rintro (h | ⟨k, hk, hbk, h⟩)
    · omega
    · have hkm : k < m := by
        rcases Nat.lt_or_ge k m with h | h
        · exact h
        · rw [Nat.testBit_lt_two_pow (Nat.lt_of_lt_of_le hb (Nat.pow_le_pow_right (by omega) h))] at hbk; cases hbk
      have := top_ge (f := f) hbk (k := f.length) (by omega)
      unfold topN
      omega
  · intro h
    rcases top_is (f := f) (s := b) (k := f.length) with h1 | ⟨j, h1, h2, h3⟩
    · left
      have : topN f b = 0 := h1
      omega
    · right
      exact ⟨j, by omega, h2, by unfold topN at h; omega⟩
/-- Owners by numbers. -/
def byL (bs : List Nat) (n m : Nat) : List Nat := (List.range m).map fun k => bs.getD k 0 % n
theorem byL_len (bs : List Nat) (n m : Nat) : (byL bs n m).length = m := by simp [byL]
theorem byL_succ (bs : List Nat) (n k : Nat) : byL bs n (k + 1) = byL bs n k ++ [bs.getD k 0 % n] := by simp [byL, List.range_succ]
theorem byL_lt {bs : List Nat} {n m : Nat} (h : 1 ≤ n) : ∀ x ∈ byL bs n m, x < n := fun x hx => by
  obtain ⟨k, _, rfl⟩ := List.mem_map.1 hx
  exact Nat.mod_lt _ (by omega)
theorem okd_of {o : List Nat} {n m : Nat} (h : o.length = m) (hb : ∀ x ∈ o, x < n) : OKD (IL o) n m := ⟨by simp [h], fun x hx => by
  obtain ⟨y, hy, rfl⟩ := List.mem_map.1 hx
  have := hb y hy
  omega⟩
theorem bytes_nat {hs : List Int} (h : ∀ x ∈ hs, 0 ≤ x ∧ x ≤ 255) : bytesV hs = numsK .u8 (hs.map Int.toNat) := by
  rw [bytesV, numsK, List.map_map]
  refine List.map_congr_left fun x hx => ?_
  have := (h x hx).1
  show Value.int .u8 x = Value.int .u8 (x.toNat : Nat)
  rw [Int.toNat_of_nonneg this]
theorem nat_le {hs : List Int} (h : ∀ x ∈ hs, 0 ≤ x ∧ x ≤ 255) : ∀ x ∈ hs.map Int.toNat, x ≤ 255 := fun x hx => by
  obtain ⟨y, hy, rfl⟩ := List.mem_map.1 hx
  have := h y hy
  omega
theorem Sl.asInts {M : HL} {v : Value} {l : List Nat} (h : Sl M 1 v (nodes l)) : Sl M 1 v (ints (IL l)) := by rw [← nodesI]; exact h
theorem shs_step {n : Nat} {o : List Nat} {k : Nat} (hk : k < o.length) (hx : o.getD k 0 < n) : shs n (IL (o.take (k + 1))) = (shs n (IL (o.take k))).set (o.getD k 0) ((shs n (IL (o.take k))).getD (o.getD k 0) 0 ||| 2 ^ k) := by
  have h1 : o.take (k + 1) = o.take k ++ [o.getD k 0] := by rw [getD_eq hk, List.take_succ_eq_append_getElem hk]
  rw [h1, IL, List.map_append, List.map_singleton, shs_snoc hx, List.length_map, List.length_take, Nat.min_eq_left (by omega)]
theorem shs_bit_take {n : Nat} {o : List Nat} {k j : Nat} (hj : j < n) : ((shs n (IL (o.take k))).getD j 0).testBit k = false := by
  rw [shs_get _ hj]
  refine Nat.testBit_lt_two_pow (Nat.lt_of_lt_of_le (shr_lt _ _) (Nat.pow_le_pow_right (by omega) ?_))
  rw [List.length_map, List.length_take]; omega
structure KST where
  k : Nat
  S : List Nat
  T : List Nat
end Go.Proofs.Ytaipmdhnhffckaa.Sh

namespace Go.Proofs.Ytaipmdhnhffckaa.Sh
open Go Go.Abs Go.Mth
set_option linter.unusedVariables false
set_option linter.unusedSimpArgs false
theorem own_row {e N : Nat} {v : Value} {ws : List Value} {Mo : HL} (h : OwnR e 1 v ws Mo) (hl : ws.length = N) : ∃ b u o, v = .slice (some ⟨b, o, some u⟩) N 2 ∧ Mo = [(b, .row e u o ws)] := by
  cases h with
  | @mk b u o len _ hw =>
    have : len = N := by omega
    subst this
    exact ⟨b, u, o, rfl, rfl⟩
theorem sl_row {M : HL} {e b u o N : Nat} {ws : List Value} (hl : ws.length = N) : Sl ((b, .row e u o ws) :: M) 1 (.slice (some ⟨b, o, some u⟩) N 2) ws := by
  subst hl
  exact .row (.head _) (.row _ _ _ _) (Nat.le_refl _) (by omega) (by rw [Nat.sub_self, List.drop_zero, List.take_length]) (by omega) (.inl (.inl rfl))
theorem nodes_rep (n : Nat) : (List.replicate n [Value.int .i64 0]).flatten = nodes (List.replicate n 0) := by
  induction n with
  | zero => rfl
  | succ n ih => simp [List.replicate_succ, ih]
theorem alike_get {f : List Nat} {N i : Nat} (h : i < N) : (List.replicate N f).getD i [] = f := by rw [getD_eq (by simpa using h), List.getElem_replicate]
theorem alike_ok {vs : List (List Nat)} {N m : Nat} (h : OKV vs N m) : OKV (List.replicate N (vs.getD 0 [])) N m :=
  ⟨by simp, h.pos, h.n4, h.m6, fun l hl => by rw [(List.mem_replicate.1 hl).2]; exact h.rowLen h.pos, fun l hl => by rw [(List.mem_replicate.1 hl).2]; exact h.rowBd h.pos⟩
/-- With the same values for all. -/
theorem alike_pos {f : List Nat} {ss : List Nat} {N m : Nat} (hf : f.length = m) (hm : m ≤ 6) (hs : ∀ j, j < N → ss.getD j 0 < 2 ^ m) : decide (0 < fairN (List.replicate N f) ss) = twoAll (fun a b => decide (wor f (ss.getD b 0) - topN f (ss.getD b 0) ≤ wor f (ss.getD a 0))) N N 0 := by
  rw [Bool.eq_iff_iff, decide_eq_true_eq, two_iff, fair_pos, List.length_replicate]
  refine forall_congr' fun a => forall_congr' fun b => forall_congr' fun ha => forall_congr' fun hb => ?_
  rw [decide_eq_true_eq, ← much_top hf hm (hs b hb)]
  unfold muchP
  rw [alike_get ha]
theorem alike_two {f : List Nat} {ss : List Nat} {N : Nat} : decide (fairN (List.replicate N f) ss = 2) = twoAll (fun a b => decide (wor f (ss.getD a 0) = wor f (ss.getD b 0))) N N 0 := by
  rw [Bool.eq_iff_iff, decide_eq_true_eq, two_iff, fair_two, List.length_replicate]
  constructor
  · intro h a b ha hb
    have h1 := h a b ha hb
    have h2 := h b a hb ha
    unfold envP envB at h1 h2
    rw [alike_get ha] at h1
    rw [alike_get hb] at h2
    have h1 := of_decide_eq_false h1
    have h2 := of_decide_eq_false h2
    exact decide_eq_true (by omega)
  · intro h a b ha hb
    have := of_decide_eq_true (h a b ha hb)
    unfold envP envB
    rw [alike_get ha]
    exact decide_eq_false (by omega)
attribute [local irreducible] gOK WS WC WR WD Ends FS YS OpV seqK blockK loopK midK retK rdK asgK rangeEnd sat Cell
section
variable {M : HL} {n0 : Nat} {H : Heap}
set_option maxHeartbeats 8000000 in
theorem ShareAlike_fs (hH : hasH M n0 H) {a b : Int} {hs bs : List Int} (ha : 0 ≤ a ∧ a ≤ 255) (hb : 0 ≤ b ∧ b ≤ 255) (hl : hs.length = 24) (hu : ∀ x ∈ hs, 0 ≤ x ∧ x ≤ 255) (hbl : bs.length = 6) (hbb : ∀ x ∈ bs, 0 ≤ x ∧ x ≤ 255) :
    FS C 15 [.agg (heapV a b hs).toArray, .agg (bytesV bs).toArray] H (fun e H' => e = .bool true) := by
  have hone := heap_one a b hs
  have hone2 := bytes_one bs
  refine FS.intro (pf := pf15) rfl rfl rfl ?_
  repeat' (first | refine zP ?_ | refine zA ?_ | (refine zM ?_; intro _ _) | refine zX ?_ | (refine zC ?_; intro _ _ _ _) | (refine zS ?_; intro _ _))
  rename_i H1 hH1 H2 hH2
  refine WR.op (by first | exact gN | exact gS rfl) rfl (OpV.loadAll (k := 26) rfl hH2 (.tail _ (.head _)) (.row _ _ _ _) (by simp [heapV, hl])) ?_
  refine WR.call (by first | exact gN | exact gS rfl) rfl rfl (made_fs hH2 ha hb hl hu (fi := 4) (th := 6) (most := 20) (by omega) (by omega) (by omega)) ?_
  rintro _ H3 ⟨ws, Mo, Mi, n3, hO, hR, hn3, hH3⟩
  clear hH1 hH2
  have hV := made_ok (a := a) (b := b) (hs := hs) (fi := 4) (th := 6) (most := 20) (by omega) (by omega) (by omega)
  rw [bytes_nat hbb] at hH3 hR
  have hbn := nat_le hbb
  have hbnl : (bs.map Int.toNat).length = 6 := by simp [hbl]
  generalize bs.map Int.toNat = bn at hH3 hR hbn hbnl
  have hmb : (n0 + 1, Ch.row 46 0 0 (numsK .u8 bn)) ∈ Mi ++ (n0 + 1, .row 46 0 0 (numsK .u8 bn)) :: (n0, .row 49 0 0 (heapV a b hs)) :: M := List.mem_append_right _ (.head _)
  generalize Mi ++ (n0 + 1, Ch.row 46 0 0 (numsK .u8 bn)) :: (n0, .row 49 0 0 (heapV a b hs)) :: M = T at hH3 hR hmb
  generalize madeVs a b hs 4 6 20 = vs at hR hV
  generalize 1 + a.toNat % 4 = N at hV
  generalize b.toNat % (6 + 1) = m at hV
  have hwl : ws.length = N := by rw [hR.1, hV.len]
  have hN1 := hV.pos
  have hN4 := hV.n4
  have hm6 := hV.m6
  obtain ⟨pb, pu, po, rfl, rfl⟩ := own_row hO hwl
  clear hO hone hone2
  simp only [List.cons_append, List.nil_append] at hH3
  repeat' (first | refine zP ?_ | refine zA ?_ | (refine zM ?_; intro _ _) | refine zX ?_ | (refine zC ?_; intro _ _ _ _) | (refine zS ?_; intro _ _) | (apply Ws <;> intro hg))
  refine WC.loopX [(2, _), (3, _), (5, _), (22, _)] (fun s : Nat × List Value => [(23, .int .i64 (s.1 : Int))]) []
    (fun s H' => s.1 ≤ N ∧ s.2.length = N ∧ (∀ i, i < N → s.2.getD i undef = if i < s.1 then ws.getD 0 undef else ws.getD i undef) ∧ hasH ((pb, .row 23 pu po s.2) :: T) n3 H') (fun s => N - s.1) (0, ws) (by repeat' (first | exact .nil | refine .cons rfl ?_)) rfl
    ⟨Nat.zero_le _, hwl, fun i hi => by simp, hH3⟩ ?_
  clear hH3
  rintro ⟨k, us⟩ H4 ⟨hk, hul, hus, hH4⟩
  simp only at hk hul hus hH4
  dsimp only [List.cons_append, List.nil_append]
  repeat' (first | refine zP ?_ | refine zA ?_ | (refine zM ?_; intro _ _) | refine zX ?_ | (refine zC ?_; intro _ _ _ _) | (refine zS ?_; intro _ _) | (apply Ws <;> intro hg))
  refine WC.condP rfl (fun hlt => ?_) (fun hlt => ?_)
  · have hk' : k < N := by omega
    have hu0 : us.getD 0 undef = ws.getD 0 undef := by rw [hus 0 (by omega)]; split <;> rfl
    have hone : one (us.getD 0 undef) = true := by rw [hu0]; exact (hR.2 0 (by rw [hV.len]; omega)).one_
    repeat' (first | refine zP ?_ | refine zA ?_ | (refine zM ?_; intro _ _) | refine zX ?_ | (refine zC ?_; intro _ _ _ _) | (refine zS ?_; intro _ _) | (apply Ws <;> intro hg))
    refine WR.op (by first | exact gN | exact gS rfl) rfl (OpV.load1 (v := us.getD 0 undef) rfl hH4 (.head _) (.row _ _ _ _) (by omega) (by rw [show po + 0 * 1 - po = 0 by omega]; exact vals_get (by omega))) ?_
    repeat' (first | refine zP ?_ | refine zA ?_ | (refine zM ?_; intro _ _) | refine zX ?_ | (refine zC ?_; intro _ _ _ _) | (refine zS ?_; intro _ _) | (apply Ws <;> intro hg))
    refine WR.store1 (cs' := us.set k (us.getD 0 undef)) (by first | exact gN | exact gS rfl) hH4 rfl rfl hone .here (by omega) (by omega) (by congr 1; omega) fun H5 hH5 => ?_
    repeat' (first | refine zP ?_ | refine zA ?_ | (refine zM ?_; intro _ _) | refine zX ?_ | (refine zC ?_; intro _ _ _ _) | (refine zS ?_; intro _ _) | (apply Ws <;> intro hg))
    rw [show (k : Int) + 1 = ((k + 1 : Nat) : Int) by omega]
    refine Ends.loop (k + 1, us.set k (us.getD 0 undef)) (by simp only; omega) (by repeat' (first | exact .nil | refine .cons rfl ?_)) rfl ⟨hk', by simpa using hul, fun i hi => ?_, hH5⟩
    simp only
    rw [getD_set' (by omega)]
    by_cases e : i = k
    · rw [if_pos e, if_pos (by omega), hu0]
    · rw [if_neg e, hus i hi]
      by_cases e2 : i < k
      · rw [if_pos e2, if_pos (by omega)]
      · rw [if_neg e2, if_neg (by omega)]
  have hkN : k = N := by omega
  rw [hkN] at hus
  clear hlt hk hkN
  replace hus : ∀ i, i < N → us.getD i undef = ws.getD 0 undef := fun i hi => by rw [hus i hi, if_pos hi]
  obtain ⟨f, hf⟩ : ∃ f, f = vs.getD 0 [] := ⟨_, rfl⟩
  have hVa := alike_ok hV
  have hfl := hV.rowLen (i := 0) (by omega)
  have hfb := hV.rowBd (i := 0) (by omega)
  rw [← hf] at hVa hfl hfb
  have hRa : RowsN ((pb, .row 23 pu po us) :: T) us (List.replicate N f) := ⟨by simp [hul], fun i hi => by
    have hi' : i < N := by simpa using hi
    rw [hus i hi', alike_get hi', hf]
    exact (hR.2 0 (by rw [hV.len]; omega)).cons⟩
  have hSv : Sl ((pb, .row 23 pu po us) :: T) 1 (.slice (some ⟨pb, po, some pu⟩) N 2) us := sl_row hul
  replace hmb := List.mem_cons_of_mem (pb, Ch.row 23 pu po us) hmb
  clear hR hus hV hf
  generalize (pb, Ch.row 23 pu po us) :: T = U at hH4 hRa hSv hmb
  generalize Value.slice (some ⟨pb, po, some pu⟩) N 2 = v at hSv ⊢
  have hr0 := hRa.2 0 (by simp; omega)
  rw [alike_get (by omega)] at hr0
  repeat' (first | refine zP ?_ | refine zA ?_ | (refine zM ?_; intro _ _) | refine zX ?_ | (refine zC ?_; intro _ _ _ _) | (refine zS ?_; intro _ _) | (apply Ws <;> intro hg))
  rw [hfl]
  refine WC.loopX [(2, _), (3, _), (5, _), (36, _)] (fun s : KV => [(7, s.v), (37, .int .i64 (s.k : Int))]) []
    (fun s H' => s.k ≤ m ∧ Own 3 1 s.v (nodes (byL bn N s.k)) s.Mx ∧ hasH (s.Mx ++ U) s.n H') (fun s => m - s.k) ⟨0, .slice none 0 0, [], n3⟩ (by repeat' (first | exact .nil | refine .cons rfl ?_)) rfl
    ⟨Nat.zero_le _, .nil, hH4⟩ ?_
  clear hH4
  rintro ⟨j, w, Mx, n4⟩ H5 ⟨hj, hOw, hH5⟩
  simp only at hj hOw hH5
  have hSv5 := hSv.mono (M' := Mx ++ U) fun q hq => List.mem_append_right _ hq
  have hmb5 := List.mem_append_right Mx hmb
  dsimp only [List.cons_append, List.nil_append]
  repeat' (first | refine zP ?_ | refine zA ?_ | (refine zM ?_; intro _ _) | refine zX ?_ | (refine zC ?_; intro _ _ _ _) | (refine zS ?_; intro _ _) | (apply Ws <;> intro hg))
  refine WC.condP rfl (fun hlt => ?_) (fun hlt => ?_)
  · have hj' : j < m := by omega
    have hxb := getD_le hbn j
    repeat' (first | refine zP ?_ | refine zA ?_ | (refine zM ?_; intro _ _) | refine zX ?_ | (refine zC ?_; intro _ _ _ _) | (refine zS ?_; intro _ _) | (apply Ws <;> intro hg))
    refine WR.op (by first | exact gN | exact gS rfl) rfl (OpV.conv u8k i64k rfl (c := (bn.getD j 0 : Int)) (IntWalk.i64_in _ (by omega))) ?_
    repeat' (first | refine zP ?_ | refine zA ?_ | (refine zM ?_; intro _ _) | refine zX ?_ | (refine zC ?_; intro _ _ _ _) | (refine zS ?_; intro _ _) | (apply Ws <;> intro hg))
    rw [hul]
    repeat' (first | refine zP ?_ | refine zA ?_ | (refine zM ?_; intro _ _) | refine zX ?_ | (refine zC ?_; intro _ _ _ _) | (refine zS ?_; intro _ _) | (apply Ws <;> intro hg))
    rw [show ((bn.getD j 0 : Nat) : Int) % (N : Int) = ((bn.getD j 0 % N : Nat) : Int) by simp]
    refine WR.append1F [] Mx U rfl rfl rfl rfl hOw hH5 (new := [.int .i64 (bn.getD j 0 % N : Nat)]) (by rfl) rfl rfl (Nat.le_refl _) (by omega) (by simp [byL]; omega) fun v3 M3 n6 H6 hO3 hH6 hn6 => ?_
    repeat' (first | refine zP ?_ | refine zA ?_ | (refine zM ?_; intro _ _) | refine zX ?_ | (refine zC ?_; intro _ _ _ _) | (refine zS ?_; intro _ _) | (apply Ws <;> intro hg))
    rw [show (j : Int) + 1 = ((j + 1 : Nat) : Int) by omega]
    refine Ends.loop ⟨j + 1, v3, M3, n6⟩ (by simp only; omega) (by repeat' (first | exact .nil | refine .cons rfl ?_)) rfl ⟨hj', ?_, hH6⟩
    simp only
    rw [byL_succ]
    simpa [nodes] using hO3
  have hjm : j = m := by omega
  subst hjm
  have hSw := hOw.sl U
  clear hlt hOw hmb hmb5 hj
  replace hSv := hSv5
  replace hRa := hRa.mono (M' := Mx ++ U) fun q hq => List.mem_append_right _ hq
  replace hr0 := hr0.mono (M' := Mx ++ U) fun q hq => List.mem_append_right _ hq
  clear hSv5
  have hol := byL_len bn N j
  have hob := byL_lt (bs := bn) (m := j) hN1
  generalize byL bn N j = o at hSw hol hob
  generalize Mx ++ U = W at hH5 hSw hSv hRa hr0
  repeat' (first | refine zP ?_ | refine zA ?_ | (refine zM ?_; intro _ _) | refine zX ?_ | (refine zC ?_; intro _ _ _ _) | (refine zS ?_; intro _ _) | (apply Ws <;> intro hg))
  rw [hul]
  refine WR.mkSL (by first | exact gN | exact gS rfl) rfl hH5 rfl rfl (by omega) rfl fun H6 hH6 => ?_
  have hSvc := hSv.cons (p := (n4, .row 3 0 0 (List.replicate N [Value.int .i64 0]).flatten))
  repeat' (first | refine zP ?_ | refine zA ?_ | (refine zM ?_; intro _ _) | refine zX ?_ | (refine zC ?_; intro _ _ _ _) | (refine zS ?_; intro _ _) | (apply Ws <;> intro hg))
  rw [hul]
  refine WR.mkSL (by first | exact gN | exact gS rfl) rfl hH6 rfl rfl (by omega) rfl fun H7 hH7 => ?_
  clear hH5 hH6 hSvc
  rw [nodes_rep] at hH7
  have hc : ∀ {S T : List Nat}, Sl ((n4 + 1, .row 3 0 0 (nodes T)) :: (n4, .row 3 0 0 (nodes S)) :: W) 1 w (nodes o) ∧ Sl ((n4 + 1, .row 3 0 0 (nodes T)) :: (n4, .row 3 0 0 (nodes S)) :: W) 1 v us ∧ Sl ((n4 + 1, .row 3 0 0 (nodes T)) :: (n4, .row 3 0 0 (nodes S)) :: W) 1 (us.getD 0 undef) (nodes f) := fun {S T} => ⟨hSw.cons.cons, hSv.cons.cons, hr0.cons.cons⟩
  obtain ⟨c1, c2, c3⟩ := hc (S := List.replicate N 0) (T := List.replicate N 0)
  repeat' (first | refine zP ?_ | refine zA ?_ | (refine zM ?_; intro _ _) | refine zX ?_ | (refine zC ?_; intro _ _ _ _) | (refine zS ?_; intro _ _) | (apply Ws <;> intro hg))
  rw [hol]
  clear c1 c2 c3
  refine WC.loopX [(2, _), (3, _), (5, _), (7, _), (9, _), (10, _), (57, _), (58, _)] (fun s : KST => [(59, .int .i64 (s.k : Int))]) []
    (fun s H' => s.k ≤ j ∧ s.S = (shs N (IL (o.take s.k))).map (wor f) ∧ s.T = (shs N (IL (o.take s.k))).map (topN f) ∧ hasH ((n4 + 1, .row 3 0 0 (nodes s.T)) :: (n4, .row 3 0 0 (nodes s.S)) :: W) (n4 + 2) H') (fun s => j - s.k) ⟨0, List.replicate N 0, List.replicate N 0⟩ (by repeat' (first | exact .nil | refine .cons rfl ?_)) rfl
    ⟨Nat.zero_le _, by simp [shs_nil, wor_zero], by simp [shs_nil, top_zero], hH7⟩ ?_
  clear hH7
  rintro ⟨k, S, T'⟩ H8 ⟨hk, hS, hT, hH8⟩
  simp only at hk hS hT hH8
  obtain ⟨c1, c2, c3⟩ := hc (S := S) (T := T')
  have hSl : S.length = N := by rw [hS, List.length_map, shs_len]
  have hTl : T'.length = N := by rw [hT, List.length_map, shs_len]
  have hSg : ∀ i, i < N → S.getD i 0 = wor f ((shs N (IL (o.take k))).getD i 0) := fun i hi => by rw [hS]; exact map_getD (by rw [shs_len]; exact hi)
  have hTg : ∀ i, i < N → T'.getD i 0 = topN f ((shs N (IL (o.take k))).getD i 0) := fun i hi => by rw [hT]; exact map_getD (by rw [shs_len]; exact hi)
  dsimp only [List.cons_append, List.nil_append]
  repeat' (first | refine zP ?_ | refine zA ?_ | (refine zM ?_; intro _ _) | refine zX ?_ | (refine zC ?_; intro _ _ _ _) | (refine zS ?_; intro _ _) | (apply Ws <;> intro hg))
  refine WC.condP rfl (fun hlt => ?_) (fun hlt => ?_)
  · have hk' : k < j := by omega
    have hx := hob _ (getD_mem (a := 0) (show k < o.length by omega))
    have hS1 := hSg _ hx
    have hT1 := hTg _ hx
    have hw1 := wor_le (s := (shs N (IL (o.take k))).getD (o.getD k 0) 0) hfb (by omega)
    have hfk := getD_le hfb k
    obtain ⟨x, hxe⟩ : ∃ x, o.getD k 0 = x := ⟨_, rfl⟩
    rw [hxe] at hx hS1 hT1 hw1
    have hstep := shs_step (n := N) (o := o) (k := k) (by omega) (by rw [hxe]; exact hx)
    rw [hxe] at hstep
    have hbit := shs_bit_take (n := N) (o := o) (k := k) hx
    have hwo := wor_or (f := f) hbit (by omega)
    have hto := top_or (f := f) hbit (by omega)
    repeat' (first | refine zP ?_ | refine zA ?_ | (refine zM ?_; intro _ _) | refine zX ?_ | (refine zC ?_; intro _ _ _ _) | (refine zS ?_; intro _ _) | (apply Ws <;> intro hg))
    rw [hxe]
    repeat' (first | refine zP ?_ | refine zA ?_ | (refine zM ?_; intro _ _) | refine zX ?_ | (refine zC ?_; intro _ _ _ _) | (refine zS ?_; intro _ _) | (apply Ws <;> intro hg))
    rw [show ((S.getD x 0 : Nat) : Int) + ((f.getD k 0 : Nat) : Int) = ((S.getD x 0 + f.getD k 0 : Nat) : Int) by omega]
    repeat' (first | refine zP ?_ | refine zA ?_ | (refine zM ?_; intro _ _) | refine zX ?_ | (refine zC ?_; intro _ _ _ _) | (refine zS ?_; intro _ _) | (apply Ws <;> intro hg))
    rw [show max ((T'.getD x 0 : Nat) : Int) ((f.getD k 0 : Nat) : Int) = ((max (T'.getD x 0) (f.getD k 0) : Nat) : Int) by omega]
    repeat' (first | refine zP ?_ | refine zA ?_ | (refine zM ?_; intro _ _) | refine zX ?_ | (refine zC ?_; intro _ _ _ _) | (refine zS ?_; intro _ _) | (apply Ws <;> intro hg))
    rename_i H9 hH9 H10 hH10
    rw [show (k : Int) + 1 = ((k + 1 : Nat) : Int) by omega]
    refine Ends.loop ⟨k + 1, S.set x (S.getD x 0 + f.getD k 0), T'.set x (max (T'.getD x 0) (f.getD k 0))⟩ (by simp only; omega) (by repeat' (first | exact .nil | refine .cons rfl ?_)) rfl ⟨hk', ?_, ?_, hH10⟩
    · simp only
      rw [hstep, List.map_set, hwo, ← hS, hS1]
    · simp only
      rw [hstep, List.map_set, hto, ← hT, hT1]
  have hkj : k = j := by omega
  subst hkj
  clear hlt hk c1 c2 c3
  rw [List.take_of_length_le (by omega)] at hS hT hSg hTg
  have hss : ∀ i, i < N → (shs N (IL o)).getD i 0 < 2 ^ k := fun i hi => shs_bd (by rw [List.length_map]; exact hol) _ (getD_mem (by rw [shs_len]; exact hi))
  have hpos := alike_pos (f := f) (ss := shs N (IL o)) (N := N) hfl hm6 hss
  have htwo := alike_two (f := f) (ss := shs N (IL o)) (N := N)
  obtain ⟨g1, hg1⟩ : ∃ g1, g1 = fun a b => decide (wor f ((shs N (IL o)).getD b 0) - topN f ((shs N (IL o)).getD b 0) ≤ wor f ((shs N (IL o)).getD a 0)) := ⟨_, rfl⟩
  obtain ⟨g2, hg2⟩ : ∃ g2, g2 = fun a b => decide (wor f ((shs N (IL o)).getD a 0) = wor f ((shs N (IL o)).getD b 0)) := ⟨_, rfl⟩
  rw [← hg1] at hpos
  rw [← hg2] at htwo
  have hq1 : ∀ x z, x < N → z < N → decide (((S.getD z 0 : Nat) : Int) - ((T'.getD z 0 : Nat) : Int) ≤ ((S.getD x 0 : Nat) : Int)) = g1 x z := fun x z hx hz => by
    rw [hg1]
    simp only
    rw [decide_eq_decide, hSg z hz, hTg z hz, hSg x hx]; omega
  have hq2 : ∀ x z, x < N → z < N → decide (((S.getD x 0 : Nat) : Int) = ((S.getD z 0 : Nat) : Int)) = g2 x z := fun x z hx hz => by
    rw [hg2]
    simp only
    rw [decide_eq_decide, hSg z hz, hSg x hx]; omega
  have hSle : ∀ z, z < N → S.getD z 0 ≤ 120 ∧ T'.getD z 0 ≤ 120 := fun z hz => by
    have h1 := wor_le (s := (shs N (IL o)).getD z 0) hfb (by omega)
    have h2 := top_le_wor (f := f) (s := (shs N (IL o)).getD z 0)
    rw [hSg z hz, hTg z hz]
    omega
  clear hS hT hSg hTg hss hg1 hg2
  repeat' (first | refine zP ?_ | refine zA ?_ | (refine zM ?_; intro _ _) | refine zX ?_ | (refine zC ?_; intro _ _ _ _) | (refine zS ?_; intro _ _) | (apply Ws <;> intro hg))
  refine WC.loopX [(2, _), (3, _), (5, _), (7, _), (9, _), (10, _), (91, _), (92, _)] (fun s : Nat => [(13, .bool (twoAll g1 N s 0)), (14, .bool (twoAll g2 N s 0)), (93, .int .i64 (s : Int))]) []
    (fun s H' => s ≤ N ∧ hasH ((n4 + 1, .row 3 0 0 (nodes T')) :: (n4, .row 3 0 0 (nodes S)) :: W) (n4 + 2) H') (fun s => N - s) 0 (by repeat' (first | exact .nil | refine .cons rfl ?_)) rfl ⟨Nat.zero_le _, hH8⟩ ?_
  clear hH8
  rintro i H9 ⟨hi, hH9⟩
  dsimp only [List.cons_append, List.nil_append]
  repeat' (first | refine zP ?_ | refine zA ?_ | (refine zM ?_; intro _ _) | refine zX ?_ | (refine zC ?_; intro _ _ _ _) | (refine zS ?_; intro _ _) | (apply Ws <;> intro hg))
  refine WC.condP rfl (fun hlt => ?_) (fun hlt => ?_)
  · have hi' : i < N := by omega
    repeat' (first | refine zP ?_ | refine zA ?_ | (refine zM ?_; intro _ _) | refine zX ?_ | (refine zC ?_; intro _ _ _ _) | (refine zS ?_; intro _ _) | (apply Ws <;> intro hg))
    refine WC.loopX [(2, _), (3, _), (5, _), (7, _), (9, _), (10, _), (15, _), (91, _), (92, _), (93, _), (96, _), (97, _)] (fun s : Nat => [(13, .bool (twoAll g1 N i s)), (14, .bool (twoAll g2 N i s)), (98, .int .i64 (s : Int))]) []
      (fun s H' => s ≤ N ∧ hasH ((n4 + 1, .row 3 0 0 (nodes T')) :: (n4, .row 3 0 0 (nodes S)) :: W) (n4 + 2) H') (fun s => N - s) 0 (by repeat' (first | exact .nil | refine .cons rfl ?_)) rfl ⟨Nat.zero_le _, hH9⟩ ?_
    clear hH9
    rintro z H10 ⟨hz, hH10⟩
    dsimp only [List.cons_append, List.nil_append]
    repeat' (first | refine zP ?_ | refine zA ?_ | (refine zM ?_; intro _ _) | refine zX ?_ | (refine zC ?_; intro _ _ _ _) | (refine zS ?_; intro _ _) | (apply Ws <;> intro hg))
    refine WC.condP rfl (fun hlt2 => ?_) (fun hlt2 => ?_)
    · have hz' : z < N := by omega
      have e1 := hq1 i z hi' hz'
      have e2 := hq2 i z hi' hz'
      have b1 := hSle i hi'
      have b2 := hSle z hz'
      have s1 := two_succ g1 N i z
      have s2 := two_succ g2 N i z
      cases h1 : twoAll g1 N i z <;> cases h2 : twoAll g2 N i z <;> rw [h1] at s1 <;> rw [h2] at s2
      · repeat' (first | refine zP ?_ | refine zA ?_ | (refine zM ?_; intro _ _) | refine zX ?_ | (refine zC ?_; intro _ _ _ _) | (refine zS ?_; intro _ _) | (apply Ws <;> intro hg))
        rw [show (z : Int) + 1 = ((z + 1 : Nat) : Int) by omega]
        exact Ends.loop (z + 1) (by omega) (by rw [s1, s2]; exact (by repeat' (first | exact .nil | refine .cons rfl ?_))) rfl ⟨hz', hH10⟩
      · repeat' (first | refine zP ?_ | refine zA ?_ | (refine zM ?_; intro _ _) | refine zX ?_ | (refine zC ?_; intro _ _ _ _) | (refine zS ?_; intro _ _) | (apply Ws <;> intro hg))
        rw [e2, show (z : Int) + 1 = ((z + 1 : Nat) : Int) by omega]
        exact Ends.loop (z + 1) (by omega) (by rw [s1, s2]; exact (by repeat' (first | exact .nil | refine .cons rfl ?_))) rfl ⟨hz', hH10⟩
      · repeat' (first | refine zP ?_ | refine zA ?_ | (refine zM ?_; intro _ _) | refine zX ?_ | (refine zC ?_; intro _ _ _ _) | (refine zS ?_; intro _ _) | (apply Ws <;> intro hg))
        rw [e1, show (z : Int) + 1 = ((z + 1 : Nat) : Int) by omega]
        exact Ends.loop (z + 1) (by omega) (by rw [s1, s2]; exact (by repeat' (first | exact .nil | refine .cons rfl ?_))) rfl ⟨hz', hH10⟩
      · repeat' (first | refine zP ?_ | refine zA ?_ | (refine zM ?_; intro _ _) | refine zX ?_ | (refine zC ?_; intro _ _ _ _) | (refine zS ?_; intro _ _) | (apply Ws <;> intro hg))
        rw [e1, e2, show (z : Int) + 1 = ((z + 1 : Nat) : Int) by omega]
        exact Ends.loop (z + 1) (by omega) (by rw [s1, s2]; exact (by repeat' (first | exact .nil | refine .cons rfl ?_))) rfl ⟨hz', hH10⟩
    · have hzN : z = N := by omega
      rw [hzN]
      repeat' (first | refine zP ?_ | refine zA ?_ | (refine zM ?_; intro _ _) | refine zX ?_ | (refine zC ?_; intro _ _ _ _) | (refine zS ?_; intro _ _) | (apply Ws <;> intro hg))
      rw [show (i : Int) + 1 = ((i + 1 : Nat) : Int) by omega]
      exact Ends.loop (i + 1) (by omega) (by rw [two_next, two_next]; exact (by repeat' (first | exact .nil | refine .cons rfl ?_))) rfl ⟨hi', hH10⟩
  have hiN : i = N := by omega
  rw [hiN, ← hpos, ← htwo]
  have hRI := ((ValsN.rows ⟨us, hSv, hRa⟩).cons (p := (n4, .row 3 0 0 (nodes S)))).cons (p := (n4 + 1, .row 3 0 0 (nodes T')))
  have hSo := Sl.asInts (hc (S := S) (T := T')).1
  have hdE := div_intro hVa (okd_of hol hob)
  repeat' (first | refine zP ?_ | refine zA ?_ | (refine zM ?_; intro _ _) | refine zX ?_ | (refine zC ?_; intro _ _ _ _) | (refine zS ?_; intro _ _) | (apply Ws <;> intro hg))
  refine WR.call (by first | exact gN | exact gS rfl) rfl rfl (Fair_fs hH9 hRI (by simp; omega) (fun l hl => by
    obtain ⟨q, hq, rfl⟩ := List.mem_map.1 hl
    rw [List.length_map, hVa.row q hq]; omega) hSo (by simp; omega)) ?_
  rintro _ H11 ⟨rfl, n11, hn11, hH11⟩
  have hfc : fairC (ILL (List.replicate N f)) (IL o) = fairN (List.replicate N f) (shs N (IL o)) := by
    unfold fairC
    rw [if_pos hdE, natV_ILL]; simp
  rw [hdE, hfc]
  generalize fairN (List.replicate N f) (shs N (IL o)) = x
  repeat' (first | refine zP ?_ | refine zA ?_ | (refine zM ?_; intro _ _) | refine zX ?_ | (refine zC ?_; intro _ _ _ _) | (refine zS ?_; intro _ _) | (apply Ws <;> intro hg))
  refine WR.op (by first | exact gN | exact gS rfl) rfl (OpV.eqB (eqlB _ _) rfl rfl) ?_
  rw [show (decide ((0 : Int) < (x : Int)) == decide (0 < x)) = true by rw [beq_iff_eq, decide_eq_decide]; omega]
  repeat' (first | refine zP ?_ | refine zA ?_ | (refine zM ?_; intro _ _) | refine zX ?_ | (refine zC ?_; intro _ _ _ _) | (refine zS ?_; intro _ _) | (apply Ws <;> intro hg))
  refine WR.op (by first | exact gN | exact gS rfl) rfl (OpV.eqB (eqlB _ _) rfl rfl) ?_
  rw [show (decide ((x : Int) = 2) == decide (x = 2)) = true by rw [beq_iff_eq, decide_eq_decide]; omega]
  repeat' (first | refine zP ?_ | refine zA ?_ | (refine zM ?_; intro _ _) | refine zX ?_ | (refine zC ?_; intro _ _ _ _) | (refine zS ?_; intro _ _) | (apply Ws <;> intro hg))
  refine WR.call (by first | exact gN | exact gS rfl) rfl rfl (FS.works (C := C) (R := fun v H' => v = .bool true) rfl) ?_
  rintro _ _ rfl
  repeat' (first | refine zP ?_ | refine zA ?_ | (refine zM ?_; intro _ _) | refine zX ?_ | (refine zC ?_; intro _ _ _ _) | (refine zS ?_; intro _ _) | (apply Ws <;> intro hg))
  exact Ends.ret1 rfl rfl
end
end Go.Proofs.Ytaipmdhnhffckaa.Sh
