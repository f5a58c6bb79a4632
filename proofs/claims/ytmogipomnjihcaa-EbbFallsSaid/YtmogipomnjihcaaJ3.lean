/- Texts of the law, joined. -/
import Derived.Test.YtmogipomnjihcaaJ2
import Derived.Test.YtmogipomnjihcaaJ1
import Derived.Test.YtmogipomnjihcaaSymE
namespace Go.Proofs.Ytmogipomnjihcaa.Eb
open Go Go.Abs Go.Low
set_option linter.unusedVariables false
set_option linter.unusedSimpArgs false
attribute [local irreducible] gOK WS WC WR WD Ends FS YS OpV seqK blockK loopK midK retK rdK asgK rangeEnd sat Cell

/-- The places that may be in pools. -/
def KeptR (r : Nat) (b ds : List Int) (w : Int) (K : List Bool) : Prop := K.length = 37 ∧ ∀ y, K.getD y false = true ↔ y < r ∧ w < b.getD y 0 ∧ 0 < ds.getD y 0

structure PV where
  k : Nat
  v : Value
  ws : List Value
  Mo : HL
  Mp : HL
  cur : List Bool
  n : Nat

theorem own_isSl {e sz : Nat} {v : Value} {cs : List Value} {Mx : HL} (h : Own e sz v cs Mx) : ∃ a l c, v = .slice a l c := by
  cases h <;> exact ⟨_, _, _, rfl⟩

theorem pools_len (c r : Nat) (ms : List Bool) (k : Nat) : (poolsM c r ms k).length ≤ k := by
  rw [poolsM, List.length_map, firsts]
  have := List.length_filter_le (fun x => @decide (First c r ms x) (Classical.propDecidable _)) (List.range k)
  simpa using this

theorem Pools_fs {M : HL} {n : Nat} {H : Heap} (hH : hasH M n H) {r c : Int} {v : Value} {xs : List Int} (hS : Sl M 1 v (ints xs)) (hx : xs.length ≤ 1000) (w : Int) :
    FS C 26 [.agg #[.int .i64 r, .int .i64 c, v], .int .i64 w] H (fun e H' => ∃ n', n ≤ n' ∧ (levelE r c xs w ≠ 0 ∧ e = .tuple #[.slice none 0 0, .int .i64 (levelE r c xs w)] ∧ hasH M n' H' ∨
      levelE r c xs w = 0 ∧ ∃ v' Mo Mp vs K best ds, e = .tuple #[v', .int .i64 0] ∧ Own 22 1 v' vs Mo ∧ Rows2 Mp vs (poolsM c.toNat xs.length K xs.length) ∧ hasH (Mo ++ (Mp ++ M)) n' H' ∧ KeptR xs.length best ds w K ∧
        Lowest c.toNat xs.length (padded xs) xs.length best ∧ Depths xs.length (padded xs) best w ds)) := by
  have h1 := hS.one_
  refine FS.intro (pf := pf26) rfl rfl rfl ?_
  repeat' (first | refine zA ?_ | (refine zM ?_; intro _ _) | (apply Ws <;> intro hg))
  refine WR.call (by first | exact gN | exact gS rfl) rfl rfl (layAt_fs (by assumption) hS.cons hx w) ?_
  rintro _ H2 ⟨n2, hn2, ⟨hne, rfl, hH2⟩ | ⟨he0, bg, rfl, hH2⟩⟩
  · repeat' (first | refine zA ?_ | (refine zM ?_; intro _ _) | (apply Ws <;> intro hg))
    refine WC.condP rfl (fun h => ?_) (fun h => ?_)
    · repeat' (first | refine zA ?_ | (refine zM ?_; intro _ _) | (apply Ws <;> intro hg))
      exact Ends.ret2 rfl rfl ⟨n2, by omega, .inl ⟨hne, rfl, hH2.tail⟩⟩
    · exact absurd hne h
  · obtain ⟨hck, hw⟩ := level_ok he0
    obtain ⟨hh, hc6, hr36⟩ := HS_of hck
    repeat' (first | refine zA ?_ | (refine zM ?_; intro _ _) | (apply Ws <;> intro hg))
    refine WR.call (by first | exact gN | exact gS rfl) rfl rfl (sills_fs hH2 (by first | assumption | exact .head _ | exact .tail _ (.head _) | exact .tail _ (.tail _ (.head _)) | exact .tail _ (.tail _ (.tail _ (.head _))) | exact .tail _ (.tail _ (.tail _ (.tail _ (.head _)))) | exact .tail _ (.tail _ (.tail _ (.tail _ (.tail _ (.head _))))) | exact .tail _ (.tail _ (.tail _ (.tail _ (.tail _ (.tail _ (.head _)))))) | (repeat' (first | assumption | apply List.mem_cons_of_mem))) hh hc6) ?_
    rintro _ H3 ⟨best, n3, rfl, hn3, hH3, hl⟩
    repeat' (first | refine zA ?_ | (refine zM ?_; intro _ _) | (apply Ws <;> intro hg))
    refine WR.call (by first | exact gN | exact gS rfl) rfl rfl (depths_fs hH3 (by first | assumption | exact .head _ | exact .tail _ (.head _) | exact .tail _ (.tail _ (.head _)) | exact .tail _ (.tail _ (.tail _ (.head _))) | exact .tail _ (.tail _ (.tail _ (.tail _ (.head _)))) | exact .tail _ (.tail _ (.tail _ (.tail _ (.tail _ (.head _))))) | exact .tail _ (.tail _ (.tail _ (.tail _ (.tail _ (.tail _ (.head _)))))) | (repeat' (first | assumption | apply List.mem_cons_of_mem))) hh hc6 hw) ?_
    rintro _ H4 ⟨best', ds, n4, rfl, hn4, hH4, hl', hd⟩
    have hbb := hl.unique hh (Nat.le_refl _) hl'
    subst hbb
    repeat' (first | refine zA ?_ | (refine zM ?_; intro _ _) | (apply Ws <;> intro hg))
    rename_i hq
    refine WR.storeAll (by first | exact gN | exact gS rfl) hq rfl rfl (ls := ints best) (by simp [Value.cells]) (by simpa using hl.len) (by first | exact .here | exact .there .here | exact .there (.there .here) | exact .there (.there (.there .here)) | exact .there (.there (.there (.there .here))) | exact .there (.there (.there (.there (.there .here))))) (ints_one _) (by simpa using hl.len) fun H5 hH5 => ?_
    clear hq
    repeat' (first | refine zA ?_ | (refine zM ?_; intro _ _) | (apply Ws <;> intro hg))
    refine WR.storeAll (by first | exact gN | exact gS rfl) hH5 rfl rfl (ls := ints ds) (by simp [Value.cells]) (by simpa using hd.len) (by first | exact .here | exact .there .here | exact .there (.there .here) | exact .there (.there (.there .here)) | exact .there (.there (.there (.there .here))) | exact .there (.there (.there (.there (.there .here))))) (ints_one _) (by simpa using hd.len) fun H6 hH6 => ?_
    clear hH5
    repeat' (first | refine zA ?_ | (refine zM ?_; intro _ _) | (apply Ws <;> intro hg))
    rename_i hq
    have hT : ∀ {Z : HL} {n' : Nat} {H' : Heap}, hasH (Z ++ ((n4 + 1, .row 86 0 0 (ints ds)) :: (n4, .row 86 0 0 (ints best)) :: (bg, .row 99 0 0 (gcells c.toNat xs.length (padded xs))) :: (n, .row 24 0 0 [.int .i64 r, .int .i64 c, v]) :: M)) n' H' → hasH (Z ++ M) n' H' := fun hq => hq.sub (.append (.refl _) (.cons _ (.cons _ (.cons _ (.cons _ (.refl _))))))
    have hmg : (bg, Ch.row 99 0 0 (gcells c.toNat xs.length (padded xs))) ∈ ((n4 + 1, Ch.row 86 0 0 (ints ds)) :: (n4, .row 86 0 0 (ints best)) :: (bg, .row 99 0 0 (gcells c.toNat xs.length (padded xs))) :: (n, .row 24 0 0 [.int .i64 r, .int .i64 c, v]) :: M) := by simp
    have hmb : (n4, Ch.row 86 0 0 (ints best)) ∈ ((n4 + 1, Ch.row 86 0 0 (ints ds)) :: (n4, .row 86 0 0 (ints best)) :: (bg, .row 99 0 0 (gcells c.toNat xs.length (padded xs))) :: (n, .row 24 0 0 [.int .i64 r, .int .i64 c, v]) :: M) := by simp
    have hmd : (n4 + 1, Ch.row 86 0 0 (ints ds)) ∈ ((n4 + 1, Ch.row 86 0 0 (ints ds)) :: (n4, .row 86 0 0 (ints best)) :: (bg, .row 99 0 0 (gcells c.toNat xs.length (padded xs))) :: (n, .row 24 0 0 [.int .i64 r, .int .i64 c, v]) :: M) := by simp
    have hq' : hasH ((n4 + 1 + 1, .row 97 0 0 (bools (List.replicate 37 false))) :: ((n4 + 1, .row 86 0 0 (ints ds)) :: (n4, .row 86 0 0 (ints best)) :: (bg, .row 99 0 0 (gcells c.toNat xs.length (padded xs))) :: (n, .row 24 0 0 [.int .i64 r, .int .i64 c, v]) :: M)) (n4 + 1 + 1 + 1) _ := hq
    generalize ((n4 + 1, Ch.row 86 0 0 (ints ds)) :: (n4, .row 86 0 0 (ints best)) :: (bg, .row 99 0 0 (gcells c.toNat xs.length (padded xs))) :: (n, .row 24 0 0 [.int .i64 r, .int .i64 c, v]) :: M) = T at hT hmg hmb hmd hq'
    clear hq hH6 hH4 hH3 hH2
    have hbl := hl.len
    have hdl := hd.len
    refine WC.loop (fun a : Nat × List Bool => [(1, .int .i64 w), (6, .pointer (some ⟨bg, 0, some 0⟩)), (8, .pointer (some ⟨n4, 0, some 0⟩)), (9, .pointer (some ⟨n4 + 1, 0, some 0⟩)), (10, .pointer (some ⟨n4 + 1 + 1, 0, some 0⟩)), (34, .int .i64 (xs.length : Int)), (35, .int .i64 (a.1 : Int))]) (fun _ => [])
      (fun a H => a.1 ≤ xs.length ∧ a.2.length = 37 ∧ (∀ y, a.2.getD y false = true ↔ y < a.1 ∧ w < best.getD y 0 ∧ 0 < ds.getD y 0) ∧ hasH ((n4 + 1 + 1, .row 97 0 0 (bools a.2)) :: T) (n4 + 1 + 1 + 1) H)
      (fun a => xs.length - a.1) (0, List.replicate 37 false) (by repeat' (first | exact .nil | refine .cons rfl ?_)) rfl ⟨Nat.zero_le _, rfl, fun y => ?_, hq'⟩ ?_
    · rw [List.getD_eq_getElem?_getD, List.getElem?_replicate]
      split <;> simp
    clear hq'
    rintro ⟨k, ms⟩ H6 ⟨hk, hms, hat, hH6⟩
    simp only at hk hms hat hH6
    dsimp only
    repeat' (first | refine zA ?_ | (refine zM ?_; intro _ _) | (apply Ws <;> intro hg))
    refine WC.condP rfl (fun hlt => ?_) (fun hlt => ?_)
    · have hk' : k < xs.length := by omega
      have hnext : ∀ b : Bool, (b = true ↔ w < best.getD k 0 ∧ 0 < ds.getD k 0) → ∀ y, (ms.set k b).getD y false = true ↔ y < k + 1 ∧ w < best.getD y 0 ∧ 0 < ds.getD y 0 := by
        intro b hb y
        rw [getB_set (by omega)]
        by_cases hy : y = k
        · subst hy; rw [if_pos rfl, hb]; exact ⟨fun h => ⟨by omega, h⟩, fun h => h.2⟩
        · rw [if_neg hy, hat y]
          exact ⟨fun h => ⟨by omega, h.2⟩, fun h => ⟨by omega, h.2⟩⟩
      repeat' (first | refine zA ?_ | (refine zM ?_; intro _ _) | (apply Ws <;> intro hg))
      refine WR.op (by first | exact gN | exact gS rfl) rfl (OpV.loadI (b := n4) (e := 86) (xs := best) rfl hH6 (.tail _ hmb) (by omega)) ?_
      repeat' (first | refine zA ?_ | (refine zM ?_; intro _ _) | (apply Ws <;> intro hg))
      · refine WR.op (by first | exact gN | exact gS rfl) rfl (OpV.loadI (b := n4 + 1) (e := 86) (xs := ds) rfl hH6 (.tail _ hmd) (by omega)) ?_
        repeat' (first | refine zA ?_ | (refine zM ?_; intro _ _) | (apply Ws <;> intro hg))
        refine WR.storeB (by first | exact gN | exact gS rfl) hH6 rfl rfl .here (by omega) fun H7 hH7 => ?_
        repeat' (first | refine zA ?_ | (refine zM ?_; intro _ _) | (apply Ws <;> intro hg))
        refine Ends.loop (k + 1, _) (by simp only; omega) (by repeat' (first | exact .nil | refine .cons rfl ?_)) rfl ⟨hk', by simpa using hms, hnext _ ?_, hH7⟩
        have hb : w < best.getD k 0 := by assumption
        rw [decide_eq_true_iff]
        exact ⟨fun h => ⟨hb, h⟩, fun h => h.2⟩
      · refine WR.storeB (by first | exact gN | exact gS rfl) hH6 rfl rfl .here (by omega) fun H7 hH7 => ?_
        repeat' (first | refine zA ?_ | (refine zM ?_; intro _ _) | (apply Ws <;> intro hg))
        refine Ends.loop (k + 1, _) (by simp only; omega) (by repeat' (first | exact .nil | refine .cons rfl ?_)) rfl ⟨hk', by simpa using hms, hnext _ ?_, hH7⟩
        have hb : ¬ w < best.getD k 0 := by assumption
        exact ⟨fun h => absurd h (by simp), fun h => absurd h.1 hb⟩
    have hkn : k = xs.length := by omega
    subst hkn
    clear hlt hk
    have hK : ∀ y, ms.getD y false = true → y < xs.length := fun y hy => ((hat y).1 hy).1
    repeat' (first | refine zA ?_ | (refine zM ?_; intro _ _) | (apply Ws <;> intro hg))
    refine WC.loop (fun a : PV => [(6, .pointer (some ⟨bg, 0, some 0⟩)), (10, .pointer (some ⟨n4 + 1 + 1, 0, some 0⟩)), (12, a.v), (55, .int .i64 (xs.length : Int)), (56, .int .i64 (a.k : Int))]) (fun _ => [])
      (fun a H => a.k ≤ xs.length ∧ a.cur.length = 37 ∧ Cur c.toNat xs.length ms a.k a.cur ∧ Own 22 1 a.v a.ws a.Mo ∧ Rows2 a.Mp a.ws (poolsM c.toNat xs.length ms a.k) ∧ hasH (a.Mo ++ (a.Mp ++ ((n4 + 1 + 1, .row 97 0 0 (bools a.cur)) :: T))) a.n H ∧ n4 ≤ a.n)
      (fun a => xs.length - a.k) ⟨0, .slice none 0 0, [], [], [], ms, n4 + 1 + 1 + 1⟩ (by repeat' (first | exact .nil | refine .cons rfl ?_)) rfl ⟨Nat.zero_le _, hms, Cur.init _ _ _, .nil, ⟨rfl, fun i u l hu _ => by cases hu⟩, hH6, by simp only; omega⟩ ?_
    clear hH6
    rintro ⟨k, v12, ws, Mo, Mp, cur, n6⟩ H6 ⟨hk, hcl, hcur, hO, hrows, hH6, hn6⟩
    simp only at hk hcl hcur hO hrows hH6 hn6
    dsimp only
    repeat' (first | refine zA ?_ | (refine zM ?_; intro _ _) | (apply Ws <;> intro hg))
    refine WC.condP rfl (fun hlt => ?_) (fun hlt => ?_)
    · have hk' : k < xs.length := by omega
      have hmc : (n4 + 1 + 1, Ch.row 97 0 0 (bools cur)) ∈ Mo ++ (Mp ++ ((n4 + 1 + 1, .row 97 0 0 (bools cur)) :: T)) := by simp
      have hmg' : (bg, Ch.row 99 0 0 (gcells c.toNat xs.length (padded xs))) ∈ Mo ++ (Mp ++ ((n4 + 1 + 1, .row 97 0 0 (bools cur)) :: T)) := by simp [hmg]
      have hfirst := hcur.first ⟨hh.c1, hc6⟩ hh.cr hK
      repeat' (first | refine zA ?_ | (refine zM ?_; intro _ _) | (apply Ws <;> intro hg))
      refine WR.op (by first | exact gN | exact gS rfl) rfl (OpV.loadB rfl hH6 hmc (by omega)) ?_
      cases hck2 : cur.getD k false with
      | false =>
        have hno : ¬ cur.getD k false = true := by rw [hck2]; simp
        repeat' (first | refine zA ?_ | (refine zM ?_; intro _ _) | (apply Ws <;> intro hg))
        refine Ends.loop ⟨k + 1, v12, ws, Mo, Mp, cur, n6⟩ (by simp only; omega) (by repeat' (first | exact .nil | refine .cons rfl ?_)) rfl ⟨hk', hcl, hcur.skip hno, hO, ?_, hH6, hn6⟩
        rw [pools_skip (fun h => hno (hfirst.2 h))]; exact hrows
      | true =>
        repeat' (first | refine zA ?_ | (refine zM ?_; intro _ _) | (apply Ws <;> intro hg))
        refine WR.call (by first | exact gN | exact gS rfl) rfl rfl (reach_fs hH6 hmg' hmc hcl hh hc6 (Nat.le_of_lt hk')) ?_
        rintro _ H7 ⟨b, n7, ts, rfl, hn7, hH7, htl, hts⟩
        repeat' (first | refine zA ?_ | (refine zM ?_; intro _ _) | (apply Ws <;> intro hg))
        refine WR.call (by first | exact gN | exact gS rfl) rfl rfl (marks_fs hH7 (.head _) htl) ?_
        rintro vp H8 ⟨Mx, n8, hn8, hOp, hH8⟩
        rw [marked_comp (by omega) hK (fun y => (hts y).trans (hcur.reach ⟨hh.c1, hc6⟩ hh.cr hK hck2))] at hOp
        have hH9 : hasH (Mx ++ (Mo ++ (Mp ++ ((n4 + 1 + 1, .row 97 0 0 (bools cur)) :: T)))) n8 H8 := hH8.sub (.append (.refl _) (.cons _ (.refl _)))
        have hple : (comp c.toNat xs.length ms k).length ≤ 37 := by
          have := List.length_filter_le (fun x => @decide (RM c.toNat xs.length ms k x) (Classical.propDecidable _)) (List.range xs.length)
          rw [List.length_range] at this
          exact Nat.le_trans this (by omega)
        have hmemc := fun y => mem_comp (c := c.toNat) (x := k) (y := y) hK
        have hpools := pools_take (hfirst.1 hck2)
        generalize comp c.toNat xs.length ms k = pl at hOp hple hmemc hpools
        clear hH8 hH7 hH6 hmc hmg' hts
        have hll : (nodes pl).length = pl.length := by simp
        have hvp1 := (hOp.sl M).one_
        have hH9' : hasH ((n4 + 1 + 1, .row 97 0 0 (bools cur)) :: (Mx ++ (Mo ++ (Mp ++ T)))) n8 H8 := hH9.perm (by classical exact List.perm_iff_count.2 (fun a => by simp only [defds, List.map_cons, List.map_nil, List.count_append, List.count_cons, List.count_nil, List.cons_append, List.nil_append, List.append_nil]; omega))
        have hSl9 := (hOp.sl (Mo ++ (Mp ++ T))).cons (p := (n4 + 1 + 1, .row 97 0 0 (bools cur)))
        clear hH9
        repeat' (first | refine zA ?_ | (refine zM ?_; intro _ _) | (apply Ws <;> intro hg))
        refine WR.op (by first | exact gN | exact gS rfl) rfl (OpV.lenS rfl hSl9) ?_
        rw [hll]
        clear hSl9
        repeat' (first | refine zA ?_ | (refine zM ?_; intro _ _) | (apply Ws <;> intro hg))
        refine WC.loop (fun a : Nat × List Bool => [(6, .pointer (some ⟨bg, 0, some 0⟩)), (10, .pointer (some ⟨n4 + 1 + 1, 0, some 0⟩)), (12, v12), (13, .int .i64 (k : Int)), (14, vp), (55, .int .i64 (xs.length : Int)), (56, .int .i64 (k : Int)), (67, vp), (68, .int .i64 (pl.length : Int)), (69, .int .i64 (a.1 : Int))]) (fun _ => [])
          (fun a H => a.1 ≤ pl.length ∧ a.2.length = 37 ∧ (∀ y, a.2.getD y false = true ↔ cur.getD y false = true ∧ ∀ i, i < a.1 → pl[i]? ≠ some y) ∧ hasH ((n4 + 1 + 1, .row 97 0 0 (bools a.2)) :: (Mx ++ (Mo ++ (Mp ++ T)))) n8 H)
          (fun a => pl.length - a.1) (0, cur) (by repeat' (first | exact .nil | refine .cons rfl ?_)) rfl ⟨Nat.zero_le _, hcl, fun y => ⟨fun h => ⟨h, fun i hi => absurd hi (Nat.not_lt_zero _)⟩, fun h => h.1⟩, hH9'⟩ ?_
        clear hH9'
        rintro ⟨j, ms2⟩ H10 ⟨hj, hm2, hat2, hH10⟩
        simp only at hj hm2 hat2 hH10
        dsimp only
        repeat' (first | refine zA ?_ | (refine zM ?_; intro _ _) | (apply Ws <;> intro hg))
        refine WC.condP rfl (fun hlt2 => ?_) (fun hlt2 => ?_)
        · have hj' : j < pl.length := by omega
          obtain ⟨q, hq⟩ : ∃ q, pl[j]? = some q := ⟨pl[j], List.getElem?_eq_getElem hj'⟩
          have hqr : q < xs.length := hK q ((hmemc q).1 (List.mem_of_getElem? hq)).on
          have hSl10 := (hOp.sl (Mo ++ (Mp ++ T))).cons (p := (n4 + 1 + 1, .row 97 0 0 (bools ms2)))
          repeat' (first | refine zA ?_ | (refine zM ?_; intro _ _) | (apply Ws <;> intro hg))
          refine WR.idxSl (by first | exact gN | exact gS rfl) rfl rfl hSl10 rfl rfl (c := .int .i64 (q : Int)) (by simp [hq]) fun _ _ _ hc1 => ?_
          repeat' (first | refine zA ?_ | (refine zM ?_; intro _ _) | (apply Ws <;> intro hg))
          refine WR.storeB (by first | exact gN | exact gS rfl) hH10 rfl rfl .here (by omega) fun H11 hH11 => ?_
          repeat' (first | refine zA ?_ | (refine zM ?_; intro _ _) | (apply Ws <;> intro hg))
          refine Ends.loop (j + 1, _) (by simp only; omega) (by repeat' (first | exact .nil | refine .cons rfl ?_)) rfl ⟨hj', by simpa using hm2, fun y => ?_, hH11⟩
          simp only
          rw [getB_set (by omega)]
          by_cases hy : y = q
          · subst hy; rw [if_pos rfl]
            exact ⟨fun h => by (cases h), fun h => absurd hq (h.2 j (by omega))⟩
          · rw [if_neg hy, hat2 y]
            refine ⟨fun h => ⟨h.1, fun i hi => ?_⟩, fun h => ⟨h.1, fun i hi => h.2 i (by omega)⟩⟩
            rcases Nat.lt_or_ge i j with h2 | h2
            · exact h.2 i h2
            · have : i = j := by omega
              subst this
              rw [hq]; intro h3; cases h3; exact hy rfl
        have hjn : j = pl.length := by omega
        subst hjn
        have hwl : ws.length ≤ k := by rw [hrows.1]; exact pools_len _ _ _ _
        repeat' (first | refine zA ?_ | (refine zM ?_; intro _ _) | (apply Ws <;> intro hg))
        refine WR.append1F ((n4 + 1 + 1, .row 97 0 0 (bools ms2)) :: Mx) Mo (Mp ++ T) rfl rfl rfl rfl hO hH10 (new := [vp]) (by obtain ⟨_, _, _, rfl⟩ := own_isSl hOp; rfl) (by simp [hvp1]) rfl (Nat.le_refl _) (by omega) (by simp only [List.length_cons, List.length_nil]; omega) fun v3 Mx3 n9 H12 hO3 hH12 hn12 => ?_
        repeat' (first | refine zA ?_ | (refine zM ?_; intro _ _) | (apply Ws <;> intro hg))
        refine Ends.loop ⟨k + 1, v3, ws ++ [vp], Mx3, Mx ++ Mp, ms2, n9⟩ (by simp only; omega) (by repeat' (first | exact .nil | refine .cons rfl ?_)) rfl ⟨hk', hm2, hcur.take hK fun y => ?_, hO3, ?_, hH12.perm (by classical exact List.perm_iff_count.2 (fun a => by simp only [defds, List.map_cons, List.map_nil, List.count_append, List.count_cons, List.count_nil, List.cons_append, List.nil_append, List.append_nil]; omega)), by simp only; omega⟩
        · simp only
          rw [hat2 y, mem_comp hK, ← hmemc]
          refine ⟨fun h => ⟨h.1, fun hm => ?_⟩, fun h => ⟨h.1, fun i hi he => h.2 (List.mem_of_getElem? he)⟩⟩
          obtain ⟨i, hi, he⟩ := List.mem_iff_getElem.1 hm
          exact h.2 i hi (by rw [List.getElem?_eq_getElem hi, he])
        · rw [hpools]
          exact (hrows.mono (fun q hq => List.mem_append_right _ hq)).push (hOp.sl _)
    have hkn : k = xs.length := by omega
    subst hkn
    repeat' (first | refine zA ?_ | (refine zM ?_; intro _ _) | (apply Ws <;> intro hg))
    refine Ends.ret2 rfl rfl ⟨n6, by omega, .inr ⟨he0, v12, Mo, Mp, ws, ms, best, ds, rfl, hO, hrows, ?_, ⟨hms, hat⟩, hl, hd⟩⟩
    have := hT (Z := Mo ++ Mp) (by rw [List.append_assoc]; exact hH6.sub (.append (.refl _) (.append (.refl _) (.cons _ (.refl _)))))
    rw [List.append_assoc] at this
    exact this
end Go.Proofs.Ytmogipomnjihcaa.Eb

namespace Go.Proofs.Ytmogipomnjihcaa.Eb
open Go Go.Abs Go.Low
set_option linter.unusedVariables false
set_option linter.unusedSimpArgs false
set_option maxRecDepth 100000 in
theorem mul64_one (H : Heap) : ∀ m : Nat, m < 37 → ∃ k, runW C k (.call 85 [.int .u64 1, .int .u64 (m : Int)] H) = some (.val (.tuple #[.int .u64 0, .int .u64 (m : Int)]) H)
  | 0, _ => ⟨100, by kernel_rfl⟩
  | 1, _ => ⟨100, by kernel_rfl⟩
  | 2, _ => ⟨100, by kernel_rfl⟩
  | 3, _ => ⟨100, by kernel_rfl⟩
  | 4, _ => ⟨100, by kernel_rfl⟩
  | 5, _ => ⟨100, by kernel_rfl⟩
  | 6, _ => ⟨100, by kernel_rfl⟩
  | 7, _ => ⟨100, by kernel_rfl⟩
  | 8, _ => ⟨100, by kernel_rfl⟩
  | 9, _ => ⟨100, by kernel_rfl⟩
  | 10, _ => ⟨100, by kernel_rfl⟩
  | 11, _ => ⟨100, by kernel_rfl⟩
  | 12, _ => ⟨100, by kernel_rfl⟩
  | 13, _ => ⟨100, by kernel_rfl⟩
  | 14, _ => ⟨100, by kernel_rfl⟩
  | 15, _ => ⟨100, by kernel_rfl⟩
  | 16, _ => ⟨100, by kernel_rfl⟩
  | 17, _ => ⟨100, by kernel_rfl⟩
  | 18, _ => ⟨100, by kernel_rfl⟩
  | 19, _ => ⟨100, by kernel_rfl⟩
  | 20, _ => ⟨100, by kernel_rfl⟩
  | 21, _ => ⟨100, by kernel_rfl⟩
  | 22, _ => ⟨100, by kernel_rfl⟩
  | 23, _ => ⟨100, by kernel_rfl⟩
  | 24, _ => ⟨100, by kernel_rfl⟩
  | 25, _ => ⟨100, by kernel_rfl⟩
  | 26, _ => ⟨100, by kernel_rfl⟩
  | 27, _ => ⟨100, by kernel_rfl⟩
  | 28, _ => ⟨100, by kernel_rfl⟩
  | 29, _ => ⟨100, by kernel_rfl⟩
  | 30, _ => ⟨100, by kernel_rfl⟩
  | 31, _ => ⟨100, by kernel_rfl⟩
  | 32, _ => ⟨100, by kernel_rfl⟩
  | 33, _ => ⟨100, by kernel_rfl⟩
  | 34, _ => ⟨100, by kernel_rfl⟩
  | 35, _ => ⟨100, by kernel_rfl⟩
  | 36, _ => ⟨100, by kernel_rfl⟩
  | m + 37, h => absurd h (by omega)

theorem Mul_fs {H : Heap} {m : Nat} (h : m < 37) : FS C 85 [.int .u64 1, .int .u64 (m : Int)] H (fun v H' => v = .tuple #[.int .u64 0, .int .u64 (m : Int)] ∧ H' = H) := by
  obtain ⟨k, hk⟩ := mul64_one H m h
  exact ⟨_, _, ⟨k, hk⟩, rfl, rfl⟩

attribute [local irreducible] gOK WS WC WR WD Ends FS YS OpV seqK blockK loopK midK retK rdK asgK rangeEnd sat Cell

theorem u109 : C.c.P.underlying 109 = some (.int .u64) := by kernel_rfl

theorem splice_get {cs l : List Int} {i : Nat} (h : i + l.length ≤ cs.length) (j : Nat) : (cs.take i ++ l ++ cs.drop (i + l.length)).getD j 0 = if j < i then cs.getD j 0 else if j < i + l.length then l.getD (j - i) 0 else cs.getD j 0 := by
  simp only [List.getD_eq_getElem?_getD]
  by_cases h1 : j < i
  · rw [if_pos h1, List.append_assoc, List.getElem?_append_left (by simp; omega), List.getElem?_take_of_lt h1]
  · rw [if_neg h1]
    by_cases h2 : j < i + l.length
    · rw [if_pos h2, List.getElem?_append_left (by simp; omega), List.getElem?_append_right (by simp; omega)]
      congr 2; simp; omega
    · rw [if_neg h2, List.getElem?_append_right (by simp; omega), List.getElem?_drop]
      congr 2; simp; omega

theorem splice_ints {cs l : List Int} {i : Nat} : splice (ints cs) i (ints l) = ints (cs.take i ++ l ++ cs.drop (i + l.length)) := by
  simp [splice, ints, List.map_take, List.map_drop]

theorem Repeat_fs {M : HL} {n : Nat} {H : Heap} (hH : hasH M n H) {v : Value} {a : Int} (hS : Sl M 1 v (ints [a])) {m : Nat} (hm : 1 ≤ m ∧ m ≤ 36) :
    FS C 44 [v, .int .i64 (m : Int)] H (fun e H' => ∃ b n' ys, e = .slice (some ⟨b, 0, some 0⟩) m (2 * m + 1) ∧ n ≤ n' ∧ hasH ((b, .row 3 0 0 (ints ys)) :: M) n' H' ∧ ys.length = m ∧ ∀ j, j < m → ys.getD j 0 = a) := by
  have h1 := hS.one_
  refine FS.intro (pf := pf44) rfl rfl rfl ?_
  repeat' (first | refine zA ?_ | (refine zM ?_; intro _ _) | (apply Ws <;> intro hg))
  refine WR.op (by first | exact gN | exact gS rfl) rfl (OpV.lenSI rfl hS) ?_
  refine WR.op (by first | exact gN | exact gS rfl) rfl (OpV.conv u3 u109 rfl (c := (1 : Int)) rfl) ?_
  repeat' (first | refine zA ?_ | (refine zM ?_; intro _ _) | (apply Ws <;> intro hg))
  refine WR.op (by first | exact gN | exact gS rfl) rfl (OpV.conv u3 u109 rfl (c := (m : Int)) (IntWalk.u64_in _ (by omega))) ?_
  refine WR.call (by first | exact gN | exact gS rfl) rfl rfl (Mul_fs (by omega)) ?_
  rintro _ _ ⟨rfl, rfl⟩
  repeat' (first | refine zA ?_ | (refine zM ?_; intro _ _) | (apply Ws <;> intro hg))
  refine WC.condP rfl (fun hbig => ?_) (fun hbig => ?_)
  · omega
  repeat' (first | refine zA ?_ | (refine zM ?_; intro _ _) | (apply Ws <;> intro hg))
  refine WR.op (by first | exact gN | exact gS rfl) rfl (OpV.conv u109 u3 rfl (c := (m : Int)) (IntWalk.i64_in _ (by omega))) ?_
  refine WR.mkS (by first | exact gN | exact gS rfl) rfl hH rfl rfl (by omega) rfl fun H2 hH2 => ?_
  replace hH2 : hasH ((n, .row 3 0 0 (ints (List.replicate m 0))) :: M) (n + 1) H2 := by rw [ints, List.map_replicate]; exact hH2
  repeat' (first | refine zA ?_ | (refine zM ?_; intro _ _) | (apply Ws <;> intro hg))
  refine WR.copyMin (by first | exact gN | exact gS rfl) rfl rfl rfl (hS.cons (p := (n, .row 3 0 0 (ints (List.replicate m 0))))) hH2 .here (by simp [ints, one]) (Nat.le_refl _) (m := 1) (Nat.min_eq_left (by simpa using hm.1)) (Nat.le_refl _) (by simp; omega) rfl fun H3 hH3 => ?_
  rw [show splice (ints (List.replicate m 0)) (0 - 0) ((ints [a]).take 1) = ints ((List.replicate m 0).take 0 ++ [a] ++ (List.replicate m 0).drop (0 + [a].length)) from splice_ints (l := [a]) (i := 0)] at hH3
  have hl0 : ((List.replicate m (0 : Int)).take 0 ++ [a] ++ (List.replicate m 0).drop (0 + [a].length)).length = m := by simp; omega
  have ha0 : ∀ j, j < 1 → ((List.replicate m (0 : Int)).take 0 ++ [a] ++ (List.replicate m 0).drop (0 + [a].length)).getD j 0 = a := fun j hj => by
    have : j = 0 := by omega
    subst this; rfl
  generalize (List.replicate m (0 : Int)).take 0 ++ [a] ++ (List.replicate m 0).drop (0 + [a].length) = ys0 at hH3 hl0 ha0
  repeat' (first | refine zA ?_ | (refine zM ?_; intro _ _) | (apply Ws <;> intro hg))
  refine WC.loop (fun s : Nat × List Int => [(7, .slice (some ⟨n, 0, some 0⟩) m (2 * m + 1)), (8, .int .i64 (s.1 : Int))]) (fun _ => [])
    (fun s H => 1 ≤ s.1 ∧ s.1 ≤ m ∧ s.2.length = m ∧ (∀ j, j < s.1 → s.2.getD j 0 = a) ∧ hasH ((n, .row 3 0 0 (ints s.2)) :: M) (n + 1) H)
    (fun s => m - s.1) (1, ys0) (by repeat' (first | exact .nil | refine .cons rfl ?_)) rfl ⟨Nat.le_refl _, hm.1, hl0, ha0, hH3⟩ ?_
  clear hH3 hH2 ha0 hl0
  rintro ⟨k, ys⟩ H4 ⟨hk1, hk, hl, ha, hH4⟩
  simp only at hk1 hk hl ha hH4
  dsimp only
  repeat' (first | refine zA ?_ | (refine zM ?_; intro _ _) | (apply Ws <;> intro hg))
  refine WC.condP rfl (fun hlt => ?_) (fun hlt => ?_)
  · have hk' : k < m := by omega
    repeat' (first | refine zA ?_ | (refine zM ?_; intro _ _) | (apply Ws <;> intro hg))
    refine WR.op (by first | exact gN | exact gS rfl) rfl (OpV.slLoK rfl rfl (by omega) (Nat.le_refl _) hk') ?_
    repeat' (first | refine zA ?_ | (refine zM ?_; intro _ _) | (apply Ws <;> intro hg))
    refine WR.op (by first | exact gN | exact gS rfl) rfl (OpV.slHiK rfl rfl (by omega) (by omega)) ?_
    have hSl : Sl ((n, .row 3 0 0 (ints ys)) :: M) 1 (.slice (some ⟨n, 0, some 0⟩) k (2 * m + 1)) (ints (ys.take k)) :=
      .row (lo := 0) (cs := ints ys) (.head _) (.row _ _ _ _) (Nat.zero_le _) (by simp; omega) (by simp [ints, List.map_take]) (by simp; omega) (.inr ⟨m, rfl, by omega⟩)
    obtain ⟨d, hd⟩ : ∃ d, min k (m - k) = d := ⟨_, rfl⟩
    refine WR.copyMin (by first | exact gN | exact gS rfl) rfl rfl rfl hSl hH4 .here (ints_one _) (Nat.zero_le _) (m := d) (by rw [show (ints (ys.take k)).length = k by simp; omega]; exact hd) (by omega) (by simp; omega) rfl fun H5 hH5 => ?_
    rw [show (ints (ys.take k)).take d = ints ((ys.take k).take d) by simp [ints, List.map_take], show splice (ints ys) (0 + k - 0) (ints ((ys.take k).take d)) = ints (ys.take (0 + k - 0) ++ (ys.take k).take d ++ ys.drop ((0 + k - 0) + ((ys.take k).take d).length)) from splice_ints] at hH5
    have htl : ((ys.take k).take d).length = d := by simp; omega
    have hget := fun j => splice_get (cs := ys) (l := (ys.take k).take d) (i := 0 + k - 0) (by omega) j
    have hnl : (ys.take (0 + k - 0) ++ (ys.take k).take d ++ ys.drop ((0 + k - 0) + ((ys.take k).take d).length)).length = m := by simp; omega
    generalize ys.take (0 + k - 0) ++ (ys.take k).take d ++ ys.drop ((0 + k - 0) + ((ys.take k).take d).length) = ys2 at hH5 hget hnl
    repeat' (first | refine zA ?_ | (refine zM ?_; intro _ _) | (apply Ws <;> intro hg))
    refine Ends.loop (k + d, ys2) (by simp only; omega) (by repeat' (first | exact .nil | refine .cons rfl ?_)) rfl ⟨by simp only; omega, by simp only; omega, hnl, fun j hj => ?_, hH5⟩
    simp only at hj ⊢
    rw [hget, htl]
    split
    · exact ha j (by omega)
    · rw [if_pos (by omega), List.getD_eq_getElem?_getD, List.getElem?_take_of_lt (by omega), List.getElem?_take_of_lt (by omega), ← List.getD_eq_getElem?_getD]
      exact ha _ (by omega)
  have hkn : k = m := by omega
  subst hkn
  repeat' (first | refine zA ?_ | (refine zM ?_; intro _ _) | (apply Ws <;> intro hg))
  exact Ends.ret1 rfl ⟨n, n + 1, ys, rfl, by omega, hH4, hl, ha⟩
end Go.Proofs.Ytmogipomnjihcaa.Eb

namespace Go.Proofs.Ytmogipomnjihcaa.Eb
open Go Go.Abs Go.Low
set_option linter.unusedVariables false
set_option linter.unusedSimpArgs false
attribute [local irreducible] gOK WS WC WR WD Ends FS YS OpV seqK blockK loopK midK retK rdK asgK rangeEnd sat Cell

theorem filter_range_lt (f : Nat → Bool) (k : Nat) : ((List.range k).filter f).Pairwise (· < ·) := List.Pairwise.filter f List.pairwise_lt_range

theorem pairwise_get {l : List Nat} (h : l.Pairwise (· < ·)) {i j a b : Nat} (hij : i < j) (hi : l[i]? = some a) (hj : l[j]? = some b) : a < b := by
  obtain ⟨h1, rfl⟩ := List.getElem?_eq_some_iff.1 hi
  obtain ⟨h2, rfl⟩ := List.getElem?_eq_some_iff.1 hj
  exact List.pairwise_iff_getElem.1 h i j h1 h2 hij

theorem comp_sorted (c r : Nat) (ms : List Bool) (x : Nat) : (comp c r ms x).Pairwise (· < ·) := filter_range_lt _ _
theorem firsts_sorted (c r : Nat) (ms : List Bool) (k : Nat) : (firsts c r ms k).Pairwise (· < ·) := filter_range_lt _ _

open Classical in
theorem mem_firsts {c r : Nat} {ms : List Bool} {k x : Nat} : x ∈ firsts c r ms k ↔ x < k ∧ First c r ms x := by
  rw [firsts, List.mem_filter, List.mem_range, decide_eq_true_iff]

theorem pools_get {c r : Nat} {ms : List Bool} {k i : Nat} {pl : List Nat} (h : (poolsM c r ms k)[i]? = some pl) : ∃ f, (firsts c r ms k)[i]? = some f ∧ pl = comp c r ms f ∧ f < k ∧ First c r ms f := by
  rw [poolsM, List.getElem?_map] at h
  cases hf : (firsts c r ms k)[i]? with
  | none => rw [hf] at h; cases h
  | some f =>
    rw [hf] at h; cases h
    have := mem_firsts.1 (List.mem_of_getElem? hf)
    exact ⟨f, rfl, rfl, this.1, this.2⟩

section
variable {c r : Nat} {ms : List Bool} (hc : 1 ≤ c ∧ c ≤ 6) (hcr : c ≤ r) (hK : ∀ y, ms.getD y false = true → y < r)
include hc hcr hK

omit hc hcr in
theorem pool_head {f : Nat} (hf : First c r ms f) : (comp c r ms f)[0]? = some f := by
  have hm : f ∈ comp c r ms f := (mem_comp hK).2 (.start hf.1)
  cases hl : comp c r ms f with
  | nil => rw [hl] at hm; cases hm
  | cons a l =>
    have ha : a ∈ comp c r ms f := by rw [hl]; simp
    have h1 := hf.2 a ((mem_comp hK).1 ha)
    have hs := comp_sorted c r ms f
    rw [hl] at hm hs
    rcases List.mem_cons.1 hm with h2 | h2
    · rw [h2]; rfl
    · have := (List.pairwise_cons.1 hs).1 f h2; omega

theorem first_eq {f g x : Nat} (hf : First c r ms f) (hg : First c r ms g) (h1 : RM c r ms f x) (h2 : RM c r ms g x) : f = g := by
  have a := hf.2 g (h1.trans (RM.symm hc hcr hK h2))
  have b := hg.2 f (h2.trans (RM.symm hc hcr hK h1))
  omega

theorem has_first {x : Nat} (hx : ms.getD x false = true) : ∃ f, First c r ms f ∧ RM c r ms f x := by
  have key : ∀ k z, z ≤ k → RM c r ms x z → ∃ f, First c r ms f ∧ RM c r ms f x := by
    intro k
    induction k with
    | zero =>
      intro z hz h
      have : z = 0 := by omega
      subst this
      exact ⟨0, ⟨h.on, fun _ _ => Nat.zero_le _⟩, RM.symm hc hcr hK h⟩
    | succ k ih =>
      intro z hz h
      by_cases hlow : ∃ y, y < z ∧ RM c r ms z y
      · obtain ⟨y, hy, hzy⟩ := hlow
        exact ih y (by omega) (h.trans hzy)
      · refine ⟨z, ⟨h.on, fun y hy => ?_⟩, RM.symm hc hcr hK h⟩
        rcases Nat.lt_or_ge y z with h3 | h3
        · exact absurd ⟨y, h3, hy⟩ hlow
        · exact h3
  exact key x x (Nat.le_refl _) (.start hx)

theorem has_pool {x : Nat} (hx : ms.getD x false = true) : ∃ (i : Nat) (pl : List Nat), (poolsM c r ms r)[i]? = some pl ∧ x ∈ pl := by
  obtain ⟨f, hf, hfx⟩ := has_first hc hcr hK hx
  have hm : f ∈ firsts c r ms r := mem_firsts.2 ⟨hK f hf.1, hf⟩
  obtain ⟨i, hi, he⟩ := List.mem_iff_getElem.1 hm
  refine ⟨i, comp c r ms f, ?_, (mem_comp hK).2 hfx⟩
  rw [poolsM, List.getElem?_map, List.getElem?_eq_getElem hi, he]; rfl

/-- Two pools with places beside each other are one. -/
theorem pools_apart {i j x y : Nat} {p q : List Nat} (hi : (poolsM c r ms r)[i]? = some p) (hj : (poolsM c r ms r)[j]? = some q) (hx : x ∈ p) (hy : y ∈ q) (hxy : x = y ∨ y ∈ nbrs c r x) : i = j := by
  obtain ⟨f, hf, rfl, _, hf1⟩ := pools_get hi
  obtain ⟨g, hg, rfl, _, hg1⟩ := pools_get hj
  have h1 := (mem_comp hK).1 hx
  have h2 := (mem_comp hK).1 hy
  have h3 : RM c r ms f y := by
    rcases hxy with rfl | h
    · exact h1
    · exact .step h1 h h2.on
  have := first_eq hc hcr hK hf1 hg1 h3 h2
  subst this
  rcases Nat.lt_trichotomy i j with h | h | h
  · have := pairwise_get (firsts_sorted c r ms r) h hf hg; omega
  · exact h
  · have := pairwise_get (firsts_sorted c r ms r) h hg hf; omega

theorem has_beside {p x : Nat} (h : RM c r ms p x) (hne : p ≠ x) : ∃ z, RM c r ms p z ∧ z ∈ nbrs c r x := by
  cases h with
  | start _ => exact absurd rfl hne
  | step h hy _ => exact ⟨_, h, nbrs_symm hc hcr (Nat.le_of_lt (hK _ h.on)) hy⟩

theorem pool_beside {i x : Nat} {p : List Nat} (hi : (poolsM c r ms r)[i]? = some p) (hx : x ∈ p) (hl : 1 < p.length) : ∃ z ∈ p, z ∈ nbrs c r x := by
  obtain ⟨f, hf, rfl, _, hf1⟩ := pools_get hi
  have h1 := (mem_comp hK).1 hx
  obtain ⟨y, hy, hyx⟩ : ∃ y ∈ comp c r ms f, y ≠ x := by
    have hs := comp_sorted c r ms f
    have e0 := List.getElem?_eq_getElem (show 0 < (comp c r ms f).length by omega)
    have e1 := List.getElem?_eq_getElem hl
    have := pairwise_get hs (show 0 < 1 by omega) e0 e1
    by_cases h0 : (comp c r ms f)[0] = x
    · exact ⟨_, List.getElem_mem hl, by omega⟩
    · exact ⟨_, List.getElem_mem (show 0 < (comp c r ms f).length by omega), h0⟩
  have h2 := (mem_comp hK).1 hy
  have h3 : RM c r ms y x := (RM.symm hc hcr hK h2).trans h1
  obtain ⟨z, hz, hzn⟩ := has_beside hc hcr hK h3 hyx
  exact ⟨z, (mem_comp hK).2 (h2.trans hz), hzn⟩
end

theorem best_low {c r : Nat} {hs b : List Int} (hh : HS c r hs) (hc6 : c ≤ 6) (hl : Lowest c r hs r b) {x y : Nat} (hx : x ≤ r) (hy : y ≤ r) (hn : x ∈ nbrs c r y) : b.getD x 0 ≤ max (b.getD y 0) (hs.getD x 0) := by
  have h30 := best_le hh hc6 hl hy
  have hhd := hh.bd x
  have ht : max (b.getD y 0) (hs.getD x 0) ≤ 30 := by omega
  have h1 : Go.Low.Reach c r hs r (max (b.getD y 0) (hs.getD x 0)) y := (Out.done hh (Nat.le_refl _) hl.out ht hy).1 (by omega)
  exact (Out.done hh (Nat.le_refl _) hl.out ht hx).2 (.step h1 hn (by omega))

theorem high_best {c r : Nat} {hs b : List Int} (hh : HS c r hs) (hc6 : c ≤ 6) (hl : Lowest c r hs r b) {x : Nat} (hx : x ≤ r) : hs.getD x 0 ≤ b.getD x 0 :=
  reach_top ((Out.done hh (Nat.le_refl _) hl.out (best_le hh hc6 hl hx) hx).1 (Int.le_refl _))

theorem pool_level {c r : Nat} {hs b ds : List Int} {w : Int} {K : List Bool} (hh : HS c r hs) (hc6 : c ≤ 6) (hl : Lowest c r hs r b) (hd : Depths r hs b w ds) (hk : KeptR r b ds w K) {p x : Nat} (h : RM c r K p x) : b.getD x 0 = b.getD p 0 := by
  have h36 := hh.r36
  have hhigh : ∀ y, K.getD y false = true → y < r ∧ hs.getD y 0 < b.getD y 0 := fun y hy => by
    obtain ⟨h1, h2, h3⟩ := (hk.2 y).1 hy
    have := hd.at_ y (by omega)
    rw [if_pos h1] at this
    exact ⟨h1, by omega⟩
  induction h with
  | start _ => rfl
  | step hx hy ht ih =>
    rename_i x y
    obtain ⟨a1, a2⟩ := hhigh x hx.on
    obtain ⟨b1, b2⟩ := hhigh y ht
    have l1 := best_low hh hc6 hl (Nat.le_of_lt b1) (Nat.le_of_lt a1) hy
    have l2 := best_low hh hc6 hl (Nat.le_of_lt a1) (Nat.le_of_lt b1) (nbrs_symm ⟨hh.c1, hc6⟩ hh.cr (Nat.le_of_lt a1) hy)
    omega
end Go.Proofs.Ytmogipomnjihcaa.Eb

namespace Go.Proofs.Ytmogipomnjihcaa.Eb
open Go Go.Abs Go.Low
set_option linter.unusedVariables false
set_option linter.unusedSimpArgs false

theorem ne4 : ∀ a b : Bool, pureRun C.c.P (binOp .neq 4 (.bool a) (.bool b)) = some (.bool (a != b)) := by
  intro a b
  cases a <;> cases b <;> kernel_rfl
attribute [local irreducible] gOK WS WC WR WD Ends FS YS OpV seqK blockK loopK midK retK rdK asgK rangeEnd sat Cell

theorem same_fs {M : HL} {n : Nat} {H : Heap} (hH : hasH M n H) {v u : Value} {xs : List Int} (hS : Sl M 1 v (ints xs)) (hU : Sl M 1 u (ints xs)) (hx : xs.length ≤ 100000) :
    FS C 21 [v, u] H (fun e H' => e = .bool true ∧ H' = H) := by
  refine FS.intro (pf := pf21) rfl rfl rfl ?_
  repeat' (first | refine zA ?_ | (refine zM ?_; intro _ _) | (apply Ws <;> intro hg))
  refine WR.op (by first | exact gN | exact gS rfl) rfl (OpV.lenSI rfl hS) ?_
  repeat' (first | refine zA ?_ | (refine zM ?_; intro _ _) | (apply Ws <;> intro hg))
  refine WR.op (by first | exact gN | exact gS rfl) rfl (OpV.lenSI rfl hU) ?_
  repeat' (first | refine zA ?_ | (refine zM ?_; intro _ _) | (apply Ws <;> intro hg))
  refine WC.condP rfl (fun hne => ?_) (fun hne => ?_)
  · exact absurd rfl hne
  repeat' (first | refine zA ?_ | (refine zM ?_; intro _ _) | (apply Ws <;> intro hg))
  refine WC.loop (fun k : Nat => [(0, v), (1, u), (5, .int .i64 (k : Int))]) (fun _ => []) (fun k H' => H' = H ∧ k ≤ xs.length) (fun k => xs.length - k) 0 (by repeat' (first | exact .nil | refine .cons rfl ?_)) rfl ⟨rfl, Nat.zero_le _⟩ ?_
  rintro k H' ⟨rfl, hk⟩
  repeat' (first | refine zA ?_ | (refine zM ?_; intro _ _) | (apply Ws <;> intro hg))
  refine WR.op (by first | exact gN | exact gS rfl) rfl (OpV.lenSI rfl hS) ?_
  repeat' (first | refine zA ?_ | (refine zM ?_; intro _ _) | (apply Ws <;> intro hg))
  refine WC.condP rfl (fun hlt => ?_) (fun hlt => ?_)
  · have hk' : k < xs.length := by omega
    repeat' (first | refine zA ?_ | (refine zM ?_; intro _ _) | (apply Ws <;> intro hg))
    refine WR.idxSI (by first | exact gN | exact gS rfl) rfl rfl hS rfl rfl hk' fun b o u hc => ?_
    repeat' (first | refine zA ?_ | (refine zM ?_; intro _ _) | (apply Ws <;> intro hg))
    refine WR.idxSI (by first | exact gN | exact gS rfl) rfl rfl hU rfl rfl hk' fun b2 o2 u2 hc2 => ?_
    repeat' (first | refine zA ?_ | (refine zM ?_; intro _ _) | (apply Ws <;> intro hg))
    refine WC.condP rfl (fun hq => ?_) (fun hq => ?_)
    · exact absurd rfl hq
    repeat' (first | refine zA ?_ | (refine zM ?_; intro _ _) | (apply Ws <;> intro hg))
    exact Ends.loop (k + 1) (by omega) (by repeat' (first | exact .nil | refine .cons rfl ?_)) rfl ⟨rfl, hk'⟩
  · repeat' (first | refine zA ?_ | (refine zM ?_; intro _ _) | (apply Ws <;> intro hg))
    exact Ends.ret1 rfl ⟨rfl, rfl⟩

theorem clos_fs {M : HL} {n : Nat} {H : Heap} (hH : hasH M n H) {rw : Int} {c bs bx : Nat} {v : Value} {xs : List Int} (hS : Sl M 1 v (ints xs)) (hc : 1 ≤ c ∧ c ≤ 6) (hcr : c ≤ xs.length) (hx : xs.length ≤ 36)
    (hms : (bs, .row 24 0 0 [.int .i64 rw, .int .i64 (c : Int), v]) ∈ M) {a b : Nat} (hmx : (bx, .row 3 0 0 [.int .i64 (a : Int)]) ∈ M) (ha : a < xs.length) (hb : b ≤ xs.length) :
    FS C 50 [.int .i64 (b : Int), .pointer (some ⟨bs, 0, some 0⟩), .pointer (some ⟨bx, 0, some 0⟩)] H (fun e H' => e = .bool (decide (b ∈ nbrs c xs.length a)) ∧ ∃ n', n ≤ n' ∧ hasH M n' H') := by
  refine FS.intro (pf := pf50) rfl rfl rfl ?_
  repeat' (first | refine zA ?_ | (refine zM ?_; intro _ _) | (apply Ws <;> intro hg))
  refine WR.call (by first | exact gN | exact gS rfl) rfl rfl (beside_fs hH hS hc hcr hx ha hb) ?_
  rintro _ H2 ⟨rfl, n2, hn2, hH2⟩
  repeat' (first | refine zA ?_ | (refine zM ?_; intro _ _) | (apply Ws <;> intro hg))
  exact Ends.ret1 rfl ⟨rfl, n2, hn2, hH2⟩

theorem some_fs {M : HL} {n : Nat} {H : Heap} (hH : hasH M n H) {rw : Int} {c bs bx : Nat} {v : Value} {xs : List Int} (hS : Sl M 1 v (ints xs)) (hc : 1 ≤ c ∧ c ≤ 6) (hcr : c ≤ xs.length) (hx : xs.length ≤ 36)
    (hms : (bs, .row 24 0 0 [.int .i64 rw, .int .i64 (c : Int), v]) ∈ M) {a : Nat} (hmx : (bx, .row 3 0 0 [.int .i64 (a : Int)]) ∈ M) (ha : a < xs.length)
    {vp : Value} {pl : List Nat} (hP : Sl M 1 vp (nodes pl)) (hpl : ∀ y ∈ pl, y < xs.length) (hp37 : pl.length ≤ 37) (hex : ∃ y ∈ pl, y ∈ nbrs c xs.length a) :
    FS C 49 [vp, .func (.func 50) #[] #[.pointer (some ⟨bs, 0, some 0⟩), .pointer (some ⟨bx, 0, some 0⟩)]] H (fun e H' => e = .bool true ∧ ∃ n', n ≤ n' ∧ hasH M n' H') := by
  have hll : (nodes pl).length = pl.length := by simp
  have hidx : FS C 87 [vp, .func (.func 50) #[] #[.pointer (some ⟨bs, 0, some 0⟩), .pointer (some ⟨bx, 0, some 0⟩)]] H (fun e H' => ∃ k : Nat, e = .int .i64 (k : Int) ∧ k ≤ 37 ∧ ∃ n', n ≤ n' ∧ hasH M n' H') := by
    refine FS.intro (pf := pf87) rfl rfl rfl ?_
    repeat' (first | refine zA ?_ | (refine zM ?_; intro _ _) | (apply Ws <;> intro hg))
    refine WR.op (by first | exact gN | exact gS rfl) rfl (OpV.lenS rfl hP) ?_
    rw [hll]
    repeat' (first | refine zA ?_ | (refine zM ?_; intro _ _) | (apply Ws <;> intro hg))
    refine WC.loop (fun a : Nat × Nat => [(0, vp), (1, .func (.func 50) #[] #[.pointer (some ⟨bs, 0, some 0⟩), .pointer (some ⟨bx, 0, some 0⟩)]), (7, .int .i64 (pl.length : Int)), (8, .int .i64 (a.1 : Int))]) (fun _ => [])
      (fun s H => s.1 ≤ pl.length ∧ (∀ j, j < s.1 → ∀ y, pl[j]? = some y → y ∉ nbrs c xs.length a) ∧ n ≤ s.2 ∧ hasH M s.2 H) (fun s => pl.length - s.1) (0, n) (by repeat' (first | exact .nil | refine .cons rfl ?_)) rfl ⟨Nat.zero_le _, fun j hj => absurd hj (Nat.not_lt_zero _), Nat.le_refl _, hH⟩ ?_
    rintro ⟨k, n4⟩ H4 ⟨hk, hno, hn4, hH4⟩
    simp only at hk hno hn4 hH4
    dsimp only
    repeat' (first | refine zA ?_ | (refine zM ?_; intro _ _) | (apply Ws <;> intro hg))
    refine WC.condP rfl (fun hlt => ?_) (fun hlt => ?_)
    · have hk' : k < pl.length := by omega
      obtain ⟨y, hy⟩ : ∃ y, pl[k]? = some y := ⟨pl[k], List.getElem?_eq_getElem hk'⟩
      have hyr := hpl y (List.mem_of_getElem? hy)
      repeat' (first | refine zA ?_ | (refine zM ?_; intro _ _) | (apply Ws <;> intro hg))
      refine WR.idxSl (by first | exact gN | exact gS rfl) rfl rfl hP rfl rfl (c := .int .i64 (y : Int)) (by simp [hy]) fun _ _ _ hc1 => ?_
      repeat' (first | refine zA ?_ | (refine zM ?_; intro _ _) | (apply Ws <;> intro hg))
      refine WR.callV (va := []) (vb := [.pointer (some ⟨bs, 0, some 0⟩), .pointer (some ⟨bx, 0, some 0⟩)]) (by first | exact gN | exact gS rfl) rfl rfl rfl (clos_fs hH4 hS hc hcr hx hms hmx ha (Nat.le_of_lt hyr)) ?_
      rintro _ H5 ⟨rfl, n5, hn5, hH5⟩
      repeat' (first | refine zA ?_ | (refine zM ?_; intro _ _) | (apply Ws <;> intro hg))
      refine WC.condP rfl (fun hin => ?_) (fun hin => ?_)
      · repeat' (first | refine zA ?_ | (refine zM ?_; intro _ _) | (apply Ws <;> intro hg))
        exact Ends.ret1 rfl ⟨k, rfl, by omega, n5, by omega, hH5⟩
      · repeat' (first | refine zA ?_ | (refine zM ?_; intro _ _) | (apply Ws <;> intro hg))
        refine Ends.loop (k + 1, n5) (by simp only; omega) (by repeat' (first | exact .nil | refine .cons rfl ?_)) rfl ⟨hk', fun j hj z hz => ?_, by simp only; omega, hH5⟩
        rcases Nat.lt_or_ge j k with h2 | h2
        · exact hno j h2 z hz
        · have : j = k := by simp only at hj; omega
          subst this
          rw [hy] at hz; cases hz; exact hin
    exfalso
    obtain ⟨y, hy, hyn⟩ := hex
    obtain ⟨j, hj, he⟩ := List.mem_iff_getElem.1 hy
    exact hno j (by omega) y (by rw [List.getElem?_eq_getElem hj, he]) hyn
  refine FS.intro (pf := pf49) rfl rfl rfl ?_
  repeat' (first | refine zA ?_ | (refine zM ?_; intro _ _) | (apply Ws <;> intro hg))
  refine WR.call (by first | exact gN | exact gS rfl) rfl rfl hidx ?_
  rintro _ H2 ⟨k, rfl, hk, n2, hn2, hH2⟩
  repeat' (first | refine zA ?_ | (refine zM ?_; intro _ _) | (apply Ws <;> intro hg))
  refine Ends.ret1 rfl ⟨?_, n2, hn2, hH2⟩
  simp; done
end Go.Proofs.Ytmogipomnjihcaa.Eb

namespace Go.Proofs.Ytmogipomnjihcaa.Eb
open Go Go.Abs Go.Low
set_option linter.unusedVariables false
set_option linter.unusedSimpArgs false
attribute [local irreducible] gOK WS WC WR WD Ends FS YS OpV seqK blockK loopK midK retK rdK asgK rangeEnd sat Cell

theorem levelR_fs {M : HL} {n : Nat} {H : Heap} (hH : hasH M n H) {r c : Int} {v : Value} {xs : List Int} (hS : Sl M 1 v (ints xs)) (hx : xs.length ≤ 1000) (w : Int) :
    FS C 61 [.agg #[.int .i64 r, .int .i64 c, v], .int .i64 w] H (fun e H' => e = .int .i64 (levelE r c xs w) ∧ ∃ n', n ≤ n' ∧ hasH M n' H') := by
  have h1 := hS.one_
  refine FS.intro (pf := pf61) rfl rfl rfl ?_
  repeat' (first | refine zA ?_ | (refine zM ?_; intro _ _) | (apply Ws <;> intro hg))
  rename_i H1 hH1
  refine WR.call (by first | exact gN | exact gS rfl) rfl rfl (CheckR_fs hH1 hS.cons hx) ?_
  rintro _ H2 ⟨rfl, n2, hn2, hH2⟩
  repeat' (first | refine zA ?_ | (refine zM ?_; intro _ _) | (apply Ws <;> intro hg))
  · have hck : checkE r c xs = 0 := hg
    refine WR.call (by first | exact gN | exact gS rfl) rfl rfl (in_fs _ _ _ _) ?_
    rintro _ _ ⟨rfl, rfl⟩
    repeat' (first | refine zA ?_ | (refine zM ?_; intro _ _) | (apply Ws <;> intro hg))
    refine WC.condP rfl (fun hw => ?_) (fun hw => ?_)
    · repeat' (first | refine zA ?_ | (refine zM ?_; intro _ _) | (apply Ws <;> intro hg))
      refine Ends.ret1 rfl ⟨?_, n2, by omega, hH2.tail⟩
      simp only [levelE, hck, ne_eq, not_true_eq_false, if_false, if_neg hw]
    · repeat' (first | refine zA ?_ | (refine zM ?_; intro _ _) | (apply Ws <;> intro hg))
      refine Ends.ret1 rfl ⟨?_, n2, by omega, hH2.tail⟩
      simp only [levelE, hck, ne_eq, not_true_eq_false, if_false, if_pos (Decidable.not_not.1 hw)]
  · have hck : ¬ checkE r c xs = 0 := hg
    repeat' (first | refine zA ?_ | (refine zM ?_; intro _ _) | (apply Ws <;> intro hg))
    refine Ends.ret1 rfl ⟨?_, n2, by omega, hH2.tail⟩
    simp only [levelE, ne_eq, hck, not_false_eq_true, if_true]

structure OV where
  k : Nat
  v : Value
  Mx : HL
  n : Nat

theorem take_next {l : List Int} {k : Nat} (h : k < l.length) : ints (l.take k) ++ [.int .i64 (l.getD k 0)] = ints (l.take (k + 1)) := by
  have h1 : l[k]? = some (l.getD k 0) := by rw [List.getD_eq_getElem?_getD, List.getElem?_eq_getElem h]; rfl
  rw [List.take_add_one, h1]
  simp [ints]

theorem SillsR_fs {M : HL} {n : Nat} {H : Heap} (hH : hasH M n H) {r c : Int} {v : Value} {xs : List Int} (hS : Sl M 1 v (ints xs)) (hx : xs.length ≤ 1000)
    (hex : checkE r c xs = 0 → ∃ best, Lowest c.toNat xs.length (padded xs) xs.length best) :
    FS C 18 [.agg #[.int .i64 r, .int .i64 c, v]] H (fun e H' => ∃ n', n ≤ n' ∧ (checkE r c xs ≠ 0 ∧ e = .tuple #[.slice none 0 0, .int .i64 (checkE r c xs)] ∧ hasH M n' H' ∨
      checkE r c xs = 0 ∧ ∃ v' Mx best, e = .tuple #[v', .int .i64 0] ∧ Own 3 1 v' (ints (best.take xs.length)) Mx ∧ hasH (Mx ++ M) n' H' ∧ Lowest c.toNat xs.length (padded xs) xs.length best)) := by
  have h1 := hS.one_
  refine FS.intro (pf := pf18) rfl rfl rfl ?_
  repeat' (first | refine zA ?_ | (refine zM ?_; intro _ _) | (apply Ws <;> intro hg))
  rename_i H1 hH1
  have hSv : Sl ((n, .row 27 0 0 [.int .i64 r, .int .i64 c, v]) :: M) 1 v (ints xs) := hS.cons
  have hmT : (n, Ch.row 27 0 0 [.int .i64 r, .int .i64 c, v]) ∈ (n, Ch.row 27 0 0 [.int .i64 r, .int .i64 c, v]) :: M := .head _
  have hback : ∀ {Z : HL} {n' : Nat} {H' : Heap}, hasH (Z ++ ((n, Ch.row 27 0 0 [.int .i64 r, .int .i64 c, v]) :: M)) n' H' → hasH (Z ++ M) n' H' := fun hq => hq.sub (.append (.refl _) (List.sublist_cons_self _ _))
  generalize (n, Ch.row 27 0 0 [.int .i64 r, .int .i64 c, v]) :: M = T at hSv hmT hH1 hback
  refine WR.call (by first | exact gN | exact gS rfl) rfl rfl (CheckR_fs hH1 hSv hx) ?_
  rintro _ H2 ⟨rfl, n2, hn2, hH2⟩
  clear hH1
  repeat' (first | refine zA ?_ | (refine zM ?_; intro _ _) | (apply Ws <;> intro hg))
  refine WC.condP rfl (fun hne => ?_) (fun hne => ?_)
  · repeat' (first | refine zA ?_ | (refine zM ?_; intro _ _) | (apply Ws <;> intro hg))
    exact Ends.ret2 rfl rfl ⟨n2, by omega, .inl ⟨hne, rfl, hback (Z := []) hH2⟩⟩
  have hck : checkE r c xs = 0 := Decidable.not_not.1 hne
  obtain ⟨hh, hc6, hr36⟩ := HS_of hck
  obtain ⟨g1, g2, g3, g4, g5, g6⟩ := check_ok hck
  obtain ⟨best, hl⟩ := hex hck
  have hbl := hl.len
  obtain ⟨rows, rfl⟩ : ∃ rows : Nat, r = rows := ⟨r.toNat, by omega⟩
  obtain ⟨c, rfl⟩ : ∃ c' : Nat, c = c' := ⟨c.toNat, by omega⟩
  rw [Int.toNat_natCast] at hh hc6 hl
  have hrc : xs.length = rows * c := by
    have : ((rows * c : Nat) : Int) = (rows : Int) * (c : Int) := by simp
    omega
  repeat' (first | refine zA ?_ | (refine zM ?_; intro _ _) | (apply Ws <;> intro hg))
  refine WC.loop (fun s : OV => [(1, .pointer (some ⟨n, 0, some 0⟩)), (5, s.v), (6, .int .i64 (s.k : Int))]) (fun _ => [])
    (fun s H => s.k ≤ xs.length ∧ Own 3 1 s.v (ints (best.take s.k)) s.Mx ∧ hasH (s.Mx ++ T) s.n H ∧ n ≤ s.n) (fun s => xs.length - s.k) ⟨0, .slice none 0 0, [], n2⟩ (by repeat' (first | exact .nil | refine .cons rfl ?_)) rfl ⟨Nat.zero_le _, .nil, hH2, by simp only; omega⟩ ?_
  clear hH2
  rintro ⟨k, v5, Mx, n3⟩ H3 ⟨hk, hO, hH3, hn3⟩
  simp only at hk hO hH3 hn3
  dsimp only
  have hmX : (n, Ch.row 27 0 0 [.int .i64 (rows : Int), .int .i64 (c : Int), v]) ∈ Mx ++ T := List.mem_append_right _ hmT
  have hSvX : Sl (Mx ++ T) 1 v (ints xs) := hSv.mono (fun q hq => List.mem_append_right _ hq)
  repeat' (first | refine zA ?_ | (refine zM ?_; intro _ _) | (apply Ws <;> intro hg))
  refine WR.op (by first | exact gN | exact gS rfl) rfl (OpV.lenSI rfl hSvX) ?_
  repeat' (first | refine zA ?_ | (refine zM ?_; intro _ _) | (apply Ws <;> intro hg))
  refine WC.condP rfl (fun hlt => ?_) (fun hlt => ?_)
  · have hk' : k < xs.length := by omega
    repeat' (first | refine zA ?_ | (refine zM ?_; intro _ _) | (apply Ws <;> intro hg))
    refine WR.call (by first | exact gN | exact gS rfl) rfl rfl (sillR_fs hH3 hSvX hh hc6 ⟨by omega, by omega⟩ hrc hk' hl) ?_
    rintro _ H4 ⟨rfl, n4, hn4, hH4⟩
    repeat' (first | refine zA ?_ | (refine zM ?_; intro _ _) | (apply Ws <;> intro hg))
    refine WR.append1F [] Mx T rfl rfl rfl rfl hO hH4 (new := [.int .i64 (best.getD k 0)]) (by rfl) rfl rfl (Nat.le_refl _) (by omega) (by simp; omega) fun v3 Mx3 n9 H10 hO3 hH10 hn10 => ?_
    simp only [List.nil_append] at hH10
    rw [take_next (by omega)] at hO3
    repeat' (first | refine zA ?_ | (refine zM ?_; intro _ _) | (apply Ws <;> intro hg))
    exact Ends.loop ⟨k + 1, v3, Mx3, n9⟩ (by simp only; omega) (by repeat' (first | exact .nil | refine .cons rfl ?_)) rfl ⟨hk', hO3, hH10, by simp only; omega⟩
  have hkn : k = xs.length := by omega
  subst hkn
  repeat' (first | refine zA ?_ | (refine zM ?_; intro _ _) | (apply Ws <;> intro hg))
  exact Ends.ret2 rfl rfl ⟨n3, hn3, .inr ⟨hck, v5, Mx, best, rfl, hO, hback hH3, hl⟩⟩
theorem DepthsR_fs {M : HL} {n : Nat} {H : Heap} (hH : hasH M n H) {r c : Int} {v : Value} {xs : List Int} (hS : Sl M 1 v (ints xs)) (hx : xs.length ≤ 1000) (w : Int)
    (hex : levelE r c xs w = 0 → ∃ best ds, Lowest c.toNat xs.length (padded xs) xs.length best ∧ Depths xs.length (padded xs) best w ds) :
    FS C 20 [.agg #[.int .i64 r, .int .i64 c, v], .int .i64 w] H (fun e H' => ∃ n', n ≤ n' ∧ (levelE r c xs w ≠ 0 ∧ e = .tuple #[.slice none 0 0, .int .i64 (levelE r c xs w)] ∧ hasH M n' H' ∨
      levelE r c xs w = 0 ∧ ∃ v' Mx best ds, e = .tuple #[v', .int .i64 0] ∧ Own 3 1 v' (ints (ds.take xs.length)) Mx ∧ hasH (Mx ++ M) n' H' ∧ Lowest c.toNat xs.length (padded xs) xs.length best ∧ Depths xs.length (padded xs) best w ds)) := by
  have h1 := hS.one_
  refine FS.intro (pf := pf20) rfl rfl rfl ?_
  repeat' (first | refine zA ?_ | (refine zM ?_; intro _ _) | (apply Ws <;> intro hg))
  rename_i H1 hH1
  have hSv : Sl ((n, .row 27 0 0 [.int .i64 r, .int .i64 c, v]) :: M) 1 v (ints xs) := hS.cons
  have hmT : (n, Ch.row 27 0 0 [.int .i64 r, .int .i64 c, v]) ∈ (n, Ch.row 27 0 0 [.int .i64 r, .int .i64 c, v]) :: M := .head _
  have hback : ∀ {Z : HL} {n' : Nat} {H' : Heap}, hasH (Z ++ ((n, Ch.row 27 0 0 [.int .i64 r, .int .i64 c, v]) :: M)) n' H' → hasH (Z ++ M) n' H' := fun hq => hq.sub (.append (.refl _) (List.sublist_cons_self _ _))
  generalize (n, Ch.row 27 0 0 [.int .i64 r, .int .i64 c, v]) :: M = T at hSv hmT hH1 hback
  refine WR.call (by first | exact gN | exact gS rfl) rfl rfl (levelR_fs hH1 hSv hx w) ?_
  rintro _ H2 ⟨rfl, n2, hn2, hH2⟩
  clear hH1
  repeat' (first | refine zA ?_ | (refine zM ?_; intro _ _) | (apply Ws <;> intro hg))
  refine WC.condP rfl (fun hne => ?_) (fun hne => ?_)
  · repeat' (first | refine zA ?_ | (refine zM ?_; intro _ _) | (apply Ws <;> intro hg))
    exact Ends.ret2 rfl rfl ⟨n2, by omega, .inl ⟨hne, rfl, hback (Z := []) hH2⟩⟩
  have he0 : levelE r c xs w = 0 := Decidable.not_not.1 hne
  obtain ⟨hck, hw⟩ := level_ok he0
  obtain ⟨hh, hc6, hr36⟩ := HS_of hck
  obtain ⟨g1, g2, g3, g4, g5, g6⟩ := check_ok hck
  obtain ⟨best, ds, hl, hd⟩ := hex he0
  have hdl := hd.len
  obtain ⟨rows, rfl⟩ : ∃ rows : Nat, r = rows := ⟨r.toNat, by omega⟩
  obtain ⟨c, rfl⟩ : ∃ c' : Nat, c = c' := ⟨c.toNat, by omega⟩
  rw [Int.toNat_natCast] at hh hc6 hl
  have hrc : xs.length = rows * c := by
    have : ((rows * c : Nat) : Int) = (rows : Int) * (c : Int) := by simp
    omega
  have hdeep : ∀ k, k < xs.length → deep best (padded xs) w k = ds.getD k 0 ∧ 0 ≤ ds.getD k 0 := by
    intro k hk
    have h2 := hd.at_ k (by omega)
    rw [if_pos hk] at h2
    have h3 := best_ge hh hc6 hl (p := k) (by omega)
    unfold deep
    omega
  repeat' (first | refine zA ?_ | (refine zM ?_; intro _ _) | (apply Ws <;> intro hg))
  refine WC.loop (fun s : OV => [(1, .int .i64 w), (2, .pointer (some ⟨n, 0, some 0⟩)), (7, s.v), (8, .int .i64 (s.k : Int))]) (fun _ => [])
    (fun s H => s.k ≤ xs.length ∧ Own 3 1 s.v (ints (ds.take s.k)) s.Mx ∧ hasH (s.Mx ++ T) s.n H ∧ n ≤ s.n) (fun s => xs.length - s.k) ⟨0, .slice none 0 0, [], n2⟩ (by repeat' (first | exact .nil | refine .cons rfl ?_)) rfl ⟨Nat.zero_le _, .nil, hH2, by simp only; omega⟩ ?_
  clear hH2
  rintro ⟨k, v5, Mx, n3⟩ H3 ⟨hk, hO, hH3, hn3⟩
  simp only at hk hO hH3 hn3
  dsimp only
  have hmX : (n, Ch.row 27 0 0 [.int .i64 (rows : Int), .int .i64 (c : Int), v]) ∈ Mx ++ T := List.mem_append_right _ hmT
  have hSvX : Sl (Mx ++ T) 1 v (ints xs) := hSv.mono (fun q hq => List.mem_append_right _ hq)
  repeat' (first | refine zA ?_ | (refine zM ?_; intro _ _) | (apply Ws <;> intro hg))
  refine WR.op (by first | exact gN | exact gS rfl) rfl (OpV.lenSI rfl hSvX) ?_
  repeat' (first | refine zA ?_ | (refine zM ?_; intro _ _) | (apply Ws <;> intro hg))
  refine WC.condP rfl (fun hlt => ?_) (fun hlt => ?_)
  · have hk' : k < xs.length := by omega
    obtain ⟨hdk, hd0⟩ := hdeep k hk'
    repeat' (first | refine zA ?_ | (refine zM ?_; intro _ _) | (apply Ws <;> intro hg))
    refine WR.call (by first | exact gN | exact gS rfl) rfl rfl (depthR_fs hH3 hSvX hh hc6 ⟨by omega, by omega⟩ hrc hk' hl hw) ?_
    rintro _ H4 ⟨rfl, n4, hn4, hH4⟩
    rw [hdk]
    repeat' (first | refine zA ?_ | (refine zM ?_; intro _ _) | (apply Ws <;> intro hg))
    refine WR.op (by first | exact gN | exact gS rfl) rfl (OpV.max' rfl rfl rfl) ?_
    rw [show max 0 (ds.getD k 0) = ds.getD k 0 by omega]
    refine WR.append1F [] Mx T rfl rfl rfl rfl hO hH4 (new := [.int .i64 (ds.getD k 0)]) (by rfl) rfl rfl (Nat.le_refl _) (by omega) (by simp; omega) fun v3 Mx3 n9 H10 hO3 hH10 hn10 => ?_
    simp only [List.nil_append] at hH10
    rw [take_next (by omega)] at hO3
    repeat' (first | refine zA ?_ | (refine zM ?_; intro _ _) | (apply Ws <;> intro hg))
    exact Ends.loop ⟨k + 1, v3, Mx3, n9⟩ (by simp only; omega) (by repeat' (first | exact .nil | refine .cons rfl ?_)) rfl ⟨hk', hO3, hH10, by simp only; omega⟩
  have hkn : k = xs.length := by omega
  subst hkn
  repeat' (first | refine zA ?_ | (refine zM ?_; intro _ _) | (apply Ws <;> intro hg))
  exact Ends.ret2 rfl rfl ⟨n3, hn3, .inr ⟨he0, v5, Mx, best, ds, rfl, hO, hback hH3, hl, hd⟩⟩

theorem BareRef_fs {M : HL} {n : Nat} {H : Heap} (hH : hasH M n H) {r c : Int} {v : Value} {xs : List Int} (hS : Sl M 1 v (ints xs)) (hx : xs.length ≤ 1000) (w : Int)
    (hex : levelE r c xs w = 0 → ∃ best ds, Lowest c.toNat xs.length (padded xs) xs.length best ∧ Depths xs.length (padded xs) best w ds) :
    FS C 25 [.agg #[.int .i64 r, .int .i64 c, v], .int .i64 w] H (fun e H' => ∃ n', n ≤ n' ∧ (levelE r c xs w ≠ 0 ∧ e = .tuple #[.slice none 0 0, .int .i64 (levelE r c xs w)] ∧ hasH M n' H' ∨
      levelE r c xs w = 0 ∧ ∃ v' Mx l, e = .tuple #[v', .int .i64 0] ∧ Own 3 1 v' (nodes l) Mx ∧ hasH (Mx ++ M) n' H' ∧ BareR r c xs w l)) := by
  have h1 := hS.one_
  refine FS.intro (pf := pf25) rfl rfl rfl ?_
  repeat' (first | refine zA ?_ | (refine zM ?_; intro _ _) | (apply Ws <;> intro hg))
  rename_i H1 hH1
  have hSv : Sl ((n, .row 27 0 0 [.int .i64 r, .int .i64 c, v]) :: M) 1 v (ints xs) := hS.cons
  have hmT : (n, Ch.row 27 0 0 [.int .i64 r, .int .i64 c, v]) ∈ (n, Ch.row 27 0 0 [.int .i64 r, .int .i64 c, v]) :: M := .head _
  have hback : ∀ {Z : HL} {n' : Nat} {H' : Heap}, hasH (Z ++ ((n, Ch.row 27 0 0 [.int .i64 r, .int .i64 c, v]) :: M)) n' H' → hasH (Z ++ M) n' H' := fun hq => hq.sub (.append (.refl _) (List.sublist_cons_self _ _))
  generalize (n, Ch.row 27 0 0 [.int .i64 r, .int .i64 c, v]) :: M = T at hSv hmT hH1 hback
  refine WR.call (by first | exact gN | exact gS rfl) rfl rfl (levelR_fs hH1 hSv hx w) ?_
  rintro _ H2 ⟨rfl, n2, hn2, hH2⟩
  clear hH1
  repeat' (first | refine zA ?_ | (refine zM ?_; intro _ _) | (apply Ws <;> intro hg))
  refine WC.condP rfl (fun hne => ?_) (fun hne => ?_)
  · repeat' (first | refine zA ?_ | (refine zM ?_; intro _ _) | (apply Ws <;> intro hg))
    exact Ends.ret2 rfl rfl ⟨n2, by omega, .inl ⟨hne, rfl, hback (Z := []) hH2⟩⟩
  have he0 : levelE r c xs w = 0 := Decidable.not_not.1 hne
  obtain ⟨hck, hw⟩ := level_ok he0
  obtain ⟨hh, hc6, hr36⟩ := HS_of hck
  obtain ⟨g1, g2, g3, g4, g5, g6⟩ := check_ok hck
  obtain ⟨best, ds, hl, hd⟩ := hex he0
  have hdl := hd.len
  obtain ⟨rows, rfl⟩ : ∃ rows : Nat, r = rows := ⟨r.toNat, by omega⟩
  obtain ⟨c, rfl⟩ : ∃ c' : Nat, c = c' := ⟨c.toNat, by omega⟩
  rw [Int.toNat_natCast] at hh hc6 hl
  have hrc : xs.length = rows * c := by
    have : ((rows * c : Nat) : Int) = (rows : Int) * (c : Int) := by simp
    omega
  have hdeep : ∀ k, k < xs.length → deep best (padded xs) w k = ds.getD k 0 ∧ 0 ≤ ds.getD k 0 := by
    intro k hk
    have h2 := hd.at_ k (by omega)
    rw [if_pos hk] at h2
    have h3 := best_ge hh hc6 hl (p := k) (by omega)
    unfold deep
    omega
  repeat' (first | refine zA ?_ | (refine zM ?_; intro _ _) | (apply Ws <;> intro hg))
  refine WC.loop (fun s : OV => [(1, .int .i64 w), (2, .pointer (some ⟨n, 0, some 0⟩)), (7, s.v), (8, .int .i64 (s.k : Int))]) (fun _ => [])
    (fun s H => s.k ≤ xs.length ∧ Own 3 1 s.v (nodes (bareL s.k ds)) s.Mx ∧ hasH (s.Mx ++ T) s.n H ∧ n ≤ s.n) (fun s => xs.length - s.k) ⟨0, .slice none 0 0, [], n2⟩ (by repeat' (first | exact .nil | refine .cons rfl ?_)) rfl ⟨Nat.zero_le _, .nil, hH2, by simp only; omega⟩ ?_
  clear hH2
  rintro ⟨k, v5, Mx, n3⟩ H3 ⟨hk, hO, hH3, hn3⟩
  simp only at hk hO hH3 hn3
  dsimp only
  have hmX : (n, Ch.row 27 0 0 [.int .i64 (rows : Int), .int .i64 (c : Int), v]) ∈ Mx ++ T := List.mem_append_right _ hmT
  have hSvX : Sl (Mx ++ T) 1 v (ints xs) := hSv.mono (fun q hq => List.mem_append_right _ hq)
  repeat' (first | refine zA ?_ | (refine zM ?_; intro _ _) | (apply Ws <;> intro hg))
  refine WR.op (by first | exact gN | exact gS rfl) rfl (OpV.lenSI rfl hSvX) ?_
  repeat' (first | refine zA ?_ | (refine zM ?_; intro _ _) | (apply Ws <;> intro hg))
  refine WC.condP rfl (fun hlt => ?_) (fun hlt => ?_)
  · have hk' : k < xs.length := by omega
    obtain ⟨hdk, hd0⟩ := hdeep k hk'
    repeat' (first | refine zA ?_ | (refine zM ?_; intro _ _) | (apply Ws <;> intro hg))
    refine WR.call (by first | exact gN | exact gS rfl) rfl rfl (depthR_fs hH3 hSvX hh hc6 ⟨by omega, by omega⟩ hrc hk' hl hw) ?_
    rintro _ H4 ⟨rfl, n4, hn4, hH4⟩
    rw [hdk]
    repeat' (first | refine zA ?_ | (refine zM ?_; intro _ _) | (apply Ws <;> intro hg))
    refine WC.condP rfl (fun h0 => ?_) (fun h0 => ?_)
    · repeat' (first | refine zA ?_ | (refine zM ?_; intro _ _) | (apply Ws <;> intro hg))
      refine WR.append1F [] Mx T rfl rfl rfl rfl hO hH4 (new := [.int .i64 (k : Int)]) (by rfl) rfl rfl (Nat.le_refl _) (by omega) (by simp [bareL]; have := List.length_filter_le (fun p => decide (ds.getD p 0 = 0)) (List.range k); simp at this; omega) fun v3 Mx3 n9 H10 hO3 hH10 hn10 => ?_
      simp only [List.nil_append] at hH10
      have hb : bareL (k + 1) ds = bareL k ds ++ [k] := by rw [bareL, List.range_succ, List.filter_append, ← bareL, List.filter_cons, if_pos (decide_eq_true (by omega))]; rfl
      repeat' (first | refine zA ?_ | (refine zM ?_; intro _ _) | (apply Ws <;> intro hg))
      exact Ends.loop ⟨k + 1, v3, Mx3, n9⟩ (by simp only; omega) (by repeat' (first | exact .nil | refine .cons rfl ?_)) rfl ⟨hk', by simpa [hb] using hO3, hH10, by simp only; omega⟩
    · repeat' (first | refine zA ?_ | (refine zM ?_; intro _ _) | (apply Ws <;> intro hg))
      have hb : bareL (k + 1) ds = bareL k ds := by rw [bareL, List.range_succ, List.filter_append, ← bareL, List.filter_cons, if_neg (by rw [decide_eq_true_iff]; omega), List.filter_nil, List.append_nil]
      exact Ends.loop ⟨k + 1, v5, Mx, n4⟩ (by simp only; omega) (by repeat' (first | exact .nil | refine .cons rfl ?_)) rfl ⟨hk', by simpa [hb] using hO, hH4, by simp only; omega⟩
  have hkn : k = xs.length := by omega
  subst hkn
  repeat' (first | refine zA ?_ | (refine zM ?_; intro _ _) | (apply Ws <;> intro hg))
  exact Ends.ret2 rfl rfl ⟨n3, hn3, .inr ⟨he0, v5, Mx, _, rfl, hO, hback hH3, ⟨best, ds, by rw [Int.toNat_natCast]; exact hl, hd, rfl⟩⟩⟩
end Go.Proofs.Ytmogipomnjihcaa.Eb

namespace Go.Proofs.Ytmogipomnjihcaa.Eb
open Go Go.Abs Go.Low
set_option linter.unusedVariables false
set_option linter.unusedSimpArgs false
attribute [local irreducible] gOK WS WC WR WD Ends FS YS OpV seqK blockK loopK midK retK rdK asgK rangeEnd sat Cell

/-- What has been met from a place, among places that are marked. -/
structure MetW (c r : Nat) (K : List Bool) (p : Nat) (met : List Nat) (i : Nat) : Prop where
  nd : met.Nodup
  rm : ∀ y ∈ met, RM c r K p y
  st : p ∈ met
  cl : ∀ j, j < i → ∀ x, met[j]? = some x → ∀ y, y ∈ nbrs c r x → K.getD y false = true → y ∈ met

theorem MetW.all {c r : Nat} {K : List Bool} {p : Nat} {met : List Nat} {i : Nat} (h : MetW c r K p met i) (hi : met.length ≤ i) {y : Nat} : y ∈ met ↔ RM c r K p y := by
  refine ⟨h.rm y, fun hr => ?_⟩
  induction hr with
  | start h1 => exact h.st
  | step _ hy ht ih =>
    obtain ⟨j, hj, he⟩ := List.mem_iff_getElem.1 ih
    exact h.cl j (by omega) _ (by rw [List.getElem?_eq_getElem hj, he]) _ hy ht

theorem MetW.push {c r : Nat} {K : List Bool} {p : Nat} {met : List Nat} {i x y : Nat} (h : MetW c r K p met i) (hi : i < met.length) (hx : x ∈ met) (hy : y ∈ nbrs c r x) (ht : K.getD y false = true) (hn : y ∉ met) : MetW c r K p (met ++ [y]) i where
  nd := by
    rw [List.nodup_append]
    exact ⟨h.nd, by simp, fun a ha b hb => by rw [List.mem_singleton.1 hb]; exact fun e => hn (e ▸ ha)⟩
  rm z hz := by
    rcases List.mem_append.1 hz with h1 | h1
    · exact h.rm z h1
    · rw [List.mem_singleton.1 h1]; exact .step (h.rm x hx) hy ht
  st := List.mem_append_left _ h.st
  cl j hj z hz w hw hwt := by
    rw [List.getElem?_append_left (by omega)] at hz
    exact List.mem_append_left _ (h.cl j hj z hz w hw hwt)

theorem MetW.len {c r : Nat} {K : List Bool} {p : Nat} {met : List Nat} {i : Nat} (hK : ∀ y, K.getD y false = true → y < r) (h : MetW c r K p met i) : met.length ≤ r := nodup_len r met h.nd (fun y hy => hK y (h.rm y hy).on)

/-- Which places have been met, from the first of the marked ones on. -/
def Seen (c r : Nat) (K : List Bool) (W : List Nat) (i : Nat) (met : List Nat) : Prop := ∀ y, y ∈ met ↔ ∃ j x, j < i ∧ W[j]? = some x ∧ RM c r K x y

open Classical in
noncomputable def poolsW (c r : Nat) (K : List Bool) (l : List Nat) : List (List Nat) := (l.filter fun x => decide (First c r K x)).map (comp c r K)

theorem poolsW_all {c r : Nat} {K : List Bool} : poolsW c r K (marked K r) = poolsM c r K r := by
  classical
  rw [poolsW, poolsM, firsts, marked, List.filter_filter]
  congr 1
  apply List.filter_congr
  intro x _
  by_cases h : First c r K x
  · have h1 : K.getD x false = true := h.1
    rw [decide_eq_true h, h1]; rfl
  · rw [decide_eq_false h]; rfl

section
variable {c r : Nat} {K : List Bool} (hc : 1 ≤ c ∧ c ≤ 6) (hcr : c ≤ r) (hK : ∀ y, K.getD y false = true → y < r)
include hc hcr hK

omit hc hcr hK in
theorem marked_at {i x : Nat} (h : (marked K r)[i]? = some x) : x < r ∧ K.getD x false = true := by
  have := List.mem_of_getElem? h
  simp only [marked, List.mem_filter, List.mem_range] at this
  exact this

omit hc hcr in
theorem marked_ix {x : Nat} (h : K.getD x false = true) : ∃ j : Nat, (marked K r)[j]? = some x := by
  have hm : x ∈ marked K r := by simp only [marked, List.mem_filter, List.mem_range]; exact ⟨hK x h, h⟩
  obtain ⟨j, hj, he⟩ := List.mem_iff_getElem.1 hm
  exact ⟨j, by rw [List.getElem?_eq_getElem hj, he]⟩

theorem seen_first {i x : Nat} {met : List Nat} (hs : Seen c r K (marked K r) i met) (hx : (marked K r)[i]? = some x) : x ∉ met ↔ First c r K x := by
  have hkx := (marked_at hx).2
  have hsort : (marked K r).Pairwise (· < ·) := filter_range_lt _ _
  constructor
  · intro hn
    refine ⟨hkx, fun y hy => ?_⟩
    rcases Nat.lt_or_ge y x with h | h
    · exfalso
      obtain ⟨j, hj⟩ := marked_ix hK hy.on
      refine hn ((hs x).2 ⟨j, y, ?_, hj, RM.symm hc hcr hK hy⟩)
      rcases Nat.lt_or_ge j i with h1 | h1
      · exact h1
      · rcases Nat.eq_or_lt_of_le h1 with h2 | h2
        · subst h2; rw [hx] at hj; cases hj; omega
        · have := pairwise_get hsort h2 hx hj; omega
    · exact h
  · intro hf hm
    obtain ⟨j, y, hj, hy, hr⟩ := (hs x).1 hm
    have := pairwise_get hsort hj hy hx
    have := hf.2 y (RM.symm hc hcr hK hr)
    omega

omit hc hcr hK in
theorem Seen.skip {i x : Nat} {met : List Nat} (hs : Seen c r K (marked K r) i met) (hx : (marked K r)[i]? = some x) (hm : x ∈ met) : Seen c r K (marked K r) (i + 1) met := by
  intro y
  rw [hs y]
  constructor
  · rintro ⟨j, z, h1, h2, h3⟩; exact ⟨j, z, by omega, h2, h3⟩
  · rintro ⟨j, z, h1, h2, h3⟩
    rcases Nat.lt_or_ge j i with h | h
    · exact ⟨j, z, h, h2, h3⟩
    · have : j = i := by omega
      subst this
      rw [hx] at h2; cases h2
      obtain ⟨j', z', q1, q2, q3⟩ := (hs x).1 hm
      exact ⟨j', z', q1, q2, RM.trans q3 h3⟩

omit hc hcr hK in
theorem Seen.take {i x : Nat} {met pool : List Nat} (hs : Seen c r K (marked K r) i met) (hx : (marked K r)[i]? = some x) (hp : ∀ y, y ∈ pool ↔ RM c r K x y) : Seen c r K (marked K r) (i + 1) (met ++ pool) := by
  intro y
  rw [List.mem_append, hs y, hp y]
  constructor
  · rintro (⟨j, z, h1, h2, h3⟩ | h)
    · exact ⟨j, z, by omega, h2, h3⟩
    · exact ⟨i, x, by omega, hx, h⟩
  · rintro ⟨j, z, h1, h2, h3⟩
    rcases Nat.lt_or_ge j i with h | h
    · exact .inl ⟨j, z, h, h2, h3⟩
    · have : j = i := by omega
      subst this
      rw [hx] at h2; cases h2
      exact .inr h3
end

theorem poolsW_take {c r : Nat} {K : List Bool} {W : List Nat} {i x : Nat} (hx : W[i]? = some x) (h : First c r K x) : poolsW c r K (W.take (i + 1)) = poolsW c r K (W.take i) ++ [comp c r K x] := by
  classical
  rw [poolsW, List.take_add_one, hx, Option.toList_some, List.filter_append, List.map_append, ← poolsW, List.filter_cons, if_pos (decide_eq_true h)]; rfl
theorem poolsW_skip {c r : Nat} {K : List Bool} {W : List Nat} {i x : Nat} (hx : W[i]? = some x) (h : ¬ First c r K x) : poolsW c r K (W.take (i + 1)) = poolsW c r K (W.take i) := by
  classical
  rw [poolsW, List.take_add_one, hx, Option.toList_some, List.filter_append, List.map_append, ← poolsW, List.filter_cons, if_neg (by simpa using h), List.filter_nil, List.map_nil, List.append_nil]

theorem KeptR.unique {r : Nat} {b ds : List Int} {w : Int} {K K' : List Bool} (h : KeptR r b ds w K) (h' : KeptR r b ds w K') : K = K' := by
  apply List.ext_getElem (by rw [h.1, h'.1])
  intro i h1 h2
  have e1 : K.getD i false = K[i] := by rw [List.getD_eq_getElem?_getD, List.getElem?_eq_getElem h1]; rfl
  have e2 : K'.getD i false = K'[i] := by rw [List.getD_eq_getElem?_getD, List.getElem?_eq_getElem h2]; rfl
  rw [← e1, ← e2]
  cases hq : K.getD i false with
  | true => rw [(h'.2 i).2 ((h.2 i).1 hq)]
  | false =>
    cases hq' : K'.getD i false with
    | false => rfl
    | true => rw [(h.2 i).2 ((h'.2 i).1 hq')] at hq; cases hq
end Go.Proofs.Ytmogipomnjihcaa.Eb

namespace Go.Proofs.Ytmogipomnjihcaa.Eb
open Go Go.Abs Go.Low
set_option linter.unusedVariables false
set_option linter.unusedSimpArgs false
attribute [local irreducible] gOK WS WC WR WD Ends FS YS OpV seqK blockK loopK midK retK rdK asgK rangeEnd sat Cell

structure QV where
  k : Nat
  v : Value
  Mx : HL
  n : Nat
  pl : List Nat

structure WV where
  i : Nat
  vm : Value
  met : List Nat
  Mm : HL
  vo : Value
  vs : List Value
  Mo : HL
  Mp : HL
  n : Nat

set_option maxHeartbeats 2000000 in
theorem PoolsR_fs {M : HL} {n : Nat} {H : Heap} (hH : hasH M n H) {r c : Int} {v : Value} {xs : List Int} (hS : Sl M 1 v (ints xs)) (hx : xs.length ≤ 1000) (w : Int)
    (hex : levelE r c xs w = 0 → ∃ K best ds, KeptR xs.length best ds w K ∧ Lowest c.toNat xs.length (padded xs) xs.length best ∧ Depths xs.length (padded xs) best w ds) :
    FS C 27 [.agg #[.int .i64 r, .int .i64 c, v], .int .i64 w] H (fun e H' => ∃ n', n ≤ n' ∧ (levelE r c xs w ≠ 0 ∧ e = .tuple #[.slice none 0 0, .int .i64 (levelE r c xs w)] ∧ hasH M n' H' ∨
      levelE r c xs w = 0 ∧ ∃ v' Mo Mp vs K best ds, e = .tuple #[v', .int .i64 0] ∧ Own 22 1 v' vs Mo ∧ Rows2 Mp vs (poolsM c.toNat xs.length K xs.length) ∧ hasH (Mo ++ (Mp ++ M)) n' H' ∧ KeptR xs.length best ds w K ∧
        Lowest c.toNat xs.length (padded xs) xs.length best ∧ Depths xs.length (padded xs) best w ds)) := by
  have h1 := hS.one_
  refine FS.intro (pf := pf27) rfl rfl rfl ?_
  repeat' (first | refine zA ?_ | (refine zM ?_; intro _ _) | (apply Ws <;> intro hg))
  rename_i H1 hH1
  have hSv : Sl ((n, .row 27 0 0 [.int .i64 r, .int .i64 c, v]) :: M) 1 v (ints xs) := hS.cons
  have hmT : (n, Ch.row 27 0 0 [.int .i64 r, .int .i64 c, v]) ∈ (n, Ch.row 27 0 0 [.int .i64 r, .int .i64 c, v]) :: M := .head _
  have hback : ∀ {Z : HL} {n' : Nat} {H' : Heap}, hasH (Z ++ ((n, Ch.row 27 0 0 [.int .i64 r, .int .i64 c, v]) :: M)) n' H' → hasH (Z ++ M) n' H' := fun hq => hq.sub (.append (.refl _) (List.sublist_cons_self _ _))
  generalize (n, Ch.row 27 0 0 [.int .i64 r, .int .i64 c, v]) :: M = T at hSv hmT hH1 hback
  refine WR.call (by first | exact gN | exact gS rfl) rfl rfl (levelR_fs hH1 hSv hx w) ?_
  rintro _ H2 ⟨rfl, n2, hn2, hH2⟩
  clear hH1
  repeat' (first | refine zA ?_ | (refine zM ?_; intro _ _) | (apply Ws <;> intro hg))
  refine WC.condP rfl (fun hne => ?_) (fun hne => ?_)
  · repeat' (first | refine zA ?_ | (refine zM ?_; intro _ _) | (apply Ws <;> intro hg))
    exact Ends.ret2 rfl rfl ⟨n2, by omega, .inl ⟨hne, rfl, hback (Z := []) hH2⟩⟩
  have he0 : levelE r c xs w = 0 := Decidable.not_not.1 hne
  obtain ⟨hck, hw⟩ := level_ok he0
  obtain ⟨hh, hc6, hr36⟩ := HS_of hck
  obtain ⟨g1, g2, g3, g4, g5, g6⟩ := check_ok hck
  obtain ⟨K, best, ds, hK, hl, hd⟩ := hex he0
  have hdl := hd.len
  obtain ⟨rows, rfl⟩ : ∃ rows : Nat, r = rows := ⟨r.toNat, by omega⟩
  obtain ⟨c, rfl⟩ : ∃ c' : Nat, c = c' := ⟨c.toNat, by omega⟩
  rw [Int.toNat_natCast] at hh hc6 hl
  have hrc : xs.length = rows * c := by
    have : ((rows * c : Nat) : Int) = (rows : Int) * (c : Int) := by simp
    omega
  have hdeep : ∀ k, k < xs.length → deep best (padded xs) w k = ds.getD k 0 := by
    intro k hk
    have h2 := hd.at_ k (by omega)
    rw [if_pos hk] at h2
    unfold deep
    omega
  have hKr : ∀ y, K.getD y false = true → y < xs.length := fun y hy => ((hK.2 y).1 hy).1
  have hcc : 1 ≤ c ∧ c ≤ 6 := ⟨hh.c1, hc6⟩
  repeat' (first | refine zA ?_ | (refine zM ?_; intro _ _) | (apply Ws <;> intro hg))
  refine WC.loop (fun s : OV => [(1, .int .i64 w), (2, .pointer (some ⟨n, 0, some 0⟩)), (7, s.v), (8, .int .i64 (s.k : Int))]) (fun _ => [])
    (fun s H => s.k ≤ xs.length ∧ Own 3 1 s.v (nodes (marked K s.k)) s.Mx ∧ hasH (s.Mx ++ T) s.n H ∧ n ≤ s.n) (fun s => xs.length - s.k) ⟨0, .slice none 0 0, [], n2⟩ (by repeat' (first | exact .nil | refine .cons rfl ?_)) rfl ⟨Nat.zero_le _, .nil, hH2, by simp only; omega⟩ ?_
  clear hH2
  rintro ⟨k, v5, Mx, n3⟩ H3 ⟨hk, hO, hH3, hn3⟩
  simp only at hk hO hH3 hn3
  dsimp only
  have hmX : (n, Ch.row 27 0 0 [.int .i64 (rows : Int), .int .i64 (c : Int), v]) ∈ Mx ++ T := List.mem_append_right _ hmT
  have hSvX : Sl (Mx ++ T) 1 v (ints xs) := hSv.mono (fun q hq => List.mem_append_right _ hq)
  have hml := marked_len K k
  repeat' (first | refine zA ?_ | (refine zM ?_; intro _ _) | (apply Ws <;> intro hg))
  refine WR.op (by first | exact gN | exact gS rfl) rfl (OpV.lenSI rfl hSvX) ?_
  repeat' (first | refine zA ?_ | (refine zM ?_; intro _ _) | (apply Ws <;> intro hg))
  refine WC.condP rfl (fun hlt => ?_) (fun hlt => ?_)
  · have hk' : k < xs.length := by omega
    have hdk := hdeep k hk'
    have hKk := hK.2 k
    have hskip : ¬ K.getD k false = true → marked K (k + 1) = marked K k := fun h => by rw [marked_succ, if_neg h, List.append_nil]
    repeat' (first | refine zA ?_ | (refine zM ?_; intro _ _) | (apply Ws <;> intro hg))
    refine WR.call (by first | exact gN | exact gS rfl) rfl rfl (sillR_fs hH3 hSvX hh hc6 ⟨by omega, by omega⟩ hrc hk' hl) ?_
    rintro _ H4 ⟨rfl, n4, hn4, hH4⟩
    repeat' (first | refine zA ?_ | (refine zM ?_; intro _ _) | (apply Ws <;> intro hg))
    · have hw1 : w < best.getD k 0 := hg
      refine WR.call (by first | exact gN | exact gS rfl) rfl rfl (depthR_fs hH4 hSvX hh hc6 ⟨by omega, by omega⟩ hrc hk' hl hw) ?_
      rintro _ H5 ⟨rfl, n5, hn5, hH5⟩
      rw [hdk]
      repeat' (first | refine zA ?_ | (refine zM ?_; intro _ _) | (apply Ws <;> intro hg))
      refine WC.condP rfl (fun hd0 => ?_) (fun hd0 => ?_)
      · repeat' (first | refine zA ?_ | (refine zM ?_; intro _ _) | (apply Ws <;> intro hg))
        refine WR.append1F [] Mx T rfl rfl rfl rfl hO hH5 (new := [.int .i64 (k : Int)]) (by rfl) rfl rfl (Nat.le_refl _) (by omega) (by simp; omega) fun v3 Mx3 n9 H10 hO3 hH10 hn10 => ?_
        simp only [List.nil_append] at hH10
        have hb : marked K (k + 1) = marked K k ++ [k] := by rw [marked_succ, if_pos (hKk.2 ⟨hk', hw1, hd0⟩)]
        repeat' (first | refine zA ?_ | (refine zM ?_; intro _ _) | (apply Ws <;> intro hg))
        exact Ends.loop ⟨k + 1, v3, Mx3, n9⟩ (by simp only; omega) (by repeat' (first | exact .nil | refine .cons rfl ?_)) rfl ⟨hk', by simpa [hb] using hO3, hH10, by simp only; omega⟩
      · repeat' (first | refine zA ?_ | (refine zM ?_; intro _ _) | (apply Ws <;> intro hg))
        have hb := hskip (fun h => hd0 (hKk.1 h).2.2)
        exact Ends.loop ⟨k + 1, v5, Mx, n5⟩ (by simp only; omega) (by repeat' (first | exact .nil | refine .cons rfl ?_)) rfl ⟨hk', by simp only; rw [hb]; exact hO, hH5, by simp only; omega⟩
    · have hw1 : ¬ w < best.getD k 0 := hg
      have hb := hskip (fun h => hw1 (hKk.1 h).2.1)
      repeat' (first | refine zA ?_ | (refine zM ?_; intro _ _) | (apply Ws <;> intro hg))
      exact Ends.loop ⟨k + 1, v5, Mx, n4⟩ (by simp only; omega) (by repeat' (first | exact .nil | refine .cons rfl ?_)) rfl ⟨hk', by simp only; rw [hb]; exact hO, hH4, by simp only; omega⟩
  have hkn : k = xs.length := by omega
  subst hkn
  clear hlt hk hdeep
  -- the places of pools are known
  have hWr : ∀ {i x : Nat}, (marked K xs.length)[i]? = some x → x < xs.length ∧ K.getD x false = true := fun h => marked_at h
  have hfirst := fun {i x : Nat} {met : List Nat} => seen_first (c := c) (r := xs.length) (K := K) hcc hh.cr hKr (i := i) (x := x) (met := met)
  have hall : poolsW c xs.length K (marked K xs.length) = poolsM c xs.length K xs.length := poolsW_all
  have hix : ∀ {x : Nat}, K.getD x false = true → ∃ j : Nat, (marked K xs.length)[j]? = some x := fun h => marked_ix hKr h
  have hskip := fun {i x : Nat} {met : List Nat} => Seen.skip (c := c) (r := xs.length) (K := K) (i := i) (x := x) (met := met)
  have htake := fun {i x : Nat} {met pool : List Nat} => Seen.take (c := c) (r := xs.length) (K := K) (i := i) (x := x) (met := met) (pool := pool)
  generalize marked K xs.length = W at hO hml hWr hfirst hall hix hskip htake
  have hSw := hO.sl T
  have hback2 : ∀ {Z : HL} {n' : Nat} {H' : Heap}, hasH (Z ++ (Mx ++ T)) n' H' → hasH (Z ++ M) n' H' := fun hq => hback (hq.sub (.append (.refl _) (List.sublist_append_right _ _)))
  generalize Mx ++ T = T2 at hSw hback2 hmX hSvX hH3
  clear hO hSv hmT hback
  repeat' (first | refine zA ?_ | (refine zM ?_; intro _ _) | (apply Ws <;> intro hg))
  refine WC.loop (fun s : WV => [(2, .pointer (some ⟨n, 0, some 0⟩)), (7, v5), (9, s.vo), (10, s.vm), (11, .int .i64 (s.i : Int))]) (fun _ => [])
    (fun s H => s.i ≤ W.length ∧ Own 3 1 s.vm (nodes s.met) s.Mm ∧ s.met.length ≤ s.i * 36 ∧ Seen c xs.length K W s.i s.met ∧ Own 22 1 s.vo s.vs s.Mo ∧ Rows2 s.Mp s.vs (poolsW c xs.length K (W.take s.i)) ∧ hasH (s.Mm ++ (s.Mo ++ (s.Mp ++ T2))) s.n H ∧ n ≤ s.n)
    (fun s => W.length - s.i) ⟨0, .slice none 0 0, [], [], .slice none 0 0, [], [], [], n3⟩ (by repeat' (first | exact .nil | refine .cons rfl ?_)) rfl ⟨Nat.zero_le _, .nil, Nat.le_refl _, fun y => by simp, .nil, ⟨rfl, fun i u l hu _ => by cases hu⟩, hH3, hn3⟩ ?_
  clear hH3
  rintro ⟨i, vm, met, Mm, vo, vs, Mo, Mp, n4⟩ H4 ⟨hi, hOm, hml2, hseen, hOo, hrows, hH4, hn4⟩
  simp only at hi hOm hml2 hseen hOo hrows hH4 hn4
  dsimp only
  have hm4 : ∀ p ∈ T2, p ∈ Mm ++ (Mo ++ (Mp ++ T2)) := fun p hp => by simp [hp]
  repeat' (first | refine zA ?_ | (refine zM ?_; intro _ _) | (apply Ws <;> intro hg))
  refine WR.op (by first | exact gN | exact gS rfl) rfl (OpV.lenS rfl (hSw.mono hm4)) ?_
  rw [show (nodes W).length = W.length by simp]
  repeat' (first | refine zA ?_ | (refine zM ?_; intro _ _) | (apply Ws <;> intro hg))
  refine WC.condP rfl (fun hlt => ?_) (fun hlt => ?_)
  · have hi' : i < W.length := by omega
    have hi36 : i * 36 ≤ 36 * 36 := Nat.mul_le_mul_right _ (by omega)
    obtain ⟨x, hx1⟩ : ∃ x, W[i]? = some x := ⟨W[i], List.getElem?_eq_getElem hi'⟩
    obtain ⟨hxr, hxK⟩ := hWr hx1
    have hf := hfirst hseen hx1
    have hSwX : Sl (Mm ++ (Mo ++ (Mp ++ T2))) 1 v5 (nodes W) := hSw.mono hm4
    have hSmI : Sl (Mm ++ (Mo ++ (Mp ++ T2))) 1 vm (ints (met.map fun (x : Nat) => (x : Int))) := by rw [← nodesR]; exact hOm.sl _
    repeat' (first | refine zA ?_ | (refine zM ?_; intro _ _) | (apply Ws <;> intro hg))
    refine WR.idxSl (by first | exact gN | exact gS rfl) rfl rfl hSwX rfl rfl (c := .int .i64 (x : Int)) (by simp [hx1]) fun _ _ _ hc1 => ?_
    repeat' (first | refine zA ?_ | (refine zM ?_; intro _ _) | (apply Ws <;> intro hg))
    refine WR.call (by first | exact gN | exact gS rfl) rfl rfl (has_fs hH4 hSmI (by simp; omega) (x : Int)) ?_
    rintro _ _ ⟨rfl, rfl⟩
    repeat' (first | refine zA ?_ | (refine zM ?_; intro _ _) | (apply Ws <;> intro hg))
    refine WC.condP rfl (fun hin => ?_) (fun hin => ?_)
    · have hm : x ∈ met := mem_castR.1 hin
      repeat' (first | refine zA ?_ | (refine zM ?_; intro _ _) | (apply Ws <;> intro hg))
      refine Ends.loop ⟨i + 1, vm, met, Mm, vo, vs, Mo, Mp, n4⟩ (by simp only; omega) (by repeat' (first | exact .nil | refine .cons rfl ?_)) rfl ⟨hi', hOm, by simp only; omega, ?_, hOo, ?_, hH4, hn4⟩
      · exact hskip hseen hx1 hm
      · simp only; rw [poolsW_skip hx1 (fun h => hf.2 h hm)]; exact hrows
    have hm : x ∉ met := fun h => hin (mem_castR.2 h)
    have hFx := hf.1 hm
    repeat' (first | refine zA ?_ | (refine zM ?_; intro _ _) | (apply Ws <;> intro hg))
    refine WR.idxSl (by first | exact gN | exact gS rfl) rfl rfl hSwX rfl rfl (c := .int .i64 (x : Int)) (by simp [hx1]) fun _ _ _ hc1 => ?_
    repeat' (first | refine zA ?_ | (refine zM ?_; intro _ _) | (apply Ws <;> intro hg))
    refine WR.bldS (by first | exact gN | exact gS rfl) rfl hH4 (vs := [(0, .int .i64 (x : Int))]) rfl (cs := [.int .i64 (x : Int)]) (by rfl) rfl fun H5 hH5 => ?_
    have hH6 := hH5.asInp .here
    clear hH5
    have hR : ∀ p ∈ T2, p ∈ Mm ++ (Mo ++ (Mp ++ T2)) := hm4
    have hSw0 := hSwX
    have hmR : (n, Ch.row 27 0 0 [.int .i64 (rows : Int), .int .i64 (c : Int), v]) ∈ Mm ++ (Mo ++ (Mp ++ T2)) := hm4 _ hmX
    have hRm : ∀ {Z : HL} {n' : Nat} {H' : Heap}, hasH (Z ++ (Mm ++ (Mo ++ (Mp ++ T2)))) n' H' → hasH (Mm ++ (Z ++ (Mo ++ (Mp ++ T2)))) n' H' := fun h => h.pull
    generalize Mm ++ (Mo ++ (Mp ++ T2)) = R at hSw0 hmR hRm hH6 hSmI
    clear hH4 hSwX
    repeat' (first | refine zA ?_ | (refine zM ?_; intro _ _) | (apply Ws <;> intro hg))
    refine WC.loop (fun s : QV => [(2, .pointer (some ⟨n, 0, some 0⟩)), (7, v5), (9, vo), (10, vm), (11, .int .i64 (i : Int)), (12, s.v), (13, .int .i64 (s.k : Int))]) (fun _ => [])
      (fun s H => s.k ≤ s.pl.length ∧ MetW c xs.length K x s.pl s.k ∧ Own 3 1 s.v (nodes s.pl) s.Mx ∧ hasH (s.Mx ++ R) s.n H ∧ n ≤ s.n)
      (fun s => xs.length - s.k) ⟨0, _, [(n4, .inp 3 0 0 [.int .i64 (x : Int)])], n4 + 1, [x]⟩ (by repeat' (first | exact .nil | refine .cons rfl ?_)) rfl
      ⟨Nat.zero_le _, ⟨by simp, fun y hy => by rw [List.mem_singleton.1 hy]; exact .start hxK, by simp, fun j hj => absurd hj (Nat.not_lt_zero _)⟩, Own.full (e := 3) (sz := 1) (cs := [.int .i64 (x : Int)]) rfl rfl, hH6, by simp only; omega⟩ ?_
    clear hH6 hc1
    rintro ⟨k, vp, Mx, n5, pool⟩ H5 ⟨hk, hmet, hO, hH5, hn5⟩
    simp only at hk hmet hO hH5 hn5
    dsimp only
    have hpl := hmet.len hKr
    have hSl := hO.sl R
    repeat' (first | refine zA ?_ | (refine zM ?_; intro _ _) | (apply Ws <;> intro hg))
    refine WR.op (by first | exact gN | exact gS rfl) rfl (OpV.lenS rfl hSl) ?_
    rw [show (nodes pool).length = pool.length by simp]
    repeat' (first | refine zA ?_ | (refine zM ?_; intro _ _) | (apply Ws <;> intro hg))
    refine WC.condP rfl (fun hlt1 => ?_) (fun hlt1 => ?_)
    · have hk' : k < pool.length := by omega
      obtain ⟨z, hz⟩ : ∃ z, pool[k]? = some z := ⟨pool[k], List.getElem?_eq_getElem hk'⟩
      have hzr := hKr z (hmet.rm z (List.mem_of_getElem? hz)).on
      repeat' (first | refine zA ?_ | (refine zM ?_; intro _ _) | (apply Ws <;> intro hg))
      refine WC.loop (fun s : QV => [(2, .pointer (some ⟨n, 0, some 0⟩)), (7, v5), (9, vo), (10, vm), (11, .int .i64 (i : Int)), (12, s.v), (13, .int .i64 (k : Int)), (14, .int .i64 (s.k : Int))]) (fun _ => [])
        (fun s H => s.k ≤ W.length ∧ k < s.pl.length ∧ s.pl[k]? = some z ∧ MetW c xs.length K x s.pl k ∧ (∀ j y, j < s.k → W[j]? = some y → y ∈ nbrs c xs.length z → y ∈ s.pl) ∧ Own 3 1 s.v (nodes s.pl) s.Mx ∧ hasH (s.Mx ++ R) s.n H ∧ n ≤ s.n)
        (fun s => W.length - s.k) ⟨0, vp, Mx, n5, pool⟩ (by repeat' (first | exact .nil | refine .cons rfl ?_)) rfl ⟨Nat.zero_le _, hk', hz, hmet, fun j y hj => absurd hj (Nat.not_lt_zero _), hO, hH5, hn5⟩ ?_
      clear hH5 hmet hO hn5 hz hk hlt1 hSl hpl hk'
      rintro ⟨q, vp, Mx, n5, pool⟩ H5 ⟨hq, hk, hz, hmet, hcl, hO, hH5, hn5⟩
      simp only at hq hk hz hmet hcl hO hH5 hn5
      dsimp only
      have hpl := hmet.len hKr
      have hSl := hO.sl R
      have hmX2 : (n, Ch.row 27 0 0 [.int .i64 (rows : Int), .int .i64 (c : Int), v]) ∈ Mx ++ R := List.mem_append_right _ hmR
      have hSw2 : Sl (Mx ++ R) 1 v5 (nodes W) := hSw0.mono (fun q hq => List.mem_append_right _ hq)
      repeat' (first | refine zA ?_ | (refine zM ?_; intro _ _) | (apply Ws <;> intro hg))
      refine WR.op (by first | exact gN | exact gS rfl) rfl (OpV.lenS rfl hSw2) ?_
      rw [show (nodes W).length = W.length by simp]
      repeat' (first | refine zA ?_ | (refine zM ?_; intro _ _) | (apply Ws <;> intro hg))
      refine WC.condP rfl (fun hlt1 => ?_) (fun hlt1 => ?_)
      · have hq' : q < W.length := by omega
        obtain ⟨y, hy⟩ : ∃ y, W[q]? = some y := ⟨W[q], List.getElem?_eq_getElem hq'⟩
        obtain ⟨hyr, hyK⟩ := hWr hy
        have hnext : ∀ pool' : List Nat, (y ∈ nbrs c xs.length z → y ∈ pool') → (∀ a ∈ pool, a ∈ pool') → ∀ j a, j < q + 1 → W[j]? = some a → a ∈ nbrs c xs.length z → a ∈ pool' := by
          intro pool' h1 h2 j a hj ha hn
          rcases Nat.lt_or_ge j q with h3 | h3
          · exact h2 a (hcl j a h3 ha hn)
          · have : j = q := by omega
            subst this
            rw [hy] at ha; cases ha; exact h1 hn
        repeat' (first | refine zA ?_ | (refine zM ?_; intro _ _) | (apply Ws <;> intro hg))
        refine WR.idxSl (by first | exact gN | exact gS rfl) rfl rfl hSl rfl rfl (c := .int .i64 (z : Int)) (by simp [hz]) fun _ _ _ hc1 => ?_
        repeat' (first | refine zA ?_ | (refine zM ?_; intro _ _) | (apply Ws <;> intro hg))
        refine WR.idxSl (by first | exact gN | exact gS rfl) rfl rfl hSw2 rfl rfl (c := .int .i64 (y : Int)) (by simp [hy]) fun _ _ _ hc2 => ?_
        repeat' (first | refine zA ?_ | (refine zM ?_; intro _ _) | (apply Ws <;> intro hg))
        refine WR.call (by first | exact gN | exact gS rfl) rfl rfl (besideR_fs hH5 h1 hcc hh.cr hh.r36 hzr hyr) ?_
        rintro _ H6 ⟨rfl, n6, hn6, hH6⟩
        repeat' (first | refine zA ?_ | (refine zM ?_; intro _ _) | (apply Ws <;> intro hg))
        · have hb : y ∈ nbrs c xs.length z := hg
          refine WR.idxSl (by first | exact gN | exact gS rfl) rfl rfl hSw2 rfl rfl (c := .int .i64 (y : Int)) (by simp [hy]) fun _ _ _ hc2 => ?_
          repeat' (first | refine zA ?_ | (refine zM ?_; intro _ _) | (apply Ws <;> intro hg))
          have hSpI : Sl (Mx ++ R) 1 vp (ints (pool.map fun (x : Nat) => (x : Int))) := by rw [← nodesR]; exact hSl
          refine WR.call (by first | exact gN | exact gS rfl) rfl rfl (has_fs hH6 hSpI (by simp; omega) (y : Int)) ?_
          rintro _ _ ⟨rfl, rfl⟩
          repeat' (first | refine zA ?_ | (refine zM ?_; intro _ _) | (apply Ws <;> intro hg))
          refine WC.condP rfl (fun hin => ?_) (fun hin => ?_)
          · repeat' (first | refine zA ?_ | (refine zM ?_; intro _ _) | (apply Ws <;> intro hg))
            refine WR.idxSl (by first | exact gN | exact gS rfl) rfl rfl hSw2 rfl rfl (c := .int .i64 (y : Int)) (by simp [hy]) fun _ _ _ hc2 => ?_
            repeat' (first | refine zA ?_ | (refine zM ?_; intro _ _) | (apply Ws <;> intro hg))
            refine WR.append1F [] Mx R rfl rfl rfl rfl hO hH6 (new := [.int .i64 (y : Int)]) (by rfl) rfl rfl (Nat.le_refl _) (by omega) (by simp; omega) fun v3 Mx3 n9 H10 hO3 hH10 hn10 => ?_
            simp only [List.nil_append] at hH10
            have hn : y ∉ pool := fun hm => hin (mem_castR.2 hm)
            repeat' (first | refine zA ?_ | (refine zM ?_; intro _ _) | (apply Ws <;> intro hg))
            refine Ends.loop ⟨q + 1, v3, Mx3, n9, pool ++ [y]⟩ (by simp only; omega) (by repeat' (first | exact .nil | refine .cons rfl ?_)) rfl ⟨hq', by simp; omega, ?_, ?_, hnext _ (fun _ => by simp) (fun y hy => by simp [hy]), by simpa using hO3, hH10, by simp only; omega⟩
            · simp only; rw [List.getElem?_append_left hk]; exact hz
            · exact hmet.push hk (List.mem_of_getElem? hz) hb hyK hn
          · have hm : y ∈ pool := mem_castR.1 (Decidable.not_not.1 hin)
            repeat' (first | refine zA ?_ | (refine zM ?_; intro _ _) | (apply Ws <;> intro hg))
            exact Ends.loop ⟨q + 1, vp, Mx, n6, pool⟩ (by simp only; omega) (by repeat' (first | exact .nil | refine .cons rfl ?_)) rfl ⟨hq', hk, hz, hmet, hnext pool (fun _ => hm) (fun y hy => hy), hO, hH6, by simp only; omega⟩
        · have hb : ¬ y ∈ nbrs c xs.length z := hg
          repeat' (first | refine zA ?_ | (refine zM ?_; intro _ _) | (apply Ws <;> intro hg))
          exact Ends.loop ⟨q + 1, vp, Mx, n6, pool⟩ (by simp only; omega) (by repeat' (first | exact .nil | refine .cons rfl ?_)) rfl ⟨hq', hk, hz, hmet, hnext pool (fun h2 => absurd h2 hb) (fun y hy => hy), hO, hH6, by simp only; omega⟩
      have hqn : q = W.length := by omega
      subst hqn
      repeat' (first | refine zA ?_ | (refine zM ?_; intro _ _) | (apply Ws <;> intro hg))
      refine Ends.loop ⟨k + 1, vp, Mx, n5, pool⟩ (by simp only; omega) (by repeat' (first | exact .nil | refine .cons rfl ?_)) rfl ⟨hk, ⟨hmet.nd, hmet.rm, hmet.st, fun j hj a ha b hb hbK => ?_⟩, hO, hH5, hn5⟩
      rcases Nat.lt_or_ge j k with h2 | h2
      · exact hmet.cl j h2 a ha b hb hbK
      · have : j = k := by simp only at hj; omega
        subst this
        rw [hz] at ha; cases ha
        obtain ⟨j', hj'⟩ := hix hbK
        exact hcl j' b (List.getElem?_eq_some_iff.1 hj').1 hj' hb
    have hpa := fun y => hmet.all (show pool.length ≤ k by omega) (y := y)
    have hpne : nodes pool ≠ [] := by
      intro h0
      have h2 := hmet.st
      cases pool with
      | nil => cases h2
      | cons a b => cases h0
    obtain ⟨hs1, hs2⟩ := hSl.src hH5 hpne
    rw [show (nodes pool).length = pool.length by simp] at hs1 hs2
    have hs3 := hs2 pool.length (Nat.le_refl _)
    rw [show (nodes pool).take pool.length = nodes pool by rw [List.take_of_length_le]; simp] at hs3
    have hp1 : 1 ≤ pool.length := by
      cases pool with
      | nil => exact absurd rfl hpne
      | cons a b => simp
    repeat' (first | refine zA ?_ | (refine zM ?_; intro _ _) | (apply Ws <;> intro hg))
    refine WR.append (by first | exact gN | exact gS rfl) rfl rfl rfl hOm (hRm hH5) (List.Sublist.refl _) (List.Perm.refl _) hs1 hs3 (by simp) hp1 (by simp [one]) (Nat.le_refl _) (by omega) (by simp; omega) fun vm' Mm' n7 H7 hOm' hH7 hn7 => ?_
    rw [show nodes met ++ nodes pool = nodes (met ++ pool) by simp] at hOm'
    have hmY : (n, Ch.row 27 0 0 [.int .i64 (rows : Int), .int .i64 (c : Int), v]) ∈ Mm' ++ (Mx ++ (Mo ++ (Mp ++ T2))) := by simp [hmX]
    have hSvY : Sl (Mm' ++ (Mx ++ (Mo ++ (Mp ++ T2)))) 1 v (ints xs) := hSvX.mono (fun q hq => by simp [hq])
    have hSpY : Sl (Mm' ++ (Mx ++ (Mo ++ (Mp ++ T2)))) 1 vp (ints (pool.map fun (x : Nat) => (x : Int))) := by rw [← nodesR]; exact (hO.sl _).mono (fun q hq => List.mem_append_right _ hq)
    have hsort : (List.range xs.length).filter (fun y => decide (y ∈ pool)) = comp c xs.length K x := by
      classical
      rw [comp]
      apply List.filter_congr
      intro y _
      exact decide_eq_decide.2 (hpa y)
    repeat' (first | refine zA ?_ | (refine zM ?_; intro _ _) | (apply Ws <;> intro hg))
    refine WC.loop (fun s : QV => [(2, .pointer (some ⟨n, 0, some 0⟩)), (7, v5), (9, vo), (10, vm'), (11, .int .i64 (i : Int)), (12, vp), (15, s.v), (16, .int .i64 (s.k : Int))]) (fun _ => [])
      (fun s H => s.k ≤ xs.length ∧ s.pl = (List.range s.k).filter (fun y => decide (y ∈ pool)) ∧ Own 3 1 s.v (nodes s.pl) s.Mx ∧ hasH (s.Mx ++ (Mm' ++ (Mx ++ (Mo ++ (Mp ++ T2))))) s.n H ∧ n ≤ s.n)
      (fun s => xs.length - s.k) ⟨0, .slice none 0 0, [], n7, []⟩ (by repeat' (first | exact .nil | refine .cons rfl ?_)) rfl ⟨Nat.zero_le _, rfl, .nil, hH7, by simp only; omega⟩ ?_
    clear hH7 hH5 hs1 hs2 hs3
    rintro ⟨k2, v15, My, n8, l⟩ H8 ⟨hk2, hl2, hO2, hH8, hn8⟩
    simp only at hk2 hl2 hO2 hH8 hn8
    dsimp only
    have hmZ : (n, Ch.row 27 0 0 [.int .i64 (rows : Int), .int .i64 (c : Int), v]) ∈ My ++ (Mm' ++ (Mx ++ (Mo ++ (Mp ++ T2)))) := List.mem_append_right _ hmY
    have hSvZ : Sl (My ++ (Mm' ++ (Mx ++ (Mo ++ (Mp ++ T2))))) 1 v (ints xs) := hSvY.mono (fun q hq => List.mem_append_right _ hq)
    have hSpZ : Sl (My ++ (Mm' ++ (Mx ++ (Mo ++ (Mp ++ T2))))) 1 vp (ints (pool.map fun (x : Nat) => (x : Int))) := hSpY.mono (fun q hq => List.mem_append_right _ hq)
    have hll : l.length ≤ k2 := by rw [hl2]; have := List.length_filter_le (fun y => decide (y ∈ pool)) (List.range k2); simpa using this
    have hsucc : (List.range (k2 + 1)).filter (fun y => decide (y ∈ pool)) = l ++ if k2 ∈ pool then [k2] else [] := by
      rw [List.range_succ, List.filter_append, ← hl2]
      congr 1
      by_cases hm : k2 ∈ pool <;> simp [hm]
    repeat' (first | refine zA ?_ | (refine zM ?_; intro _ _) | (apply Ws <;> intro hg))
    refine WR.op (by first | exact gN | exact gS rfl) rfl (OpV.lenSI rfl hSvZ) ?_
    repeat' (first | refine zA ?_ | (refine zM ?_; intro _ _) | (apply Ws <;> intro hg))
    refine WC.condP rfl (fun hlt2 => ?_) (fun hlt2 => ?_)
    · have hk' : k2 < xs.length := by omega
      repeat' (first | refine zA ?_ | (refine zM ?_; intro _ _) | (apply Ws <;> intro hg))
      refine WR.call (by first | exact gN | exact gS rfl) rfl rfl (has_fs hH8 hSpZ (by simp; omega) (k2 : Int)) ?_
      rintro _ _ ⟨rfl, rfl⟩
      repeat' (first | refine zA ?_ | (refine zM ?_; intro _ _) | (apply Ws <;> intro hg))
      refine WC.condP rfl (fun hin2 => ?_) (fun hin2 => ?_)
      · have hm2 : k2 ∈ pool := mem_castR.1 hin2
        rw [if_pos hm2] at hsucc
        repeat' (first | refine zA ?_ | (refine zM ?_; intro _ _) | (apply Ws <;> intro hg))
        refine WR.append1F [] My (Mm' ++ (Mx ++ (Mo ++ (Mp ++ T2)))) rfl rfl rfl rfl hO2 hH8 (new := [.int .i64 (k2 : Int)]) (by rfl) rfl rfl (Nat.le_refl _) (by omega) (by simp; omega) fun v3 Mx3 n9 H10 hO3 hH10 hn10 => ?_
        simp only [List.nil_append] at hH10
        repeat' (first | refine zA ?_ | (refine zM ?_; intro _ _) | (apply Ws <;> intro hg))
        exact Ends.loop ⟨k2 + 1, v3, Mx3, n9, l ++ [k2]⟩ (by simp only; omega) (by repeat' (first | exact .nil | refine .cons rfl ?_)) rfl ⟨hk', hsucc.symm, by simpa using hO3, hH10, by simp only; omega⟩
      · have hm2 : k2 ∉ pool := fun h2 => hin2 (mem_castR.2 h2)
        rw [if_neg hm2, List.append_nil] at hsucc
        repeat' (first | refine zA ?_ | (refine zM ?_; intro _ _) | (apply Ws <;> intro hg))
        exact Ends.loop ⟨k2 + 1, v15, My, n8, l⟩ (by simp only; omega) (by repeat' (first | exact .nil | refine .cons rfl ?_)) rfl ⟨hk', hsucc.symm, hO2, hH8, hn8⟩
    have hkn : k2 = xs.length := by omega
    subst hkn
    rw [hsort] at hl2
    have hv1 := (hO2.sl M).one_
    have hvl : vs.length ≤ i := by
      rw [hrows.1, poolsW, List.length_map]
      have h3 := List.length_filter_le (fun x => @decide (First c xs.length K x) (Classical.propDecidable _)) (W.take i)
      rw [List.length_take] at h3
      omega
    have hH9 : hasH ((My ++ (Mm' ++ Mx)) ++ (Mo ++ (Mp ++ T2))) n8 H8 := by simpa [List.append_assoc] using hH8
    repeat' (first | refine zA ?_ | (refine zM ?_; intro _ _) | (apply Ws <;> intro hg))
    refine WR.append1F (My ++ (Mm' ++ Mx)) Mo (Mp ++ T2) rfl rfl rfl rfl hOo hH9 (new := [v15]) (by obtain ⟨_, _, _, rfl⟩ := own_isSl hO2; rfl) (by simp [hv1]) rfl (Nat.le_refl _) (by omega) (by simp only [List.length_cons, List.length_nil]; omega) fun v3 Mo3 n9 H12 hO3 hH12 hn12 => ?_
    have hH13 : hasH (Mm' ++ (Mo3 ++ ((My ++ Mp) ++ T2))) n9 H12 :=
      hasH.sub (M := Mx ++ (Mm' ++ (Mo3 ++ ((My ++ Mp) ++ T2)))) (hH12.perm (by classical exact List.perm_iff_count.2 (fun a => by simp only [defds, List.map_cons, List.map_nil, List.count_append, List.count_cons, List.count_nil, List.cons_append, List.nil_append, List.append_nil]; omega))) (List.sublist_append_right _ _)
    repeat' (first | refine zA ?_ | (refine zM ?_; intro _ _) | (apply Ws <;> intro hg))
    refine Ends.loop ⟨i + 1, vm', met ++ pool, Mm', v3, vs ++ [v15], Mo3, My ++ Mp, n9⟩ (by simp only; omega) (by repeat' (first | exact .nil | refine .cons rfl ?_)) rfl ⟨hi', hOm', ?_, htake hseen hx1 hpa, hO3, ?_, hH13, by simp only; omega⟩
    · simp only [List.length_append]; omega
    · simp only
      rw [poolsW_take hx1 hFx, ← hl2]
      exact (hrows.mono (fun q hq => List.mem_append_right _ hq)).push (hO2.sl _)
  have hin : i = W.length := by omega
  subst hin
  rw [List.take_length, hall] at hrows
  repeat' (first | refine zA ?_ | (refine zM ?_; intro _ _) | (apply Ws <;> intro hg))
  refine Ends.ret2 rfl rfl ⟨n4, hn4, .inr ⟨he0, vo, Mo, Mp, vs, K, best, ds, rfl, hOo, ?_, ?_, hK, ?_, hd⟩⟩
  · rw [Int.toNat_natCast]; exact hrows
  · have := hback2 (Z := Mo ++ Mp) (by rw [List.append_assoc]; exact hH4.sub (List.sublist_append_right _ _))
    rw [List.append_assoc] at this
    exact this
  · rw [Int.toNat_natCast]; exact hl
end Go.Proofs.Ytmogipomnjihcaa.Eb
