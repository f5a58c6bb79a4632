/- Texts of the law, joined. -/
import Derived.Test.YtmogipomnjihcaaJ2
import Derived.Test.YtmogipomnjihcaaJ1
import Derived.Test.YtmogipomnjihcaaSymE
namespace Go.Proofs.Ytmogipomnjihcaa.Eb
open Go Go.Abs Go.Low
set_option linter.unusedVariables false
set_option linter.unusedSimpArgs false
attribute [local irreducible] gOK WS WC WR WD Ends FS YS OpV seqK blockK loopK midK retK rdK asgK rangeEnd sat Cell

/-- The places that may be in pools. -/
def KeptR (r : Nat) (b ds : List Int) (w : Int) (K : List Bool) : Prop := K.length = 37 ∧ ∀ y, K.getD y false = true ↔ y < r ∧ w < b.getD y 0 ∧ 0 < ds.getD y 0

structure PV where
  k : Nat
  v : Value
  ws : List Value
  Mo : HL
  Mp : HL
  cur : List Bool
  n : Nat

theorem own_isSl {e sz : Nat} {v : Value} {cs : List Value} {Mx : HL} (h : Own e sz v cs Mx) : ∃ a l c, v = .slice a l c := by
  cases h <;> exact ⟨_, _, _, rfl⟩

theorem pools_len (c r : Nat) (ms : List Bool) (k : Nat) : (poolsM c r ms k).length ≤ k := by
  rw [poolsM, List.length_map, firsts]
  have := List.length_filter_le (fun x => @decide (First c r ms x) (Classical.propDecidable _)) (List.range k)
  simpa using this

theorem Pools_fs {M : HL} {n : Nat} {H : Heap} (hH : hasH M n H) {r c : Int} {v : Value} {xs : List Int} (hS : Sl M 1 v (ints xs)) (hx : xs.length ≤ 1000) (w : Int) :
    FS C 26 [.agg #[.int .i64 r, .int .i64 c, v], .int .i64 w] H (fun e H' => ∃ n', n ≤ n' ∧ (levelE r c xs w ≠ 0 ∧ e = .tuple #[.slice none 0 0, .int .i64 (levelE r c xs w)] ∧ hasH M n' H' ∨
      levelE r c xs w = 0 ∧ ∃ v' Mo Mp vs K best ds, e = .tuple #[v', .int .i64 0] ∧ Own 22 1 v' vs Mo ∧ Rows2 Mp vs (poolsM c.toNat xs.length K xs.length) ∧ hasH (Mo ++ (Mp ++ M)) n' H' ∧ KeptR xs.length best ds w K ∧
        Lowest c.toNat xs.length (padded xs) xs.length best ∧ Depths xs.length (padded xs) best w ds)) := by
  have h1 := hS.one_
  refine FS.intro (pf := pf26) rfl rfl rfl ?_
  repeat' (first | refine zA ?_ | (refine zM ?_; intro _ _) | (apply Ws <;> intro hg))
  refine WR.call (by first | exact gN | exact gS rfl) rfl rfl (layAt_fs (by assumption) hS.cons hx w) ?_
  rintro _ H2 ⟨n2, hn2, ⟨hne, rfl, hH2⟩ | ⟨he0, bg, rfl, hH2⟩⟩
  · repeat' (first | refine zA ?_ | (refine zM ?_; intro _ _) | (apply Ws <;> intro hg))
    refine WC.condP rfl (fun h => ?_) (fun h => ?_)
    · repeat' (first | refine zA ?_ | (refine zM ?_; intro _ _) | (apply Ws <;> intro hg))
      exact Ends.ret2 rfl rfl ⟨n2, by omega, .inl ⟨hne, rfl, hH2.tail⟩⟩
    · exact absurd hne h
  · obtain ⟨hck, hw⟩ := level_ok he0
    obtain ⟨hh, hc6, hr36⟩ := HS_of hck
    repeat' (first | refine zA ?_ | (refine zM ?_; intro _ _) | (apply Ws <;> intro hg))
    refine WR.call (by first | exact gN | exact gS rfl) rfl rfl (sills_fs hH2 (by first | assumption | exact .head _ | exact .tail _ (.head _) | exact .tail _ (.tail _ (.head _)) | exact .tail _ (.tail _ (.tail _ (.head _))) | exact .tail _ (.tail _ (.tail _ (.tail _ (.head _)))) | exact .tail _ (.tail _ (.tail _ (.tail _ (.tail _ (.head _))))) | exact .tail _ (.tail _ (.tail _ (.tail _ (.tail _ (.tail _ (.head _)))))) | (repeat' (first | assumption | apply List.mem_cons_of_mem))) hh hc6) ?_
    rintro _ H3 ⟨best, n3, rfl, hn3, hH3, hl⟩
    repeat' (first | refine zA ?_ | (refine zM ?_; intro _ _) | (apply Ws <;> intro hg))
    refine WR.call (by first | exact gN | exact gS rfl) rfl rfl (depths_fs hH3 (by first | assumption | exact .head _ | exact .tail _ (.head _) | exact .tail _ (.tail _ (.head _)) | exact .tail _ (.tail _ (.tail _ (.head _))) | exact .tail _ (.tail _ (.tail _ (.tail _ (.head _)))) | exact .tail _ (.tail _ (.tail _ (.tail _ (.tail _ (.head _))))) | exact .tail _ (.tail _ (.tail _ (.tail _ (.tail _ (.tail _ (.head _)))))) | (repeat' (first | assumption | apply List.mem_cons_of_mem))) hh hc6 hw) ?_
    rintro _ H4 ⟨best', ds, n4, rfl, hn4, hH4, hl', hd⟩
    have hbb := hl.unique hh (Nat.le_refl _) hl'
    subst hbb
    repeat' (first | refine zA ?_ | (refine zM ?_; intro _ _) | (apply Ws <;> intro hg))
    rename_i hq
    refine WR.storeAll (by first | exact gN | exact gS rfl) hq rfl rfl (ls := ints best) (by simp [Value.cells]) (by simpa using hl.len) (by first | exact .here | exact .there .here | exact .there (.there .here) | exact .there (.there (.there .here)) | exact .there (.there (.there (.there .here))) | exact .there (.there (.there (.there (.there .here))))) (ints_one _) (by simpa using hl.len) fun H5 hH5 => ?_
    clear hq
    repeat' (first | refine zA ?_ | (refine zM ?_; intro _ _) | (apply Ws <;> intro hg))
    refine WR.storeAll (by first | exact gN | exact gS rfl) hH5 rfl rfl (ls := ints ds) (by simp [Value.cells]) (by simpa using hd.len) (by first | exact .here | exact .there .here | exact .there (.there .here) | exact .there (.there (.there .here)) | exact .there (.there (.there (.there .here))) | exact .there (.there (.there (.there (.there .here))))) (ints_one _) (by simpa using hd.len) fun H6 hH6 => ?_
    clear hH5
    repeat' (first | refine zA ?_ | (refine zM ?_; intro _ _) | (apply Ws <;> intro hg))
    rename_i hq
    have hT : ∀ {Z : HL} {n' : Nat} {H' : Heap}, hasH (Z ++ ((n4 + 1, .row 86 0 0 (ints ds)) :: (n4, .row 86 0 0 (ints best)) :: (bg, .row 99 0 0 (gcells c.toNat xs.length (padded xs))) :: (n, .row 24 0 0 [.int .i64 r, .int .i64 c, v]) :: M)) n' H' → hasH (Z ++ M) n' H' := fun hq => hq.sub (.append (.refl _) (.cons _ (.cons _ (.cons _ (.cons _ (.refl _))))))
    have hmg : (bg, Ch.row 99 0 0 (gcells c.toNat xs.length (padded xs))) ∈ ((n4 + 1, Ch.row 86 0 0 (ints ds)) :: (n4, .row 86 0 0 (ints best)) :: (bg, .row 99 0 0 (gcells c.toNat xs.length (padded xs))) :: (n, .row 24 0 0 [.int .i64 r, .int .i64 c, v]) :: M) := by simp
    have hmb : (n4, Ch.row 86 0 0 (ints best)) ∈ ((n4 + 1, Ch.row 86 0 0 (ints ds)) :: (n4, .row 86 0 0 (ints best)) :: (bg, .row 99 0 0 (gcells c.toNat xs.length (padded xs))) :: (n, .row 24 0 0 [.int .i64 r, .int .i64 c, v]) :: M) := by simp
    have hmd : (n4 + 1, Ch.row 86 0 0 (ints ds)) ∈ ((n4 + 1, Ch.row 86 0 0 (ints ds)) :: (n4, .row 86 0 0 (ints best)) :: (bg, .row 99 0 0 (gcells c.toNat xs.length (padded xs))) :: (n, .row 24 0 0 [.int .i64 r, .int .i64 c, v]) :: M) := by simp
    have hq' : hasH ((n4 + 1 + 1, .row 97 0 0 (bools (List.replicate 37 false))) :: ((n4 + 1, .row 86 0 0 (ints ds)) :: (n4, .row 86 0 0 (ints best)) :: (bg, .row 99 0 0 (gcells c.toNat xs.length (padded xs))) :: (n, .row 24 0 0 [.int .i64 r, .int .i64 c, v]) :: M)) (n4 + 1 + 1 + 1) _ := hq
    generalize ((n4 + 1, Ch.row 86 0 0 (ints ds)) :: (n4, .row 86 0 0 (ints best)) :: (bg, .row 99 0 0 (gcells c.toNat xs.length (padded xs))) :: (n, .row 24 0 0 [.int .i64 r, .int .i64 c, v]) :: M) = T at hT hmg hmb hmd hq'
    clear hq hH6 hH4 hH3 hH2
    have hbl := hl.len
    have hdl := hd.len
    refine WC.loop (fun a : Nat × List Bool => [(1, .int .i64 w), (6, .pointer (some ⟨bg, 0, some 0⟩)), (8, .pointer (some ⟨n4, 0, some 0⟩)), (9, .pointer (some ⟨n4 + 1, 0, some 0⟩)), (10, .pointer (some ⟨n4 + 1 + 1, 0, some 0⟩)), (34, .int .i64 (xs.length : Int)), (35, .int .i64 (a.1 : Int))]) (fun _ => [])
      (fun a H => a.1 ≤ xs.length ∧ a.2.length = 37 ∧ (∀ y, a.2.getD y false = true ↔ y < a.1 ∧ w < best.getD y 0 ∧ 0 < ds.getD y 0) ∧ hasH ((n4 + 1 + 1, .row 97 0 0 (bools a.2)) :: T) (n4 + 1 + 1 + 1) H)
      (fun a => xs.length - a.1) (0, List.replicate 37 false) (by repeat' (first | exact .nil | refine .cons rfl ?_)) rfl ⟨Nat.zero_le _, rfl, fun y => ?_, hq'⟩ ?_
    · rw [List.getD_eq_getElem?_getD, List.getElem?_replicate]
      split <;> simp
    clear hq'
    rintro ⟨k, ms⟩ H6 ⟨hk, hms, hat, hH6⟩
    simp only at hk hms hat hH6
    dsimp only
    repeat' (first | refine zA ?_ | (refine zM ?_; intro _ _) | (apply Ws <;> intro hg))
    refine WC.condP rfl (fun hlt => ?_) (fun hlt => ?_)
    · have hk' : k < xs.length := by omega
      have hnext : ∀ b : Bool, (b = true ↔ w < best.getD k 0 ∧ 0 < ds.getD k 0) → ∀ y, (ms.set k b).getD y false = true ↔ y < k + 1 ∧ w < best.getD y 0 ∧ 0 < ds.getD y 0 := by
        intro b hb y
        rw [getB_set (by omega)]
        by_cases hy : y = k
        · subst hy; rw [if_pos rfl, hb]; exact ⟨fun h => ⟨by omega, h⟩, fun h => h.2⟩
        · rw [if_neg hy, hat y]
          exact ⟨fun h => ⟨by omega, h.2⟩, fun h => ⟨by omega, h.2⟩⟩
      repeat' (first | refine zA ?_ | (refine zM ?_; intro _ _) | (apply Ws <;> intro hg))
      refine WR.op (by first | exact gN | exact gS rfl) rfl (OpV.loadI (b := n4) (e := 86) (xs := best) rfl hH6 (.tail _ hmb) (by omega)) ?_
      repeat' (first | refine zA ?_ | (refine zM ?_; intro _ _) | (apply Ws <;> intro hg))
      · refine WR.op (by first | exact gN | exact gS rfl) rfl (OpV.loadI (b := n4 + 1) (e := 86) (xs := ds) rfl hH6 (.tail _ hmd) (by omega)) ?_
        repeat' (first | refine zA ?_ | (refine zM ?_; intro _ _) | (apply Ws <;> intro hg))
        refine WR.storeB (by first | exact gN | exact gS rfl) hH6 rfl rfl .here (by omega) fun H7 hH7 => ?_
        repeat' (first | refine zA ?_ | (refine zM ?_; intro _ _) | (apply Ws <;> intro hg))
        refine Ends.loop (k + 1, _) (by simp only; omega) (by repeat' (first | exact .nil | refine .cons rfl ?_)) rfl ⟨hk', by simpa using hms, hnext _ ?_, hH7⟩
        have hb : w < best.getD k 0 := by assumption
        rw [decide_eq_true_iff]
        exact ⟨fun h => ⟨hb, h⟩, fun h => h.2⟩
      · refine WR.storeB (by first | exact gN | exact gS rfl) hH6 rfl rfl .here (by omega) fun H7 hH7 => ?_
        repeat' (first | refine zA ?_ | (refine zM ?_; intro _ _) | (apply Ws <;> intro hg))
        refine Ends.loop (k + 1, _) (by simp only; omega) (by repeat' (first | exact .nil | refine .cons rfl ?_)) rfl ⟨hk', by simpa using hms, hnext _ ?_, hH7⟩
        have hb : ¬ w < best.getD k 0 := by assumption
        exact ⟨fun h => absurd h (by simp), fun h => absurd h.1 hb⟩
    have hkn : k = xs.length := by omega
    subst hkn
    clear hlt hk
    have hK : ∀ y, ms.getD y false = true → y < xs.length := fun y hy => ((hat y).1 hy).1
    repeat' (first | refine zA ?_ | (refine zM ?_; intro _ _) | (apply Ws <;> intro hg))
    refine WC.loop (fun a : PV => [(6, .pointer (some ⟨bg, 0, some 0⟩)), (10, .pointer (some ⟨n4 + 1 + 1, 0, some 0⟩)), (12, a.v), (55, .int .i64 (xs.length : Int)), (56, .int .i64 (a.k : Int))]) (fun _ => [])
      (fun a H => a.k ≤ xs.length ∧ a.cur.length = 37 ∧ Cur c.toNat xs.length ms a.k a.cur ∧ Own 22 1 a.v a.ws a.Mo ∧ Rows2 a.Mp a.ws (poolsM c.toNat xs.length ms a.k) ∧ hasH (a.Mo ++ (a.Mp ++ ((n4 + 1 + 1, .row 97 0 0 (bools a.cur)) :: T))) a.n H ∧ n4 ≤ a.n)
      (fun a => xs.length - a.k) ⟨0, .slice none 0 0, [], [], [], ms, n4 + 1 + 1 + 1⟩ (by repeat' (first | exact .nil | refine .cons rfl ?_)) rfl ⟨Nat.zero_le _, hms, Cur.init _ _ _, .nil, ⟨rfl, fun i u l hu _ => by cases hu⟩, hH6, by simp only; omega⟩ ?_
    clear hH6
    rintro ⟨k, v12, ws, Mo, Mp, cur, n6⟩ H6 ⟨hk, hcl, hcur, hO, hrows, hH6, hn6⟩
    simp only at hk hcl hcur hO hrows hH6 hn6
    dsimp only
    repeat' (first | refine zA ?_ | (refine zM ?_; intro _ _) | (apply Ws <;> intro hg))
    refine WC.condP rfl (fun hlt => ?_) (fun hlt => ?_)
    · have hk' : k < xs.length := by omega
      have hmc : (n4 + 1 + 1, Ch.row 97 0 0 (bools cur)) ∈ Mo ++ (Mp ++ ((n4 + 1 + 1, .row 97 0 0 (bools cur)) :: T)) := by simp
      have hmg' : (bg, Ch.row 99 0 0 (gcells c.toNat xs.length (padded xs))) ∈ Mo ++ (Mp ++ ((n4 + 1 + 1, .row 97 0 0 (bools cur)) :: T)) := by simp [hmg]
      have hfirst := hcur.first ⟨hh.c1, hc6⟩ hh.cr hK
      repeat' (first | refine zA ?_ | (refine zM ?_; intro _ _) | (apply Ws <;> intro hg))
      refine WR.op (by first | exact gN | exact gS rfl) rfl (OpV.loadB rfl hH6 hmc (by omega)) ?_
      cases hck2 : cur.getD k false with
      | false =>
        have hno : ¬ cur.getD k false = true := by rw [hck2]; simp
        repeat' (first | refine zA ?_ | (refine zM ?_; intro _ _) | (apply Ws <;> intro hg))
        refine Ends.loop ⟨k + 1, v12, ws, Mo, Mp, cur, n6⟩ (by simp only; omega) (by repeat' (first | exact .nil | refine .cons rfl ?_)) rfl ⟨hk', hcl, hcur.skip hno, hO, ?_, hH6, hn6⟩
        rw [pools_skip (fun h => hno (hfirst.2 h))]; exact hrows
      | true =>
        repeat' (first | refine zA ?_ | (refine zM ?_; intro _ _) | (apply Ws <;> intro hg))
        refine WR.call (by first | exact gN | exact gS rfl) rfl rfl (reach_fs hH6 hmg' hmc hcl hh hc6 (Nat.le_of_lt hk')) ?_
        rintro _ H7 ⟨b, n7, ts, rfl, hn7, hH7, htl, hts⟩
        repeat' (first | refine zA ?_ | (refine zM ?_; intro _ _) | (apply Ws <;> intro hg))
        refine WR.call (by first | exact gN | exact gS rfl) rfl rfl (marks_fs hH7 (.head _) htl) ?_
        rintro vp H8 ⟨Mx, n8, hn8, hOp, hH8⟩
        rw [marked_comp (by omega) hK (fun y => (hts y).trans (hcur.reach ⟨hh.c1, hc6⟩ hh.cr hK hck2))] at hOp
        have hH9 : hasH (Mx ++ (Mo ++ (Mp ++ ((n4 + 1 + 1, .row 97 0 0 (bools cur)) :: T)))) n8 H8 := hH8.sub (.append (.refl _) (.cons _ (.refl _)))
        have hple : (comp c.toNat xs.length ms k).length ≤ 37 := by
          have := List.length_filter_le (fun x => @decide (RM c.toNat xs.length ms k x) (Classical.propDecidable _)) (List.range xs.length)
          rw [List.length_range] at this
          exact Nat.le_trans this (by omega)
        have hmemc := fun y => mem_comp (c := c.toNat) (x := k) (y := y) hK
        have hpools := pools_take (hfirst.1 hck2)
        generalize comp c.toNat xs.length ms k = pl at hOp hple hmemc hpools
        clear hH8 hH7 hH6 hmc hmg' hts
        have hll : (nodes pl).length = pl.length := by simp
        have hvp1 := (hOp.sl M).one_
        have hH9' : hasH ((n4 + 1 + 1, .row 97 0 0 (bools cur)) :: (Mx ++ (Mo ++ (Mp ++ T)))) n8 H8 := hH9.perm (by classical exact List.perm_iff_count.2 (fun a => by simp only [defds, List.map_cons, List.map_nil, List.count_append, List.count_cons, List.count_nil, List.cons_append, List.nil_append, List.append_nil]; omega))
        have hSl9 := (hOp.sl (Mo ++ (Mp ++ T))).cons (p := (n4 + 1 + 1, .row 97 0 0 (bools cur)))
        clear hH9
        repeat' (first | refine zA ?_ | (refine zM ?_; intro _ _) | (apply Ws <;> intro hg))
        refine WR.op (by first | exact gN | exact gS rfl) rfl (OpV.lenS rfl hSl9) ?_
        rw [hll]
        clear hSl9
        repeat' (first | refine zA ?_ | (refine zM ?_; intro _ _) | (apply Ws <;> intro hg))
        refine WC.loop (fun a : Nat × List Bool => [(6, .pointer (some ⟨bg, 0, some 0⟩)), (10, .pointer (some ⟨n4 + 1 + 1, 0, some 0⟩)), (12, v12), (13, .int .i64 (k : Int)), (14, vp), (55, .int .i64 (xs.length : Int)), (56, .int .i64 (k : Int)), (67, vp), (68, .int .i64 (pl.length : Int)), (69, .int .i64 (a.1 : Int))]) (fun _ => [])
          (fun a H => a.1 ≤ pl.length ∧ a.2.length = 37 ∧ (∀ y, a.2.getD y false = true ↔ cur.getD y false = true ∧ ∀ i, i < a.1 → pl[i]? ≠ some y) ∧ hasH ((n4 + 1 + 1, .row 97 0 0 (bools a.2)) :: (Mx ++ (Mo ++ (Mp ++ T)))) n8 H)
          (fun a => pl.length - a.1) (0, cur) (by repeat' (first | exact .nil | refine .cons rfl ?_)) rfl ⟨Nat.zero_le _, hcl, fun y => ⟨fun h => ⟨h, fun i hi => absurd hi (Nat.not_lt_zero _)⟩, fun h => h.1⟩, hH9'⟩ ?_
        clear hH9'
        rintro ⟨j, ms2⟩ H10 ⟨hj, hm2, hat2, hH10⟩
        simp only at hj hm2 hat2 hH10
        dsimp only
        repeat' (first | refine zA ?_ | (refine zM ?_; intro _ _) | (apply Ws <;> intro hg))
        refine WC.condP rfl (fun hlt2 => ?_) (fun hlt2 => ?_)
        · have hj' : j < pl.length := by omega
          obtain ⟨q, hq⟩ : ∃ q, pl[j]? = some q := ⟨pl[j], List.getElem?_eq_getElem hj'⟩
          have hqr : q < xs.length := hK q ((hmemc q).1 (List.mem_of_getElem? hq)).on
          have hSl10 := (hOp.sl (Mo ++ (Mp ++ T))).cons (p := (n4 + 1 + 1, .row 97 0 0 (bools ms2)))
          repeat' (first | refine zA ?_ | (refine zM ?_; intro _ _) | (apply Ws <;> intro hg))
          refine WR.idxSl (by first | exact gN | exact gS rfl) rfl rfl hSl10 rfl rfl (c := .int .i64 (q : Int)) (by simp [hq]) fun _ _ _ hc1 => ?_
          repeat' (first | refine zA ?_ | (refine zM ?_; intro _ _) | (apply Ws <;> intro hg))
          refine WR.storeB (by first | exact gN | exact gS rfl) hH10 rfl rfl .here (by omega) fun H11 hH11 => ?_
          repeat' (first | refine zA ?_ | (refine zM ?_; intro _ _) | (apply Ws <;> intro hg))
          refine Ends.loop (j + 1, _) (by simp only; omega) (by repeat' (first | exact .nil | refine .cons rfl ?_)) rfl ⟨hj', by simpa using hm2, fun y => ?_, hH11⟩
          simp only
          rw [getB_set (by omega)]
          by_cases hy : y = q
          · subst hy; rw [if_pos rfl]
            exact ⟨fun h => by (cases h), fun h => absurd hq (h.2 j (by omega))⟩
          · rw [if_neg hy, hat2 y]
            refine ⟨fun h => ⟨h.1, fun i hi => ?_⟩, fun h => ⟨h.1, fun i hi => h.2 i (by omega)⟩⟩
            rcases Nat.lt_or_ge i j with h2 | h2
            · exact h.2 i h2
            · have : i = j := by omega
              subst this
              rw [hq]; intro h3; cases h3; exact hy rfl
        have hjn : j = pl.length := by omega
        subst hjn
        have hwl : ws.length ≤ k := by rw [hrows.1]; exact pools_len _ _ _ _
        repeat' (first | refine zA ?_ | (refine zM ?_; intro _ _) | (apply Ws <;> intro hg))
        refine WR.append1F ((n4 + 1 + 1, .row 97 0 0 (bools ms2)) :: Mx) Mo (Mp ++ T) rfl rfl rfl rfl hO hH10 (new := [vp]) (by obtain ⟨_, _, _, rfl⟩ := own_isSl hOp; rfl) (by simp [hvp1]) rfl (Nat.le_refl _) (by omega) (by simp only [List.length_cons, List.length_nil]; omega) fun v3 Mx3 n9 H12 hO3 hH12 hn12 => ?_
        repeat' (first | refine zA ?_ | (refine zM ?_; intro _ _) | (apply Ws <;> intro hg))
        refine Ends.loop ⟨k + 1, v3, ws ++ [vp], Mx3, Mx ++ Mp, ms2, n9⟩ (by simp only; omega) (by repeat' (first | exact .nil | refine .cons rfl ?_)) rfl ⟨hk', hm2, hcur.take hK fun y => ?_, hO3, ?_, hH12.perm (by classical exact List.perm_iff_count.2 (fun a => by simp only [defds, List.map_cons, List.map_nil, List.count_append, List.count_cons, List.count_nil, List.cons_append, List.nil_append, List.append_nil]; omega)), by simp only; omega⟩
        · simp only
          rw [hat2 y, mem_comp hK, ← hmemc]
          refine ⟨fun h => ⟨h.1, fun hm => ?_⟩, fun h => ⟨h.1, fun i hi he => h.2 (List.mem_of_getElem? he)⟩⟩
          obtain ⟨i, hi, he⟩ := List.mem_iff_getElem.1 hm
          exact h.2 i hi (by rw [List.getElem?_eq_getElem hi, he])
        · rw [hpools]
          exact (hrows.mono (fun q hq => List.mem_append_right _ hq)).push (hOp.sl _)
    have hkn : k = xs.length := by omega
    subst hkn
    repeat' (first | refine zA ?_ | (refine zM ?_; intro _ _) | (apply Ws <;> intro hg))
    refine Ends.ret2 rfl rfl ⟨n6, by omega, .inr ⟨he0, v12, Mo, Mp, ws, ms, best, ds, rfl, hO, hrows, ?_, ⟨hms, hat⟩, hl, hd⟩⟩
    have := hT (Z := Mo ++ Mp) (by rw [List.append_assoc]; exact hH6.sub (.append (.refl _) (.append (.refl _) (.cons _ (.refl _)))))
    rw [List.append_assoc] at this
    exact this
end Go.Proofs.Ytmogipomnjihcaa.Eb

namespace Go.Proofs.Ytmogipomnjihcaa.Eb
open Go Go.Abs Go.Low
set_option linter.unusedVariables false
set_option linter.unusedSimpArgs false
attribute [local irreducible] gOK WS WC WR WD Ends FS YS OpV seqK blockK loopK midK retK rdK asgK rangeEnd sat Cell

def goodN (r : Nat) (hs : List Int) (ms : List Bool) (h : Int) (y : Nat) : Prop := y ≠ r ∧ (hs.getD y 0 < h → ms.getD y false = true)

def BarsM (c r : Nat) (hs : List Int) (ms : List Bool) (h : Int) : Prop := ∀ p ∈ marked ms 37, ∀ y ∈ nbrs c r p, goodN r hs ms h y

theorem Upd.app {A M M' : HL} {b : Nat} {ch ch' : Ch} (h : Upd M b ch ch' M') : Upd (A ++ M) b ch ch' (A ++ M') := by
  induction A with
  | nil => exact h
  | cons p A ih => exact .there ih

open Classical in
theorem isBarrier_fs {M : HL} {n : Nat} {H : Heap} (hH : hasH M n H) {bg bm e c r : Nat} {hs : List Int} {ms : List Bool} {h : Int} (hm : (bg, .row 99 0 0 (gcells c r hs)) ∈ M) (hmm : (bm, .row e 0 0 (bools ms)) ∈ M) (hl : ms.length = 37) (hh : HS c r hs) (hc6 : c ≤ 6)
    (hin : ∀ p ∈ marked ms 37, p < r) :
    FS C 78 [.pointer (some ⟨bg, 0, some 0⟩), .pointer (some ⟨bm, 0, some 0⟩), .int .i64 h] H (fun v H' => v = .bool (decide (BarsM c r hs ms h)) ∧ ∃ n', n ≤ n' ∧ hasH M n' H') := by
  have h36 := hh.r36
  refine FS.intro (pf := pf78) rfl rfl rfl ?_
  repeat' (first | refine zA ?_ | (refine zM ?_; intro _ _) | (apply Ws <;> intro hg))
  rename_i H1 hH1
  refine WR.call (by first | exact gN | exact gS rfl) rfl rfl (marks_fs hH1 (List.mem_cons_of_mem _ (List.mem_cons_of_mem _ (List.mem_cons_of_mem _ (List.mem_cons_of_mem _ hmm)))) hl) ?_
  rintro v H2 ⟨Mx, n2, hn2, hO, hH2⟩
  have hSl := hO.sl ((n + 1 + 1 + 1, .row 4 0 0 [.bool false]) :: (n + 1 + 1, .row 3 0 0 [.int .i64 h]) :: (n + 1, .row 101 0 0 [.pointer (some ⟨bm, 0, some 0⟩)]) :: (n, .row 82 0 0 [.pointer (some ⟨bg, 0, some 0⟩)]) :: M)
  have hll : (nodes (marked ms 37)).length = (marked ms 37).length := by simp
  repeat' (first | refine zA ?_ | (refine zM ?_; intro _ _) | (apply Ws <;> intro hg))
  refine WR.op (by first | exact gN | exact gS rfl) rfl (OpV.lenS rfl hSl) ?_
  rw [hll]
  repeat' (first | refine zA ?_ | (refine zM ?_; intro _ _) | (apply Ws <;> intro hg))
  have hpl := marked_len ms 37
  generalize hps : marked ms 37 = ps at hSl hO hin hll hpl
  refine WC.loop (fun a : Nat × List Nat × Nat => [(3, .pointer (some ⟨n, 0, some 0⟩)), (4, .pointer (some ⟨n + 1, 0, some 0⟩)), (5, .pointer (some ⟨n + 1 + 1, 0, some 0⟩)), (6, .pointer (some ⟨n + 1 + 1 + 1, 0, some 0⟩)), (11, v), (12, .int .i64 (ps.length : Int)), (13, .int .i64 (a.1 : Int))]) (fun a => a.2.1)
    (fun a H => a.1 ≤ ps.length ∧ n2 ≤ a.2.2 ∧ (∀ j, j < a.1 → ∀ p, ps[j]? = some p → ∀ y ∈ nbrs c r p, goodN r hs ms h y) ∧
      hasH (Mx ++ (defds a.2.1 ++ ((n + 1 + 1 + 1, .row 4 0 0 [.bool false]) :: (n + 1 + 1, .row 3 0 0 [.int .i64 h]) :: (n + 1, .row 101 0 0 [.pointer (some ⟨bm, 0, some 0⟩)]) :: (n, .row 82 0 0 [.pointer (some ⟨bg, 0, some 0⟩)]) :: M))) a.2.2 H)
    (fun a => ps.length - a.1) (0, [], n2) (by repeat' (first | exact .nil | refine .cons rfl ?_)) rfl ⟨Nat.zero_le _, Nat.le_refl _, fun j hj => absurd hj (Nat.not_lt_zero _), hH2⟩ ?_
  clear hH2 hH1
  rintro ⟨k, D, n4⟩ H4 ⟨hk, hn4, hgd, hH4⟩
  simp only at hk hn4 hgd hH4
  dsimp only
  repeat' (first | refine zA ?_ | (refine zM ?_; intro _ _) | (apply Ws <;> intro hg))
  refine WC.condP rfl (fun hlt => ?_) (fun hlt => ?_)
  · have hk' : k < ps.length := by omega
    obtain ⟨p, hp⟩ : ∃ p, ps[k]? = some p := ⟨ps[k], List.getElem?_eq_getElem hk'⟩
    have hpr := hin p (List.mem_of_getElem? hp)
    have hSl4 : Sl (Mx ++ (defds D ++ ((n + 1 + 1 + 1, .row 4 0 0 [.bool false]) :: (n + 1 + 1, .row 3 0 0 [.int .i64 h]) :: (n + 1, .row 101 0 0 [.pointer (some ⟨bm, 0, some 0⟩)]) :: (n, .row 82 0 0 [.pointer (some ⟨bg, 0, some 0⟩)]) :: M))) 1 v (nodes ps) :=
      hSl.mono (fun q hq => by simp only [List.mem_append, List.mem_cons] at hq ⊢; rcases hq with h | h; exact .inl h; exact .inr (.inr h))
    have m3 : (n, Ch.row 82 0 0 [.pointer (some ⟨bg, 0, some 0⟩)]) ∈ Mx ++ (defds D ++ ((n + 1 + 1 + 1, .row 4 0 0 [.bool false]) :: (n + 1 + 1, .row 3 0 0 [.int .i64 h]) :: (n + 1, .row 101 0 0 [.pointer (some ⟨bm, 0, some 0⟩)]) :: (n, .row 82 0 0 [.pointer (some ⟨bg, 0, some 0⟩)]) :: M)) := by simp
    have mg : (bg, Ch.row 99 0 0 (gcells c r hs)) ∈ Mx ++ (defds D ++ ((n + 1 + 1 + 1, .row 4 0 0 [.bool false]) :: (n + 1 + 1, .row 3 0 0 [.int .i64 h]) :: (n + 1, .row 101 0 0 [.pointer (some ⟨bm, 0, some 0⟩)]) :: (n, .row 82 0 0 [.pointer (some ⟨bg, 0, some 0⟩)]) :: M)) := by simp [hm]
    repeat' (first | refine zA ?_ | (refine zM ?_; intro _ _) | (apply Ws <;> intro hg))
    refine WR.idxSl (by first | exact gN | exact gS rfl) rfl rfl hSl4 rfl rfl (c := .int .i64 (p : Int)) (by simp [hp]) fun b' o' u' hc => ?_
    repeat' (first | refine zA ?_ | (refine zM ?_; intro _ _) | (apply Ws <;> intro hg))
    refine WR.call (by first | exact gN | exact gS rfl) rfl rfl (neighbours_fs hH4 (hs := hs) (r := r) (c := c) mg ⟨hh.c1, hc6⟩ hh.cr (Nat.le_of_lt hpr) h36) ?_
    rintro _ H5 ⟨g, va, vb, Mn, n5, rfl, hn5, hH5, hit⟩
    repeat' (first | refine zA ?_ | (refine zM ?_; intro _ _) | (apply Ws <;> intro hg))
    refine WC.range0 rfl hH5 fun t ht H6 hH6 => ?_
    generalize hR : ({ state := .ready, pending := none, fn := 78, tmps := t, params := [20], assign := _, body := _, nt := _ } : LoopE) = R at hH6
    have h0 := hit (n5 + 1) (fun zs H => ∃ dn zr, nbrs c r p = dn ++ zr ∧ zs = nodes zr ∧ (∀ y ∈ dn, goodN r hs ms h y) ∧
        hasH ((n5 + 1, .loop R) :: (n + 1 + 1 + 1, .row 4 0 0 [.bool false]) :: (n + 1 + 1, .row 3 0 0 [.int .i64 h]) :: (n + 1, .row 101 0 0 [.pointer (some ⟨bm, 0, some 0⟩)]) :: (n, .row 82 0 0 [.pointer (some ⟨bg, 0, some 0⟩)]) :: (Mx ++ (Mn ++ ((n5, .defd false) :: (defds D ++ M))))) (n5 + 2) H)
      (fun H => (∃ y ∈ nbrs c r p, ¬ goodN r hs ms h y) ∧
        hasH ((n5 + 1, .loop { R with state := .done, pending := some .ret }) :: (n + 1 + 1 + 1, .row 4 0 0 [.bool false]) :: (n + 1 + 1, .row 3 0 0 [.int .i64 h]) :: (n + 1, .row 101 0 0 [.pointer (some ⟨bm, 0, some 0⟩)]) :: (n, .row 82 0 0 [.pointer (some ⟨bg, 0, some 0⟩)]) :: (Mx ++ (Mn ++ ((n5, .defd false) :: (defds D ++ M))))) (n5 + 2) H) ?_ ?_ H6
      ⟨[], nbrs c r p, rfl, rfl, List.forall_mem_nil _, hH6.perm (by classical exact List.perm_iff_count.2 (fun a => by simp only [defds, List.map_cons, List.map_nil, List.count_append, List.count_cons, List.count_nil, List.cons_append, List.nil_append, List.append_nil]; omega))⟩
    · refine FS.mono h0 ?_
      rintro _ H7 (⟨dn, zr, hdz, hzs, hdn, hH7⟩ | ⟨⟨y, hy, hbad⟩, hH7⟩)
      · have hzn : zr = [] := by
          cases zr with
          | nil => rfl
          | cons => cases hzs
        subst hzn
        refine rangeEnd_of hH7 .here (by rw [← hR]; simp) (by rw [← hR]; rfl) fun H8 hH8 => ?_
        repeat' (first | refine zA ?_ | (refine zM ?_; intro _ _) | (apply Ws <;> intro hg))
        refine Ends.loop (k + 1, n5 :: D, n5 + 2) (by simp only; omega) (by repeat' (first | exact .nil | refine .cons rfl ?_)) rfl ⟨hk', by simp only; omega, fun j hj q hq y hy => ?_, ?_⟩
        · rcases Nat.lt_or_ge j k with h2 | h2
          · exact hgd j h2 q hq y hy
          · have : j = k := by simp only at hj; omega
            subst this
            rw [hp] at hq; cases hq
            rw [hdz, List.append_nil] at hy
            exact hdn y hy
        · have hH9 := hH8.tail
          refine (hH9.perm (M' := Mn ++ (Mx ++ (defds (n5 :: D) ++ ((n + 1 + 1 + 1, .row 4 0 0 [.bool false]) :: (n + 1 + 1, .row 3 0 0 [.int .i64 h]) :: (n + 1, .row 101 0 0 [.pointer (some ⟨bm, 0, some 0⟩)]) :: (n, .row 82 0 0 [.pointer (some ⟨bg, 0, some 0⟩)]) :: M)))) (by classical exact List.perm_iff_count.2 (fun a => by simp only [defds, List.map_cons, List.map_nil, List.count_append, List.count_cons, List.count_nil, List.cons_append, List.nil_append, List.append_nil]; omega))).sub (List.sublist_append_right _ _)
      · refine rangeEnd_of hH7 .here (by simp) rfl fun H8 hH8 => ?_
        repeat' (first | refine zA ?_ | (refine zM ?_; intro _ _) | (apply Ws <;> intro hg))
        refine Ends.retC1D (M0 := (n + 1 + 1 + 1, .row 4 0 0 [.bool false]) :: M) (v := .bool false) rfl (hH8.tail.perm (M' := ((n + 1 + 1, .row 3 0 0 [.int .i64 h]) :: (n + 1, .row 101 0 0 [.pointer (some ⟨bm, 0, some 0⟩)]) :: (n, .row 82 0 0 [.pointer (some ⟨bg, 0, some 0⟩)]) :: (Mx ++ Mn)) ++ (defds (n5 :: D) ++ (n + 1 + 1 + 1, .row 4 0 0 [.bool false]) :: M)) (by classical exact List.perm_iff_count.2 (fun a => by simp only [defds, List.map_cons, List.map_nil, List.count_append, List.count_cons, List.count_nil, List.cons_append, List.nil_append, List.append_nil]; omega))) (List.sublist_append_right _ _) (List.Perm.refl _) fun H9 hH9 => ⟨hH9.read (.head _) (.row _ _ _ _) (Nat.zero_le _) rfl, ?_, n5 + 2, by omega, hH9.tail⟩
        congr 1
        rw [eq_comm, decide_eq_false_iff_not]
        exact fun hall => hbad (hall p (by rw [hps]; exact List.mem_of_getElem? hp) y hy)
    · rintro zs H ⟨dn, zr, hdz, hzs, hdn, hH7⟩
      exact ⟨_, _, hH7, fun q hq => by simp [hq], by simp [hm]⟩
    · rintro z zs H ⟨dn, zr, hdz, hzs, hdn, hH7⟩
      cases zr with
      | nil => cases hzs
      | cons y zr =>
      obtain ⟨rfl, rfl⟩ : z = .int .i64 (y : Int) ∧ zs = nodes zr := by simpa using hzs
      have hyn : y ∈ nbrs c r p := by rw [hdz]; simp
      have hyr := nbrs_le hh.c1 hh.cr (Nat.le_of_lt hpr) hyn
      have hgl := hh.len
      refine YS.intro hH7 (.head _) (by rw [← hR]) (by rw [← hR]) (by rw [← hR]; rfl) (by rw [← hR]; exact ht) ?_
      subst hR
      dsimp only
      repeat' (first | refine zA ?_ | (refine zM ?_; intro _ _) | (apply Ws <;> intro hg))
      refine Ends.asg hH7 .here fun H8 hH8 => ?_
      dsimp only
      have mg2 : (bg, Ch.row 99 0 0 (gcells c r hs)) ∈ Mx ++ (Mn ++ ((n5, .defd false) :: (defds D ++ M))) := by simp [hm]
      have mm2 : (bm, Ch.row e 0 0 (bools ms)) ∈ Mx ++ (Mn ++ ((n5, .defd false) :: (defds D ++ M))) := by simp [hmm]
      repeat' (first | refine zA ?_ | (refine zM ?_; intro _ _) | (apply Ws <;> intro hg))
      · -- the river
        have hyr' : y = r := by omega
        rename_i hq
        exact Ends.rd rfl rfl rfl hq .here fun H' h' => .inr ⟨rfl, ⟨y, hyn, fun hgo => hgo.1 hyr'⟩, h'⟩
      have hyr' : y ≠ r := by omega
      refine WR.op (by first | exact gN | exact gS rfl) rfl (loadG (bg := bg) (c := c) (r := r) (hs := hs) rfl hH8 (by simp [hm]) (by omega)) ?_
      repeat' (first | refine zA ?_ | (refine zM ?_; intro _ _) | (apply Ws <;> intro hg))
      · refine WR.op (by first | exact gN | exact gS rfl) rfl (OpV.loadB (b := bm) (e := e) (xs := ms) rfl hH8 (by simp [hmm]) (by omega)) ?_
        cases hmy : ms.getD y false with
        | true =>
          repeat' (first | refine zA ?_ | (refine zM ?_; intro _ _) | (apply Ws <;> intro hg))
          exact Ends.rd rfl rfl rfl hH8 .here fun H' h' => .inl ⟨rfl, dn ++ [y], zr, by simp [hdz], rfl, fun y' hy' => by
            rcases List.mem_append.1 hy' with h1 | h1
            · exact hdn y' h1
            · rw [List.mem_singleton.1 h1]; exact ⟨hyr', fun _ => hmy⟩, h'⟩
        | false =>
          repeat' (first | refine zA ?_ | (refine zM ?_; intro _ _) | (apply Ws <;> intro hg))
          rename_i hq
          exact Ends.rd rfl rfl rfl hq .here fun H' h' => .inr ⟨rfl, ⟨y, hyn, fun hgo => by have := hgo.2 (by assumption); rw [hmy] at this; cases this⟩, h'⟩
      · repeat' (first | refine zA ?_ | (refine zM ?_; intro _ _) | (apply Ws <;> intro hg))
        exact Ends.rd rfl rfl rfl hH8 .here fun H' h' => .inl ⟨rfl, dn ++ [y], zr, by simp [hdz], rfl, fun y' hy' => by
          rcases List.mem_append.1 hy' with h1 | h1
          · exact hdn y' h1
          · rw [List.mem_singleton.1 h1]; exact ⟨hyr', fun hlt => absurd hlt (by assumption)⟩, h'⟩
  · have hkn : k = ps.length := by omega
    subst hkn
    repeat' (first | refine zA ?_ | (refine zM ?_; intro _ _) | (apply Ws <;> intro hg))
    refine WR.storeBox (by first | exact gN | exact gS rfl) hH4 rfl rfl rfl (M' := Mx ++ (defds D ++ ((n + 1 + 1 + 1, .row 4 0 0 [.bool true]) :: (n + 1 + 1, .row 3 0 0 [.int .i64 h]) :: (n + 1, .row 101 0 0 [.pointer (some ⟨bm, 0, some 0⟩)]) :: (n, .row 82 0 0 [.pointer (some ⟨bg, 0, some 0⟩)]) :: M))) (Upd.app (Upd.app .here)) fun H5 hH5 => ?_
    repeat' (first | refine zA ?_ | (refine zM ?_; intro _ _) | (apply Ws <;> intro hg))
    refine Ends.retC1D (M0 := (n + 1 + 1 + 1, .row 4 0 0 [.bool true]) :: M) (v := .bool true) rfl (hH5.perm (M' := ((n + 1 + 1, .row 3 0 0 [.int .i64 h]) :: (n + 1, .row 101 0 0 [.pointer (some ⟨bm, 0, some 0⟩)]) :: (n, .row 82 0 0 [.pointer (some ⟨bg, 0, some 0⟩)]) :: Mx) ++ (defds D ++ (n + 1 + 1 + 1, .row 4 0 0 [.bool true]) :: M)) (by classical exact List.perm_iff_count.2 (fun a => by simp only [defds, List.map_cons, List.map_nil, List.count_append, List.count_cons, List.count_nil, List.cons_append, List.nil_append, List.append_nil]; omega))) (List.sublist_append_right _ _) (List.Perm.refl _) fun H9 hH9 => ⟨hH9.read (.head _) (.row _ _ _ _) (Nat.zero_le _) rfl, ?_, n4, by omega, hH9.tail⟩
    congr 1
    rw [eq_comm, decide_eq_true_iff]
    intro p hp y hy
    rw [hps] at hp
    obtain ⟨j, hj, rfl⟩ := List.mem_iff_getElem.1 hp
    exact hgd j hj _ (List.getElem?_eq_getElem hj) y hy

end Go.Proofs.Ytmogipomnjihcaa.Eb

namespace Go.Proofs.Ytmogipomnjihcaa.Eb
open Go Go.Abs Go.Low
set_option linter.unusedVariables false
set_option linter.unusedSimpArgs false
attribute [local irreducible] gOK WS WC WR WD Ends FS YS OpV seqK blockK loopK midK retK rdK asgK rangeEnd sat Cell

theorem mem_marked {ms : List Bool} {k p : Nat} : p ∈ marked ms k ↔ p < k ∧ ms.getD p false = true := by simp [marked]

theorem barsM_iff {c r : Nat} {hs : List Int} {ms : List Bool} {ps : List Nat} {h : Int} (hh : HS c r hs) (hps : ∀ p ∈ ps, p < r) (hms : ∀ q, q < 37 → ms.getD q false = decide (q ∈ ps)) : BarsM c r hs ms h ↔ Bars c r hs ps h := by
  have h36 := hh.r36
  have hin : ∀ p, p ∈ marked ms 37 ↔ p ∈ ps := by
    intro p
    rw [mem_marked]
    constructor
    · rintro ⟨h1, h2⟩; rw [hms p h1] at h2; exact of_decide_eq_true h2
    · intro h1
      have := hps p h1
      exact ⟨by omega, by rw [hms p (by omega)]; exact decide_eq_true h1⟩
  have hgood : ∀ p ∈ ps, ∀ y ∈ nbrs c r p, (goodN r hs ms h y ↔ (y ≠ r ∧ (hs.getD y 0 < h → y ∈ ps))) := by
    intro p hp y hy
    have hyr := nbrs_le hh.c1 hh.cr (Nat.le_of_lt (hps p hp)) hy
    unfold goodN
    rw [hms y (by omega), decide_eq_true_iff]
  constructor
  · intro hb p hp y hy
    exact (hgood p hp y hy).1 (hb p ((hin p).2 hp) y hy)
  · intro hb p hp y hy
    have hp' := (hin p).1 hp
    exact (hgood p hp' y hy).2 (hb p hp' y hy)

open Classical in
theorem Proves_fs {M : HL} {n : Nat} {H : Heap} (hH : hasH M n H) {r c : Int} {v vp : Value} {xs : List Int} {ps : List Nat} {h : Int} (hS : Sl M 1 v (ints xs)) (hP : Sl M 1 vp (nodes ps)) (hx : xs.length ≤ 1000) (hck : checkE r c xs = 0) (hps : ∀ p ∈ ps, p < xs.length) (hsort : ps.Pairwise (· < ·)) (hpl : ps.length ≤ 1000)
    (hh30 : 0 ≤ h ∧ h ≤ 30) :
    FS C 35 [.agg #[.int .i64 r, .int .i64 c, v], vp, .int .i64 h] H (fun e H' => e = .int .i64 (if Bars c.toNat xs.length (padded xs) ps h then 0 else 14) ∧ ∃ n', n ≤ n' ∧ hasH M n' H') := by
  have h1 := hS.one_
  obtain ⟨hh, hc6, hr36⟩ := HS_of hck
  have hnl : (nodes ps).length = ps.length := by simp
  refine FS.intro (pf := pf35) rfl rfl rfl ?_
  repeat' (first | refine zA ?_ | (refine zM ?_; intro _ _) | (apply Ws <;> intro hg))
  refine WR.call (by first | exact gN | exact gS rfl) rfl rfl (lay_fs (by assumption) hS.cons hx) ?_
  rintro _ H2 ⟨n2, hn2, ⟨hne, _⟩ | ⟨_, bg, rfl, hH2⟩⟩
  · exact absurd hck hne
  repeat' (first | refine zA ?_ | (refine zM ?_; intro _ _) | (apply Ws <;> intro hg))
  rename_i H3 hH3
  refine WR.op (by first | exact gN | exact gS rfl) rfl (OpV.lenS rfl hP) ?_
  rw [hnl]
  repeat' (first | refine zA ?_ | (refine zM ?_; intro _ _) | (apply Ws <;> intro hg))
  refine WC.loop (fun k : Nat => [(1, vp), (2, .int .i64 h), (7, .pointer (some ⟨bg, 0, some 0⟩)), (9, .pointer (some ⟨n2, 0, some 0⟩)), (20, vp), (21, .int .i64 (ps.length : Int)), (22, .int .i64 (k : Int))]) (fun _ => [])
    (fun k H => k ≤ ps.length ∧ ∃ ms : List Bool, ms.length = 37 ∧ (∀ q, q < 37 → ms.getD q false = decide (q ∈ ps.take k)) ∧
      hasH ((n2, .row 97 0 0 (bools ms)) :: (bg, .row 99 0 0 (gcells c.toNat xs.length (padded xs))) :: (n, .row 24 0 0 [.int .i64 r, .int .i64 c, v]) :: M) (n2 + 1) H)
    (fun k => ps.length - k) 0 (by repeat' (first | exact .nil | refine .cons rfl ?_)) rfl ⟨Nat.zero_le _, List.replicate 37 false, rfl, fun q hq => ?_, hH3⟩ ?_
  · rw [List.getD_eq_getElem?_getD, List.getElem?_replicate, if_pos hq]; simp
  clear hH3 hH2
  rintro k H4 ⟨hk, ms, hml, hms, hH4⟩
  have hP4 : Sl ((n2, .row 97 0 0 (bools ms)) :: (bg, .row 99 0 0 (gcells c.toNat xs.length (padded xs))) :: (n, .row 24 0 0 [.int .i64 r, .int .i64 c, v]) :: M) 1 vp (nodes ps) := hP.cons.cons.cons
  repeat' (first | refine zA ?_ | (refine zM ?_; intro _ _) | (apply Ws <;> intro hg))
  refine WC.condP rfl (fun hlt => ?_) (fun hlt => ?_)
  · have hk' : k < ps.length := by omega
    obtain ⟨p, hp⟩ : ∃ p, ps[k]? = some p := ⟨ps[k], List.getElem?_eq_getElem hk'⟩
    have hpr := hps p (List.mem_of_getElem? hp)
    have hpe : ps[k] = p := by rw [List.getElem?_eq_getElem hk'] at hp; exact Option.some.inj hp
    repeat' (first | refine zA ?_ | (refine zM ?_; intro _ _) | (apply Ws <;> intro hg))
    refine WR.idxSl (by first | exact gN | exact gS rfl) rfl rfl hP4 rfl rfl (c := .int .i64 (p : Int)) (by simp [hp]) fun b' o' u' hc => ?_
    repeat' (first | refine zA ?_ | (refine zM ?_; intro _ _) | (apply Ws <;> intro hg))
    refine WR.call (by first | exact gN | exact gS rfl) rfl rfl (isPlace_fs hH4 (.tail _ (.head _)) hr36 (p : Int)) ?_
    rintro _ _ ⟨rfl, rfl⟩
    repeat' (first | refine zA ?_ | (refine zM ?_; intro _ _) | (apply Ws <;> intro hg))
    refine WC.condP rfl (fun hq => ?_) (fun hq => ?_)
    · omega
    have hnext : ∀ q, q < 37 → (ms.set p true).getD q false = decide (q ∈ ps.take (k + 1)) := by
      intro q hq
      rw [List.take_succ_eq_append_getElem hk', hpe, List.getD_eq_getElem?_getD, List.getElem?_set]
      by_cases hpq : p = q
      · subst hpq; rw [if_pos rfl, if_pos (by omega)]; simp
      · rw [if_neg hpq, ← List.getD_eq_getElem?_getD, hms q hq]
        exact decide_eq_decide.2 (by simp [Ne.symm hpq])
    repeat' (first | refine zA ?_ | (refine zM ?_; intro _ _) | (apply Ws <;> intro hg))
    · -- behind the first one
      refine WR.op (by first | exact gN | exact gS rfl) rfl (OpV.sub' (c := ((k - 1 : Nat) : Int)) rfl rfl (by omega) (by omega)) ?_
      obtain ⟨p0, hp0⟩ : ∃ p0, ps[k - 1]? = some p0 := ⟨ps[k - 1], List.getElem?_eq_getElem (by omega)⟩
      have hlt0 : p0 < p := by
        have hk1 : k - 1 < ps.length := by omega
        have := List.pairwise_iff_getElem.1 hsort (k - 1) k hk1 hk' (by omega)
        rw [List.getElem?_eq_getElem hk1] at hp0
        rw [hpe, Option.some.inj hp0] at this
        exact this
      refine WR.idxSl (by first | exact gN | exact gS rfl) rfl rfl hP4 rfl rfl (c := .int .i64 (p0 : Int)) (by simp [hp0]) fun b' o' u' hc => ?_
      repeat' (first | refine zA ?_ | (refine zM ?_; intro _ _) | (apply Ws <;> intro hg))
      refine WC.condP rfl (fun hq2 => ?_) (fun hq2 => ?_)
      · omega
      repeat' (first | refine zA ?_ | (refine zM ?_; intro _ _) | (apply Ws <;> intro hg))
      refine WR.storeB (by first | exact gN | exact gS rfl) hH4 rfl rfl .here (by omega) fun H7 hH7 => ?_
      repeat' (first | refine zA ?_ | (refine zM ?_; intro _ _) | (apply Ws <;> intro hg))
      exact Ends.loop (k + 1) (by omega) (by repeat' (first | exact .nil | refine .cons rfl ?_)) rfl ⟨hk', _, by rw [List.length_set]; exact hml, hnext, hH7⟩
    · repeat' (first | refine zA ?_ | (refine zM ?_; intro _ _) | (apply Ws <;> intro hg))
      refine WR.storeB (by first | exact gN | exact gS rfl) hH4 rfl rfl .here (by omega) fun H7 hH7 => ?_
      repeat' (first | refine zA ?_ | (refine zM ?_; intro _ _) | (apply Ws <;> intro hg))
      exact Ends.loop (k + 1) (by omega) (by repeat' (first | exact .nil | refine .cons rfl ?_)) rfl ⟨hk', _, by rw [List.length_set]; exact hml, hnext, hH7⟩
  · have hkn : k = ps.length := by omega
    subst hkn
    rw [List.take_length] at hms
    repeat' (first | refine zA ?_ | (refine zM ?_; intro _ _) | (apply Ws <;> intro hg))
    refine WR.call (by first | exact gN | exact gS rfl) rfl rfl (isHeight_fs _ _) ?_
    rintro _ _ ⟨rfl, rfl⟩
    repeat' (first | refine zA ?_ | (refine zM ?_; intro _ _) | (apply Ws <;> intro hg))
    refine WC.condP rfl (fun hq => ?_) (fun hq => ?_)
    · exact absurd hh30 hq
    repeat' (first | refine zA ?_ | (refine zM ?_; intro _ _) | (apply Ws <;> intro hg))
    have hin : ∀ p ∈ marked ms 37, p < xs.length := by
      intro p hp
      rw [mem_marked] at hp
      rw [hms p hp.1] at hp
      exact hps p (of_decide_eq_true hp.2)
    refine WR.call (by first | exact gN | exact gS rfl) rfl rfl (isBarrier_fs hH4 (.tail _ (.head _)) (.head _) hml hh hc6 hin) ?_
    rintro _ H8 ⟨rfl, n8, hn8, hH8⟩
    repeat' (first | refine zA ?_ | (refine zM ?_; intro _ _) | (apply Ws <;> intro hg))
    refine WC.condP rfl (fun hb => ?_) (fun hb => ?_)
    · repeat' (first | refine zA ?_ | (refine zM ?_; intro _ _) | (apply Ws <;> intro hg))
      refine Ends.ret1 rfl ⟨?_, n8, by omega, hH8.tail.tail.tail⟩
      rw [if_neg (fun hbb => hb ((barsM_iff hh hps hms).2 hbb))]
    · repeat' (first | refine zA ?_ | (refine zM ?_; intro _ _) | (apply Ws <;> intro hg))
      refine Ends.ret1 rfl ⟨?_, n8, by omega, hH8.tail.tail.tail⟩
      rw [if_pos ((barsM_iff hh hps hms).1 (Decidable.not_not.1 hb))]

end Go.Proofs.Ytmogipomnjihcaa.Eb

namespace Go.Proofs.Ytmogipomnjihcaa.Eb
open Go Go.Abs Go.Low
set_option linter.unusedVariables false
set_option linter.unusedSimpArgs false
attribute [local irreducible] gOK WS WC WR WD Ends FS YS OpV seqK blockK loopK midK retK rdK asgK rangeEnd sat Cell

def placeE (r c : Int) (xs : List Int) (p : Int) : Int := if checkE r c xs ≠ 0 then checkE r c xs else if 0 ≤ p ∧ p ≤ (xs.length : Int) - 1 then 0 else 2

theorem layFor_fs {M : HL} {n : Nat} {H : Heap} (hH : hasH M n H) {r c : Int} {v : Value} {xs : List Int} (hS : Sl M 1 v (ints xs)) (hx : xs.length ≤ 1000) (p : Int) :
    FS C 72 [.agg #[.int .i64 r, .int .i64 c, v], .int .i64 p] H (fun e H' => ∃ n', n ≤ n' ∧ (placeE r c xs p ≠ 0 ∧ e = .tuple #[.pointer none, .int .i64 (placeE r c xs p)] ∧ hasH M n' H' ∨
      placeE r c xs p = 0 ∧ ∃ b, e = .tuple #[.pointer (some ⟨b, 0, some 0⟩), .int .i64 0] ∧ hasH ((b, .row 99 0 0 (gcells c.toNat xs.length (padded xs))) :: M) n' H')) := by
  have h1 := hS.one_
  refine FS.intro (pf := pf72) rfl rfl rfl ?_
  repeat' (first | refine zA ?_ | (refine zM ?_; intro _ _) | (apply Ws <;> intro hg))
  refine WR.call (by first | exact gN | exact gS rfl) rfl rfl (lay_fs (by assumption) hS.cons hx) ?_
  rintro _ H2 ⟨n2, hn2, ⟨hne, rfl, hH2⟩ | ⟨he0, b, rfl, hH2⟩⟩
  · have hl : placeE r c xs p = checkE r c xs := by simp [placeE, hne]
    repeat' (first | refine zA ?_ | (refine zM ?_; intro _ _) | (apply Ws <;> intro hg))
    refine WC.condP rfl (fun h => ?_) (fun h => ?_)
    · repeat' (first | refine zA ?_ | (refine zM ?_; intro _ _) | (apply Ws <;> intro hg))
      exact Ends.ret2 rfl rfl ⟨n2, by omega, .inl ⟨by rw [hl]; exact hne, by rw [hl], hH2.tail⟩⟩
    · exact absurd hne h
  · obtain ⟨hh, hc6, hr36⟩ := HS_of he0
    repeat' (first | refine zA ?_ | (refine zM ?_; intro _ _) | (apply Ws <;> intro hg))
    refine WR.call (by first | exact gN | exact gS rfl) rfl rfl (isPlace_fs hH2 (.head _) hr36 p) ?_
    rintro _ _ ⟨rfl, rfl⟩
    repeat' (first | refine zA ?_ | (refine zM ?_; intro _ _) | (apply Ws <;> intro hg))
    refine WC.condP rfl (fun h => ?_) (fun h => ?_)
    · have hl : placeE r c xs p = 2 := by simp only [placeE, he0, ne_eq, not_true_eq_false, if_false, h]
      repeat' (first | refine zA ?_ | (refine zM ?_; intro _ _) | (apply Ws <;> intro hg))
      exact Ends.ret2 rfl rfl ⟨n2, by omega, .inl ⟨by rw [hl]; decide, by rw [hl], hH2.tail.tail⟩⟩
    · have hl : placeE r c xs p = 0 := by simp only [placeE, he0, ne_eq, not_true_eq_false, if_false, Decidable.not_not.1 h, and_self, if_true]
      repeat' (first | refine zA ?_ | (refine zM ?_; intro _ _) | (apply Ws <;> intro hg))
      exact Ends.ret2 rfl rfl ⟨n2, by omega, .inr ⟨hl, b, rfl, hH2.sub (.cons_cons _ (List.sublist_cons_self _ _))⟩⟩

theorem place_ok {r c : Int} {xs : List Int} {p : Int} (h : placeE r c xs p = 0) : checkE r c xs = 0 ∧ 0 ≤ p ∧ p ≤ (xs.length : Int) - 1 := by
  unfold placeE at h
  split at h
  · exact absurd h (by assumption)
  · split at h
    · rename_i h1 h2; exact ⟨Decidable.not_not.1 h1, h2⟩
    · cases h

/-- The places of a way, so many. -/
def wayL (c r : Nat) (b : List Int) : Nat → Nat → List Nat
  | 0, _ => []
  | k + 1, p => p :: wayL c r b k (nextN c r b p)

theorem wayL_len (c r : Nat) (b : List Int) : ∀ k p, (wayL c r b k p).length = k
  | 0, _ => rfl
  | k + 1, p => by simp [wayL, wayL_len c r b k]

section
variable {c r : Nat} {hs : List Int} {h : Int} (hh : HS c r hs) (hc6 : c ≤ 6) {b : List Int} (D : Dist c r hs h b)
include hh hc6 D

theorem next_ok {p k : Nat} (hp : p ≤ r) (hk : b.getD p 0 = ((k + 1 : Nat) : Int)) (h37 : k + 1 ≠ 37) : nextN c r b p ∈ nbrs c r p ∧ nextN c r b p ≤ r ∧ b.getD (nextN c r b p) 0 = (k : Int) ∧ (∀ y ∈ nbrs c r p, b.getD y 0 = (k : Int) ↔ b.getD y 0 < b.getD p 0) ∧ hs.getD p 0 ≤ h := by
  obtain ⟨ht, x, hx, hxn, hxk⟩ := D.pred hh hp hk h37
  have hcc : 1 ≤ c ∧ c ≤ 6 := ⟨hh.c1, hc6⟩
  have hall : ∀ y ∈ nbrs c r p, b.getD y 0 = (k : Int) ↔ b.getD y 0 < b.getD p 0 := by
    intro y hy
    have hyr := nbrs_le hh.c1 hh.cr hp hy
    refine ⟨fun h1 => by omega, fun h1 => ?_⟩
    have h2 := nbrs_symm hcc hh.cr hp hy
    have hb37 : b.getD y 0 ≠ 37 := by
      rcases D.at_ hh hp with h3 | ⟨k', h3, _, h4⟩
      · omega
      · have := hh.r36; omega
    have h3 := (D.rel y hyr hb37 p h2 ht).2
    omega
  have hxp := nbrs_symm hcc hh.cr hx hxn
  have hex : ∃ z, (nbrs c r p).find? (fun y => decide (b.getD y 0 < b.getD p 0)) = some z := by
    cases hf : (nbrs c r p).find? (fun y => decide (b.getD y 0 < b.getD p 0)) with
    | some z => exact ⟨z, rfl⟩
    | none =>
      rw [List.find?_eq_none] at hf
      have h6 := hf x hxp
      have h5 := (hall x hxp).1 hxk
      rw [decide_eq_true h5] at h6
      exact absurd rfl h6
  obtain ⟨z, hz⟩ := hex
  have hzm := List.mem_of_find?_eq_some hz
  have hzd : decide (b.getD z 0 < b.getD p 0) = true := List.find?_some (p := fun y => decide (b.getD y 0 < b.getD p 0)) hz
  have hzl := of_decide_eq_true hzd
  have hn : nextN c r b p = z := by rw [nextN, hz]; rfl
  rw [hn]
  exact ⟨hzm, nbrs_le hh.c1 hh.cr hp hzm, (hall z hzm).2 hzl, hall, ht⟩

omit hh hc6 D in
theorem Dk_of_reach {t : Int} {y : Nat} (k : Go.Low.Reach c r hs r t y) : ∃ j, Dk c r hs t j y := by
  induction k with
  | start _ => exact ⟨0, .zero⟩
  | step _ hy ht ih => obtain ⟨j, hj⟩ := ih; exact ⟨j + 1, .succ hj hy ht⟩
end

structure WayR (r c : Int) (xs : List Int) (p : Nat) (l : List Nat) : Prop where
  ex : ∃ best b, Lowest c.toNat xs.length (padded xs) xs.length best ∧ Dist c.toNat xs.length (padded xs) (best.getD p 0) b ∧ l = wayL c.toNat xs.length b (b.getD p 0).toNat p

theorem dist_at {c r : Nat} {hs best b : List Int} (hh : HS c r hs) (hc6 : c ≤ 6) {p : Nat} (hp : p ≤ r) (hl : Lowest c r hs r best) (D : Dist c r hs (best.getD p 0) b) : ∃ k : Nat, b.getD p 0 = (k : Int) ∧ k ≤ r ∧ Dk c r hs (best.getD p 0) k p := by
  have h1 := (hl.out.done hh (Nat.le_refl _) (best_le hh hc6 hl hp) hp).1 (Int.le_refl _)
  obtain ⟨j, hj⟩ := Dk_of_reach h1
  have h2 := (D.min hh hj).1
  rcases D.at_ hh hp with h3 | ⟨k, h3, h4, h5⟩
  · exact absurd h3 h2
  · exact ⟨k, h3, h5, h4⟩

structure NV where
  k : Nat
  p : Nat
  v : Value
  Mx : HL
  n : Nat
  l : List Nat

set_option maxHeartbeats 1000000 in
theorem Way_fs {M : HL} {n : Nat} {H : Heap} (hH : hasH M n H) {r c : Int} {v : Value} {xs : List Int} (hS : Sl M 1 v (ints xs)) (hx : xs.length ≤ 1000) (p : Int) :
    FS C 31 [.agg #[.int .i64 r, .int .i64 c, v], .int .i64 p] H (fun e H' => ∃ n', n ≤ n' ∧ (placeE r c xs p ≠ 0 ∧ e = .tuple #[.slice none 0 0, .int .i64 (placeE r c xs p)] ∧ hasH M n' H' ∨
      placeE r c xs p = 0 ∧ ∃ v' Mx l, e = .tuple #[v', .int .i64 0] ∧ Own 3 1 v' (nodes l) Mx ∧ hasH (Mx ++ M) n' H' ∧ WayR r c xs p.toNat l)) := by
  have h1 := hS.one_
  refine FS.intro (pf := pf31) rfl rfl rfl ?_
  repeat' (first | refine zA ?_ | (refine zM ?_; intro _ _) | (apply Ws <;> intro hg))
  refine WR.call (by first | exact gN | exact gS rfl) rfl rfl (layFor_fs (by assumption) hS.cons hx p) ?_
  rintro _ H2 ⟨n2, hn2, ⟨hne, rfl, hH2⟩ | ⟨he0, bg, rfl, hH2⟩⟩
  · repeat' (first | refine zA ?_ | (refine zM ?_; intro _ _) | (apply Ws <;> intro hg))
    refine WC.condP rfl (fun h => ?_) (fun h => ?_)
    · repeat' (first | refine zA ?_ | (refine zM ?_; intro _ _) | (apply Ws <;> intro hg))
      exact Ends.ret2 rfl rfl ⟨n2, by omega, .inl ⟨hne, rfl, hH2.tail⟩⟩
    · exact absurd hne h
  · obtain ⟨hck, hp0, hp1⟩ := place_ok he0
    obtain ⟨hh, hc6, hr36⟩ := HS_of hck
    obtain ⟨q, rfl⟩ : ∃ q : Nat, p = q := ⟨p.toNat, by omega⟩
    have hq : q < xs.length := by omega
    repeat' (first | refine zA ?_ | (refine zM ?_; intro _ _) | (apply Ws <;> intro hg))
    refine WR.call (by first | exact gN | exact gS rfl) rfl rfl (sills_fs hH2 (by first | assumption | exact .head _ | exact .tail _ (.head _) | exact .tail _ (.tail _ (.head _)) | exact .tail _ (.tail _ (.tail _ (.head _))) | exact .tail _ (.tail _ (.tail _ (.tail _ (.head _)))) | exact .tail _ (.tail _ (.tail _ (.tail _ (.tail _ (.head _))))) | exact .tail _ (.tail _ (.tail _ (.tail _ (.tail _ (.tail _ (.head _)))))) | (repeat' (first | assumption | apply List.mem_cons_of_mem))) hh hc6) ?_
    rintro _ H3 ⟨best, n3, rfl, hn3, hH3, hl⟩
    have hbl := hl.len
    repeat' (first | refine zA ?_ | (refine zM ?_; intro _ _) | (apply Ws <;> intro hg))
    refine WR.op (by first | exact gN | exact gS rfl) rfl (OpV.idx (v := .int .i64 (best.getD q 0)) rfl rfl rfl (show q < 37 by omega) (by rw [Nat.mul_one]; exact toArray_get (ints_get (by omega)))) ?_
    refine WR.call (by first | exact gN | exact gS rfl) rfl rfl (steps_fs hH3 (by first | assumption | exact .head _ | exact .tail _ (.head _) | exact .tail _ (.tail _ (.head _)) | exact .tail _ (.tail _ (.tail _ (.head _))) | exact .tail _ (.tail _ (.tail _ (.tail _ (.head _)))) | exact .tail _ (.tail _ (.tail _ (.tail _ (.tail _ (.head _))))) | exact .tail _ (.tail _ (.tail _ (.tail _ (.tail _ (.tail _ (.head _)))))) | (repeat' (first | assumption | apply List.mem_cons_of_mem))) hh hc6) ?_
    rintro _ H4 ⟨b, n4, rfl, hn4, hH4, hD⟩
    have hbl2 := hD.len
    repeat' (first | refine zA ?_ | (refine zM ?_; intro _ _) | (apply Ws <;> intro hg))
    rename_i hq2
    refine WR.storeAll (by first | exact gN | exact gS rfl) hq2 rfl rfl (ls := ints b) (by simp [Value.cells]) (by simpa using hbl2) (by first | exact .here | exact .there .here | exact .there (.there .here) | exact .there (.there (.there .here)) | exact .there (.there (.there (.there .here))) | exact .there (.there (.there (.there (.there .here))))) (ints_one _) (by simpa using hbl2) fun H5 hH5 => ?_
    clear hq2 hH4 hH3 hH2
    obtain ⟨k0, hk0, hkr, _⟩ := dist_at hh hc6 (Nat.le_of_lt hq) hl hD
    have hmg : (bg, Ch.row 99 0 0 (gcells c.toNat xs.length (padded xs))) ∈ (n4, Ch.row 86 0 0 (ints b)) :: (bg, Ch.row 99 0 0 (gcells c.toNat xs.length (padded xs))) :: (n, .row 24 0 0 [.int .i64 r, .int .i64 c, v]) :: M := by simp
    have hmb : (n4, Ch.row 86 0 0 (ints b)) ∈ (n4, Ch.row 86 0 0 (ints b)) :: (bg, Ch.row 99 0 0 (gcells c.toNat xs.length (padded xs))) :: (n, .row 24 0 0 [.int .i64 r, .int .i64 c, v]) :: M := by simp
    have hback : ∀ {Z : HL} {n' : Nat} {H' : Heap}, hasH (Z ++ ((n4, Ch.row 86 0 0 (ints b)) :: (bg, Ch.row 99 0 0 (gcells c.toNat xs.length (padded xs))) :: (n, .row 24 0 0 [.int .i64 r, .int .i64 c, v]) :: M)) n' H' → hasH (Z ++ M) n' H' :=
      fun hq => hq.sub (.append (.refl _) (.cons _ (.cons _ (.cons _ (.refl _)))))
    have hH6 : hasH ([] ++ ((n4, Ch.row 86 0 0 (ints b)) :: (bg, Ch.row 99 0 0 (gcells c.toNat xs.length (padded xs))) :: (n, .row 24 0 0 [.int .i64 r, .int .i64 c, v]) :: M)) (n4 + 1) H5 := hH5
    generalize (n4, Ch.row 86 0 0 (ints b)) :: (bg, Ch.row 99 0 0 (gcells c.toNat xs.length (padded xs))) :: (n, .row 24 0 0 [.int .i64 r, .int .i64 c, v]) :: M = T at hmg hmb hback hH6
    clear hH5
    repeat' (first | refine zA ?_ | (refine zM ?_; intro _ _) | (apply Ws <;> intro hg))
    refine WC.loop (fun s : NV => [(6, .pointer (some ⟨bg, 0, some 0⟩)), (8, .pointer (some ⟨n4, 0, some 0⟩)), (9, s.v), (10, .int .i64 (s.p : Int))]) (fun _ => [])
      (fun s H => s.p ≤ xs.length ∧ b.getD s.p 0 = (s.k : Int) ∧ s.k ≤ xs.length ∧ s.l ++ wayL c.toNat xs.length b s.k s.p = wayL c.toNat xs.length b k0 q ∧ Own 3 1 s.v (nodes s.l) s.Mx ∧ hasH (s.Mx ++ T) s.n H ∧ n4 ≤ s.n)
      (fun s => s.k) ⟨k0, q, .slice none 0 0, [], n4 + 1, []⟩ (by repeat' (first | exact .nil | refine .cons rfl ?_)) rfl ⟨Nat.le_of_lt hq, hk0, hkr, rfl, .nil, hH6, by simp only; omega⟩ ?_
    clear hH6
    rintro ⟨k, y, v9, Mx, n6, l⟩ H6 ⟨hy, hk, hkx, hway, hO, hH6, hn6⟩
    simp only at hy hk hkx hway hO hH6 hn6
    dsimp only
    have hmX : (bg, Ch.row 99 0 0 (gcells c.toNat xs.length (padded xs))) ∈ Mx ++ T := List.mem_append_right _ hmg
    have hmX2 : (n4, Ch.row 86 0 0 (ints b)) ∈ Mx ++ T := List.mem_append_right _ hmb
    have hll : l.length + k = k0 := by have := congrArg List.length hway; rw [List.length_append, wayL_len, wayL_len] at this; exact this
    repeat' (first | refine zA ?_ | (refine zM ?_; intro _ _) | (apply Ws <;> intro hg))
    refine WC.condP rfl (fun hyr => ?_) (fun hyr => ?_)
    · have hyr' : y ≠ xs.length := by omega
      obtain ⟨k, rfl⟩ : ∃ k', k = k' + 1 := by
        cases k with
        | succ k' => exact ⟨k', rfl⟩
        | zero =>
          rcases hD.at_ hh hy with h3 | ⟨k', h3, h4, _⟩
          · omega
          · have : k' = 0 := by omega
            subst this
            exact absurd h4.zero_ hyr'
      obtain ⟨p1, p2, p3, p4, p5⟩ := next_ok hh hc6 hD hy hk (by omega)
      repeat' (first | refine zA ?_ | (refine zM ?_; intro _ _) | (apply Ws <;> intro hg))
      refine WR.append1F [] Mx T rfl rfl rfl rfl hO hH6 (new := [.int .i64 (y : Int)]) (by rfl) rfl rfl (Nat.le_refl _) (by omega) (by simp; omega) fun v3 Mx3 n9 H10 hO3 hH10 hn10 => ?_
      simp only [List.nil_append] at hH10
      repeat' (first | refine zA ?_ | (refine zM ?_; intro _ _) | (apply Ws <;> intro hg))
      refine WR.call (by first | exact gN | exact gS rfl) rfl rfl (nearer_fs hH10 (List.mem_append_right _ hmg) (List.mem_append_right _ hmb) hbl2 hh hc6 hy) ?_
      rintro _ H11 ⟨rfl, n11, hn11, hH11⟩
      repeat' (first | refine zA ?_ | (refine zM ?_; intro _ _) | (apply Ws <;> intro hg))
      refine Ends.loop ⟨k, nextN c.toNat xs.length b y, v3, Mx3, n11, l ++ [y]⟩ (by simp only; omega) (by repeat' (first | exact .nil | refine .cons rfl ?_)) rfl ⟨p2, p3, by simp only; omega, ?_, by simpa using hO3, hH11, by simp only; omega⟩
      simp only [List.append_assoc]
      exact hway
    · have hyr' : y = xs.length := by omega
      have hk2 : k = 0 := by have := hD.root; rw [← hyr', hk] at this; omega
      subst hk2
      repeat' (first | refine zA ?_ | (refine zM ?_; intro _ _) | (apply Ws <;> intro hg))
      refine Ends.ret2 rfl rfl ⟨n6, by omega, .inr ⟨he0, v9, Mx, l, rfl, hO, hback hH6, ⟨best, b, hl, by rw [Int.toNat_natCast]; exact hD, ?_⟩⟩⟩
      rw [Int.toNat_natCast, hk0, Int.toNat_natCast, ← hway]
      simp [wayL]
end Go.Proofs.Ytmogipomnjihcaa.Eb

namespace Go.Proofs.Ytmogipomnjihcaa.Eb
open Go Go.Abs Go.Low
set_option linter.unusedVariables false
set_option linter.unusedSimpArgs false
attribute [local irreducible] gOK WS WC WR WD Ends FS YS OpV seqK blockK loopK midK retK rdK asgK rangeEnd sat Cell

theorem nodesR (l : List Nat) : nodes l = ints (l.map fun (x : Nat) => (x : Int)) := by simp [nodes, ints]

theorem mem_castR {l : List Nat} {q : Nat} : ((q : Int) ∈ l.map fun (x : Nat) => (x : Int)) ↔ q ∈ l := by
  rw [List.mem_map]
  constructor
  · rintro ⟨x, hx, he⟩
    have : x = q := by omega
    exact this ▸ hx
  · exact fun h => ⟨q, h, rfl⟩

structure MV where
  k : Nat
  v : Value
  Mx : HL
  n : Nat
  pl : List Nat

theorem reached_fs {M : HL} {n : Nat} {H : Heap} (hH : hasH M n H) {rows : Int} {c : Nat} {v : Value} {xs : List Int} (hS : Sl M 1 v (ints xs)) (hh : HS c xs.length (padded xs)) (hc6 : c ≤ 6) {p : Nat} (hp : p < xs.length) {h : Int} :
    FS C 76 [.agg #[.int .i64 rows, .int .i64 (c : Int), v], .int .i64 (p : Int), .int .i64 h] H (fun e H' => ∃ Mx n' l, n ≤ n' ∧ Own 3 1 e (nodes l) Mx ∧ hasH (Mx ++ M) n' H' ∧ l.length ≤ xs.length ∧ (∀ y, y ∈ l ↔ RP c xs.length (padded xs) h p y) ∧ l.Pairwise (· < ·)) := by
  have h1 := hS.one_
  have h36 := hh.r36
  have hget : ∀ q, q < xs.length → (ints xs)[q]? = some (.int .i64 ((padded xs).getD q 0)) := fun q hq => by rw [padded_get (by omega)]; exact ints_get hq
  generalize hhs : padded xs = hs at hh hget
  refine FS.intro (pf := pf76) rfl rfl rfl ?_
  repeat' (first | refine zA ?_ | (refine zM ?_; intro _ _) | (apply Ws <;> intro hg))
  rename_i H1 hH1
  have hSv : Sl ((n, .row 27 0 0 [.int .i64 rows, .int .i64 (c : Int), v]) :: M) 1 v (ints xs) := hS.cons
  have hmT : (n, Ch.row 27 0 0 [.int .i64 rows, .int .i64 (c : Int), v]) ∈ (n, Ch.row 27 0 0 [.int .i64 rows, .int .i64 (c : Int), v]) :: M := .head _
  have hback : ∀ {Mx : HL} {n' : Nat} {H' : Heap}, hasH (Mx ++ ((n, Ch.row 27 0 0 [.int .i64 rows, .int .i64 (c : Int), v]) :: M)) n' H' → hasH (Mx ++ M) n' H' := fun hq => hq.sub (.append (.refl _) (List.sublist_cons_self _ _))
  generalize (n, Ch.row 27 0 0 [.int .i64 rows, .int .i64 (c : Int), v]) :: M = T at hSv hmT hH1 hback
  refine WR.bldS (by first | exact gN | exact gS rfl) rfl hH1 (vs := []) rfl (cs := []) (by rfl) rfl fun H3 hH3 => ?_
  have hH4 := hH3.asInp .here
  clear hH3 hH1
  have hm4 : (n, Ch.row 27 0 0 [.int .i64 rows, .int .i64 (c : Int), v]) ∈ (n + 1, Ch.inp 3 0 0 []) :: T := .tail _ hmT
  repeat' (first | refine zA ?_ | (refine zM ?_; intro _ _) | (apply Ws <;> intro hg))
  refine WR.idxSl (by first | exact gN | exact gS rfl) rfl rfl (hSv.cons (p := (n + 1, .inp 3 0 0 []))) rfl rfl (hget p hp) fun _ _ _ hc1 => ?_
  repeat' (first | refine zA ?_ | (refine zM ?_; intro _ _) | (apply Ws <;> intro hg))
  refine WC.joinE (fun s : MV => [(1, .int .i64 (p : Int)), (2, .int .i64 h), (3, .pointer (some ⟨n, 0, some 0⟩)), (7, s.v)]) (fun _ => [])
    (fun s H => Met c xs.length hs h p s.pl 0 ∧ Own 3 1 s.v (nodes s.pl) s.Mx ∧ hasH (s.Mx ++ T) s.n H ∧ n ≤ s.n) ?_ ?_
  · refine WC.condP rfl (fun hle => ?_) (fun hle => ?_)
    · repeat' (first | refine zA ?_ | (refine zM ?_; intro _ _) | (apply Ws <;> intro hg))
      refine WR.append1F [] [(n + 1, .inp 3 0 0 [])] T rfl rfl rfl rfl (Own.full (e := 3) (sz := 1) (cs := []) rfl rfl) hH4 (new := [.int .i64 (p : Int)]) (by rfl) rfl rfl (Nat.le_refl _) (by omega) (by simp) fun v3 Mx3 n9 H10 hO3 hH10 hn10 => ?_
      simp only [List.nil_append] at hH10 hO3
      repeat' (first | refine zA ?_ | (refine zM ?_; intro _ _) | (apply Ws <;> intro hg))
      exact Ends.midE ⟨0, v3, Mx3, n9, [p]⟩ (by repeat' (first | exact .nil | refine .cons rfl ?_)) rfl ⟨⟨by simp, fun y hy => by rw [List.mem_singleton.1 hy]; exact .start hle, fun _ => by simp, fun j hj => absurd hj (Nat.not_lt_zero _)⟩, hO3, hH10, by simp only; omega⟩
    · repeat' (first | refine zA ?_ | (refine zM ?_; intro _ _) | (apply Ws <;> intro hg))
      exact Ends.midE ⟨0, _, [(n + 1, .inp 3 0 0 [])], n + 1 + 1, []⟩ (by repeat' (first | exact .nil | refine .cons rfl ?_)) rfl ⟨⟨by simp, by simp, fun h => absurd h hle, fun j hj => absurd hj (Nat.not_lt_zero _)⟩, Own.full (e := 3) (sz := 1) (cs := []) rfl rfl, hH4, by simp only; omega⟩
  clear hH4 hm4 hc1
  rintro ⟨_, v7, Mx, n5, met⟩ H5 ⟨hmet, hO, hH5, hn5⟩
  simp only at hmet hO hH5 hn5
  dsimp only
  repeat' (first | refine zA ?_ | (refine zM ?_; intro _ _) | (apply Ws <;> intro hg))
  refine WC.loop (fun s : MV => [(1, .int .i64 (p : Int)), (2, .int .i64 h), (3, .pointer (some ⟨n, 0, some 0⟩)), (7, s.v), (8, .int .i64 (s.k : Int))]) (fun _ => [])
    (fun s H => s.k ≤ s.pl.length ∧ Met c xs.length hs h p s.pl s.k ∧ Own 3 1 s.v (nodes s.pl) s.Mx ∧ hasH (s.Mx ++ T) s.n H ∧ n ≤ s.n)
    (fun s => xs.length - s.k) ⟨0, v7, Mx, n5, met⟩ (by repeat' (first | exact .nil | refine .cons rfl ?_)) rfl ⟨Nat.zero_le _, hmet, hO, hH5, hn5⟩ ?_
  clear hH5 hmet hO hn5
  rintro ⟨i, v7, Mx, n5, met⟩ H5 ⟨hi, hmet, hO, hH5, hn5⟩
  simp only at hi hmet hO hH5 hn5
  dsimp only
  have hml := hmet.len hp
  have hSl := hO.sl T
  repeat' (first | refine zA ?_ | (refine zM ?_; intro _ _) | (apply Ws <;> intro hg))
  refine WR.op (by first | exact gN | exact gS rfl) rfl (OpV.lenS rfl hSl) ?_
  rw [show (nodes met).length = met.length by simp]
  repeat' (first | refine zA ?_ | (refine zM ?_; intro _ _) | (apply Ws <;> intro hg))
  refine WC.condP rfl (fun hlt => ?_) (fun hlt => ?_)
  · have hi' : i < met.length := by omega
    obtain ⟨x, hx⟩ : ∃ x, met[i]? = some x := ⟨met[i], List.getElem?_eq_getElem hi'⟩
    have hxr := (hmet.rp x (List.mem_of_getElem? hx)).lt hp
    repeat' (first | refine zA ?_ | (refine zM ?_; intro _ _) | (apply Ws <;> intro hg))
    refine WC.loop (fun s : MV => [(1, .int .i64 (p : Int)), (2, .int .i64 h), (3, .pointer (some ⟨n, 0, some 0⟩)), (7, s.v), (8, .int .i64 (i : Int)), (9, .int .i64 (s.k : Int))]) (fun _ => [])
      (fun s H => s.k ≤ xs.length ∧ i < s.pl.length ∧ s.pl[i]? = some x ∧ Met c xs.length hs h p s.pl i ∧ (∀ y, y < s.k → y ∈ nbrs c xs.length x → hs.getD y 0 ≤ h → y ∈ s.pl) ∧ Own 3 1 s.v (nodes s.pl) s.Mx ∧ hasH (s.Mx ++ T) s.n H ∧ n ≤ s.n)
      (fun s => xs.length - s.k) ⟨0, v7, Mx, n5, met⟩ (by repeat' (first | exact .nil | refine .cons rfl ?_)) rfl ⟨Nat.zero_le _, hi', hx, hmet, fun y hy => absurd hy (Nat.not_lt_zero _), hO, hH5, hn5⟩ ?_
    clear hH5 hmet hO hn5 hx hi hlt hSl hml hi'
    rintro ⟨q, v7, Mx, n5, met⟩ H5 ⟨hq, hi, hx, hmet, hcl, hO, hH5, hn5⟩
    simp only at hq hi hx hmet hcl hO hH5 hn5
    dsimp only
    have hml := hmet.len hp
    have hSl := hO.sl T
    have hmX : (n, Ch.row 27 0 0 [.int .i64 rows, .int .i64 (c : Int), v]) ∈ Mx ++ T := List.mem_append_right _ hmT
    have hSvX : Sl (Mx ++ T) 1 v (ints xs) := hSv.mono (fun q hq => List.mem_append_right _ hq)
    repeat' (first | refine zA ?_ | (refine zM ?_; intro _ _) | (apply Ws <;> intro hg))
    refine WR.op (by first | exact gN | exact gS rfl) rfl (OpV.lenSI rfl hSvX) ?_
    repeat' (first | refine zA ?_ | (refine zM ?_; intro _ _) | (apply Ws <;> intro hg))
    refine WC.condP rfl (fun hlt => ?_) (fun hlt => ?_)
    · have hq' : q < xs.length := by omega
      repeat' (first | refine zA ?_ | (refine zM ?_; intro _ _) | (apply Ws <;> intro hg))
      refine WR.idxSl (by first | exact gN | exact gS rfl) rfl rfl hSl rfl rfl (c := .int .i64 (x : Int)) (by simp [hx]) fun _ _ _ hc1 => ?_
      repeat' (first | refine zA ?_ | (refine zM ?_; intro _ _) | (apply Ws <;> intro hg))
      refine WR.call (by first | exact gN | exact gS rfl) rfl rfl (besideR_fs hH5 h1 ⟨hh.c1, hc6⟩ hh.cr h36 hxr hq') ?_
      rintro _ H6 ⟨rfl, n6, hn6, hH6⟩
      have hnext : ∀ met' : List Nat, (q ∈ nbrs c xs.length x → hs.getD q 0 ≤ h → q ∈ met') → (∀ y ∈ met, y ∈ met') → ∀ y, y < q + 1 → y ∈ nbrs c xs.length x → hs.getD y 0 ≤ h → y ∈ met' := by
        intro met' hq1 hsub y hy hyn hyt
        rcases Nat.lt_or_ge y q with h2 | h2
        · exact hsub y (hcl y h2 hyn hyt)
        · have : y = q := by omega
          subst this; exact hq1 hyn hyt
      repeat' (first | refine zA ?_ | (refine zM ?_; intro _ _) | (apply Ws <;> intro hg))
      · rename_i hb
        refine WR.idxSl (by first | exact gN | exact gS rfl) rfl rfl hSvX rfl rfl (hget q hq') fun _ _ _ hc2 => ?_
        repeat' (first | refine zA ?_ | (refine zM ?_; intro _ _) | (apply Ws <;> intro hg))
        · -- low enough
          rename_i hb2
          have hSpI : Sl (Mx ++ T) 1 v7 (ints (met.map fun (x : Nat) => (x : Int))) := by rw [← nodesR]; exact hSl
          refine WR.call (by first | exact gN | exact gS rfl) rfl rfl (has_fs hH6 hSpI (by simp; omega) (q : Int)) ?_
          rintro _ _ ⟨rfl, rfl⟩
          repeat' (first | refine zA ?_ | (refine zM ?_; intro _ _) | (apply Ws <;> intro hg))
          refine WC.condP rfl (fun hin => ?_) (fun hin => ?_)
          · repeat' (first | refine zA ?_ | (refine zM ?_; intro _ _) | (apply Ws <;> intro hg))
            refine WR.append1F [] Mx T rfl rfl rfl rfl hO hH6 (new := [.int .i64 (q : Int)]) (by rfl) rfl rfl (Nat.le_refl _) (by omega) (by simp; omega) fun v3 Mx3 n9 H10 hO3 hH10 hn10 => ?_
            simp only [List.nil_append] at hH10
            have hn : q ∉ met := fun hm => hin (mem_castR.2 hm)
            repeat' (first | refine zA ?_ | (refine zM ?_; intro _ _) | (apply Ws <;> intro hg))
            refine Ends.loop ⟨q + 1, v3, Mx3, n9, met ++ [q]⟩ (by simp only; omega) (by repeat' (first | exact .nil | refine .cons rfl ?_)) rfl ⟨hq', by simp; omega, ?_, ?_, hnext _ (fun _ _ => by simp) (fun y hy => by simp [hy]), ?_, hH10, by simp only; omega⟩
            · simp only; rw [List.getElem?_append_left hi]; exact hx
            · exact hmet.push hi (List.mem_of_getElem? hx) (by assumption) hq' (by assumption) hn
            · simpa using hO3
          · have hm : q ∈ met := mem_castR.1 (Decidable.not_not.1 hin)
            repeat' (first | refine zA ?_ | (refine zM ?_; intro _ _) | (apply Ws <;> intro hg))
            exact Ends.loop ⟨q + 1, v7, Mx, n6, met⟩ (by simp only; omega) (by repeat' (first | exact .nil | refine .cons rfl ?_)) rfl ⟨hq', hi, hx, hmet, hnext met (fun _ _ => hm) (fun y hy => hy), hO, hH6, by simp only; omega⟩
        · repeat' (first | refine zA ?_ | (refine zM ?_; intro _ _) | (apply Ws <;> intro hg))
          exact Ends.loop ⟨q + 1, v7, Mx, n6, met⟩ (by simp only; omega) (by repeat' (first | exact .nil | refine .cons rfl ?_)) rfl ⟨hq', hi, hx, hmet, hnext met (fun _ h2 => absurd h2 (by assumption)) (fun y hy => hy), hO, hH6, by simp only; omega⟩
      · repeat' (first | refine zA ?_ | (refine zM ?_; intro _ _) | (apply Ws <;> intro hg))
        exact Ends.loop ⟨q + 1, v7, Mx, n6, met⟩ (by simp only; omega) (by repeat' (first | exact .nil | refine .cons rfl ?_)) rfl ⟨hq', hi, hx, hmet, hnext met (fun h2 _ => absurd h2 (by assumption)) (fun y hy => hy), hO, hH6, by simp only; omega⟩
    have hqn : q = xs.length := by omega
    subst hqn
    repeat' (first | refine zA ?_ | (refine zM ?_; intro _ _) | (apply Ws <;> intro hg))
    refine Ends.loop ⟨i + 1, v7, Mx, n5, met⟩ (by simp only; omega) (by repeat' (first | exact .nil | refine .cons rfl ?_)) rfl ⟨hi, ⟨hmet.nd, hmet.rp, hmet.st, fun j hj z hz w hw hwr hwt => ?_⟩, hO, hH5, hn5⟩
    rcases Nat.lt_or_ge j i with h2 | h2
    · exact hmet.cl j h2 z hz w hw hwr hwt
    · have : j = i := by simp only at hj; omega
      subst this
      rw [hx] at hz; cases hz
      exact hcl w hwr hw hwt
  have hall := fun y => hmet.all (show met.length ≤ i by omega) (y := y)
  repeat' (first | refine zA ?_ | (refine zM ?_; intro _ _) | (apply Ws <;> intro hg))
  refine WC.loop (fun s : MV => [(3, .pointer (some ⟨n, 0, some 0⟩)), (7, v7), (10, s.v), (11, .int .i64 (s.k : Int))]) (fun _ => [])
    (fun s H => s.k ≤ xs.length ∧ s.pl = (List.range s.k).filter (fun y => decide (y ∈ met)) ∧ Own 3 1 s.v (nodes s.pl) s.Mx ∧ hasH (s.Mx ++ (Mx ++ T)) s.n H ∧ n ≤ s.n)
    (fun s => xs.length - s.k) ⟨0, .slice none 0 0, [], n5, []⟩ (by repeat' (first | exact .nil | refine .cons rfl ?_)) rfl ⟨Nat.zero_le _, rfl, .nil, hH5, hn5⟩ ?_
  clear hH5 hmet hO hn5
  rintro ⟨k, v10, My, n8, l⟩ H8 ⟨hk, hl, hO, hH8, hn8⟩
  simp only at hk hl hO hH8 hn8
  dsimp only
  have hmX : (n, Ch.row 27 0 0 [.int .i64 rows, .int .i64 (c : Int), v]) ∈ My ++ (Mx ++ T) := List.mem_append_right _ (List.mem_append_right _ hmT)
  have hSvX : Sl (My ++ (Mx ++ T)) 1 v (ints xs) := hSv.mono (fun q hq => List.mem_append_right _ (List.mem_append_right _ hq))
  have hSm : Sl (My ++ (Mx ++ T)) 1 v7 (ints (met.map fun (x : Nat) => (x : Int))) := by rw [← nodesR]; exact hSl.mono (fun q hq => List.mem_append_right _ hq)
  have hll : l.length ≤ k := by rw [hl]; have := List.length_filter_le (fun y => decide (y ∈ met)) (List.range k); simpa using this
  have hsucc : (List.range (k + 1)).filter (fun y => decide (y ∈ met)) = l ++ if k ∈ met then [k] else [] := by
    rw [List.range_succ, List.filter_append, ← hl]
    congr 1
    by_cases hm : k ∈ met <;> simp [hm]
  repeat' (first | refine zA ?_ | (refine zM ?_; intro _ _) | (apply Ws <;> intro hg))
  refine WR.op (by first | exact gN | exact gS rfl) rfl (OpV.lenSI rfl hSvX) ?_
  repeat' (first | refine zA ?_ | (refine zM ?_; intro _ _) | (apply Ws <;> intro hg))
  refine WC.condP rfl (fun hlt2 => ?_) (fun hlt2 => ?_)
  · have hk' : k < xs.length := by omega
    repeat' (first | refine zA ?_ | (refine zM ?_; intro _ _) | (apply Ws <;> intro hg))
    refine WR.call (by first | exact gN | exact gS rfl) rfl rfl (has_fs hH8 hSm (by simp; omega) (k : Int)) ?_
    rintro _ _ ⟨rfl, rfl⟩
    repeat' (first | refine zA ?_ | (refine zM ?_; intro _ _) | (apply Ws <;> intro hg))
    refine WC.condP rfl (fun hin => ?_) (fun hin => ?_)
    · have hm : k ∈ met := mem_castR.1 hin
      rw [if_pos hm] at hsucc
      repeat' (first | refine zA ?_ | (refine zM ?_; intro _ _) | (apply Ws <;> intro hg))
      refine WR.append1F [] My (Mx ++ T) rfl rfl rfl rfl hO hH8 (new := [.int .i64 (k : Int)]) (by rfl) rfl rfl (Nat.le_refl _) (by omega) (by simp; omega) fun v3 Mx3 n9 H10 hO3 hH10 hn10 => ?_
      simp only [List.nil_append] at hH10
      repeat' (first | refine zA ?_ | (refine zM ?_; intro _ _) | (apply Ws <;> intro hg))
      exact Ends.loop ⟨k + 1, v3, Mx3, n9, l ++ [k]⟩ (by simp only; omega) (by repeat' (first | exact .nil | refine .cons rfl ?_)) rfl ⟨hk', hsucc.symm, by simpa using hO3, hH10, by simp only; omega⟩
    · have hm : k ∉ met := fun h2 => hin (mem_castR.2 h2)
      rw [if_neg hm, List.append_nil] at hsucc
      repeat' (first | refine zA ?_ | (refine zM ?_; intro _ _) | (apply Ws <;> intro hg))
      exact Ends.loop ⟨k + 1, v10, My, n8, l⟩ (by simp only; omega) (by repeat' (first | exact .nil | refine .cons rfl ?_)) rfl ⟨hk', hsucc.symm, hO, hH8, hn8⟩
  have hkn : k = xs.length := by omega
  subst hkn
  repeat' (first | refine zA ?_ | (refine zM ?_; intro _ _) | (apply Ws <;> intro hg))
  refine Ends.ret1 rfl ⟨My, n8, l, hn8, hO, ?_, hll, fun y => ?_, ?_⟩
  · exact (hback (hH8.sub (.append (.refl _) (List.sublist_append_right _ _))))
  · rw [hl, List.mem_filter, List.mem_range, decide_eq_true_iff]
    constructor
    · rintro ⟨_, h2⟩; exact (hall y).1 h2
    · intro h2; exact ⟨h2.lt hp, (hall y).2 h2⟩
  · rw [hl]; exact List.Pairwise.filter _ List.pairwise_lt_range
end Go.Proofs.Ytmogipomnjihcaa.Eb

namespace Go.Proofs.Ytmogipomnjihcaa.Eb
open Go Go.Abs Go.Low
set_option linter.unusedVariables false
set_option linter.unusedSimpArgs false
set_option maxRecDepth 100000 in
theorem mul64_one (H : Heap) : ∀ m : Nat, m < 37 → ∃ k, runW C k (.call 85 [.int .u64 1, .int .u64 (m : Int)] H) = some (.val (.tuple #[.int .u64 0, .int .u64 (m : Int)]) H)
  | 0, _ => ⟨100, by kernel_rfl⟩
  | 1, _ => ⟨100, by kernel_rfl⟩
  | 2, _ => ⟨100, by kernel_rfl⟩
  | 3, _ => ⟨100, by kernel_rfl⟩
  | 4, _ => ⟨100, by kernel_rfl⟩
  | 5, _ => ⟨100, by kernel_rfl⟩
  | 6, _ => ⟨100, by kernel_rfl⟩
  | 7, _ => ⟨100, by kernel_rfl⟩
  | 8, _ => ⟨100, by kernel_rfl⟩
  | 9, _ => ⟨100, by kernel_rfl⟩
  | 10, _ => ⟨100, by kernel_rfl⟩
  | 11, _ => ⟨100, by kernel_rfl⟩
  | 12, _ => ⟨100, by kernel_rfl⟩
  | 13, _ => ⟨100, by kernel_rfl⟩
  | 14, _ => ⟨100, by kernel_rfl⟩
  | 15, _ => ⟨100, by kernel_rfl⟩
  | 16, _ => ⟨100, by kernel_rfl⟩
  | 17, _ => ⟨100, by kernel_rfl⟩
  | 18, _ => ⟨100, by kernel_rfl⟩
  | 19, _ => ⟨100, by kernel_rfl⟩
  | 20, _ => ⟨100, by kernel_rfl⟩
  | 21, _ => ⟨100, by kernel_rfl⟩
  | 22, _ => ⟨100, by kernel_rfl⟩
  | 23, _ => ⟨100, by kernel_rfl⟩
  | 24, _ => ⟨100, by kernel_rfl⟩
  | 25, _ => ⟨100, by kernel_rfl⟩
  | 26, _ => ⟨100, by kernel_rfl⟩
  | 27, _ => ⟨100, by kernel_rfl⟩
  | 28, _ => ⟨100, by kernel_rfl⟩
  | 29, _ => ⟨100, by kernel_rfl⟩
  | 30, _ => ⟨100, by kernel_rfl⟩
  | 31, _ => ⟨100, by kernel_rfl⟩
  | 32, _ => ⟨100, by kernel_rfl⟩
  | 33, _ => ⟨100, by kernel_rfl⟩
  | 34, _ => ⟨100, by kernel_rfl⟩
  | 35, _ => ⟨100, by kernel_rfl⟩
  | 36, _ => ⟨100, by kernel_rfl⟩
  | m + 37, h => absurd h (by omega)

theorem Mul_fs {H : Heap} {m : Nat} (h : m < 37) : FS C 85 [.int .u64 1, .int .u64 (m : Int)] H (fun v H' => v = .tuple #[.int .u64 0, .int .u64 (m : Int)] ∧ H' = H) := by
  obtain ⟨k, hk⟩ := mul64_one H m h
  exact ⟨_, _, ⟨k, hk⟩, rfl, rfl⟩

attribute [local irreducible] gOK WS WC WR WD Ends FS YS OpV seqK blockK loopK midK retK rdK asgK rangeEnd sat Cell

theorem u109 : C.c.P.underlying 109 = some (.int .u64) := by kernel_rfl

theorem splice_get {cs l : List Int} {i : Nat} (h : i + l.length ≤ cs.length) (j : Nat) : (cs.take i ++ l ++ cs.drop (i + l.length)).getD j 0 = if j < i then cs.getD j 0 else if j < i + l.length then l.getD (j - i) 0 else cs.getD j 0 := by
  simp only [List.getD_eq_getElem?_getD]
  by_cases h1 : j < i
  · rw [if_pos h1, List.append_assoc, List.getElem?_append_left (by simp; omega), List.getElem?_take_of_lt h1]
  · rw [if_neg h1]
    by_cases h2 : j < i + l.length
    · rw [if_pos h2, List.getElem?_append_left (by simp; omega), List.getElem?_append_right (by simp; omega)]
      congr 2; simp; omega
    · rw [if_neg h2, List.getElem?_append_right (by simp; omega), List.getElem?_drop]
      congr 2; simp; omega

theorem splice_ints {cs l : List Int} {i : Nat} : splice (ints cs) i (ints l) = ints (cs.take i ++ l ++ cs.drop (i + l.length)) := by
  simp [splice, ints, List.map_take, List.map_drop]

theorem Repeat_fs {M : HL} {n : Nat} {H : Heap} (hH : hasH M n H) {v : Value} {a : Int} (hS : Sl M 1 v (ints [a])) {m : Nat} (hm : 1 ≤ m ∧ m ≤ 36) :
    FS C 44 [v, .int .i64 (m : Int)] H (fun e H' => ∃ b n' ys, e = .slice (some ⟨b, 0, some 0⟩) m (2 * m + 1) ∧ n ≤ n' ∧ hasH ((b, .row 3 0 0 (ints ys)) :: M) n' H' ∧ ys.length = m ∧ ∀ j, j < m → ys.getD j 0 = a) := by
  have h1 := hS.one_
  refine FS.intro (pf := pf44) rfl rfl rfl ?_
  repeat' (first | refine zA ?_ | (refine zM ?_; intro _ _) | (apply Ws <;> intro hg))
  refine WR.op (by first | exact gN | exact gS rfl) rfl (OpV.lenSI rfl hS) ?_
  refine WR.op (by first | exact gN | exact gS rfl) rfl (OpV.conv u3 u109 rfl (c := (1 : Int)) rfl) ?_
  repeat' (first | refine zA ?_ | (refine zM ?_; intro _ _) | (apply Ws <;> intro hg))
  refine WR.op (by first | exact gN | exact gS rfl) rfl (OpV.conv u3 u109 rfl (c := (m : Int)) (IntWalk.u64_in _ (by omega))) ?_
  refine WR.call (by first | exact gN | exact gS rfl) rfl rfl (Mul_fs (by omega)) ?_
  rintro _ _ ⟨rfl, rfl⟩
  repeat' (first | refine zA ?_ | (refine zM ?_; intro _ _) | (apply Ws <;> intro hg))
  refine WC.condP rfl (fun hbig => ?_) (fun hbig => ?_)
  · omega
  repeat' (first | refine zA ?_ | (refine zM ?_; intro _ _) | (apply Ws <;> intro hg))
  refine WR.op (by first | exact gN | exact gS rfl) rfl (OpV.conv u109 u3 rfl (c := (m : Int)) (IntWalk.i64_in _ (by omega))) ?_
  refine WR.mkS (by first | exact gN | exact gS rfl) rfl hH rfl rfl (by omega) rfl fun H2 hH2 => ?_
  replace hH2 : hasH ((n, .row 3 0 0 (ints (List.replicate m 0))) :: M) (n + 1) H2 := by rw [ints, List.map_replicate]; exact hH2
  repeat' (first | refine zA ?_ | (refine zM ?_; intro _ _) | (apply Ws <;> intro hg))
  refine WR.copyMin (by first | exact gN | exact gS rfl) rfl rfl rfl (hS.cons (p := (n, .row 3 0 0 (ints (List.replicate m 0))))) hH2 .here (by simp [ints, one]) (Nat.le_refl _) (m := 1) (Nat.min_eq_left (by simpa using hm.1)) (Nat.le_refl _) (by simp; omega) rfl fun H3 hH3 => ?_
  rw [show splice (ints (List.replicate m 0)) (0 - 0) ((ints [a]).take 1) = ints ((List.replicate m 0).take 0 ++ [a] ++ (List.replicate m 0).drop (0 + [a].length)) from splice_ints (l := [a]) (i := 0)] at hH3
  have hl0 : ((List.replicate m (0 : Int)).take 0 ++ [a] ++ (List.replicate m 0).drop (0 + [a].length)).length = m := by simp; omega
  have ha0 : ∀ j, j < 1 → ((List.replicate m (0 : Int)).take 0 ++ [a] ++ (List.replicate m 0).drop (0 + [a].length)).getD j 0 = a := fun j hj => by
    have : j = 0 := by omega
    subst this; rfl
  generalize (List.replicate m (0 : Int)).take 0 ++ [a] ++ (List.replicate m 0).drop (0 + [a].length) = ys0 at hH3 hl0 ha0
  repeat' (first | refine zA ?_ | (refine zM ?_; intro _ _) | (apply Ws <;> intro hg))
  refine WC.loop (fun s : Nat × List Int => [(7, .slice (some ⟨n, 0, some 0⟩) m (2 * m + 1)), (8, .int .i64 (s.1 : Int))]) (fun _ => [])
    (fun s H => 1 ≤ s.1 ∧ s.1 ≤ m ∧ s.2.length = m ∧ (∀ j, j < s.1 → s.2.getD j 0 = a) ∧ hasH ((n, .row 3 0 0 (ints s.2)) :: M) (n + 1) H)
    (fun s => m - s.1) (1, ys0) (by repeat' (first | exact .nil | refine .cons rfl ?_)) rfl ⟨Nat.le_refl _, hm.1, hl0, ha0, hH3⟩ ?_
  clear hH3 hH2 ha0 hl0
  rintro ⟨k, ys⟩ H4 ⟨hk1, hk, hl, ha, hH4⟩
  simp only at hk1 hk hl ha hH4
  dsimp only
  repeat' (first | refine zA ?_ | (refine zM ?_; intro _ _) | (apply Ws <;> intro hg))
  refine WC.condP rfl (fun hlt => ?_) (fun hlt => ?_)
  · have hk' : k < m := by omega
    repeat' (first | refine zA ?_ | (refine zM ?_; intro _ _) | (apply Ws <;> intro hg))
    refine WR.op (by first | exact gN | exact gS rfl) rfl (OpV.slLoK rfl rfl (by omega) (Nat.le_refl _) hk') ?_
    repeat' (first | refine zA ?_ | (refine zM ?_; intro _ _) | (apply Ws <;> intro hg))
    refine WR.op (by first | exact gN | exact gS rfl) rfl (OpV.slHiK rfl rfl (by omega) (by omega)) ?_
    have hSl : Sl ((n, .row 3 0 0 (ints ys)) :: M) 1 (.slice (some ⟨n, 0, some 0⟩) k (2 * m + 1)) (ints (ys.take k)) :=
      .row (lo := 0) (cs := ints ys) (.head _) (.row _ _ _ _) (Nat.zero_le _) (by simp; omega) (by simp [ints, List.map_take]) (by simp; omega) (.inr ⟨m, rfl, by omega⟩)
    obtain ⟨d, hd⟩ : ∃ d, min k (m - k) = d := ⟨_, rfl⟩
    refine WR.copyMin (by first | exact gN | exact gS rfl) rfl rfl rfl hSl hH4 .here (ints_one _) (Nat.zero_le _) (m := d) (by rw [show (ints (ys.take k)).length = k by simp; omega]; exact hd) (by omega) (by simp; omega) rfl fun H5 hH5 => ?_
    rw [show (ints (ys.take k)).take d = ints ((ys.take k).take d) by simp [ints, List.map_take], show splice (ints ys) (0 + k - 0) (ints ((ys.take k).take d)) = ints (ys.take (0 + k - 0) ++ (ys.take k).take d ++ ys.drop ((0 + k - 0) + ((ys.take k).take d).length)) from splice_ints] at hH5
    have htl : ((ys.take k).take d).length = d := by simp; omega
    have hget := fun j => splice_get (cs := ys) (l := (ys.take k).take d) (i := 0 + k - 0) (by omega) j
    have hnl : (ys.take (0 + k - 0) ++ (ys.take k).take d ++ ys.drop ((0 + k - 0) + ((ys.take k).take d).length)).length = m := by simp; omega
    generalize ys.take (0 + k - 0) ++ (ys.take k).take d ++ ys.drop ((0 + k - 0) + ((ys.take k).take d).length) = ys2 at hH5 hget hnl
    repeat' (first | refine zA ?_ | (refine zM ?_; intro _ _) | (apply Ws <;> intro hg))
    refine Ends.loop (k + d, ys2) (by simp only; omega) (by repeat' (first | exact .nil | refine .cons rfl ?_)) rfl ⟨by simp only; omega, by simp only; omega, hnl, fun j hj => ?_, hH5⟩
    simp only at hj ⊢
    rw [hget, htl]
    split
    · exact ha j (by omega)
    · rw [if_pos (by omega), List.getD_eq_getElem?_getD, List.getElem?_take_of_lt (by omega), List.getElem?_take_of_lt (by omega), ← List.getD_eq_getElem?_getD]
      exact ha _ (by omega)
  have hkn : k = m := by omega
  subst hkn
  repeat' (first | refine zA ?_ | (refine zM ?_; intro _ _) | (apply Ws <;> intro hg))
  exact Ends.ret1 rfl ⟨n, n + 1, ys, rfl, by omega, hH4, hl, ha⟩
end Go.Proofs.Ytmogipomnjihcaa.Eb

namespace Go.Proofs.Ytmogipomnjihcaa.Eb
open Go Go.Abs Go.Low
set_option linter.unusedVariables false
set_option linter.unusedSimpArgs false
attribute [local irreducible] gOK WS WC WR WD Ends FS YS OpV seqK blockK loopK midK retK rdK asgK rangeEnd sat Cell

theorem filter_range_lt (f : Nat → Bool) (k : Nat) : ((List.range k).filter f).Pairwise (· < ·) := List.Pairwise.filter f List.pairwise_lt_range

theorem pairwise_get {l : List Nat} (h : l.Pairwise (· < ·)) {i j a b : Nat} (hij : i < j) (hi : l[i]? = some a) (hj : l[j]? = some b) : a < b := by
  obtain ⟨h1, rfl⟩ := List.getElem?_eq_some_iff.1 hi
  obtain ⟨h2, rfl⟩ := List.getElem?_eq_some_iff.1 hj
  exact List.pairwise_iff_getElem.1 h i j h1 h2 hij

theorem comp_sorted (c r : Nat) (ms : List Bool) (x : Nat) : (comp c r ms x).Pairwise (· < ·) := filter_range_lt _ _
theorem firsts_sorted (c r : Nat) (ms : List Bool) (k : Nat) : (firsts c r ms k).Pairwise (· < ·) := filter_range_lt _ _

open Classical in
theorem mem_firsts {c r : Nat} {ms : List Bool} {k x : Nat} : x ∈ firsts c r ms k ↔ x < k ∧ First c r ms x := by
  rw [firsts, List.mem_filter, List.mem_range, decide_eq_true_iff]

theorem pools_get {c r : Nat} {ms : List Bool} {k i : Nat} {pl : List Nat} (h : (poolsM c r ms k)[i]? = some pl) : ∃ f, (firsts c r ms k)[i]? = some f ∧ pl = comp c r ms f ∧ f < k ∧ First c r ms f := by
  rw [poolsM, List.getElem?_map] at h
  cases hf : (firsts c r ms k)[i]? with
  | none => rw [hf] at h; cases h
  | some f =>
    rw [hf] at h; cases h
    have := mem_firsts.1 (List.mem_of_getElem? hf)
    exact ⟨f, rfl, rfl, this.1, this.2⟩

section
variable {c r : Nat} {ms : List Bool} (hc : 1 ≤ c ∧ c ≤ 6) (hcr : c ≤ r) (hK : ∀ y, ms.getD y false = true → y < r)
include hc hcr hK

omit hc hcr in
theorem pool_head {f : Nat} (hf : First c r ms f) : (comp c r ms f)[0]? = some f := by
  have hm : f ∈ comp c r ms f := (mem_comp hK).2 (.start hf.1)
  cases hl : comp c r ms f with
  | nil => rw [hl] at hm; cases hm
  | cons a l =>
    have ha : a ∈ comp c r ms f := by rw [hl]; simp
    have h1 := hf.2 a ((mem_comp hK).1 ha)
    have hs := comp_sorted c r ms f
    rw [hl] at hm hs
    rcases List.mem_cons.1 hm with h2 | h2
    · rw [h2]; rfl
    · have := (List.pairwise_cons.1 hs).1 f h2; omega

theorem first_eq {f g x : Nat} (hf : First c r ms f) (hg : First c r ms g) (h1 : RM c r ms f x) (h2 : RM c r ms g x) : f = g := by
  have a := hf.2 g (h1.trans (RM.symm hc hcr hK h2))
  have b := hg.2 f (h2.trans (RM.symm hc hcr hK h1))
  omega

theorem has_first {x : Nat} (hx : ms.getD x false = true) : ∃ f, First c r ms f ∧ RM c r ms f x := by
  have key : ∀ k z, z ≤ k → RM c r ms x z → ∃ f, First c r ms f ∧ RM c r ms f x := by
    intro k
    induction k with
    | zero =>
      intro z hz h
      have : z = 0 := by omega
      subst this
      exact ⟨0, ⟨h.on, fun _ _ => Nat.zero_le _⟩, RM.symm hc hcr hK h⟩
    | succ k ih =>
      intro z hz h
      by_cases hlow : ∃ y, y < z ∧ RM c r ms z y
      · obtain ⟨y, hy, hzy⟩ := hlow
        exact ih y (by omega) (h.trans hzy)
      · refine ⟨z, ⟨h.on, fun y hy => ?_⟩, RM.symm hc hcr hK h⟩
        rcases Nat.lt_or_ge y z with h3 | h3
        · exact absurd ⟨y, h3, hy⟩ hlow
        · exact h3
  exact key x x (Nat.le_refl _) (.start hx)

theorem has_pool {x : Nat} (hx : ms.getD x false = true) : ∃ (i : Nat) (pl : List Nat), (poolsM c r ms r)[i]? = some pl ∧ x ∈ pl := by
  obtain ⟨f, hf, hfx⟩ := has_first hc hcr hK hx
  have hm : f ∈ firsts c r ms r := mem_firsts.2 ⟨hK f hf.1, hf⟩
  obtain ⟨i, hi, he⟩ := List.mem_iff_getElem.1 hm
  refine ⟨i, comp c r ms f, ?_, (mem_comp hK).2 hfx⟩
  rw [poolsM, List.getElem?_map, List.getElem?_eq_getElem hi, he]; rfl

/-- Two pools with places beside each other are one. -/
theorem pools_apart {i j x y : Nat} {p q : List Nat} (hi : (poolsM c r ms r)[i]? = some p) (hj : (poolsM c r ms r)[j]? = some q) (hx : x ∈ p) (hy : y ∈ q) (hxy : x = y ∨ y ∈ nbrs c r x) : i = j := by
  obtain ⟨f, hf, rfl, _, hf1⟩ := pools_get hi
  obtain ⟨g, hg, rfl, _, hg1⟩ := pools_get hj
  have h1 := (mem_comp hK).1 hx
  have h2 := (mem_comp hK).1 hy
  have h3 : RM c r ms f y := by
    rcases hxy with rfl | h
    · exact h1
    · exact .step h1 h h2.on
  have := first_eq hc hcr hK hf1 hg1 h3 h2
  subst this
  rcases Nat.lt_trichotomy i j with h | h | h
  · have := pairwise_get (firsts_sorted c r ms r) h hf hg; omega
  · exact h
  · have := pairwise_get (firsts_sorted c r ms r) h hg hf; omega

theorem has_beside {p x : Nat} (h : RM c r ms p x) (hne : p ≠ x) : ∃ z, RM c r ms p z ∧ z ∈ nbrs c r x := by
  cases h with
  | start _ => exact absurd rfl hne
  | step h hy _ => exact ⟨_, h, nbrs_symm hc hcr (Nat.le_of_lt (hK _ h.on)) hy⟩

theorem pool_beside {i x : Nat} {p : List Nat} (hi : (poolsM c r ms r)[i]? = some p) (hx : x ∈ p) (hl : 1 < p.length) : ∃ z ∈ p, z ∈ nbrs c r x := by
  obtain ⟨f, hf, rfl, _, hf1⟩ := pools_get hi
  have h1 := (mem_comp hK).1 hx
  obtain ⟨y, hy, hyx⟩ : ∃ y ∈ comp c r ms f, y ≠ x := by
    have hs := comp_sorted c r ms f
    have e0 := List.getElem?_eq_getElem (show 0 < (comp c r ms f).length by omega)
    have e1 := List.getElem?_eq_getElem hl
    have := pairwise_get hs (show 0 < 1 by omega) e0 e1
    by_cases h0 : (comp c r ms f)[0] = x
    · exact ⟨_, List.getElem_mem hl, by omega⟩
    · exact ⟨_, List.getElem_mem (show 0 < (comp c r ms f).length by omega), h0⟩
  have h2 := (mem_comp hK).1 hy
  have h3 : RM c r ms y x := (RM.symm hc hcr hK h2).trans h1
  obtain ⟨z, hz, hzn⟩ := has_beside hc hcr hK h3 hyx
  exact ⟨z, (mem_comp hK).2 (h2.trans hz), hzn⟩
end

theorem best_low {c r : Nat} {hs b : List Int} (hh : HS c r hs) (hc6 : c ≤ 6) (hl : Lowest c r hs r b) {x y : Nat} (hx : x ≤ r) (hy : y ≤ r) (hn : x ∈ nbrs c r y) : b.getD x 0 ≤ max (b.getD y 0) (hs.getD x 0) := by
  have h30 := best_le hh hc6 hl hy
  have hhd := hh.bd x
  have ht : max (b.getD y 0) (hs.getD x 0) ≤ 30 := by omega
  have h1 : Go.Low.Reach c r hs r (max (b.getD y 0) (hs.getD x 0)) y := (Out.done hh (Nat.le_refl _) hl.out ht hy).1 (by omega)
  exact (Out.done hh (Nat.le_refl _) hl.out ht hx).2 (.step h1 hn (by omega))

theorem high_best {c r : Nat} {hs b : List Int} (hh : HS c r hs) (hc6 : c ≤ 6) (hl : Lowest c r hs r b) {x : Nat} (hx : x ≤ r) : hs.getD x 0 ≤ b.getD x 0 :=
  reach_top ((Out.done hh (Nat.le_refl _) hl.out (best_le hh hc6 hl hx) hx).1 (Int.le_refl _))

theorem pool_level {c r : Nat} {hs b ds : List Int} {w : Int} {K : List Bool} (hh : HS c r hs) (hc6 : c ≤ 6) (hl : Lowest c r hs r b) (hd : Depths r hs b w ds) (hk : KeptR r b ds w K) {p x : Nat} (h : RM c r K p x) : b.getD x 0 = b.getD p 0 := by
  have h36 := hh.r36
  have hhigh : ∀ y, K.getD y false = true → y < r ∧ hs.getD y 0 < b.getD y 0 := fun y hy => by
    obtain ⟨h1, h2, h3⟩ := (hk.2 y).1 hy
    have := hd.at_ y (by omega)
    rw [if_pos h1] at this
    exact ⟨h1, by omega⟩
  induction h with
  | start _ => rfl
  | step hx hy ht ih =>
    rename_i x y
    obtain ⟨a1, a2⟩ := hhigh x hx.on
    obtain ⟨b1, b2⟩ := hhigh y ht
    have l1 := best_low hh hc6 hl (Nat.le_of_lt b1) (Nat.le_of_lt a1) hy
    have l2 := best_low hh hc6 hl (Nat.le_of_lt a1) (Nat.le_of_lt b1) (nbrs_symm ⟨hh.c1, hc6⟩ hh.cr (Nat.le_of_lt a1) hy)
    omega
end Go.Proofs.Ytmogipomnjihcaa.Eb

namespace Go.Proofs.Ytmogipomnjihcaa.Eb
open Go Go.Abs Go.Low
set_option linter.unusedVariables false
set_option linter.unusedSimpArgs false
attribute [local irreducible] gOK WS WC WR WD Ends FS YS OpV seqK blockK loopK midK retK rdK asgK rangeEnd sat Cell

structure BasR (r c : Int) (xs : List Int) (p : Nat) (l : List Nat) : Prop where
  ex : ∃ best, Lowest c.toNat xs.length (padded xs) xs.length best ∧ l.Pairwise (· < ·) ∧ ∀ y, y ∈ l ↔ RP c.toNat xs.length (padded xs) (best.getD p 0 - 1) p y

theorem rm_rp {c r : Nat} {hs : List Int} {ms : List Bool} {t : Int} (hms : ∀ y, ms.getD y false = true ↔ y < r ∧ hs.getD y 0 < t) {p y : Nat} (hp : p < r) : RM c r ms p y ↔ RP c r hs (t - 1) p y := by
  constructor
  · intro h
    induction h with
    | start h => exact .start (by have := (hms p).1 h; omega)
    | step _ hy ht ih => have := (hms _).1 ht; exact .step ih hy this.1 (by omega)
  · intro h
    induction h with
    | start h => exact .start ((hms p).2 ⟨hp, by omega⟩)
    | step _ hy hr ht ih => exact .step ih hy ((hms _).2 ⟨hr, by omega⟩)

set_option maxHeartbeats 1000000 in
theorem Basin_fs {M : HL} {n : Nat} {H : Heap} (hH : hasH M n H) {r c : Int} {v : Value} {xs : List Int} (hS : Sl M 1 v (ints xs)) (hx : xs.length ≤ 1000) (p : Int) :
    FS C 33 [.agg #[.int .i64 r, .int .i64 c, v], .int .i64 p] H (fun e H' => ∃ n', n ≤ n' ∧ (placeE r c xs p ≠ 0 ∧ e = .tuple #[.slice none 0 0, .int .i64 (placeE r c xs p)] ∧ hasH M n' H' ∨
      placeE r c xs p = 0 ∧ ∃ v' Mx l, e = .tuple #[v', .int .i64 0] ∧ Own 3 1 v' (nodes l) Mx ∧ hasH (Mx ++ M) n' H' ∧ BasR r c xs p.toNat l)) := by
  have h1 := hS.one_
  refine FS.intro (pf := pf33) rfl rfl rfl ?_
  repeat' (first | refine zA ?_ | (refine zM ?_; intro _ _) | (apply Ws <;> intro hg))
  refine WR.call (by first | exact gN | exact gS rfl) rfl rfl (layFor_fs (by assumption) hS.cons hx p) ?_
  rintro _ H2 ⟨n2, hn2, ⟨hne, rfl, hH2⟩ | ⟨he0, bg, rfl, hH2⟩⟩
  · repeat' (first | refine zA ?_ | (refine zM ?_; intro _ _) | (apply Ws <;> intro hg))
    refine WC.condP rfl (fun h => ?_) (fun h => ?_)
    · repeat' (first | refine zA ?_ | (refine zM ?_; intro _ _) | (apply Ws <;> intro hg))
      exact Ends.ret2 rfl rfl ⟨n2, by omega, .inl ⟨hne, rfl, hH2.tail⟩⟩
    · exact absurd hne h
  · obtain ⟨hck, hp0, hp1⟩ := place_ok he0
    obtain ⟨hh, hc6, hr36⟩ := HS_of hck
    obtain ⟨q, rfl⟩ : ∃ q : Nat, p = q := ⟨p.toNat, by omega⟩
    have hq : q < xs.length := by omega
    repeat' (first | refine zA ?_ | (refine zM ?_; intro _ _) | (apply Ws <;> intro hg))
    refine WR.call (by first | exact gN | exact gS rfl) rfl rfl (sills_fs hH2 (by first | assumption | exact .head _ | exact .tail _ (.head _) | exact .tail _ (.tail _ (.head _)) | exact .tail _ (.tail _ (.tail _ (.head _))) | exact .tail _ (.tail _ (.tail _ (.tail _ (.head _)))) | exact .tail _ (.tail _ (.tail _ (.tail _ (.tail _ (.head _))))) | exact .tail _ (.tail _ (.tail _ (.tail _ (.tail _ (.tail _ (.head _)))))) | (repeat' (first | assumption | apply List.mem_cons_of_mem))) hh hc6) ?_
    rintro _ H3 ⟨best, n3, rfl, hn3, hH3, hl⟩
    have hbl := hl.len
    repeat' (first | refine zA ?_ | (refine zM ?_; intro _ _) | (apply Ws <;> intro hg))
    refine WR.op (by first | exact gN | exact gS rfl) rfl (OpV.idx (v := .int .i64 (best.getD q 0)) rfl rfl rfl (show q < 37 by omega) (by rw [Nat.mul_one]; exact toArray_get (ints_get (by omega)))) ?_
    repeat' (first | refine zA ?_ | (refine zM ?_; intro _ _) | (apply Ws <;> intro hg))
    rename_i hq2
    have hq3 : hasH ((n3, .row 97 0 0 (bools (List.replicate 37 false))) :: (bg, Ch.row 99 0 0 (gcells c.toNat xs.length (padded xs))) :: (n, .row 24 0 0 [.int .i64 r, .int .i64 c, v]) :: M) (n3 + 1) _ := hq2
    have hmg : (bg, Ch.row 99 0 0 (gcells c.toNat xs.length (padded xs))) ∈ (bg, Ch.row 99 0 0 (gcells c.toNat xs.length (padded xs))) :: (n, .row 24 0 0 [.int .i64 r, .int .i64 c, v]) :: M := by simp
    have hback : ∀ {Z : HL} {n' : Nat} {H' : Heap}, hasH (Z ++ ((bg, Ch.row 99 0 0 (gcells c.toNat xs.length (padded xs))) :: (n, .row 24 0 0 [.int .i64 r, .int .i64 c, v]) :: M)) n' H' → hasH (Z ++ M) n' H' :=
      fun hq => hq.sub (.append (.refl _) (.cons _ (.cons _ (.refl _))))
    generalize (bg, Ch.row 99 0 0 (gcells c.toNat xs.length (padded xs))) :: (n, .row 24 0 0 [.int .i64 r, .int .i64 c, v]) :: M = T at hmg hback hq3
    clear hq2 hH3 hH2
    have hhl := hh.len
    refine WC.loop (fun a : Nat × List Bool => [(1, .int .i64 (q : Int)), (6, .pointer (some ⟨bg, 0, some 0⟩)), (8, .int .i64 (best.getD q 0)), (9, .pointer (some ⟨n3, 0, some 0⟩)), (27, .int .i64 (xs.length : Int)), (28, .int .i64 (a.1 : Int))]) (fun _ => [])
      (fun a H => a.1 ≤ xs.length ∧ a.2.length = 37 ∧ (∀ y, a.2.getD y false = true ↔ y < a.1 ∧ (padded xs).getD y 0 < best.getD q 0) ∧ hasH ((n3, .row 97 0 0 (bools a.2)) :: T) (n3 + 1) H)
      (fun a => xs.length - a.1) (0, List.replicate 37 false) (by repeat' (first | exact .nil | refine .cons rfl ?_)) rfl ⟨Nat.zero_le _, rfl, fun y => ?_, hq3⟩ ?_
    · rw [List.getD_eq_getElem?_getD, List.getElem?_replicate]
      split <;> simp
    clear hq3
    rintro ⟨k, ms⟩ H6 ⟨hk, hms, hat, hH6⟩
    simp only at hk hms hat hH6
    dsimp only
    have hmT : (bg, Ch.row 99 0 0 (gcells c.toNat xs.length (padded xs))) ∈ (n3, .row 97 0 0 (bools ms)) :: T := .tail _ hmg
    repeat' (first | refine zA ?_ | (refine zM ?_; intro _ _) | (apply Ws <;> intro hg))
    refine WC.condP rfl (fun hlt => ?_) (fun hlt => ?_)
    · have hk' : k < xs.length := by omega
      repeat' (first | refine zA ?_ | (refine zM ?_; intro _ _) | (apply Ws <;> intro hg))
      refine WR.op (by first | exact gN | exact gS rfl) rfl (loadG rfl hH6 hmT (by omega)) ?_
      repeat' (first | refine zA ?_ | (refine zM ?_; intro _ _) | (apply Ws <;> intro hg))
      refine WR.storeB (by first | exact gN | exact gS rfl) hH6 rfl rfl .here (by omega) fun H7 hH7 => ?_
      repeat' (first | refine zA ?_ | (refine zM ?_; intro _ _) | (apply Ws <;> intro hg))
      refine Ends.loop (k + 1, _) (by simp only; omega) (by repeat' (first | exact .nil | refine .cons rfl ?_)) rfl ⟨hk', by simpa using hms, fun y => ?_, hH7⟩
      simp only
      rw [getB_set (by omega)]
      by_cases hy : y = k
      · subst hy
        rw [if_pos rfl, decide_eq_true_iff]
        exact ⟨fun h => ⟨by omega, h⟩, fun h => h.2⟩
      · rw [if_neg hy, hat y]
        exact ⟨fun h => ⟨by omega, h.2⟩, fun h => ⟨by omega, h.2⟩⟩
    have hkn : k = xs.length := by omega
    subst hkn
    repeat' (first | refine zA ?_ | (refine zM ?_; intro _ _) | (apply Ws <;> intro hg))
    refine WR.call (by first | exact gN | exact gS rfl) rfl rfl (reach_fs hH6 hmT (.head _) hms hh hc6 (Nat.le_of_lt hq)) ?_
    rintro _ H7 ⟨bm, n7, ts, rfl, hn7, hH7, htl, hts⟩
    refine WR.call (by first | exact gN | exact gS rfl) rfl rfl (marks_fs hH7 (.head _) htl) ?_
    rintro vp H8 ⟨Mx, n8, hn8, hOp, hH8⟩
    repeat' (first | refine zA ?_ | (refine zM ?_; intro _ _) | (apply Ws <;> intro hg))
    refine Ends.ret2 rfl rfl ⟨n8, by omega, .inr ⟨he0, vp, Mx, _, rfl, hOp, ?_, ⟨best, hl, filter_range_lt _ _, fun y => ?_⟩⟩⟩
    · exact hback (hH8.sub (.append (.refl _) (.cons _ (.cons _ (.refl _)))))
    · rw [Int.toNat_natCast, mem_marked, hts, rm_rp hat hq]
      exact ⟨fun h => h.2, fun h => ⟨by have := h.lt hq; omega, h⟩⟩
end Go.Proofs.Ytmogipomnjihcaa.Eb

namespace Go.Proofs.Ytmogipomnjihcaa.Eb
open Go Go.Abs Go.Low
set_option linter.unusedVariables false
set_option linter.unusedSimpArgs false
attribute [local irreducible] gOK WS WC WR WD Ends FS YS OpV seqK blockK loopK midK retK rdK asgK rangeEnd sat Cell

theorem sillR_fs {M : HL} {n : Nat} {H : Heap} (hH : hasH M n H) {rows c : Nat} {v : Value} {xs best : List Int} (hS : Sl M 1 v (ints xs)) (hh : HS c xs.length (padded xs)) (hc6 : c ≤ 6) (hrows : 1 ≤ rows ∧ rows ≤ 6) (hr : xs.length = rows * c) {p : Nat} (hp : p < xs.length)
    (hl : Lowest c xs.length (padded xs) xs.length best) :
    FS C 58 [.agg #[.int .i64 (rows : Int), .int .i64 (c : Int), v], .int .i64 (p : Int)] H (fun e H' => e = .int .i64 (best.getD p 0) ∧ ∃ n', n ≤ n' ∧ hasH M n' H') := by
  have h1 := hS.one_
  have h36 := hh.r36
  have h0 : (padded xs).getD xs.length 0 = 0 := by rw [padded_get (by omega), List.getD_eq_getElem?_getD, List.getElem?_eq_none (Nat.le_refl _)]; rfl
  have hb30 := best_le hh hc6 hl (Nat.le_of_lt hp)
  have hb0 := (hl.bd p (by omega)).1
  have hfound := fun {t : Int} ht => found_iff hh hc6 h0 hl hp (t := t) ht
  refine FS.intro (pf := pf58) rfl rfl rfl ?_
  repeat' (first | refine zA ?_ | (refine zM ?_; intro _ _) | (apply Ws <;> intro hg))
  rename_i H1 hH1
  have hSv : Sl ((n, .row 27 0 0 [.int .i64 (rows : Int), .int .i64 (c : Int), v]) :: M) 1 v (ints xs) := hS.cons
  have hmT : (n, Ch.row 27 0 0 [.int .i64 (rows : Int), .int .i64 (c : Int), v]) ∈ (n, Ch.row 27 0 0 [.int .i64 (rows : Int), .int .i64 (c : Int), v]) :: M := .head _
  have hback : ∀ {n' : Nat} {H' : Heap}, hasH ((n, Ch.row 27 0 0 [.int .i64 (rows : Int), .int .i64 (c : Int), v]) :: M) n' H' → hasH M n' H' := fun hq => hq.tail
  generalize (n, Ch.row 27 0 0 [.int .i64 (rows : Int), .int .i64 (c : Int), v]) :: M = T at hSv hmT hH1 hback
  refine WC.loop (fun s : Nat × Nat => [(1, .int .i64 (p : Int)), (2, .pointer (some ⟨n, 0, some 0⟩)), (5, .int .i64 (s.1 : Int))]) (fun _ => [])
    (fun s H => s.1 ≤ 30 ∧ (s.1 : Int) ≤ best.getD p 0 ∧ hasH T s.2 H ∧ n ≤ s.2) (fun s => 30 - s.1) (0, n + 1) (by repeat' (first | exact .nil | refine .cons rfl ?_)) rfl ⟨Nat.zero_le _, by simpa using hb0, hH1, by simp only; omega⟩ ?_
  clear hH1
  rintro ⟨k, n2⟩ H2 ⟨hk, hkb, hH2, hn2⟩
  simp only at hk hkb hH2 hn2
  dsimp only
  repeat' (first | refine zA ?_ | (refine zM ?_; intro _ _) | (apply Ws <;> intro hg))
  refine WC.condP rfl (fun hlt => ?_) (fun hlt => ?_)
  · have hk' : k < 30 := by omega
    repeat' (first | refine zA ?_ | (refine zM ?_; intro _ _) | (apply Ws <;> intro hg))
    refine WR.call (by first | exact gN | exact gS rfl) rfl rfl (reached_fs hH2 hSv hh hc6 hp (h := (k : Int))) ?_
    rintro _ H3 ⟨Mx, n3, l, hn3, hO, hH3, hll, hmem, hsrt⟩
    have hmX : (n, Ch.row 27 0 0 [.int .i64 (rows : Int), .int .i64 (c : Int), v]) ∈ Mx ++ T := List.mem_append_right _ hmT
    have hSl := hO.sl T
    rename_i vl
    repeat' (first | refine zA ?_ | (refine zM ?_; intro _ _) | (apply Ws <;> intro hg))
    refine WC.loop (fun s : Nat × Nat => [(1, .int .i64 (p : Int)), (2, .pointer (some ⟨n, 0, some 0⟩)), (5, .int .i64 (k : Int)), (6, vl), (7, .int .i64 (s.1 : Int))]) (fun _ => [])
      (fun s H => s.1 ≤ l.length ∧ (∀ j, j < s.1 → ∀ y, l[j]? = some y → xs.length ∉ nbrs c xs.length y) ∧ hasH (Mx ++ T) s.2 H ∧ n ≤ s.2) (fun s => l.length - s.1) (0, n3) (by repeat' (first | exact .nil | refine .cons rfl ?_)) rfl ⟨Nat.zero_le _, fun j hj => absurd hj (Nat.not_lt_zero _), hH3, by simp only; omega⟩ ?_
    clear hH3 hH2
    rintro ⟨j, n4⟩ H4 ⟨hj, hno, hH4, hn4⟩
    simp only at hj hno hH4 hn4
    dsimp only
    repeat' (first | refine zA ?_ | (refine zM ?_; intro _ _) | (apply Ws <;> intro hg))
    refine WR.op (by first | exact gN | exact gS rfl) rfl (OpV.lenS rfl hSl) ?_
    rw [show (nodes l).length = l.length by simp]
    repeat' (first | refine zA ?_ | (refine zM ?_; intro _ _) | (apply Ws <;> intro hg))
    refine WC.condP rfl (fun hlt2 => ?_) (fun hlt2 => ?_)
    · have hj' : j < l.length := by omega
      obtain ⟨y, hy⟩ : ∃ y, l[j]? = some y := ⟨l[j], List.getElem?_eq_getElem hj'⟩
      have hyRP := (hmem y).1 (List.mem_of_getElem? hy)
      repeat' (first | refine zA ?_ | (refine zM ?_; intro _ _) | (apply Ws <;> intro hg))
      refine WR.idxSl (by first | exact gN | exact gS rfl) rfl rfl hSl rfl rfl (c := .int .i64 (y : Int)) (by simp [hy]) fun _ _ _ hc1 => ?_
      repeat' (first | refine zA ?_ | (refine zM ?_; intro _ _) | (apply Ws <;> intro hg))
      refine WR.call (by first | exact gN | exact gS rfl) rfl rfl (last_fs hH4 h1 ⟨hh.c1, hc6⟩ hrows hr (hyRP.lt hp)) ?_
      rintro _ H5 ⟨rfl, n5, hn5, hH5⟩
      repeat' (first | refine zA ?_ | (refine zM ?_; intro _ _) | (apply Ws <;> intro hg))
      refine WC.condP rfl (fun hlast => ?_) (fun hlast => ?_)
      · repeat' (first | refine zA ?_ | (refine zM ?_; intro _ _) | (apply Ws <;> intro hg))
        refine Ends.ret1 rfl ⟨?_, n5, by omega, hback (hH5.sub (List.sublist_append_right _ _))⟩
        have := (hfound ⟨by omega, by omega⟩).1 ⟨y, hyRP, hlast⟩
        congr 1; omega
      · repeat' (first | refine zA ?_ | (refine zM ?_; intro _ _) | (apply Ws <;> intro hg))
        refine Ends.loop (j + 1, n5) (by simp only; omega) (by repeat' (first | exact .nil | refine .cons rfl ?_)) rfl ⟨hj', fun i hi z hz => ?_, hH5, by simp only; omega⟩
        rcases Nat.lt_or_ge i j with h2 | h2
        · exact hno i h2 z hz
        · have : i = j := by simp only at hi; omega
          subst this
          rw [hy] at hz; cases hz; exact hlast
    have hjl : j = l.length := by omega
    subst hjl
    have hnot : ¬ best.getD p 0 ≤ (k : Int) := by
      intro hle
      obtain ⟨y, hy1, hy2⟩ := (hfound (t := (k : Int)) ⟨by omega, by omega⟩).2 hle
      obtain ⟨i, hi, he⟩ := List.mem_iff_getElem.1 ((hmem y).2 hy1)
      exact hno i hi y (by rw [List.getElem?_eq_getElem hi, he]) hy2
    repeat' (first | refine zA ?_ | (refine zM ?_; intro _ _) | (apply Ws <;> intro hg))
    exact Ends.loop (k + 1, n4) (by simp only; omega) (by repeat' (first | exact .nil | refine .cons rfl ?_)) rfl ⟨hk', by simp only; omega, hH4.sub (List.sublist_append_right _ _), hn4⟩
  have hk30 : k = 30 := by omega
  subst hk30
  repeat' (first | refine zA ?_ | (refine zM ?_; intro _ _) | (apply Ws <;> intro hg))
  refine Ends.ret1 rfl ⟨?_, n2, hn2, hback hH2⟩
  congr 1; omega

theorem depthR_fs {M : HL} {n : Nat} {H : Heap} (hH : hasH M n H) {rows c : Nat} {v : Value} {xs best : List Int} (hS : Sl M 1 v (ints xs)) (hh : HS c xs.length (padded xs)) (hc6 : c ≤ 6) (hrows : 1 ≤ rows ∧ rows ≤ 6) (hr : xs.length = rows * c) {p : Nat} (hp : p < xs.length)
    (hl : Lowest c xs.length (padded xs) xs.length best) {w : Int} (hw : 0 ≤ w ∧ w ≤ 30) :
    FS C 62 [.agg #[.int .i64 (rows : Int), .int .i64 (c : Int), v], .int .i64 w, .int .i64 (p : Int)] H (fun e H' => e = .int .i64 (deep best (padded xs) w p) ∧ ∃ n', n ≤ n' ∧ hasH M n' H') := by
  have h1 := hS.one_
  have h36 := hh.r36
  have hX : (ints xs)[p]? = some (.int .i64 ((padded xs).getD p 0)) := by rw [padded_get (by omega)]; exact ints_get hp
  have hb := hl.bd p (by omega)
  have hbd := hh.bd p
  refine FS.intro (pf := pf62) rfl rfl rfl ?_
  repeat' (first | refine zA ?_ | (refine zM ?_; intro _ _) | (apply Ws <;> intro hg))
  rename_i H1 hH1
  have hSv : Sl ((n, .row 27 0 0 [.int .i64 (rows : Int), .int .i64 (c : Int), v]) :: M) 1 v (ints xs) := hS.cons
  refine WC.regionD ?_
  refine WD.loadN (by first | exact gN | exact gS rfl) rfl rfl (hH1.readN (k := 3) (.head _) (.row _ _ _ _) (Nat.zero_le _) (by simp)) ?_
  (repeat' (first | refine d1 rfl ?_ | refine d2 rfl ?_ | refine d3 rfl ?_))
  refine d5 rfl hH1 (.head _) (.row _ _ _ _) (Nat.zero_le _) rfl ?_
  (repeat' (first | refine d1 rfl ?_ | refine d2 rfl ?_ | refine d3 rfl ?_))
  obtain ⟨b, o, u, hop, hcell⟩ := OpV.idxSl (C := C) (L := [(14, .int .i64 (p : Int)), (13, v)]) (H := H1) (x := .tmp 13) (ix := .tmp 14) rfl hSv rfl rfl hX
  refine WD.op (by first | exact gN | exact gS rfl) rfl (v := .pointer (some ⟨b, o, some u⟩)) (hop.weaken (by repeat' (first | exact .nil | refine .cons rfl ?_))) rfl (stands_nil _ _) ?_
  refine WD.load1 (by first | exact gN | exact gS rfl) rfl rfl (hcell.read hH1) ?_
  refine WD.call (by first | exact gN | exact gS rfl) rfl rfl (sillR_fs hH1 hSv hh hc6 hrows hr hp hl) ?_
  rintro _ H7 ⟨rfl, n7, hn7, hH7⟩
  refine ⟨stands_cons (.inr (holds_at (hcell.read hH7) (same_int _ _))) (stands_cons (.inr (holds_at (hH7.read (.head _) (.row _ _ _ _) (Nat.zero_le _) rfl) hSv.same)) (stands_cons (.inl rfl) stands_nil')), ?_⟩
  refine WD.toWR rfl ?_
  refine WR.op (by first | exact gN | exact gS rfl) rfl (OpV.max' rfl rfl rfl) ?_
  refine WR.op (by first | exact gN | exact gS rfl) rfl (OpV.sub rfl rfl (by omega)) ?_
  repeat' (first | refine zA ?_ | (refine zM ?_; intro _ _) | (apply Ws <;> intro hg))
  exact Ends.ret1 rfl ⟨rfl, n7, by omega, hH7.tail⟩

end Go.Proofs.Ytmogipomnjihcaa.Eb
