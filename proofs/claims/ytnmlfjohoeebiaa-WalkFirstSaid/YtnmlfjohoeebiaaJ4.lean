/- Texts of the law, joined. -/
import Derived.Test.YtnmlfjohoeebiaaJ3
/- Beginnings of a slice, that may be empty, are copied. -/
namespace Go.Abs
set_option linter.unusedSectionVars false
variable [Globs]
open Go
section
variable {C : CW} {nt : Nat} {L : Env} {D : List Nat} {H : Heap} {K : St → Prop} {M M' : HL} {n i d : Nat} {gd : Option (Tmp × Bool)} {lo' : List Nat} {l : List POp}
/-- A slice that can be read, though it is empty. -/
def RdS (M : HL) (v : Value) : Prop := v = .slice none 0 0 ∨ ∃ (b u o lo len cap : Nat) (ch : Ch) (cs : List Value), v = .slice (some ⟨b, o, some u⟩) len cap ∧ (b, ch) ∈ M ∧ ch.cellsAre u lo cs ∧ lo ≤ o ∧ o - lo ≤ cs.length
theorem RdS.mono {M M' : HL} {v : Value} (h : RdS M v) (k : ∀ q ∈ M, q ∈ M') : RdS M' v := by
  rcases h with h | ⟨b, u, o, lo, len, cap, ch, cs, h1, h2, h3⟩
  · exact .inl h
  · exact .inr ⟨b, u, o, lo, len, cap, ch, cs, h1, k _ h2, h3⟩
theorem Sl.cut0 {v : Value} {l : List Value} (hS : Sl M 1 v l) {m : Nat} (hm : m < l.length) : ∃ base len cap v', v = .slice base len cap ∧ Sl M 1 v' (l.take m) ∧ RdS M v' ∧ len = l.length ∧
      (∀ lo hi, loOf lo = some 0 → hiOf len hi = some m → sliceA 1 base len (capOf base cap) lo hi none = some v') := by
  cases hS with
  | nil c => simp at hm
  | emp a0 => simp at hm
  | row hm2 hc hlo hl hv hin hp =>
    rename_i bk o u lo' len cap ch cs
    have hll : l.length = len := by omega
    have hsub : (cs.drop (o - lo')).take (l.take m).length = l.take m := by
      rw [List.length_take, Nat.min_eq_left (by omega)]
      have h0 : l.take m = ((cs.drop (o - lo')).take l.length).take m := by rw [hv]
      rw [h0, List.take_take, Nat.min_eq_left (by omega)]
    have hbnd : o - lo' + (l.take m).length ≤ cs.length := by rw [List.length_take]; omega
    have hrd : ∀ cp, RdS M (.slice (some ⟨bk, o, some u⟩) m cp) := fun cp => .inr ⟨_, _, _, _, _, _, _, _, rfl, hm2, hc, hlo, by omega⟩
    have hlm : (l.take m).length = m * 1 := by rw [List.length_take]; omega
    rcases hp with (rfl | ⟨r, rfl, hrl⟩) | ⟨c, rfl, hcl⟩
    · refine ⟨_, len, _, .slice (some ⟨bk, o, some u⟩) m (roomCode 1 len), rfl, ?_, hrd _, hll.symm, fun lo hi h1 h2 => ?_⟩
      · exact .row hm2 hc hlo hlm hsub hbnd (.inl (.inr ⟨len, rfl, by omega⟩))
      · simp only [sliceA, h1, h2, Option.isSome_none, Bool.false_and, cond_false, capOf_open _ (show 1 ≤ 1000 by decide), sliceTo]
        rw [cond_some (by simp [Nat.ble_eq]; omega), cutPart_lt (show m < len by omega) (by decide)]
        rfl
    · refine ⟨_, len, _, .slice (some ⟨bk, o, some u⟩) m (roomCode 1 r), rfl, ?_, hrd _, hll.symm, fun lo hi h1 h2 => ?_⟩
      · exact .row hm2 hc hlo hlm hsub hbnd (.inl (.inr ⟨r, rfl, by omega⟩))
      · simp only [sliceA, h1, h2, Option.isSome_none, Bool.false_and, cond_false, capOf_room _ (show 1 ≤ 1000 by decide), sliceTo]
        rw [cond_some (by simp [Nat.ble_eq]; omega), cutPart_lt (show m < r by omega) (by decide)]
        rfl
    · refine ⟨_, len, _, .slice (some ⟨bk, o, some u⟩) m (2 * c + 1), rfl, ?_, hrd _, hll.symm, fun lo hi h1 h2 => ?_⟩
      · exact .row hm2 hc hlo hlm hsub hbnd (.inr ⟨c, rfl, by omega⟩)
      · simp only [sliceA, h1, h2, Option.isSome_none, Bool.false_and, cond_false, capOf_known, sliceTo]
        rw [cond_some (by simp [Nat.ble_eq]; omega)]
        have : Nat.beq c 0 = false := by cases hb : Nat.beq c 0 with | false => rfl | true => have := Nat.eq_of_beq_eq_true hb; omega
        simp [cutKnown, this, Addr.plus]
theorem WR.cut0 {x hi : Operand} {v : Value} {xs : List Int} {m : Nat} {kb : IntKind} (hg : gOK L gd) (hd : Nat.blt d nt = true) (hx : ev L x = some v) (hS : Sl M 1 v (ints xs)) (h2 : ev L hi = some (.int kb (m : Int))) (hm : m < xs.length)
    (k : ∀ v', Sl M 1 v' (ints (xs.take m)) → RdS M v' → WR C nt l ((d, v') :: L) D H K) : WR C nt (⟨i, some d, .slS x 1 none (some hi) none, gd, lo'⟩ :: l) L D H K := by
  obtain ⟨base, len, cap, v', rfl, h3, h4, h5, h6⟩ := hS.cut0 (m := m) (by simpa using hm)
  have hb : bnd L (some hi) = some (some (.int kb (m : Int))) := by simp [bnd, h2]
  refine WR.op hg hd (v := v') (fun t ht => ?_) (k v' (by simpa [List.map_take] using h3) h4)
  simp only [opA, ev_ok ht hx, bnd_ok ht hb, Option.map_none, oSlS, h6 none (some (.int kb (m : Int))) rfl rfl, asVal]
theorem WR.appEmp {e b u o : Nat} {s x : Operand} {y : Value} {cs : List Value} (hg : gOK L gd) (hd : Nat.blt d nt = true) (hs : ev L s = some (.slice (some ⟨b, o, some u⟩) 0 1)) (hy : ev L x = some y) (hH : hasH M n H) (hm : (b, .row e u o cs) ∈ M) (hk : srcLen y = some 0) (hx : srcCells H 1 0 y = some [])
    (kk : ∀ H', hasH M n H' → WR C nt l ((d, .slice (some ⟨b, o, some u⟩) 0 1) :: L) D H' K) : WR C nt (⟨i, some d, .append e 1 s x, gd, lo'⟩ :: l) L D H K := by
  obtain ⟨H', h5, h6⟩ := hH.writeN (o := o) (l := []) (Upd.self hm) rfl (Nat.le_refl _) (by simp) (by simp [splice])
  refine WR.op hg hd (H' := H') (v := .slice (some ⟨b, o, some u⟩) 0 1) (fun t ht => ?_) (kk H' h6)
  have hcap : capOf (some ⟨b, o, some u⟩) 1 = .known 0 := rfl
  have hb : Nat.ble (0 + 0) 0 = true := rfl
  have hp : Addr.plus ⟨b, o, some u⟩ (0 * 1) = ⟨b, o, some u⟩ := rfl
  simp only [opA, ev_ok ht hs, ev_ok ht hy, appendA, hk, hx, appWith, hcap, hb, cond_true, appIn, hp, h5, Nat.add_zero]
end
end Go.Abs
namespace Go.Proofs.Ytnmlfjohoeebiaa.Wk
open Go Go.Abs Go.Mth
set_option linter.unusedVariables false
set_option linter.unusedSimpArgs false
attribute [local irreducible] gOK WS WC WR WD Ends FS YS OpV seqK blockK loopK midK retK rdK asgK rangeEnd sat Cell
section
variable {M : HL} {n0 : Nat} {H : Heap} {v w : Value}
theorem CloneR_fs (hH : hasH M n0 H) {xs : List Int} (hS : Sl M 1 v (ints xs)) (hr : RdS M v) (hx : xs.length ≤ 1000) :
    FS C 43 [v] H (fun e H' => ∃ Mx n', Own 3 1 e (ints xs) Mx ∧ n0 ≤ n' ∧ hasH (Mx ++ M) n' H') := by
  by_cases h0 : xs = []
  · subst h0
    rcases hr with rfl | ⟨b, u, o, lo, len, cap, ch, cs, rfl, hm, hc, hlo, hin⟩
    · refine FS.intro (pf := pf43) rfl rfl rfl ?_
      repeat' (first | refine zP ?_ | refine zA ?_ | (refine zM ?_; intro _ _) | refine zX ?_ | (refine zC ?_; intro _ _ _ _) | (refine zS ?_; intro _ _) | (apply Ws <;> intro hg))
      exact Ends.ret1 rfl ⟨[], n0, .nil, Nat.le_refl _, hH⟩
    · have hlen : len = 0 := by
        generalize hw : Value.slice (some ⟨b, o, some u⟩) len cap = w at hS
        generalize hz : ints [] = z at hS
        cases hS with
        | nil c => cases hw
        | emp a => injection hw
        | row _ _ _ g1 =>
          injection hw with _ g2 _
          rw [← hz] at g1
          simp at g1
          omega
      subst hlen
      refine FS.intro (pf := pf43) rfl rfl rfl ?_
      repeat' (first | refine zP ?_ | refine zA ?_ | (refine zM ?_; intro _ _) | refine zX ?_ | (refine zC ?_; intro _ _ _ _) | (refine zS ?_; intro _ _) | (apply Ws <;> intro hg))
      refine WR.bldS (by first | exact gN | exact gS rfl) rfl hH (vs := []) rfl (cs := []) (by rfl) rfl fun H3 hH3 => ?_
      repeat' (first | refine zP ?_ | refine zA ?_ | (refine zM ?_; intro _ _) | refine zX ?_ | (refine zC ?_; intro _ _ _ _) | (refine zS ?_; intro _ _) | (apply Ws <;> intro hg))
      refine WR.appEmp (by first | exact gN | exact gS rfl) rfl rfl rfl hH3 (.head _) rfl (by
        have := hH3.readN (k := 0) (.tail _ hm) hc hlo (by omega)
        simpa [srcCells] using this) fun H4 hH4 => ?_
      repeat' (first | refine zP ?_ | refine zA ?_ | (refine zM ?_; intro _ _) | refine zX ?_ | (refine zC ?_; intro _ _ _ _) | (refine zS ?_; intro _ _) | (apply Ws <;> intro hg))
      exact Ends.ret1 rfl ⟨[(n0, .inp 3 0 0 [])], n0 + 1, .full (len := 0) rfl rfl, by omega, hH4.asInp .here⟩
  · exact (Clone_fs hH hS hx (.inl h0)).mono fun e H' ⟨Mx, n', h1, h2, h3, _⟩ => ⟨Mx, n', h1, h2, h3⟩
end
/-- The first walk, and each of its beginnings. -/
theorem WalkR.take {T s W t : List Int} (h : WalkR T s W t) : ∀ i (hi : i < W.length), ∃ u j, WalkR T s (W.take i) u ∧ NextR T u j ∧ W.getD i 0 = (j : Int) := by
  induction h with
  | nil => intro i hi; simp at hi
  | @snoc W t j h hj ih =>
    intro i hi
    rcases Nat.lt_or_ge i W.length with h1 | h1
    · obtain ⟨u, k, h2, h3, h4⟩ := ih i h1
      exact ⟨u, k, by rw [List.take_append_of_le_length (by omega)]; exact h2, h3, by rw [getD_app_l h1]; exact h4⟩
    · have : i = W.length := by simp at hi; omega
      subst this
      exact ⟨t, j, by rw [List.take_append_of_le_length (Nat.le_refl _), List.take_length]; exact h, hj, getD_snoc⟩
end Go.Proofs.Ytnmlfjohoeebiaa.Wk

/- The law WalkFirst. -/
namespace Go.Proofs.Ytnmlfjohoeebiaa.Wk
open Go Go.Abs Go.Mth
set_option linter.unusedVariables false
set_option linter.unusedSimpArgs false
theorem leftE_val {T W : List Int} (hE : errT T = 0) (hW : walkE T.length W = 0) : leftE T W = if goS T (startS T) W = none then 12 else 0 := by unfold leftE; rw [if_neg (by omega), if_neg (by omega)]
theorem everB_false {T s : List Int} (h : ¬ everS T s) : everB T s = false := by
  cases hb : everB T s with
  | false => rfl
  | true => exact absurd (everB_true.1 hb) h
theorem WalkR.good {T W t : List Int} (hT : TOK T) (h : WalkR T (startS T) W t) : GoodW T W := by
  rcases go_good hT h.go.2 with ⟨h1, _⟩ | ⟨h1, _⟩
  · rw [h.go.1] at h1; cases h1
  · exact h1
attribute [local irreducible] gOK WS WC WR WD Ends FS YS OpV seqK blockK loopK midK retK rdK asgK rangeEnd sat Cell
section
variable {M : HL} {n0 : Nat} {H : Heap} {v w : Value}
set_option maxHeartbeats 2000000 in
theorem WalkFirst_fs (hH : hasH M n0 H) {a b c : Int} {hs : List Int} (ha : 0 ≤ a ∧ a ≤ 255) (hb : 0 ≤ b ∧ b ≤ 255) (hc : 0 ≤ c ∧ c ≤ 255) (hl : hs.length = 2) (hu : ∀ x ∈ hs, 0 ≤ x ∧ x ≤ 255) {many : Int} (hm : 0 ≤ many ∧ many ≤ 255) :
    FS C 10 [.agg (trayV a b c hs).toArray, .int .u8 many] H (fun e H' => e = .bool true) := by
  obtain ⟨x, ys, hE, hx, hyl, hy⟩ := tray_beach ha hb hc hl hu
  obtain ⟨mn, rfl⟩ : ∃ mn : Nat, many = mn := ⟨many.toNat, by omega⟩
  rw [hE]
  clear hE ha hb hc hl hu
  have hone := beach_one x ys
  have hbl : (beachC x ys).length = 5 := by simp [beachC, hyl]
  refine FS.intro (pf := pf10) rfl rfl rfl ?_
  repeat' (first | refine zP ?_ | refine zA ?_ | (refine zM ?_; intro _ _) | refine zX ?_ | (refine zC ?_; intro _ _ _ _) | (refine zS ?_; intro _ _) | (apply Ws <;> intro hg))
  rename_i H1 hH1
  refine WR.call (by first | exact gN | exact gS rfl) rfl rfl (made_fs (many := 3) (most := 6) hH1 hx hyl hy (by omega) (by omega)) ?_
  rintro tv H2 ⟨MT, n2, hOT, hn2, hH2⟩
  have hST := hOT.sl ((n0, .row 45 0 0 (beachC x ys)) :: M)
  clear hOT hH1
  generalize MT ++ ((n0, .row 45 0 0 (beachC x ys)) :: M) = T0 at hH2 hST
  obtain ⟨N, hN⟩ : ∃ N, 1 + x % 3 = N := ⟨_, rfl⟩
  have hN4 : 1 ≤ N ∧ N ≤ 3 := by omega
  rw [hN] at hST
  have hTok := made_ok (ys := ys) (most := 6) (n := N) (by omega) (by omega)
  have hTl : (firstT (madeF 6) ys N).length = N := firstT_len _ _ _
  generalize firstT (madeF 6) ys N = T at hST hTok hTl
  have hE := errT_of hTok (by omega)
  have hTl4 := hTok.len
  repeat' (first | refine zP ?_ | refine zA ?_ | (refine zM ?_; intro _ _) | refine zX ?_ | (refine zC ?_; intro _ _ _ _) | (refine zS ?_; intro _ _) | (apply Ws <;> intro hg))
  refine WR.op (by first | exact gN | exact gS rfl) rfl (OpV.conv u8k i64k rfl (c := (mn : Int)) (IntWalk.i64_in _ (by omega))) ?_
  repeat' (first | refine zP ?_ | refine zA ?_ | (refine zM ?_; intro _ _) | refine zX ?_ | (refine zC ?_; intro _ _ _ _) | (refine zS ?_; intro _ _) | (apply Ws <;> intro hg))
  rw [show (mn : Int) % 21 = ((mn % 21 : Nat) : Int) by simp]
  obtain ⟨k, hk⟩ : ∃ k, mn % 21 = k := ⟨_, rfl⟩
  have hk20 : k ≤ 20 := by omega
  rw [hk]
  refine WR.call (by first | exact gN | exact gS rfl) rfl rfl (Walk_fs hH2 hST (by omega) (k : Int)) ?_
  rintro _ H3 ⟨wv, W, MW, n3, rfl, hOW, hn3, hH3, hcase⟩
  have hSW := hOW.sl T0
  have hST3 : Sl (MW ++ T0) 1 tv (ints T) := hST.mono fun q hq => List.mem_append_right _ hq
  clear hH2 hST hOW
  generalize MW ++ T0 = T1 at hH3 hST3 hSW
  repeat' (first | refine zP ?_ | refine zA ?_ | (refine zM ?_; intro _ _) | refine zX ?_ | (refine zC ?_; intro _ _ _ _) | (refine zS ?_; intro _ _) | (apply Ws <;> intro hg))
  refine WR.call (by first | exact gN | exact gS rfl) rfl rfl (longest_fs hH3 hST3 hTok (by omega)) ?_
  rintro _ H4 ⟨r, n4, rfl, hr, hn4, hH4⟩
  have hlow := hr.low
  have hWE : wlkE T k = if everB T (startS T) = false then 12 else 0 := by unfold wlkE; rw [if_neg (by omega), if_neg (by omega)]
  rcases hr with ⟨rfl, he⟩ | ⟨p, rfl, hp1, hp2⟩
  · have hW0 : wlkE T k = 0 := by rw [hWE, everB_true.2 he, if_neg (by simp)]
    rcases hcase with ⟨h, _⟩ | ⟨_, hWl, t, hR⟩
    · omega
    rw [Int.toNat_natCast] at hWl
    have hwok := hR.go.2
    rw [hW0]
    repeat' (first | refine zP ?_ | refine zA ?_ | (refine zM ?_; intro _ _) | refine zX ?_ | (refine zC ?_; intro _ _ _ _) | (refine zS ?_; intro _ _) | refine zO ?_ | (apply Ws <;> intro hg))
    refine WR.call (by first | exact gN | exact gS rfl) rfl rfl (walked_fs hH4 hST3 hTok hSW (by omega)) ?_
    rintro _ _ ⟨rfl, rfl⟩
    rw [goodB_true.2 (hR.good hTok)]
    repeat' (first | refine zP ?_ | refine zA ?_ | (refine zM ?_; intro _ _) | refine zX ?_ | (refine zC ?_; intro _ _ _ _) | (refine zS ?_; intro _ _) | refine zO ?_ | (apply Ws <;> intro hg))
    refine WC.loopX [(4, .bool false), (5, tv), (7, wv), (71, wv), (72, .int .i64 (W.length : Int))] (fun z : Nat × Nat => [(73, .int .i64 (z.1 : Int))]) []
      (fun z H' => z.1 ≤ W.length ∧ n4 ≤ z.2 ∧ hasH T1 z.2 H') (fun z => W.length - z.1) (0, n4) (by repeat' (first | exact .nil | refine .cons rfl ?_)) rfl ⟨Nat.zero_le _, Nat.le_refl _, hH4⟩ ?_
    clear hH4 hH3
    rintro ⟨i, n5⟩ H5 ⟨hi, hn5, hH5⟩
    simp only at hi hn5 hH5
    dsimp only [List.cons_append, List.nil_append]
    repeat' (first | refine zP ?_ | refine zA ?_ | (refine zM ?_; intro _ _) | refine zX ?_ | (refine zC ?_; intro _ _ _ _) | (refine zS ?_; intro _ _) | (apply Ws <;> intro hg))
    refine WC.condP rfl (fun hlt => ?_) (fun hlt => ?_)
    · have hi' : i < W.length := by omega
      obtain ⟨u, j, hRu, hj, hWj⟩ := hR.take i hi'
      have hjT := hj.lt
      have hu := goS_ok hTok (start_ok hTok) hRu.go.2 hRu.go.1
      have htl : (W.take i).length = i := by rw [List.length_take]; omega
      repeat' (first | refine zP ?_ | refine zA ?_ | (refine zM ?_; intro _ _) | refine zX ?_ | (refine zC ?_; intro _ _ _ _) | (refine zS ?_; intro _ _) | refine zO ?_ | (apply Ws <;> intro hg))
      rw [hWj]
      rw [show (j : Int) + 1 = ((j + 1 : Nat) : Int) by omega]
      refine WC.loopX [(4, .bool false), (5, tv), (7, wv), (71, wv), (72, .int .i64 (W.length : Int)), (73, .int .i64 (i : Int)), (11, .int .i64 (i : Int)), (12, .int .i64 (j : Int)), (87, .int .i64 ((j + 1 : Nat) : Int))] (fun z : Nat × Nat => [(88, .int .i64 (z.1 : Int))]) []
        (fun z H' => z.1 ≤ j + 1 ∧ n4 ≤ z.2 ∧ hasH T1 z.2 H') (fun z => j + 1 - z.1) (0, n5) (by repeat' (first | exact .nil | refine .cons rfl ?_)) rfl ⟨Nat.zero_le _, hn5, hH5⟩ ?_
      clear hH5
      rintro ⟨s, n6⟩ H6 ⟨hs, hn6, hH6⟩
      simp only at hs hn6 hH6
      dsimp only [List.cons_append, List.nil_append]
      repeat' (first | refine zP ?_ | refine zA ?_ | (refine zM ?_; intro _ _) | refine zX ?_ | (refine zC ?_; intro _ _ _ _) | (refine zS ?_; intro _ _) | (apply Ws <;> intro hg))
      refine WC.condP rfl (fun hlt2 => ?_) (fun hlt2 => ?_)
      · have hs' : s ≤ j := by omega
        have hsT : s < T.length := by omega
        repeat' (first | refine zP ?_ | refine zA ?_ | (refine zM ?_; intro _ _) | refine zX ?_ | (refine zC ?_; intro _ _ _ _) | (refine zS ?_; intro _ _) | (apply Ws <;> intro hg))
        refine WR.cut0 (by first | exact gN | exact gS rfl) rfl rfl hSW rfl hi' fun v9 hS9 hR9 => ?_
        refine WR.call (by first | exact gN | exact gS rfl) rfl rfl (CloneR_fs hH6 hS9 hR9 (by omega)) ?_
        rintro cv H7 ⟨MC, n7, hOC, hn7, hH7⟩
        repeat' (first | refine zP ?_ | refine zA ?_ | (refine zM ?_; intro _ _) | refine zX ?_ | (refine zC ?_; intro _ _ _ _) | (refine zS ?_; intro _ _) | (apply Ws <;> intro hg))
        refine WR.append1F [] MC T1 rfl rfl rfl rfl hOC hH7 (new := [.int .i64 (s : Int)]) (by rfl) rfl rfl (Nat.le_refl _) (by omega) (by simp; omega) fun v3 M3 n8 H8 hO3 hH8 hn8 => ?_
        replace hH8 : hasH (M3 ++ T1) n8 H8 := hH8
        have hST8 : Sl (M3 ++ T1) 1 tv (ints T) := hST3.mono fun q hq => List.mem_append_right _ hq
        have hSv3 : Sl (M3 ++ T1) 1 v3 (ints (W.take i ++ [(s : Int)])) := by
          have := hO3.sl T1
          rwa [show ints (W.take i ++ [(s : Int)]) = ints (W.take i) ++ [.int .i64 (s : Int)] by rw [ints, List.map_append]; rfl]
        have hT1s : T1.Sublist (M3 ++ T1) := List.sublist_append_right _ _
        clear hO3 hOC hH7 hH6
        generalize M3 ++ T1 = T2 at hH8 hST8 hSv3 hT1s
        have hWl2 : (W.take i ++ [(s : Int)]).length = i + 1 := by simp; omega
        have hwok2 : WOK T.length (W.take i ++ [(s : Int)]) := fun z hz => by
          rcases List.mem_append.1 hz with hz | hz
          · exact hRu.go.2 z hz
          · rw [List.mem_singleton] at hz; omega
        have hgo2 : goS T (startS T) (W.take i ++ [(s : Int)]) = if goodS T.length (metS T u s) then some (metS T u s) else none := by
          rw [goS_snoc, hRu.go.1, Option.bind_some, Int.toNat_natCast]
        obtain ⟨W2, hW2⟩ : ∃ W2, W.take i ++ [(s : Int)] = W2 := ⟨_, rfl⟩
        rw [hW2] at hSv3 hWl2 hwok2 hgo2
        have hLE := leftE_val hE (walkE_ok.2 ⟨by omega, hwok2⟩ : walkE T.length W2 = 0)
        repeat' (first | refine zP ?_ | refine zA ?_ | (refine zM ?_; intro _ _) | refine zX ?_ | (refine zC ?_; intro _ _ _ _) | (refine zS ?_; intro _ _) | (apply Ws <;> intro hg))
        refine WR.call (by first | exact gN | exact gS rfl) rfl rfl (Goes_fs hH8 hST8 (by omega) hSv3 (by omega)) ?_
        rintro _ H9 ⟨g, n9, rfl, hn9, hH9, hcg⟩
        repeat' (first | refine zP ?_ | refine zA ?_ | (refine zM ?_; intro _ _) | refine zX ?_ | (refine zC ?_; intro _ _ _ _) | (refine zS ?_; intro _ _) | (apply Ws <;> intro hg))
        refine WR.call (by first | exact gN | exact gS rfl) rfl rfl (walked_fs hH9 hST8 hTok hSv3 (by omega)) ?_
        rintro _ _ ⟨rfl, rfl⟩
        by_cases hg : goodS T.length (metS T u s)
        · rw [if_pos hg] at hgo2
          have hL0 : leftE T W2 = 0 := by rw [hLE, if_neg (by rw [hgo2]; simp)]
          rcases go_good hTok hwok2 with ⟨h1, _⟩ | ⟨h1, q, h2, h3⟩
          · rw [hgo2] at h1; cases h1
          rw [hgo2] at h2
          cases h2
          rcases hcg with ⟨h, _⟩ | ⟨_, q, h2, hgv⟩
          · omega
          rw [hgo2] at h2
          cases h2
          have hgs : g = decide (s = j) := by
            rw [hgv]
            by_cases e : s = j
            · rw [decide_eq_true e, e, everB_true]; exact hj.ok.2
            · rw [decide_eq_false e]
              exact everB_false fun h => hj.no s (by omega) ⟨hg, h⟩
          rw [goodB_true.2 h1, hL0]
          repeat' (first | refine zP ?_ | refine zA ?_ | (refine zM ?_; intro _ _) | refine zX ?_ | (refine zC ?_; intro _ _ _ _) | (refine zS ?_; intro _ _) | refine zO ?_ | (apply Ws <;> intro hg))
          refine WR.call (by first | exact gN | exact gS rfl) rfl rfl (Left_fs hH9 hST8 (by omega) hSv3 (by omega)) ?_
          rintro _ H10 ⟨lv, xs, ML, n10, rfl, hOL, hn10, hH10, hcl⟩
          rcases hcl with ⟨h, _⟩ | ⟨_, q, h2, rfl⟩
          · omega
          rw [hgo2] at h2
          cases h2
          have hSL := hOL.sl T2
          have hST10 : Sl (ML ++ T2) 1 tv (ints T) := hST8.mono fun q hq => List.mem_append_right _ hq
          have hSv10 : Sl (ML ++ T2) 1 v3 (ints W2) := hSv3.mono fun q hq => List.mem_append_right _ hq
          have hT2s : T1.Sublist (ML ++ T2) := hT1s.trans (List.sublist_append_right _ _)
          clear hH9 hH8 hOL
          generalize ML ++ T2 = T3 at hH10 hSL hST10 hSv10 hT2s
          rw [hL0]
          repeat' (first | refine zP ?_ | refine zA ?_ | (refine zM ?_; intro _ _) | refine zX ?_ | (refine zC ?_; intro _ _ _ _) | (refine zS ?_; intro _ _) | (apply Ws <;> intro hg))
          refine WR.call (by first | exact gN | exact gS rfl) rfl rfl (left_fs hH10 hST10 hTok hSv10 (by omega)) ?_
          rintro _ H11 ⟨n11, hn11, rfl, hH11⟩
          have hll := lawLeft_len T W2 T.length
          have hq := met_ok hTok hu hsT hg
          have hlq := lawLeft_eq hTok hq h3
          repeat' (first | refine zP ?_ | refine zA ?_ | (refine zM ?_; intro _ _) | refine zX ?_ | (refine zC ?_; intro _ _ _ _) | (refine zS ?_; intro _ _) | (apply Ws <;> intro hg))
          rename_i H12 hH12
          refine WR.storeA (by first | exact gN | exact gS rfl) hH12 rfl rfl hll .here rfl fun H13 hH13 => ?_
          have hSp : Sl ((n11, Ch.row 53 0 0 (ints (lawLeft T W2 T.length))) :: T3) 1 (.slice (some ⟨n11, 0, some 0⟩) T.length (2 * 4 + 1)) (ints ((lawLeft T W2 T.length).take T.length)) :=
            .row (lo := 0) (cs := ints (lawLeft T W2 T.length)) (.head _) (.row _ _ _ _) (Nat.zero_le _) (by simp; omega) (by simp [ints, List.map_take]) (by simp; omega) (.inr ⟨4, rfl, by omega⟩)
          repeat' (first | refine zP ?_ | refine zA ?_ | (refine zM ?_; intro _ _) | refine zX ?_ | (refine zC ?_; intro _ _ _ _) | (refine zS ?_; intro _ _) | refine zO ?_ | (apply Ws <;> intro hg))
          refine WR.op (by first | exact gN | exact gS rfl) rfl (OpV.slAh rfl rfl (by omega) (by decide)) ?_
          refine WR.call (by first | exact gN | exact gS rfl) rfl rfl (same_fs hH13 hSL.cons hSp (by simp; omega) (by simp; omega)) ?_
          rintro _ _ ⟨rfl, rfl⟩
          rw [decide_eq_true hlq.symm, hgs]
          repeat' (first | refine zP ?_ | refine zA ?_ | (refine zM ?_; intro _ _) | refine zX ?_ | (refine zC ?_; intro _ _ _ _) | (refine zS ?_; intro _ _) | refine zO ?_ | (apply Ws <;> intro hg))
          refine WR.op (by first | exact gN | exact gS rfl) rfl (OpV.neB (neqB _ _) rfl rfl) ?_
          rw [show (decide (s = j) != decide ((s : Int) = (j : Int))) = false by
            rw [show decide ((s : Int) = (j : Int)) = decide (s = j) by rw [decide_eq_decide]; omega]; simp]
          repeat' (first | refine zP ?_ | refine zA ?_ | (refine zM ?_; intro _ _) | refine zX ?_ | (refine zC ?_; intro _ _ _ _) | (refine zS ?_; intro _ _) | refine zO ?_ | (apply Ws <;> intro hg))
          exact Ends.loop (s + 1, n11 + 1) (by simp only; omega) (by repeat' (first | exact .nil | refine .cons rfl ?_)) rfl ⟨by simp only; omega, by simp only; omega, hH13.tail.sub hT2s⟩
        · rw [if_neg hg] at hgo2
          have hL12 : leftE T W2 = 12 := by rw [hLE, if_pos hgo2]
          rcases go_good hTok hwok2 with ⟨_, h1⟩ | ⟨h1, q, h2, h3⟩
          · rcases hcg with ⟨_, rfl⟩ | ⟨h, _⟩
            · rw [goodB_false h1, hL12]
              repeat' (first | refine zP ?_ | refine zA ?_ | (refine zM ?_; intro _ _) | refine zX ?_ | (refine zC ?_; intro _ _ _ _) | (refine zS ?_; intro _ _) | refine zO ?_ | (apply Ws <;> intro hg))
              refine Ends.loop (s + 1, n9) (by simp only; omega) (by repeat' (first | exact .nil | refine .cons rfl ?_)) rfl ⟨by simp only; omega, by simp only; omega, hH9.sub hT1s⟩
            · omega
          · rw [hgo2] at h2; cases h2
      · repeat' (first | refine zP ?_ | refine zA ?_ | (refine zM ?_; intro _ _) | refine zX ?_ | (refine zC ?_; intro _ _ _ _) | (refine zS ?_; intro _ _) | (apply Ws <;> intro hg))
        refine Ends.loop (i + 1, n6) (by simp only; omega) (by repeat' (first | exact .nil | refine .cons rfl ?_)) rfl ⟨hi', hn6, hH6⟩
    · repeat' (first | refine zP ?_ | refine zA ?_ | (refine zM ?_; intro _ _) | refine zX ?_ | (refine zC ?_; intro _ _ _ _) | (refine zS ?_; intro _ _) | (apply Ws <;> intro hg))
      refine WR.call (by first | exact gN | exact gS rfl) rfl rfl (FS.works (C := C) (R := fun v H' => v = .bool true) rfl) ?_
      rintro _ _ rfl
      repeat' (first | refine zP ?_ | refine zA ?_ | (refine zM ?_; intro _ _) | refine zX ?_ | (refine zC ?_; intro _ _ _ _) | (refine zS ?_; intro _ _) | (apply Ws <;> intro hg))
      exact Ends.ret1 rfl rfl
  · have hne : ¬ everS T (startS T) := fun h => hp2 (h _)
    have hW12 : wlkE T k = 12 := by rw [hWE, everB_false hne, if_pos rfl]
    rcases hcase with ⟨_, rfl⟩ | ⟨h, _⟩
    · rw [hW12]
      repeat' (first | refine zP ?_ | refine zA ?_ | (refine zM ?_; intro _ _) | refine zX ?_ | (refine zC ?_; intro _ _ _ _) | (refine zS ?_; intro _ _) | refine zO ?_ | (apply Ws <;> intro hg))
      have hL0 : leftE T [] = 0 := by
        rw [leftE_val hE (walkE_ok.2 ⟨by simp, fun z hz => by cases hz⟩), if_neg (by simp [goS])]
      refine WR.call (by first | exact gN | exact gS rfl) rfl rfl (Goes_fs hH4 hST3 (by omega) (W := []) (.nil 0) (by simp)) ?_
      rintro _ H5 ⟨g, n5, rfl, hn5, hH5, hcg⟩
      rcases hcg with ⟨h, _⟩ | ⟨_, q, h2, rfl⟩
      · omega
      have hq : q = startS T := by simpa [goS] using h2.symm
      subst hq
      rw [everB_false hne, hL0]
      repeat' (first | refine zP ?_ | refine zA ?_ | (refine zM ?_; intro _ _) | refine zX ?_ | (refine zC ?_; intro _ _ _ _) | (refine zS ?_; intro _ _) | refine zO ?_ | (apply Ws <;> intro hg))
      refine WR.call (by first | exact gN | exact gS rfl) rfl rfl (FS.works (C := C) (R := fun v H' => v = .bool true) rfl) ?_
      rintro _ _ rfl
      repeat' (first | refine zP ?_ | refine zA ?_ | (refine zM ?_; intro _ _) | refine zX ?_ | (refine zC ?_; intro _ _ _ _) | (refine zS ?_; intro _ _) | (apply Ws <;> intro hg))
      exact Ends.ret1 rfl rfl
    · omega
end
end Go.Proofs.Ytnmlfjohoeebiaa.Wk
