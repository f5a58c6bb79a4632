/- Texts of the law, joined. -/
import Derived.Test.YtfnflkcjhefddaaJ2
import Derived.Test.YtfnflkcjhefddaaSymR
/- Orders by numbers. -/
namespace Go.Proofs.Ytfnflkcjhefddaa.Lk
open Go Go.Abs Go.Mth
set_option linter.unusedVariables false
set_option linter.unusedSimpArgs false
theorem u8k : C.c.P.underlying 5 = some (.int .u8) := by kernel_rfl
theorem i64k : C.c.P.underlying 3 = some (.int .i64) := by kernel_rfl
theorem cons_erase : ∀ {l : List Nat} {j : Nat} (h : j < l.length), (l[j] :: l.eraseIdx j).Perm l
  | a :: l, 0, h => List.Perm.refl _
  | a :: l, j + 1, h => by
    have := cons_erase (l := l) (j := j) (by simpa using h)
    simp only [List.getElem_cons_succ, List.eraseIdx_cons_succ]
    exact (List.Perm.swap _ _ _).trans (this.cons a)
/-- What is drawn, and what is left. -/
def drawO (by_ : List Nat) (n : Nat) : Nat → List Nat × List Nat
  | 0 => ([], List.range n)
  | k + 1 => let s := drawO by_ n k; (s.1 ++ [s.2.getD (by_.getD k 0 % s.2.length) 0], s.2.eraseIdx (by_.getD k 0 % s.2.length))
def madeO (x : Nat) (by_ : List Nat) (most : Nat) : List Nat := (drawO by_ (1 + x % most) (1 + x % most)).1
theorem drawO_props (by_ : List Nat) (n : Nat) : ∀ k, k ≤ n → (drawO by_ n k).1.length = k ∧ (drawO by_ n k).2.length = n - k ∧ ((drawO by_ n k).1 ++ (drawO by_ n k).2).Perm (List.range n)
  | 0, _ => by simp [drawO]
  | k + 1, hk => by
    obtain ⟨h1, h2, h3⟩ := drawO_props by_ n k (by omega)
    have hp : 0 < (drawO by_ n k).2.length := by omega
    have hm := Nat.mod_lt (by_.getD k 0) hp
    simp only [drawO]
    generalize by_.getD k 0 % (drawO by_ n k).2.length = j at hm
    refine ⟨by simp [h1], by rw [List.length_eraseIdx, if_pos hm]; omega, ?_⟩
    refine List.Perm.trans ?_ h3
    rw [List.append_assoc]
    refine List.Perm.append_left _ ?_
    rw [getD_eq hm]
    exact cons_erase hm
theorem madeO_ord {x most : Nat} (by_ : List Nat) (h1 : 1 ≤ most) (h7 : most ≤ 7) : OrdN (madeO x by_ most) ∧ (madeO x by_ most).length = 1 + x % most := by
  have hm := Nat.mod_lt x (show 0 < most by omega)
  obtain ⟨q1, q2, q3⟩ := drawO_props by_ (1 + x % most) (1 + x % most) (Nat.le_refl _)
  have hnil : (drawO by_ (1 + x % most) (1 + x % most)).2 = [] := List.length_eq_zero_iff.1 (by omega)
  rw [hnil, List.append_nil] at q3
  unfold madeO
  refine ⟨⟨by omega, by omega, fun y hy => ?_, ?_⟩, q1⟩
  · rw [q1]; exact List.mem_range.1 (q3.mem_iff.1 hy)
  · exact q3.nodup_iff.2 List.nodup_range
theorem getD_numsK {k : IntKind} {l : List Nat} {i : Nat} (h : i < l.length) : (numsK k l)[i]? = some (.int k ((l.getD i 0 : Nat) : Int)) := by
  unfold numsK
  rw [List.getElem?_map, List.getElem?_eq_getElem h, getD_eq h]; rfl
structure KM where
  k : Nat
  v : Value
  Mx : HL
  n : Nat
structure KN where
  k : Nat
  cp : Nat
  R : Nat
  ys : List Int
  ov : Value
  Mo : HL
  n : Nat
theorem sl_left {M : HL} {b u o len cp R : Nat} {ys : List Int} {l : List Nat} (hm : (b, Ch.row 3 u o (ints ys)) ∈ M) (hc : capR cp len R) (hly : len ≤ ys.length) (hy : ys.take len = IL l) : Sl M 1 (.slice (some ⟨b, o, some u⟩) len cp) (nodes l) := by
  have hl : l.length = len := by have := congrArg List.length hy; simp at this; omega
  refine .row hm (.row _ _ _ _) (Nat.le_refl _) (by simp [hl]) ?_ (by simp [hl]; omega) (.inl hc.cap)
  rw [nodes_IL, ← hy]
  simp [ints, List.map_take]
theorem drawO_succ (by_ : List Nat) (n k : Nat) : drawO by_ n (k + 1) = ((drawO by_ n k).1 ++ [(drawO by_ n k).2.getD (by_.getD k 0 % (drawO by_ n k).2.length) 0], (drawO by_ n k).2.eraseIdx (by_.getD k 0 % (drawO by_ n k).2.length)) := rfl
theorem IL_erase (l : List Nat) (j : Nat) : IL (l.eraseIdx j) = (IL l).take j ++ (IL l).drop (j + 1) := by
  rw [List.eraseIdx_eq_take_drop_succ]; simp [IL, List.map_take, List.map_drop]
attribute [local irreducible] gOK WS WC WR WD Ends FS YS OpV seqK blockK loopK midK retK rdK asgK rangeEnd sat Cell
section
variable {M : HL} {n0 : Nat} {H : Heap} {v w : Value}
theorem Delete_fs {b u o len cp R i j : Nat} {ys : List Int} (hH : hasH ((b, .row 3 u o (ints ys)) :: M) n0 H) (hc : capR cp len R) (hly : len ≤ ys.length) (hij : i < j) (hjl : j ≤ len) (hyl : ys.length ≤ 100000) :
    FS C 87 [.slice (some ⟨b, o, some u⟩) len cp, .int .i64 (i : Int), .int .i64 (j : Int)] H (fun e H' => ∃ zs, e = .slice (some ⟨b, o, some u⟩) (len - (j - i)) (roomCode 1 R) ∧ hasH ((b, .row 3 u o (ints zs)) :: M) n0 H' ∧
      zs.length = ys.length ∧ zs.take (len - (j - i)) = ys.take i ++ (ys.take len).drop j) := by
  have hR := hc.le
  refine FS.intro (pf := pf87) rfl rfl rfl ?_
  repeat' (first | refine zP ?_ | refine zA ?_ | (refine zM ?_; intro _ _) | refine zX ?_ | (refine zC ?_; intro _ _ _ _) | (refine zS ?_; intro _ _) | (apply Ws <;> intro hg))
  refine WR.cutMax (by first | exact gN | exact gS rfl) rfl rfl hc rfl rfl rfl (Nat.le_of_lt hij) hjl (Nat.le_refl _) (by omega) fun v13 => ?_
  repeat' (first | refine zP ?_ | refine zA ?_ | (refine zM ?_; intro _ _) | refine zX ?_ | (refine zC ?_; intro _ _ _ _) | (refine zS ?_; intro _ _) | refine zO ?_ | (apply Ws <;> intro hg))
  refine WR.op (by first | exact gN | exact gS rfl) rfl (OpV.cutPre rfl hc rfl (by omega) (by omega)) ?_
  repeat' (first | refine zP ?_ | refine zA ?_ | (refine zM ?_; intro _ _) | refine zX ?_ | (refine zC ?_; intro _ _ _ _) | (refine zS ?_; intro _ _) | (apply Ws <;> intro hg))
  refine WR.cutSuf (by first | exact gN | exact gS rfl) rfl rfl hc rfl hjl fun cp' => ?_
  refine WR.appendR (M' := (b, .row 3 u o (ints (ys.take i ++ (ys.drop j).take (len - j) ++ ys.drop (i + (len - j))))) :: M) (by first | exact gN | exact gS rfl) rfl rfl rfl hH .here (by omega) (by omega) (by omega) fun H1 hH1 => ?_
  have hl2 : i + (len - j) = len - (j - i) := by omega
  rw [hl2] at hH1 ⊢
  obtain ⟨zs, hzs⟩ : ∃ zs, ys.take i ++ (ys.drop j).take (len - j) ++ ys.drop (len - (j - i)) = zs := ⟨_, rfl⟩
  rw [hzs] at hH1
  have hzl : zs.length = ys.length := by rw [← hzs]; simp; omega
  have hzt : zs.take (len - (j - i)) = ys.take i ++ (ys.take len).drop j := by
    rw [← hzs, List.take_append_of_le_length (by simp; omega), List.take_of_length_le (by simp; omega), List.drop_take]
  repeat' (first | refine zP ?_ | refine zA ?_ | (refine zM ?_; intro _ _) | refine zX ?_ | (refine zC ?_; intro _ _ _ _) | (refine zS ?_; intro _ _) | (apply Ws <;> intro hg))
  refine WR.cutOver (by first | exact gN | exact gS rfl) rfl rfl (by omega) rfl rfl (by omega) (by omega) fun cp2 => ?_
  refine WR.clrI (M' := (b, .row 3 u o (ints (zs.take (len - (j - i)) ++ List.replicate (len - (len - (j - i))) 0 ++ zs.drop (len - (j - i) + (len - (len - (j - i))))))) :: M) (by first | exact gN | exact gS rfl) rfl hH1 .here (by omega) (by omega) fun H2 hH2 => ?_
  repeat' (first | refine zP ?_ | refine zA ?_ | (refine zM ?_; intro _ _) | refine zX ?_ | (refine zC ?_; intro _ _ _ _) | (refine zS ?_; intro _ _) | (apply Ws <;> intro hg))
  refine Ends.ret1 rfl ⟨_, rfl, hH2, by simp; omega, ?_⟩
  rw [List.append_assoc, List.take_append_of_le_length (by simp; omega), List.take_of_length_le (by simp; omega), hzt]
set_option maxHeartbeats 4000000 in
theorem made_fs (hH : hasH M n0 H) {x : Nat} {by_ : List Nat} (hx : x ≤ 255) (hbl : by_.length = 7) (hb : ∀ y ∈ by_, y ≤ 255) {most : Nat} (hm1 : 1 ≤ most) (hm : most ≤ 7) :
    FS C 42 [.agg (numsK .u8 (x :: by_)).toArray, .int .i64 (most : Int)] H (fun e H' => ∃ Mx n', Own 3 1 e (nodes (madeO x by_ most)) Mx ∧ n0 ≤ n' ∧ hasH (Mx ++ M) n' H') := by
  have hone : (numsK .u8 (x :: by_)).all one = true := by rw [List.all_eq_true]; intro q hq; obtain ⟨z, _, rfl⟩ := List.mem_map.1 hq; rfl
  have hsl : (numsK .u8 (x :: by_)).length = 8 := by simp [numsK, hbl]
  have hg0 : (numsK .u8 (x :: by_))[0]? = some (.int .u8 (x : Int)) := rfl
  refine FS.intro (pf := pf42) rfl rfl rfl ?_
  refine WC.seq ?_
  refine WC.region ?_
  refine WR.boxA (cs := numsK .u8 (x :: by_)) (by first | exact gN | exact gS rfl) rfl hH rfl hone fun H1 hH1 => ?_
  repeat' (first | refine zP ?_ | refine zA ?_ | (refine zM ?_; intro _ _) | refine zX ?_ | (refine zC ?_; intro _ _ _ _) | (refine zS ?_; intro _ _) | (apply Ws <;> intro hg))
  refine WR.op (by first | exact gN | exact gS rfl) rfl (OpV.conv u8k i64k rfl (c := (x : Int)) (IntWalk.i64_in _ (by omega))) ?_
  have hmod := Nat.mod_lt x (show 0 < most by omega)
  repeat' (first | refine zP ?_ | refine zA ?_ | (refine zM ?_; intro _ _) | refine zX ?_ | (refine zC ?_; intro _ _ _ _) | (refine zS ?_; intro _ _) | (apply Ws <;> intro hg))
  rw [show (x : Int) % (most : Int) = ((x % most : Nat) : Int) by simp]
  obtain ⟨r, hr⟩ : ∃ r, x % most = r := ⟨_, rfl⟩
  rw [hr] at hmod ⊢
  repeat' (first | refine zP ?_ | refine zA ?_ | (refine zM ?_; intro _ _) | refine zX ?_ | (refine zC ?_; intro _ _ _ _) | (refine zS ?_; intro _ _) | (apply Ws <;> intro hg))
  rw [show (1 : Int) + (r : Int) = ((1 + r : Nat) : Int) by omega]
  have hmade : madeO x by_ most = (drawO by_ (1 + r) (1 + r)).1 := by unfold madeO; rw [hr]
  rw [hmade]
  obtain ⟨n, hn⟩ : ∃ n, 1 + r = n := ⟨_, rfl⟩
  rw [hn]
  have hn7 : 1 ≤ n ∧ n ≤ 7 := by omega
  clear hmade hr hn hmod
  refine WC.loopX [(1, _), (2, _), (4, _), (5, _), (7, .slice none 0 0), (17, _)] (fun z : KM => [(18, .int .i64 (z.k : Int)), (6, z.v)]) [] (fun z H' => z.k ≤ n ∧ ((z.k = 0 ∧ z.v = .slice none 0 0 ∧ z.Mx = []) ∨ OwnR 3 1 z.v (nodes (List.range z.k)) z.Mx) ∧ n0 + 1 ≤ z.n ∧ hasH (z.Mx ++ ((n0, .row 50 0 0 (numsK .u8 (x :: by_))) :: M)) z.n H') (fun z => n - z.k) ⟨0, .slice none 0 0, [], n0 + 1⟩ (by repeat' (first | exact .nil | refine .cons rfl ?_)) rfl ⟨Nat.zero_le _, .inl ⟨rfl, rfl, rfl⟩, Nat.le_refl _, hH1⟩ ?_
  clear hH hH1
  rintro ⟨k, v, Mx, n1⟩ H2 ⟨hk, hO, hn1, hH⟩
  simp only at hk hO hn1 hH
  dsimp only [List.cons_append, List.nil_append]
  repeat' (first | refine zP ?_ | refine zA ?_ | (refine zM ?_; intro _ _) | refine zX ?_ | (refine zC ?_; intro _ _ _ _) | (refine zS ?_; intro _ _) | (apply Ws <;> intro hg))
  refine WC.condP rfl (fun hlt => ?_) (fun hlt => ?_)
  · have hk' : k < n := by omega
    have hOw : Own 3 1 v (nodes (List.range k)) Mx := by
      rcases hO with ⟨rfl, rfl, rfl⟩ | hO
      · exact .nil
      · exact hO.own
    repeat' (first | refine zP ?_ | refine zA ?_ | (refine zM ?_; intro _ _) | refine zX ?_ | (refine zC ?_; intro _ _ _ _) | (refine zS ?_; intro _ _) | (apply Ws <;> intro hg))
    refine WR.append1RF [] Mx _ rfl rfl rfl rfl hOw hH (new := [.int .i64 (k : Int)]) rfl rfl rfl (Nat.le_refl _) (by decide) (by simp; omega) fun v' Mx' n' H' h1 h2 h3 => ?_
    repeat' (first | refine zP ?_ | refine zA ?_ | (refine zM ?_; intro _ _) | refine zX ?_ | (refine zC ?_; intro _ _ _ _) | (refine zS ?_; intro _ _) | (apply Ws <;> intro hg))
    refine Ends.loop ⟨k + 1, v', Mx', n'⟩ (by simp only; omega) (by repeat' (first | exact .nil | refine .cons rfl ?_)) rfl ⟨hk', .inr ?_, by simp only; omega, h2⟩
    have : nodes (List.range (k + 1)) = nodes (List.range k) ++ [.int .i64 (k : Int)] := by rw [List.range_succ, nodes_snoc]
    simp only [this]; exact h1
  · have hkn : k = n := by omega
    subst hkn
    rcases hO with ⟨h0, _⟩ | hO
    · omega
    generalize hcs : nodes (List.range k) = cs at hO
    cases hO with
    | mk hl =>
    rename_i b u o len
    subst hcs
    have hlen : len = k := by simp at hl; omega
    subst hlen
    rw [nodes_IL] at hH
    repeat' (first | refine zP ?_ | refine zA ?_ | (refine zM ?_; intro _ _) | refine zX ?_ | (refine zC ?_; intro _ _ _ _) | (refine zS ?_; intro _ _) | (apply Ws <;> intro hg))
    refine WC.loopX [(1, _), (2, _), (4, _), (5, _), (26, _)] (fun z : KN => [(27, .int .i64 (z.k : Int)), (6, .slice (some ⟨b, o, some u⟩) (len - z.k) z.cp), (7, z.ov)]) []
      (fun z H' => z.k ≤ len ∧ capR z.cp (len - z.k) z.R ∧ z.ys.length = len ∧ z.ys.take (len - z.k) = IL (drawO by_ len z.k).2 ∧ Own 3 1 z.ov (nodes (drawO by_ len z.k).1) z.Mo ∧ n0 ≤ z.n ∧ hasH ((b, .row 3 u o (ints z.ys)) :: (z.Mo ++ ((n0, .row 50 0 0 (numsK .u8 (x :: by_))) :: M))) z.n H') (fun z => len - z.k)
      ⟨0, 2 * 1, len, IL (List.range len), .slice none 0 0, [], n1⟩ (by repeat' (first | exact .nil | refine .cons rfl ?_)) rfl ⟨Nat.zero_le _, .inl ⟨rfl, rfl⟩, by simp [IL], by simp only [drawO, Nat.sub_zero]; rw [List.take_of_length_le (by simp [IL])], .nil, by simp only; omega, hH⟩ ?_
    clear hH
    rintro ⟨k, cp, R, ys, ov, Mo, n2⟩ H3 ⟨hk, hc, hyl, hy, hO, hn2, hH⟩
    simp only at hk hc hyl hy hO hn2 hH
    obtain ⟨q1, q2, _⟩ := drawO_props by_ len k hk
    have hdr := drawO_succ by_ len k
    dsimp only [List.cons_append, List.nil_append]
    repeat' (first | refine zP ?_ | refine zA ?_ | (refine zM ?_; intro _ _) | refine zX ?_ | (refine zC ?_; intro _ _ _ _) | (refine zS ?_; intro _ _) | (apply Ws <;> intro hg))
    refine WC.condP rfl (fun hlt2 => ?_) (fun hlt2 => ?_)
    · have hk' : k < len := by omega
      have hby : by_.getD k 0 ≤ 255 := hb _ (getD_mem (by omega))
      have hSl := sl_left (.head _) hc (by omega) hy (M := (b, .row 3 u o (ints ys)) :: (Mo ++ ((n0, .row 50 0 0 (numsK .u8 (x :: by_))) :: M)))
      have hgk : (numsK .u8 (x :: by_))[1 + k]? = some (.int .u8 ((by_.getD k 0 : Nat) : Int)) := by
        rw [getD_numsK (by simp; omega), show 1 + k = k + 1 by omega]; rfl
      repeat' (first | refine zP ?_ | refine zA ?_ | (refine zM ?_; intro _ _) | refine zX ?_ | (refine zC ?_; intro _ _ _ _) | (refine zS ?_; intro _ _) | (apply Ws <;> intro hg))
      refine WR.op (by first | exact gN | exact gS rfl) rfl (OpV.load1 rfl hH (List.mem_cons_of_mem _ (List.mem_append_right _ (.head _))) (.row _ _ _ _) (Nat.zero_le _) hgk) ?_
      refine WR.op (by first | exact gN | exact gS rfl) rfl (OpV.conv u8k i64k rfl (c := ((by_.getD k 0 : Nat) : Int)) (IntWalk.i64_in _ (by omega))) ?_
      generalize by_.getD k 0 = y at hby hdr ⊢
      rw [q2] at hdr
      have hmod := Nat.mod_lt y (show 0 < len - k by omega)
      repeat' (first | refine zP ?_ | refine zR ?_ | (refine zM ?_; intro _ _) | refine zX ?_ | (refine zC ?_; intro _ _ _ _) | (refine zS ?_; intro _ _))
      rw [show (y : Int) % (((len - k) : Nat) : Int) = ((y % (len - k) : Nat) : Int) by simp]
      generalize y % (len - k) = j at hmod hdr ⊢
      obtain ⟨lv, hlv⟩ : ∃ lv, Value.slice (some ⟨b, o, some u⟩) (len - k) cp = lv := ⟨_, rfl⟩
      rw [hlv] at hSl ⊢
      repeat' (first | refine zP ?_ | refine zA ?_ | (refine zM ?_; intro _ _) | refine zX ?_ | (refine zC ?_; intro _ _ _ _) | (refine zS ?_; intro _ _) | (apply Ws <;> intro hg))
      rw [← hlv]
      refine WR.append1F [(b, .row 3 u o (ints ys))] Mo _ rfl rfl rfl rfl hO hH (new := [.int .i64 (((drawO by_ len k).2.getD j 0 : Nat) : Int)]) rfl rfl rfl (Nat.le_refl _) (by decide) (by simp; omega) fun v' Mx' n' H' h1 h2 h3 => ?_
      repeat' (first | refine zP ?_ | refine zA ?_ | (refine zM ?_; intro _ _) | refine zX ?_ | (refine zC ?_; intro _ _ _ _) | (refine zS ?_; intro _ _) | (apply Ws <;> intro hg))
      replace h2 : hasH ((b, .row 3 u o (ints ys)) :: (Mx' ++ ((n0, .row 50 0 0 (numsK .u8 (x :: by_))) :: M))) n' H' := h2
      refine WR.call (by first | exact gN | exact gS rfl) rfl rfl (Delete_fs (i := j) (j := j + 1) h2 hc (by omega) (Nat.lt_succ_self j) (by omega) (by omega)) ?_
      rintro _ H5 ⟨zs, rfl, hH5, hzl, hz⟩
      rw [show len - k - (j + 1 - j) = len - (k + 1) by omega] at hz ⊢
      have hR := hc.le
      repeat' (first | refine zP ?_ | refine zA ?_ | (refine zM ?_; intro _ _) | refine zX ?_ | (refine zC ?_; intro _ _ _ _) | (refine zS ?_; intro _ _) | (apply Ws <;> intro hg))
      refine Ends.loop ⟨k + 1, roomCode 1 R, R, zs, v', Mx', n'⟩ (by simp only; omega) (by repeat' (first | exact .nil | refine .cons rfl ?_)) rfl ⟨hk', .inr ⟨rfl, by simp only; omega⟩, by simp only; omega, ?_, ?_, by simp only; omega, hH5⟩
      · simp only
        rw [hz, hdr, hy, IL_erase]
        congr 1
        have := congrArg (List.take j) hy
        rw [List.take_take, Nat.min_eq_left (by omega)] at this
        exact this
      · simp only
        rw [hdr, nodes_snoc]; exact h1
    · have hkl : k = len := by omega
      subst hkl
      repeat' (first | refine zP ?_ | refine zA ?_ | (refine zM ?_; intro _ _) | refine zX ?_ | (refine zC ?_; intro _ _ _ _) | (refine zS ?_; intro _ _) | (apply Ws <;> intro hg))
      exact Ends.ret1 rfl ⟨Mo, n2, hO, hn2, (hH.sub (List.sublist_cons_self _ _)).sub (List.Sublist.append_left (List.sublist_cons_self _ _) _)⟩
end
end Go.Proofs.Ytfnflkcjhefddaa.Lk

/- A barge less. -/
namespace Go.Proofs.Ytfnflkcjhefddaa.Lk
open Go Go.Abs Go.Mth
set_option linter.unusedVariables false
set_option linter.unusedSimpArgs false
def dn (g x : Nat) : Nat := if x < g then x else x - 1
/-- Without a barge: the greater ones are numbered anew. -/
def lessO (g : Nat) (o : List Nat) : List Nat := (o.filter fun x => decide (x ≠ g)).map (dn g)
def del {α : Type} (p : Nat) (l : List α) : List α := l.take p ++ l.drop (p + 1)
def up (p a : Nat) : Nat := if a < p then a else a + 1
theorem del_len {α : Type} {p : Nat} {l : List α} (h : p < l.length) : (del p l).length = l.length - 1 := by
  simp [del]; omega
theorem del_get {p a : Nat} {l : List Nat} (h : p < l.length) : (del p l).getD a 0 = l.getD (up p a) 0 := by
  unfold del up
  simp only [List.getD_eq_getElem?_getD]
  by_cases ha : a < p
  · rw [if_pos ha, List.getElem?_append_left (by simp; omega), List.getElem?_take_of_lt ha]
  · rw [if_neg ha, List.getElem?_append_right (by simp; omega), List.getElem?_drop]
    congr 2
    simp; omega
theorem filter_del {o : List Nat} (hn : o.Nodup) {p : Nat} (hp : p < o.length) : (o.filter fun x => decide (x ≠ o.getD p 0)) = del p o := by
  have h1 : o = o.take p ++ o.getD p 0 :: o.drop (p + 1) := by
    rw [getD_eq hp, ← List.drop_eq_getElem_cons hp, List.take_append_drop]
  generalize hg : o.getD p 0 = g at *
  have h2 : ∀ x ∈ o.take p, x ≠ g := fun x hx e => by
    obtain ⟨i, q1, q2, q3⟩ := mem_take hx
    have := nodup_get hn q2 hp (by rw [q3, e, hg])
    omega
  have h3 : ∀ x ∈ o.drop (p + 1), x ≠ g := fun x hx e => by
    obtain ⟨i, q1, q2⟩ := mem_get hx
    simp only [List.length_drop] at q1
    rw [List.getD_eq_getElem?_getD, List.getElem?_drop, ← List.getD_eq_getElem?_getD] at q2
    have := nodup_get hn (show p + 1 + i < o.length by omega) hp (by rw [q2, e, hg])
    omega
  conv => lhs; rw [h1]
  rw [List.filter_append, List.filter_cons_of_neg (by simp), List.filter_eq_self.2 (fun x hx => by simpa using h2 x hx), List.filter_eq_self.2 (fun x hx => by simpa using h3 x hx)]
  rfl
theorem lessO_eq {o : List Nat} (hn : o.Nodup) {p : Nat} (hp : p < o.length) : lessO (o.getD p 0) o = (del p o).map (dn (o.getD p 0)) := by
  unfold lessO; rw [filter_del hn hp]
theorem up_lt {p a b : Nat} (h : a < b) : up p a < up p b := by unfold up; split <;> split <;> omega
theorem up_ne (p a : Nat) : up p a ≠ p := by unfold up; split <;> omega
theorem dn_lt {g x y : Nat} (h : dn g x < dn g y) : x < y := by unfold dn at h; split at h <;> split at h <;> omega
theorem less_get {o : List Nat} (hn : o.Nodup) {p a : Nat} (hp : p < o.length) (ha : a + 1 < o.length) : (lessO (o.getD p 0) o).getD a 0 = dn (o.getD p 0) (o.getD (up p a) 0) := by
  rw [lessO_eq hn hp, ← del_get hp]
  have hl : a < (del p o).length := by rw [del_len hp]; omega
  rw [getD_eq (by simpa using hl), getD_eq hl, List.getElem_map]
theorem less_len {o : List Nat} (hn : o.Nodup) {p : Nat} (hp : p < o.length) : (lessO (o.getD p 0) o).length = o.length - 1 := by
  rw [lessO_eq hn hp, List.length_map, del_len hp]
theorem less_ord {o : List Nat} (ho : OrdN o) {g : Nat} (hg : g < o.length) (h2 : 2 ≤ o.length) : OrdN (lessO g o) := by
  obtain ⟨p, hp, rfl⟩ := mem_get (ho.mem hg)
  have hl := less_len ho.nodup hp
  have h7 := ho.most
  refine ⟨by omega, by omega, fun x hx => ?_, ?_⟩
  · obtain ⟨a, ha, rfl⟩ := mem_get hx
    rw [hl] at ha ⊢
    rw [less_get ho.nodup hp (by omega)]
    have hup : up p a < o.length := by unfold up; split <;> omega
    have := ho.lt _ (getD_mem (a := 0) hup)
    have hne : o.getD (up p a) 0 ≠ o.getD p 0 := fun e => up_ne p a (nodup_get ho.nodup hup hp e)
    unfold dn; split <;> omega
  · rw [List.nodup_iff_pairwise_ne, List.pairwise_iff_getElem]
    intro a b ha hb hab he
    rw [hl] at ha hb
    rw [← getD_eq (a := 0), ← getD_eq (a := 0), less_get ho.nodup hp (by omega), less_get ho.nodup hp (by omega)] at he
    have hua : up p a < o.length := by unfold up; split <;> omega
    have hub : up p b < o.length := by unfold up; split <;> omega
    have h1 : o.getD (up p a) 0 ≠ o.getD p 0 := fun e => up_ne p a (nodup_get ho.nodup hua hp e)
    have h3 : o.getD (up p b) 0 ≠ o.getD p 0 := fun e => up_ne p b (nodup_get ho.nodup hub hp e)
    have h4 : o.getD (up p a) 0 ≠ o.getD (up p b) 0 := fun e => by
      have := nodup_get ho.nodup hua hub e
      have := up_lt (p := p) hab
      omega
    unfold dn at he
    split at he <;> split at he <;> omega
theorem less_clash {o : List Nat} (hn : o.Nodup) {p i j : Nat} (hp : p < o.length) (hj : j + 1 < o.length) (hij : i < j) (h : clashP (lessO (o.getD p 0) o) i j) : clashP o (up p i) (up p j) := by
  obtain ⟨h1, k, h2, h3, h4⟩ := h
  rw [less_len hn hp] at h3
  rw [less_get hn hp (by omega), less_get hn hp (by omega)] at h1 h4
  exact ⟨dn_lt h1, up p k, up_lt h2, by unfold up; split <;> omega, dn_lt h4⟩
/-- What was enough still is. -/
theorem less_asc {o t : List Nat} (ho : OrdN o) {p : Nat} (hp : p < o.length) (h2 : 2 ≤ o.length) (htl : t.length = o.length) (ht : ∀ x ∈ t, x < 2) (h : ascT o t = true) : ascT (lessO (o.getD p 0) o) (del p t) = true := by
  have hl := less_len ho.nodup hp
  have ho2 := less_ord ho (ho.lt _ (getD_mem (a := 0) hp)) h2
  have hup : ∀ a, a + 1 < o.length → up p a < o.length := fun a ha => by unfold up; split <;> omega
  unfold ascT at h ⊢
  rw [decide_eq_true_eq] at h ⊢
  rw [asc_iff ho fun i hi => ht _ (getD_mem (by omega))] at h
  rw [asc_iff ho2 fun i hi => ?_]
  · intro i j hij hj hb hc
    rw [hl] at hj
    rw [del_get (by omega), del_get (by omega)] at hb
    exact h (up p i) (up p j) (up_lt hij) (hup j (by omega)) hb (less_clash ho.nodup hp (by omega) hij hc)
  · rw [hl] at hi
    rw [del_get (by omega)]
    exact ht _ (getD_mem (by rw [htl]; exact hup i (by omega)))
theorem less_sorted {o : List Nat} (ho : OrdN o) {g : Nat} (hg : g < o.length) (h2 : 2 ≤ o.length) (h : ascT o (List.replicate o.length 0) = true) : ascT (lessO g o) (List.replicate (lessO g o).length 0) = true := by
  obtain ⟨p, hp, rfl⟩ := mem_get (ho.mem hg)
  have := less_asc ho hp h2 (by simp) (fun x hx => by rw [(List.mem_replicate.1 hx).2]; decide) h
  have hd : del p (List.replicate o.length 0) = List.replicate (lessO (o.getD p 0) o).length 0 := by
    rw [less_len ho.nodup hp]
    refine List.eq_replicate_iff.2 ⟨by rw [del_len (by simpa using hp)]; simp, fun x hx => ?_⟩
    unfold del at hx
    rcases List.mem_append.1 hx with hx | hx
    · exact (List.mem_replicate.1 ((List.take_sublist _ _).subset hx)).2
    · exact (List.mem_replicate.1 ((List.drop_sublist _ _).subset hx)).2
  rwa [hd] at this
theorem less_two {o : List Nat} (ho : OrdN o) {g : Nat} (hg : g < o.length) (h2 : 2 ≤ o.length) (h : twoL (lessO g o) = none) : twoL o = none := by
  obtain ⟨p, hp, rfl⟩ := mem_get (ho.mem hg)
  unfold twoL at h ⊢
  rw [List.find?_eq_none] at h ⊢
  intro t ht hc
  have h1 := allT_len ht
  have h3 := allT_lt ht
  refine h (del p t) (mem_allT.2 ⟨by rw [del_len (by omega), less_len ho.nodup hp, h1], fun x hx => ?_⟩) (less_asc ho hp h2 h1 h3 hc)
  unfold del at hx
  rcases List.mem_append.1 hx with hx | hx
  · exact h3 _ ((List.take_sublist _ _).subset hx)
  · exact h3 _ ((List.drop_sublist _ _).subset hx)
end Go.Proofs.Ytfnflkcjhefddaa.Lk

/- The law LockFewer. -/
namespace Go.Proofs.Ytfnflkcjhefddaa.Lk
open Go Go.Abs Go.Mth
set_option linter.unusedVariables false
set_option linter.unusedSimpArgs false
theorem lessO_step (g : Nat) (o : List Nat) {k : Nat} (hk : k < o.length) : lessO g (o.take (k + 1)) = if o.getD k 0 = g then lessO g (o.take k) else lessO g (o.take k) ++ [dn g (o.getD k 0)] := by
  unfold lessO
  rw [List.take_succ_eq_append_getElem hk, ← getD_eq (a := 0), List.filter_append, List.map_append]
  by_cases h : o.getD k 0 = g
  · rw [if_pos h, List.filter_cons_of_neg (by simpa using h)]; simp
  · rw [if_neg h, List.filter_cons_of_pos (by simpa using h)]; simp
theorem lessO_len (g : Nat) (o : List Nat) (k : Nat) : (lessO g (o.take k)).length ≤ k := by
  unfold lessO; rw [List.length_map]
  exact Nat.le_trans (List.length_filter_le _ _) (by simp; omega)
attribute [local irreducible] gOK WS WC WR WD Ends FS YS OpV seqK blockK loopK midK retK rdK asgK rangeEnd sat Cell
section
variable {M : HL} {n0 : Nat} {H : Heap} {v w : Value}
theorem sl_own {Mx : HL} {v : Value} {l : List Nat} {T : HL} (h : Own 3 1 v (nodes l) Mx) (k : ∀ q ∈ Mx, q ∈ T) : Sl T 1 v (nodes l) := (h.sl []).mono fun q hq => k q (by simpa using hq)
set_option maxHeartbeats 4000000 in
theorem LockFewer_fs (hH : hasH M n0 H) {x : List Nat} (hxl : x.length = 8) (hx : ∀ y ∈ x, y ≤ 255) {one_ : Nat} (h1 : one_ ≤ 255) :
    FS C 13 [.agg (numsK .u8 x).toArray, .int .u8 (one_ : Int)] H (fun e H' => e = .bool true) := by
  obtain ⟨x, by_, rfl⟩ : ∃ a l, x = a :: l := by
    cases x with
    | nil => simp at hxl
    | cons a l => exact ⟨a, l, rfl⟩
  have hbl : by_.length = 7 := by simpa using hxl
  have hx0 := hx x (by simp)
  have hb : ∀ y ∈ by_, y ≤ 255 := fun y hy => hx y (by simp [hy])
  have hone : (numsK .u8 (x :: by_)).all one = true := by rw [List.all_eq_true]; intro q hq; obtain ⟨z, _, rfl⟩ := List.mem_map.1 hq; rfl
  have hsl : (numsK .u8 (x :: by_)).length = 8 := by simp [numsK, hbl]
  have hfin : ∀ {H' : Heap}, FS C 15 [] H' (fun e H'' => e = .bool true ∧ H'' = H') := fun {H'} => FS.works ⟨rfl, rfl⟩
  refine FS.intro (pf := pf13) rfl rfl rfl ?_
  refine WC.seq ?_
  refine WC.region ?_
  refine WR.boxA (cs := numsK .u8 (x :: by_)) (by first | exact gN | exact gS rfl) rfl hH rfl hone fun H1 hH1 => ?_
  repeat' (first | refine zP ?_ | refine zA ?_ | (refine zM ?_; intro _ _) | refine zX ?_ | (refine zC ?_; intro _ _ _ _) | (refine zS ?_; intro _ _) | (apply Ws <;> intro hg))
  refine WR.call (by first | exact gN | exact gS rfl) rfl rfl (made_fs (most := 7) hH1 hx0 hbl hb (by decide) (by decide)) ?_
  rintro v H2 ⟨Mx, n2, hO, hn2, hH2⟩
  obtain ⟨hord, hol⟩ := madeO_ord (x := x) (most := 7) by_ (by decide) (by decide)
  generalize madeO x by_ 7 = o at hO hord hol
  have ho2 := sl_own (T := Mx ++ ((n0, .row 50 0 0 (numsK .u8 (x :: by_))) :: M)) hO fun q hq => List.mem_append_left _ hq
  generalize Mx ++ ((n0, .row 50 0 0 (numsK .u8 (x :: by_))) :: M) = X at hH2 ho2
  have h7 := hord.most
  have h1o := hord.one
  have hv := ho2.one_
  clear hH hH1 hO
  repeat' (first | refine zP ?_ | refine zA ?_ | (refine zM ?_; intro _ _) | refine zX ?_ | (refine zC ?_; intro _ _ _ _) | (refine zS ?_; intro _ _) | (apply Ws <;> intro hg))
  refine WC.condP rfl (fun hn1 => ?_) (fun hn1 => ?_)
  · repeat' (first | refine zP ?_ | refine zA ?_ | (refine zM ?_; intro _ _) | refine zX ?_ | (refine zC ?_; intro _ _ _ _) | (refine zS ?_; intro _ _) | (apply Ws <;> intro hg))
    refine WR.call (by first | exact gN | exact gS rfl) rfl rfl hfin ?_
    rintro _ _ ⟨rfl, rfl⟩
    repeat' (first | refine zP ?_ | refine zA ?_ | (refine zM ?_; intro _ _) | refine zX ?_ | (refine zC ?_; intro _ _ _ _) | (refine zS ?_; intro _ _) | (apply Ws <;> intro hg))
    exact Ends.ret1 rfl rfl
  · repeat' (first | refine zP ?_ | refine zA ?_ | (refine zM ?_; intro _ _) | refine zX ?_ | (refine zC ?_; intro _ _ _ _) | (refine zS ?_; intro _ _) | (apply Ws <;> intro hg))
    refine WR.op (by first | exact gN | exact gS rfl) rfl (OpV.conv u8k i64k rfl (c := (one_ : Int)) (IntWalk.i64_in _ (by omega))) ?_
    have hmod := Nat.mod_lt one_ (show 0 < o.length by omega)
    repeat' (first | refine zP ?_ | refine zR ?_ | (refine zM ?_; intro _ _) | refine zX ?_ | (refine zC ?_; intro _ _ _ _) | (refine zS ?_; intro _ _))
    rw [show (one_ : Int) % ((o.length : Nat) : Int) = ((one_ % o.length : Nat) : Int) by simp]
    generalize one_ % o.length = g at hmod ⊢
    repeat' (first | refine zP ?_ | refine zA ?_ | (refine zM ?_; intro _ _) | refine zX ?_ | (refine zC ?_; intro _ _ _ _) | (refine zS ?_; intro _ _) | (apply Ws <;> intro hg))
    clear hsl hone hb hbl hx hxl hx0
    have h2o : 2 ≤ o.length := by omega
    refine WC.loopX [(2, _), (5, _), (6, _), (7, _), (30, _), (31, _)] (fun z : UX => [(32, .int .i64 (z.k : Int)), (8, z.v)]) [] (fun z H' => z.k ≤ o.length ∧ Own 3 1 z.v (nodes (lessO g (o.take z.k))) z.Mx ∧ n2 ≤ z.n ∧ hasH (z.Mx ++ X) z.n H') (fun z => o.length - z.k) ⟨0, .slice none 0 0, [], n2⟩ (by repeat' (first | exact .nil | refine .cons rfl ?_)) rfl ⟨Nat.zero_le _, .nil, Nat.le_refl _, hH2⟩ ?_
    clear hH2
    rintro ⟨k, v8, Mx, n3⟩ H3 ⟨hk, hO, hn3, hH⟩
    simp only at hk hO hn3 hH
    have hS := ho2.mono fun q hq => List.mem_append_right Mx hq
    have hll := lessO_len g o k
    dsimp only [List.cons_append, List.nil_append]
    repeat' (first | refine zP ?_ | refine zA ?_ | (refine zM ?_; intro _ _) | refine zX ?_ | (refine zC ?_; intro _ _ _ _) | (refine zS ?_; intro _ _) | (apply Ws <;> intro hg))
    refine WC.condP rfl (fun hlt => ?_) (fun hlt => ?_)
    · have hk' : k < o.length := by omega
      have hst := lessO_step g o hk'
      have hlo := hord.lt _ (getD_mem (a := 0) hk')
      repeat' (first | refine zP ?_ | refine zA ?_ | (refine zM ?_; intro _ _) | refine zX ?_ | (refine zC ?_; intro _ _ _ _) | (refine zS ?_; intro _ _) | (apply Ws <;> intro hg))
      generalize o.getD k 0 = y at hst hlo ⊢
      refine WC.condP rfl (fun hy => ?_) (fun hy => ?_)
      · have hy' : y < g := by omega
        rw [if_neg (by omega)] at hst
        repeat' (first | refine zP ?_ | refine zA ?_ | (refine zM ?_; intro _ _) | refine zX ?_ | (refine zC ?_; intro _ _ _ _) | (refine zS ?_; intro _ _) | (apply Ws <;> intro hg))
        refine WR.append1F [] Mx X rfl rfl rfl rfl hO hH (new := [.int .i64 (y : Int)]) rfl rfl rfl (Nat.le_refl _) (by decide) (by simp; omega) fun v' Mx' n' H' q1 q2 q3 => ?_
        repeat' (first | refine zP ?_ | refine zA ?_ | (refine zM ?_; intro _ _) | refine zX ?_ | (refine zC ?_; intro _ _ _ _) | (refine zS ?_; intro _ _) | (apply Ws <;> intro hg))
        refine Ends.loop ⟨k + 1, v', Mx', n'⟩ (by simp only; omega) (by repeat' (first | exact .nil | refine .cons rfl ?_)) rfl ⟨hk', ?_, by simp only; omega, q2⟩
        simp only
        rw [hst, nodes_snoc, dn, if_pos hy']; exact q1
      · repeat' (first | refine zP ?_ | refine zA ?_ | (refine zM ?_; intro _ _) | refine zX ?_ | (refine zC ?_; intro _ _ _ _) | (refine zS ?_; intro _ _) | (apply Ws <;> intro hg))
        refine WC.condP rfl (fun hy2 => ?_) (fun hy2 => ?_)
        · rw [if_neg (by omega)] at hst
          repeat' (first | refine zP ?_ | refine zA ?_ | (refine zM ?_; intro _ _) | refine zX ?_ | (refine zC ?_; intro _ _ _ _) | (refine zS ?_; intro _ _) | (apply Ws <;> intro hg))
          rw [show (y : Int) - 1 = ((y - 1 : Nat) : Int) by omega]
          refine WR.append1F [] Mx X rfl rfl rfl rfl hO hH (new := [.int .i64 ((y - 1 : Nat) : Int)]) rfl rfl rfl (Nat.le_refl _) (by decide) (by simp; omega) fun v' Mx' n' H' q1 q2 q3 => ?_
          repeat' (first | refine zP ?_ | refine zA ?_ | (refine zM ?_; intro _ _) | refine zX ?_ | (refine zC ?_; intro _ _ _ _) | (refine zS ?_; intro _ _) | (apply Ws <;> intro hg))
          refine Ends.loop ⟨k + 1, v', Mx', n'⟩ (by simp only; omega) (by repeat' (first | exact .nil | refine .cons rfl ?_)) rfl ⟨hk', ?_, by simp only; omega, q2⟩
          simp only
          rw [hst, nodes_snoc, dn, if_neg (by omega)]; exact q1
        · rw [if_pos (by omega)] at hst
          repeat' (first | refine zP ?_ | refine zA ?_ | (refine zM ?_; intro _ _) | refine zX ?_ | (refine zC ?_; intro _ _ _ _) | (refine zS ?_; intro _ _) | (apply Ws <;> intro hg))
          refine Ends.loop ⟨k + 1, v8, Mx, n3⟩ (by simp only; omega) (by repeat' (first | exact .nil | refine .cons rfl ?_)) rfl ⟨hk', ?_, by simp only; omega, hH⟩
          simp only
          rw [hst]; exact hO
    · have hkn : k = o.length := by omega
      subst hkn
      rw [List.take_length] at hO
      have hless := less_ord hord hmod h2o
      have hsrt := less_sorted hord hmod h2o
      have htwo := less_two hord hmod h2o
      have hS8 := sl_own (T := Mx ++ X) hO fun q hq => List.mem_append_left _ hq
      generalize lessO g o = o2 at hless hsrt htwo hS8
      generalize Mx ++ X = Y at hH hS hS8
      have hv8 := hS8.one_
      clear hO ho2
      repeat' (first | refine zP ?_ | refine zA ?_ | (refine zM ?_; intro _ _) | refine zX ?_ | (refine zC ?_; intro _ _ _ _) | (refine zS ?_; intro _ _) | (apply Ws <;> intro hg))
      refine WR.call (by first | exact gN | exact gS rfl) rfl rfl (Sorted_fs hH hS hord) ?_
      rintro _ H4 ⟨n4, rfl, hn4, hH4⟩
      repeat' (first | refine zP ?_ | refine zA ?_ | (refine zM ?_; intro _ _) | refine zX ?_ | (refine zC ?_; intro _ _ _ _) | (refine zS ?_; intro _ _) | (apply Ws <;> intro hg))
      refine WR.call (by first | exact gN | exact gS rfl) rfl rfl (Sorted_fs hH4 hS8 hless) ?_
      rintro _ H5 ⟨n5, rfl, hn5, hH5⟩
      repeat' (first | refine zP ?_ | refine zA ?_ | (refine zM ?_; intro _ _) | refine zX ?_ | (refine zC ?_; intro _ _ _ _) | (refine zS ?_; intro _ _) | (apply Ws <;> intro hg))
      refine WR.call (by first | exact gN | exact gS rfl) rfl rfl (Two_fs hH5 hS hord) ?_
      rintro e6 H6 ⟨M6, n6, u6, hn6, hH6, h6⟩
      clear hH hH4 hH5
      replace hS8 := hS8.mono fun q hq => List.mem_append_right M6 hq
      have hp6 : (∃ u, e6 = .tuple #[u, .int .i64 0] ∧ twoL o ≠ none) ∨ (∃ u, e6 = .tuple #[u, .int .i64 12] ∧ twoL o = none) := by
        rcases h6 with ⟨z, q1, _, q3⟩ | ⟨q1, q2⟩
        · exact .inl ⟨_, q3, by rw [q1]; simp⟩
        · exact .inr ⟨_, q2, q1⟩
      clear h6
      generalize ascT o (List.replicate o.length 0) = a at hsrt ⊢
      generalize ascT o2 (List.replicate o2.length 0) = b at hsrt ⊢
      have hord2 : ∀ {c : Value}, FS C 39 [v8] H6 (fun e H' => (∃ u, e = .tuple #[u, .int .i64 0] ∧ twoL o2 ≠ none) ∨ (∃ u, e = .tuple #[u, .int .i64 12] ∧ twoL o2 = none)) := by
        intro _
        refine (Two_fs hH6 hS8 hless).mono ?_
        rintro e H' ⟨_, _, u, _, _, ⟨z, q1, _, q3⟩ | ⟨q1, q2⟩⟩
        · exact .inl ⟨_, q3, by rw [q1]; simp⟩
        · exact .inr ⟨_, q2, q1⟩
      rcases hp6 with ⟨u, rfl, h6⟩ | ⟨u, rfl, h6⟩
      · repeat' (first | refine zP ?_ | refine zA ?_ | (refine zM ?_; intro _ _) | refine zX ?_ | (refine zC ?_; intro _ _ _ _) | (refine zS ?_; intro _ _) | (apply Ws <;> intro hg))
        refine WR.call (by first | exact gN | exact gS rfl) rfl rfl (hord2 (c := u)) ?_
        rintro _ H7 (⟨u7, rfl, h8⟩ | ⟨u7, rfl, h8⟩)
        · cases a <;> cases b
          · repeat' (first | refine zP ?_ | refine zA ?_ | (refine zM ?_; intro _ _) | refine zX ?_ | (refine zC ?_; intro _ _ _ _) | (refine zS ?_; intro _ _) | refine zO ?_ | (apply Ws <;> intro hg))
            refine WR.call (by first | exact gN | exact gS rfl) rfl rfl hfin ?_
            rintro _ _ ⟨rfl, rfl⟩
            repeat' (first | refine zP ?_ | refine zA ?_ | (refine zM ?_; intro _ _) | refine zX ?_ | (refine zC ?_; intro _ _ _ _) | (refine zS ?_; intro _ _) | (apply Ws <;> intro hg))
            exact Ends.ret1 rfl rfl
          · repeat' (first | refine zP ?_ | refine zA ?_ | (refine zM ?_; intro _ _) | refine zX ?_ | (refine zC ?_; intro _ _ _ _) | (refine zS ?_; intro _ _) | refine zO ?_ | (apply Ws <;> intro hg))
            refine WR.call (by first | exact gN | exact gS rfl) rfl rfl hfin ?_
            rintro _ _ ⟨rfl, rfl⟩
            repeat' (first | refine zP ?_ | refine zA ?_ | (refine zM ?_; intro _ _) | refine zX ?_ | (refine zC ?_; intro _ _ _ _) | (refine zS ?_; intro _ _) | (apply Ws <;> intro hg))
            exact Ends.ret1 rfl rfl
          · exact absurd (hsrt rfl) (by decide)
          · repeat' (first | refine zP ?_ | refine zA ?_ | (refine zM ?_; intro _ _) | refine zX ?_ | (refine zC ?_; intro _ _ _ _) | (refine zS ?_; intro _ _) | refine zO ?_ | (apply Ws <;> intro hg))
            refine WR.call (by first | exact gN | exact gS rfl) rfl rfl hfin ?_
            rintro _ _ ⟨rfl, rfl⟩
            repeat' (first | refine zP ?_ | refine zA ?_ | (refine zM ?_; intro _ _) | refine zX ?_ | (refine zC ?_; intro _ _ _ _) | (refine zS ?_; intro _ _) | (apply Ws <;> intro hg))
            exact Ends.ret1 rfl rfl
        · exact absurd (htwo h8) h6
      · repeat' (first | refine zP ?_ | refine zA ?_ | (refine zM ?_; intro _ _) | refine zX ?_ | (refine zC ?_; intro _ _ _ _) | (refine zS ?_; intro _ _) | (apply Ws <;> intro hg))
        refine WR.call (by first | exact gN | exact gS rfl) rfl rfl (hord2 (c := u)) ?_
        rintro _ H7 (⟨u7, rfl, h8⟩ | ⟨u7, rfl, h8⟩)
        · cases a <;> cases b
          · repeat' (first | refine zP ?_ | refine zA ?_ | (refine zM ?_; intro _ _) | refine zX ?_ | (refine zC ?_; intro _ _ _ _) | (refine zS ?_; intro _ _) | refine zO ?_ | (apply Ws <;> intro hg))
            refine WR.call (by first | exact gN | exact gS rfl) rfl rfl hfin ?_
            rintro _ _ ⟨rfl, rfl⟩
            repeat' (first | refine zP ?_ | refine zA ?_ | (refine zM ?_; intro _ _) | refine zX ?_ | (refine zC ?_; intro _ _ _ _) | (refine zS ?_; intro _ _) | (apply Ws <;> intro hg))
            exact Ends.ret1 rfl rfl
          · repeat' (first | refine zP ?_ | refine zA ?_ | (refine zM ?_; intro _ _) | refine zX ?_ | (refine zC ?_; intro _ _ _ _) | (refine zS ?_; intro _ _) | refine zO ?_ | (apply Ws <;> intro hg))
            refine WR.call (by first | exact gN | exact gS rfl) rfl rfl hfin ?_
            rintro _ _ ⟨rfl, rfl⟩
            repeat' (first | refine zP ?_ | refine zA ?_ | (refine zM ?_; intro _ _) | refine zX ?_ | (refine zC ?_; intro _ _ _ _) | (refine zS ?_; intro _ _) | (apply Ws <;> intro hg))
            exact Ends.ret1 rfl rfl
          · exact absurd (hsrt rfl) (by decide)
          · repeat' (first | refine zP ?_ | refine zA ?_ | (refine zM ?_; intro _ _) | refine zX ?_ | (refine zC ?_; intro _ _ _ _) | (refine zS ?_; intro _ _) | refine zO ?_ | (apply Ws <;> intro hg))
            refine WR.call (by first | exact gN | exact gS rfl) rfl rfl hfin ?_
            rintro _ _ ⟨rfl, rfl⟩
            repeat' (first | refine zP ?_ | refine zA ?_ | (refine zM ?_; intro _ _) | refine zX ?_ | (refine zC ?_; intro _ _ _ _) | (refine zS ?_; intro _ _) | (apply Ws <;> intro hg))
            exact Ends.ret1 rfl rfl
        · cases a <;> cases b
          · repeat' (first | refine zP ?_ | refine zA ?_ | (refine zM ?_; intro _ _) | refine zX ?_ | (refine zC ?_; intro _ _ _ _) | (refine zS ?_; intro _ _) | refine zO ?_ | (apply Ws <;> intro hg))
            refine WR.call (by first | exact gN | exact gS rfl) rfl rfl hfin ?_
            rintro _ _ ⟨rfl, rfl⟩
            repeat' (first | refine zP ?_ | refine zA ?_ | (refine zM ?_; intro _ _) | refine zX ?_ | (refine zC ?_; intro _ _ _ _) | (refine zS ?_; intro _ _) | (apply Ws <;> intro hg))
            exact Ends.ret1 rfl rfl
          · repeat' (first | refine zP ?_ | refine zA ?_ | (refine zM ?_; intro _ _) | refine zX ?_ | (refine zC ?_; intro _ _ _ _) | (refine zS ?_; intro _ _) | refine zO ?_ | (apply Ws <;> intro hg))
            refine WR.call (by first | exact gN | exact gS rfl) rfl rfl hfin ?_
            rintro _ _ ⟨rfl, rfl⟩
            repeat' (first | refine zP ?_ | refine zA ?_ | (refine zM ?_; intro _ _) | refine zX ?_ | (refine zC ?_; intro _ _ _ _) | (refine zS ?_; intro _ _) | (apply Ws <;> intro hg))
            exact Ends.ret1 rfl rfl
          · exact absurd (hsrt rfl) (by decide)
          · repeat' (first | refine zP ?_ | refine zA ?_ | (refine zM ?_; intro _ _) | refine zX ?_ | (refine zC ?_; intro _ _ _ _) | (refine zS ?_; intro _ _) | refine zO ?_ | (apply Ws <;> intro hg))
            refine WR.call (by first | exact gN | exact gS rfl) rfl rfl hfin ?_
            rintro _ _ ⟨rfl, rfl⟩
            repeat' (first | refine zP ?_ | refine zA ?_ | (refine zM ?_; intro _ _) | refine zX ?_ | (refine zC ?_; intro _ _ _ _) | (refine zS ?_; intro _ _) | (apply Ws <;> intro hg))
            exact Ends.ret1 rfl rfl
end
end Go.Proofs.Ytfnflkcjhefddaa.Lk
