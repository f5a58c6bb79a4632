/- Texts of the law, joined. -/
import Derived.Test.YtnmlfjohoeebiaaJ3
import Derived.Test.YtnmlfjohoeebiaaJ1
/- From where on the first walk repeats itself. -/
namespace Go.Abs
set_option linter.unusedSectionVars false
variable [Globs]
open Go
section
variable {C : CW} {nt : Nat} {L : Env} {D : List Nat} {H : Heap} {K : St → Prop} {M M' : HL} {n i d : Nat} {gd : Option (Tmp × Bool)} {lo' : List Nat} {l : List POp}
/-- A beginning, behind which nothing is within reach. -/
theorem Sl.cutM {v : Value} {l : List Value} (hS : Sl M 1 v l) {m : Nat} (hm : m < l.length) : ∃ base len cap v', v = .slice base len cap ∧ Sl M 1 v' (l.take m) ∧ RdS M v' ∧
      (∀ lo hi kd, loOf lo = some 0 → hiOf len (some hi) = some m → sliceA 1 base len (capOf base cap) lo (some hi) (some (.int kd (m : Int))) = some v') := by
  cases hS with
  | nil c => simp at hm
  | emp a0 => simp at hm
  | row hm2 hc hlo hl hv hin hp =>
    rename_i bk o u lo' len cap ch cs
    have hll : l.length = len := by omega
    have hsub : (cs.drop (o - lo')).take (l.take m).length = l.take m := by
      rw [List.length_take, Nat.min_eq_left (by omega)]
      have h0 : l.take m = ((cs.drop (o - lo')).take l.length).take m := by rw [hv]
      rw [h0, List.take_take, Nat.min_eq_left (by omega)]
    have hbnd : o - lo' + (l.take m).length ≤ cs.length := by rw [List.length_take]; omega
    have hlm : (l.take m).length = m * 1 := by rw [List.length_take]; omega
    have hk : ∀ h, cutKnown 1 (some ⟨bk, o, some u⟩) 0 h m = some (.slice (some ⟨bk, o, some u⟩) (h - 0) (2 * m + 1)) := fun h => by
      have : (bif Nat.beq m 0 then (⟨bk, o, some u⟩ : Addr) else Addr.plus ⟨bk, o, some u⟩ (0 * 1)) = ⟨bk, o, some u⟩ := by
        cases Nat.beq m 0 <;> rfl
      simp only [cutKnown, this, Nat.sub_zero]
    have hb0 : Nat.beq len 0 = false := by cases hb : Nat.beq len 0 with | false => rfl | true => have := Nat.eq_of_beq_eq_true hb; omega
    refine ⟨_, len, _, .slice (some ⟨bk, o, some u⟩) m (2 * m + 1), rfl, ?_, .inr ⟨_, _, _, _, _, _, _, _, rfl, hm2, hc, hlo, by omega⟩, fun lo hi kd h1 h2 => ?_⟩
    · exact .row hm2 hc hlo hlm hsub hbnd (.inr ⟨m, rfl, Nat.le_refl _⟩)
    · rcases hp with (rfl | ⟨r, rfl, hrl⟩) | ⟨c, rfl, hcl⟩
      · simp only [sliceA, h1, h2, Option.isSome_some, Option.isNone_some, Bool.and_false, cond_false, capOf_open _ (show 1 ≤ 1000 by decide), sliceTo, nat_of]
        rw [cond_some (by simp [Nat.ble_eq]; omega)]
        simp only [cutOpenMax, hb0, cond_false, hk, Nat.sub_zero]
      · simp only [sliceA, h1, h2, Option.isSome_some, Option.isNone_some, Bool.and_false, cond_false, capOf_room _ (show 1 ≤ 1000 by decide), sliceTo, nat_of]
        rw [cond_some (by simp [Nat.ble_eq]; omega)]
        simp only [hk, Nat.sub_zero]
      · simp only [sliceA, h1, h2, Option.isSome_some, Option.isNone_some, Bool.and_false, cond_false, capOf_known, sliceTo, nat_of]
        rw [cond_some (by simp [Nat.ble_eq]; omega)]
        simp only [hk, Nat.sub_zero]
theorem WR.cutM {x hi mx : Operand} {v : Value} {xs : List Int} {m : Nat} {kb kc : IntKind} (hg : gOK L gd) (hd : Nat.blt d nt = true) (hx : ev L x = some v) (hS : Sl M 1 v (ints xs)) (h2 : ev L hi = some (.int kb (m : Int))) (h3 : ev L mx = some (.int kc (m : Int))) (hm : m < xs.length)
    (k : ∀ v', Sl M 1 v' (ints (xs.take m)) → RdS M v' → WR C nt l ((d, v') :: L) D H K) : WR C nt (⟨i, some d, .slS x 1 none (some hi) (some mx), gd, lo'⟩ :: l) L D H K := by
  obtain ⟨base, len, cap, v', rfl, h4, h5, h6⟩ := hS.cutM (m := m) (by simpa using hm)
  have hb : bnd L (some hi) = some (some (.int kb (m : Int))) := by simp [bnd, h2]
  have hb2 : bnd L (some mx) = some (some (.int kc (m : Int))) := by simp [bnd, h3]
  refine WR.op hg hd (v := v') (fun t ht => ?_) (k v' (by simpa [List.map_take] using h4) h5)
  have e2 := ev_ok ht h2
  have e3 := ev_ok ht h3
  simp only [opA, ev_ok ht hx, Option.map_some, Option.map_none, e2, e3, oSlS, h6 none (.int kb (m : Int)) kc rfl rfl, asVal]
theorem WD.idxK {α : Type} {F : α → List Value} {z : Nat} {rs : List Rd} {x ix : Operand} {kd : IntKind} {m : Nat} {v : Value} {ps : List α} (hF : ∀ a, (F a).length = z) (hz : 1 ≤ z) (hg : gOK L gd) (hd : Nat.blt d nt = true) (hx : ev L x = some v) (hS : Sl M z v (cellsF F ps)) (hi : ev L ix = some (.int kd (m : Int))) (hm : m < ps.length)
    (k : ∀ b o u, KCell M b o u (F ps[m]) → WD C nt l rs ((d, .pointer (some ⟨b, o, some u⟩)) :: L) D H K) : WD C nt (⟨i, some d, .idxS x ix z, gd, []⟩ :: l) rs L D H K := by
  obtain ⟨b, o, u, h1, h2⟩ := OpV.idxK (C := C) (H := H) hF hz hx hS hi hm
  exact WD.op hg hd h1 rfl (stands_nil _ _) (k b o u h2)
theorem KCell.readN {b o u k : Nat} {vs : List Value} (h : KCell M b o u vs) (hH : hasH M n H) (hk : vs.length = k) : H.readN ⟨b, o, some u⟩ k = some vs := by
  obtain ⟨ch, lo, cs, h1, h2, h3, h4, h5⟩ := h
  subst hk
  rw [hH.readN h1 h2 h3 h4, h5]
end
end Go.Abs
namespace Go.Proofs.Ytnmlfjohoeebiaa.Wk
open Go Go.Abs Go.Mth
set_option linter.unusedVariables false
set_option linter.unusedSimpArgs false
theorem equal_k {P : Program} {e : TypeId} {k : IntKind} (h : P.underlying e = some (.int k)) (a b : Int) (d : Nat) : pureRun P (Op.equalIn (d + 1) e (.int k a) (.int k b)) = some (a == b) := by
  unfold Op.equalIn
  simp only [pureRun_bind, pureRun_underlying P h, Option.bind_some]
  cases k <;> rfl
theorem eqArr4 (a b c d a' b' c' d' : Int) (k : Nat) : pureRun C.c.P (Op.equalIn (k + 1 + 1) 72 (keyI [a, b, c, d]) (keyI [a', b', c', d'])) = some (a == a' && b == b' && c == c' && d == d') := by
  have hu : C.c.P.underlying 72 = some (.array 4 3) := Try.underlying72
  have hz : pureRun C.c.P (sizeOf 3) = some 1 := by kernel_rfl
  have hp0 : ∀ x y z w : Int, pureRun C.c.P (part 3 #[.int .i64 x, .int .i64 y, .int .i64 z, .int .i64 w] 0) = some (.int .i64 x) := fun x y z w => by kernel_rfl
  have hp1 : ∀ x y z w : Int, pureRun C.c.P (part 3 #[.int .i64 x, .int .i64 y, .int .i64 z, .int .i64 w] 1) = some (.int .i64 y) := fun x y z w => by kernel_rfl
  have hp2 : ∀ x y z w : Int, pureRun C.c.P (part 3 #[.int .i64 x, .int .i64 y, .int .i64 z, .int .i64 w] 2) = some (.int .i64 z) := fun x y z w => by kernel_rfl
  have hp3 : ∀ x y z w : Int, pureRun C.c.P (part 3 #[.int .i64 x, .int .i64 y, .int .i64 z, .int .i64 w] 3) = some (.int .i64 w) := fun x y z w => by kernel_rfl
  have hk := equal_k (P := C.c.P) (e := 3) (k := .i64) (by kernel_rfl)
  show pureRun C.c.P (Op.equalIn (k + 1 + 1) 72 (.agg #[.int .i64 a, .int .i64 b, .int .i64 c, .int .i64 d]) (.agg #[.int .i64 a', .int .i64 b', .int .i64 c', .int .i64 d'])) = _
  unfold Op.equalIn
  simp only [pureRun_bind, pureRun_underlying C.c.P hu, Option.bind_some, hz, Std.Legacy.Range.forIn_eq_forIn_range', Std.Legacy.Range.size]
  simp only [show (4 - 0 + 1 - 1) / 1 = 4 from rfl, List.range', List.forIn_cons, List.forIn_nil, pureRun_bind, Nat.zero_mul, Nat.one_mul, Nat.zero_add, Nat.mul_one, Nat.reduceAdd, hp0, hp1, hp2, hp3, hk, Option.bind_some]
  cases h1 : (a == a') <;> cases h2 : (b == b') <;> cases h3 : (c == c') <;> cases h4 : (d == d') <;> simp [pureRun_bind, pureRun_pure, h1, h2, h3, h4, hp0, hp1, hp2, hp3, hk]
theorem eqArr4Op {s t : List Int} (hs : s.length = 4) (ht : t.length = 4) : pureRun C.c.P (binOp .eql 72 (keyI s) (keyI t)) = some (.bool (decide (s = t))) := by
  match s, hs, t, ht with
  | [a, b, c, d], _, [a', b', c', d'], _ =>
    have := eqArr4 a b c d a' b' c' d' 9998
    show pureRun C.c.P (Op.equal 72 _ _ >>= fun q => (pure (Value.bool q) : Sem Value)) = _
    rw [pureRun_bind]
    show Option.bind (pureRun C.c.P (Op.equalIn (9998 + 1 + 1) 72 _ _)) _ = _
    rw [this]
    have e : (a == a' && b == b' && c == c' && d == d') = decide ([a, b, c, d] = [a', b', c', d']) := by
      rw [Bool.eq_iff_iff]
      simp [and_assoc]
    rw [e]
    simp [pureRun_pure]
theorem eqArr4G (x y : Operand) {s t : List Int} (hs : s.length = 4) (ht : t.length = 4) : pureRun C.c.P (eqGuard .eql 72 x y (keyI s) (keyI t)) = some () := by
  match s, hs, t, ht with
  | [a, b, c, d], _, [a', b', c', d'], _ =>
    show pureRun C.c.P (eqGuard .eql 72 x y (.agg #[.int .i64 a, .int .i64 b, .int .i64 c, .int .i64 d]) (.agg #[.int .i64 a', .int .i64 b', .int .i64 c', .int .i64 d'])) = some ()
    kernel_rfl
theorem OpV.opAgg {op : BinOp} {L : Env} {H : Heap} {dst : Option Tmp} {x y : Operand} {ty ty2 ty3 : TypeId} {pos : String} {af : Array Edge} {g : Option (Nat × Bool)} {A B : Array Value} {r : Bool} (e1 : pureRun C.c.P (eqGuard op ty x y (.agg A) (.agg B)) = some ()) (e2 : pureRun C.c.P (binOp op ty (.agg A) (.agg B)) = some (.bool r))
    (hx : ev L x = some (.agg A)) (hy : ev L y = some (.agg B)) (hA : plainV (.agg A) = true) (hB : plainV (.agg B) = true) :
    OpV C (.plain ⟨dst, .binOp op ty x y ty2, ty3, pos, af, g⟩) L H (.bool r) H := by
  refine OpV.plain (fun t ht => ?_) (fun t ht => by simp [Op.operands, ev_ok ht hx, ev_ok ht hy, hA, hB]) rfl
  simp only [pureNext, execOp, ev_ok ht hx, ev_ok ht hy, pureRun_bind, e1, e2, Option.bind_some]
  rfl
theorem key_plain {s : List Int} (hs : s.length = 4) : plainV (keyI s) = true := by
  match s, hs with
  | [a, b, c, d], _ => rfl
theorem WalkR.trans {T a b c W U : List Int} (h : WalkR T a W b) (k : WalkR T b U c) : WalkR T a (W ++ U) c := by
  induction k with
  | nil => rwa [List.append_nil]
  | snoc _ hj ih => rw [← List.append_assoc]; exact .snoc ih hj
/-- What was left, tide by tide. -/
structure PathR (T : List Int) (A : List St4) (W c : List Int) : Prop where
  len : A.length = W.length + 1
  to : ∀ i (h : i < A.length), WalkR T (startS T) (W.take i) (A[i]).1
  on : ∀ i (h : i < A.length), WalkR T (A[i]).1 (W.drop i) c
theorem path_one (T : List Int) (h : (startS T).length = 4) : PathR T [⟨startS T, h⟩] [] (startS T) where
  len := rfl
  to i hi := by
    have : i = 0 := by simpa using hi
    subst this; exact .nil
  on i hi := by
    have : i = 0 := by simpa using hi
    subst this; exact .nil
theorem PathR.end_ {T : List Int} {A : List St4} {W c : List Int} (h : PathR T A W c) (hi : W.length < A.length) : (A[W.length]).1 = c := by
  have := h.on W.length hi
  rw [List.drop_length] at this
  exact (WalkR.one rfl this (.nil (s := (A[W.length]).1))).2.symm
theorem PathR.snoc {T : List Int} {A : List St4} {W c : List Int} {j : Nat} (h : PathR T A W c) (hj : NextR T c j) {a : St4} (ha : a.1 = metS T c j) : PathR T (A ++ [a]) (W ++ [(j : Int)]) a.1 where
  len := by simp [h.len]
  to i hi := by
    have hl := h.len
    by_cases e : i < A.length
    · rw [List.getElem_append_left e, List.take_append_of_le_length (by omega)]; exact h.to i e
    · have : i = A.length := by simp at hi; omega
      subst this
      rw [List.take_of_length_le (by simp; omega)]
      have h1 := h.to W.length (by omega)
      rw [List.take_length, h.end_ (by omega)] at h1
      simp only [List.getElem_concat_length]
      rw [ha]
      exact .snoc h1 hj
  on i hi := by
    have hl := h.len
    by_cases e : i < A.length
    · rw [List.getElem_append_left e, List.drop_append_of_le_length (by omega), ha]
      exact .snoc (h.on i e) hj
    · have : i = A.length := by simp at hi; omega
      subst this
      rw [List.drop_of_length_le (by simp; omega)]
      simp only [List.getElem_concat_length]
      exact .nil
structure LoopR (T Bg Lp s : List Int) : Prop where
  bg : WalkR T (startS T) Bg s
  lp : WalkR T s Lp s
  pos : 1 ≤ Lp.length
  bd : Bg.length + Lp.length ≤ 6561
theorem PathR.loop {T : List Int} {A : List St4} {W c : List Int} {j i : Nat} (h : PathR T A W c) (hj : NextR T c j) (hi : i < A.length) (he : (A[i]).1 = metS T c j) (hb : A.length ≤ 6561) : LoopR T ((W ++ [(j : Int)]).take i) ((W ++ [(j : Int)]).drop i) (A[i]).1 := by
  have hl := h.len
  refine ⟨?_, ?_, by simp; omega, by simp; omega⟩
  · rw [List.take_append_of_le_length (by omega)]; exact h.to i hi
  · rw [List.drop_append_of_le_length (by omega)]
    have := WalkR.snoc (h.on i hi) hj
    rwa [← he] at this
structure LV where
  va : Value
  A : List St4
  MA : HL
  wv : Value
  W : List Int
  MW : HL
  c : List Int
  m : MapI
  g : MapI
  n : Nat
attribute [local irreducible] gOK WS WC WR WD Ends FS YS OpV seqK blockK loopK midK retK rdK asgK rangeEnd sat Cell
section
variable {M : HL} {n0 : Nat} {H : Heap} {v w : Value}
theorem CloneL_fs (hH : hasH M n0 H) {o : List Int} (hS : Sl M 1 v (ints o)) (hx : o.length ≤ 10000) (hx1 : 1 ≤ o.length) :
    FS C 43 [v] H (fun e H' => ∃ b n', e = .slice (some ⟨b, 0, some 0⟩) o.length (2 * 1) ∧ n0 ≤ n' ∧ hasH ((b, .row 3 0 0 (ints o)) :: M) n' H') := by
  have hne : ints o ≠ [] := fun h => by have := List.map_eq_nil_iff.1 h; subst this; simp at hx1
  have hsm : ∃ a len cap, v = .slice (some a) len cap := by
    generalize ints o = cs at hS hne
    cases hS with
    | nil c => exact absurd rfl hne
    | emp a => exact ⟨_, _, _, rfl⟩
    | row => exact ⟨_, _, _, rfl⟩
  obtain ⟨a, len, cap, rfl⟩ := hsm
  refine FS.intro (pf := pf43) rfl rfl rfl ?_
  repeat' (first | refine zP ?_ | refine zA ?_ | (refine zM ?_; intro _ _) | refine zX ?_ | (refine zC ?_; intro _ _ _ _) | (refine zS ?_; intro _ _) | (apply Ws <;> intro hg))
  refine WR.bldS (by first | exact gN | exact gS rfl) rfl hH (vs := []) rfl (cs := []) (by rfl) rfl fun H3 hH3 => ?_
  repeat' (first | refine zP ?_ | refine zA ?_ | (refine zM ?_; intro _ _) | refine zX ?_ | (refine zC ?_; intro _ _ _ _) | (refine zS ?_; intro _ _) | (apply Ws <;> intro hg))
  obtain ⟨hk, hsr⟩ := (hS.cons (p := (n0, .row 3 0 0 []))).src hH3 hne
  rw [show (ints o).length = o.length by simp] at hk
  refine WR.appendNew (by first | exact gN | exact gS rfl) rfl rfl rfl hH3 (.head _) (.row _ _ _ _) (Nat.zero_le _) (Nat.zero_le _) hk (by have := hsr _ (Nat.le_refl _); rw [List.take_length, show (ints o).length = o.length by simp] at this; exact this) (by simp) hx1 (ints_one _) (by omega) (by omega) (by omega) fun H' hH' => ?_
  repeat' (first | refine zP ?_ | refine zA ?_ | (refine zM ?_; intro _ _) | refine zX ?_ | (refine zC ?_; intro _ _ _ _) | (refine zS ?_; intro _ _) | (apply Ws <;> intro hg))
  exact Ends.ret1 rfl ⟨n0 + 1, n0 + 2, rfl, by omega, hH'.sub (.cons_cons _ (List.sublist_cons_self _ _))⟩
end
end Go.Proofs.Ytnmlfjohoeebiaa.Wk

/- Loop. -/
namespace Go.Proofs.Ytnmlfjohoeebiaa.Wk
open Go Go.Abs Go.Mth
set_option linter.unusedVariables false
set_option linter.unusedSimpArgs false
attribute [local irreducible] gOK WS WC WR WD Ends FS YS OpV seqK blockK loopK midK retK rdK asgK rangeEnd sat Cell
section
variable {M : HL} {n0 : Nat} {H : Heap} {v w : Value}
set_option maxHeartbeats 1000000 in
theorem loop_fs {b : Nat} {m : MapI} (hH : hasH ((b, .map (ents m)) :: M) n0 H) {T : List Int} (hS : Sl M 1 v (ints T)) (hT : TOK T) (h1 : 1 ≤ T.length) (he : everS T (startS T)) (hk : KeysN 4 m) (hI : MInv T [] m) :
    FS C 70 [.agg [v, .map (some b)].toArray] H (fun e H' => ∃ u1 u2 Bg Lp s Mx n', e = .tuple #[u1, u2] ∧ LoopR T Bg Lp s ∧ Sl (Mx ++ M) 1 u1 (ints Bg) ∧ RdS (Mx ++ M) u1 ∧ Sl (Mx ++ M) 1 u2 (ints Lp) ∧ n0 ≤ n' ∧ hasH (Mx ++ M) n' H') := by
  have hv := hS.one_
  have hb1 : one (.map (some b)) = true := rfl
  have hsl := startS_len hT.len
  have hsli : (ints (startS T)).length = 4 := by simp [hsl]
  refine FS.intro (pf := pf70) rfl rfl rfl ?_
  refine WC.seq ?_
  refine WC.region ?_
  refine WR.boxA (cs := [v, .map (some b)]) (by first | exact gN | exact gS rfl) rfl hH rfl (by (repeat' (first | exact all_nil | refine all_cons (by first | rfl | assumption) ?_))) fun H1 hH1 => ?_
  repeat' (first | refine zP ?_ | refine zA ?_ | (refine zM ?_; intro _ _) | refine zX ?_ | (refine zC ?_; intro _ _ _ _) | (refine zS ?_; intro _ _) | (apply Ws <;> intro hg))
  refine WC.scope ?_
  repeat' (first | refine zP ?_ | refine zA ?_ | (refine zM ?_; intro _ _) | refine zX ?_ | (refine zC ?_; intro _ _ _ _) | (refine zS ?_; intro _ _) | (apply Ws <;> intro hg))
  refine WR.call (by first | exact gN | exact gS rfl) rfl rfl (start_fs hH1 hS.cons.cons hT.len h1) ?_
  rintro _ H2 ⟨n2, hn2, rfl, hH2⟩
  repeat' (first | refine zP ?_ | refine zA ?_ | (refine zM ?_; intro _ _) | refine zX ?_ | (refine zC ?_; intro _ _ _ _) | (refine zS ?_; intro _ _) | (apply Ws <;> intro hg))
  refine WR.bldS (by first | exact gN | exact gS rfl) rfl hH2 (vs := [(0, keyI (startS T))]) rfl (cs := ints (startS T)) (fill4 hsl) (ints_one _) fun H3 hH3 => ?_
  repeat' (first | refine zP ?_ | refine zA ?_ | (refine zM ?_; intro _ _) | refine zX ?_ | (refine zC ?_; intro _ _ _ _) | (refine zS ?_; intro _ _) | (apply Ws <;> intro hg))
  have hH4 : hasH ((n0, .row 69 0 0 [v, .map (some b)]) :: (b, .map (ents m)) :: ([(n2, .inp 72 0 0 (cellsF F4 [⟨startS T, hsl⟩]))] ++ ([] ++ M))) (n2 + 1) H3 := by
    have := (hH3.asInp .here).perm (M' := (n0, .row 69 0 0 [v, .map (some b)]) :: (b, .map (ents m)) :: (n2, .inp 72 0 0 (ints (startS T))) :: M) (List.perm_middle (l₁ := [_, _])).symm
    simpa [cellsF, F4] using this
  clear hH1 hH2 hH3 hH
  refine WC.loopX [(1, .pointer (some ⟨n0, 0, some 0⟩)), (6, .int .i64 0)] (fun z : LV => [(4, z.wv), (5, z.va)]) []
    (fun z H' => PathR T z.A z.W z.c ∧ Bfs T z.A z.g ∧ Own 72 4 z.va (cellsF F4 z.A) z.MA ∧ Own 3 1 z.wv (ints z.W) z.MW ∧ KeysN 4 z.m ∧ MInv T [] z.m ∧ n0 < z.n ∧ hasH ((n0, .row 69 0 0 [v, .map (some b)]) :: (b, .map (ents z.m)) :: (z.MA ++ (z.MW ++ M))) z.n H')
    (fun z => 7000 - z.A.length) ⟨.slice (some ⟨n2, 0, some 0⟩) 1 (2 * 1 + 1), [⟨startS T, hsl⟩], [(n2, .inp 72 0 0 (cellsF F4 [⟨startS T, hsl⟩]))], .slice none 0 0, [], [], startS T, m, [(startS T, 0)], n2 + 1⟩ (by repeat' (first | exact .nil | refine .cons rfl ?_)) rfl
    ⟨path_one T hsl, bfs_one hT, .full (by simp [cellsF, F4, hsl]) (by simp only [cellsF, List.map_cons, List.map_nil, List.flatten_cons, List.flatten_nil, List.append_nil]; exact F4_one _), .nil, hk, hI, by simp only; omega, hH4⟩ ?_
  clear hH4 hk hI
  rintro ⟨va, A, MA, wv, W, MW, c, m3, g, n3⟩ H5 ⟨hP, hA, hOA, hOW, hk, hI, hn3, hH5⟩
  simp only at hP hA hOA hOW hk hI hn3 hH5
  have hcnt := hA.cnt
  have hAl := hP.len
  have hWA : W.length < A.length := by omega
  have hcs := hA.ok W.length hWA
  have hce := hP.end_ hWA
  rw [hce] at hcs
  have hR := hP.to W.length hWA
  rw [hce, List.take_length] at hR
  dsimp only [List.cons_append, List.nil_append]
  repeat' (first | refine zP ?_ | refine zA ?_ | (refine zM ?_; intro _ _) | refine zX ?_ | (refine zC ?_; intro _ _ _ _) | (refine zS ?_; intro _ _) | (apply Ws <;> intro hg))
  refine WC.regionD ?_
  repeat' (first | refine zD ?_ | (refine zE ?_; intro _ _ _ _))
  have hSA : Sl ((n0, .row 69 0 0 [v, .map (some b)]) :: (b, .map (ents m3)) :: (MA ++ (MW ++ M))) 4 va (cellsF F4 A) := (hOA.sl _).cons.cons
  refine WD.op (by first | exact gN | exact gS rfl) rfl (OpV.lenK F4_len (by decide) rfl hSA) rfl (stands_nil _ _) ?_
  repeat' (first | refine zD ?_ | (refine zE ?_; intro _ _ _ _))
  rw [show ((A.length : Nat) : Int) - 1 = (W.length : Int) by omega]
  refine WD.idxK F4_len (by decide) (by first | exact gN | exact gS rfl) rfl rfl (hOA.sl []) rfl hWA fun jb jo ju hKC0 => ?_
  have hF : F4 A[W.length] = ints c := by rw [← hce]; rfl
  rw [hF] at hKC0
  have hKC := hKC0.mono (M' := (n0, .row 69 0 0 [v, .map (some b)]) :: (b, .map (ents m3)) :: (MA ++ (MW ++ M))) fun q hq => by rw [List.append_nil] at hq; simp [hq]
  have hci : (ints c).length = 4 := by simp [hcs.len]
  refine WD.loadN (by first | exact gN | exact gS rfl) rfl rfl (hKC.readN hH5 hci) ?_
  refine WD.call (by first | exact gN | exact gS rfl) rfl rfl (next_fs (hH5.perm (List.Perm.swap _ _ _)) (((hS.mono fun q hq => List.mem_append_right _ (List.mem_append_right _ hq)).cons)) hT hcs (hR.ever he) hk hI) ?_
  rintro _ H7 ⟨j, m7, n7, rfl, hj, hn7, hH7, hk7, hI7⟩
  refine ⟨stands_nil _ _, ?_⟩
  clear hH5 hSA
  repeat' (first | refine zD ?_ | (refine zE ?_; intro _ _ _ _))
  have hml : (metS T c j).length = 4 := by rw [metS_len, hcs.len]
  have hmi : (ints (metS T c j)).length = 4 := by simp [hml]
  refine WD.new rfl hH7 (by rfl) (fun H8 hH8 => ?_) fun H8 hH8 => ?_
  · have hrd := hH8.readN (b := n0) (u := 0) (lo := 0) (o := 0) (k := 2) (.tail _ (.tail _ (.head _))) (.row _ _ _ _) (Nat.le_refl _) (by simp)
    simp only [Nat.sub_zero, List.drop_zero] at hrd
    refine stands_cons (.inr (holdsN' (l := ints c) ((hKC0.mono fun q hq => ?_).readN hH8 hci) (sameL_ints _))) (stands_cons (.inr (holdsN' (l := [v, .map (some b)]) hrd ?_)) stands_nil')
    · rw [List.append_nil] at hq; simp [hq]
    · simp only [sameL, hS.same, same_map, Bool.and_true]
  refine WD.toWR rfl ?_
  clear hH7 hKC hKC0
  repeat' (first | refine zP ?_ | refine zA ?_ | (refine zM ?_; intro _ _) | refine zX ?_ | (refine zC ?_; intro _ _ _ _) | (refine zS ?_; intro _ _) | (apply Ws <;> intro hg))
  refine WR.storeA (by first | exact gN | exact gS rfl) hH8 rfl rfl hml .here rfl fun H9 hH9 => ?_
  clear hH8
  repeat' (first | refine zP ?_ | refine zA ?_ | (refine zM ?_; intro _ _) | refine zX ?_ | (refine zC ?_; intro _ _ _ _) | (refine zS ?_; intro _ _) | (apply Ws <;> intro hg))
  refine WR.append1F ((n7, .row 72 0 0 (ints (metS T c j))) :: (b, .map (ents m7)) :: (n0, .row 69 0 0 [v, .map (some b)]) :: MA) MW M rfl rfl rfl rfl hOW hH9 (new := [.int .i64 (j : Int)]) (by rfl) rfl rfl (Nat.le_refl _) (by omega) (by simp; omega) fun wv3 MW3 n10 H10 hOW3 hH10 hn10 => ?_
  replace hH10 : hasH ((n7, .row 72 0 0 (ints (metS T c j))) :: (b, .map (ents m7)) :: (n0, .row 69 0 0 [v, .map (some b)]) :: (MA ++ (MW3 ++ M))) n10 H10 := hH10
  replace hOW3 : Own 3 1 wv3 (ints (W ++ [(j : Int)])) MW3 := by
    rw [ints, List.map_append]; exact hOW3
  clear hH9 hOW
  repeat' (first | refine zP ?_ | refine zA ?_ | (refine zM ?_; intro _ _) | refine zX ?_ | (refine zC ?_; intro _ _ _ _) | (refine zS ?_; intro _ _) | (apply Ws <;> intro hg))
  have hSA : Sl ((n7, .row 72 0 0 (ints (metS T c j))) :: (b, .map (ents m7)) :: (n0, .row 69 0 0 [v, .map (some b)]) :: (MA ++ (MW3 ++ M))) 4 va (cellsF F4 A) := (hOA.sl _).cons.cons.cons
  refine WR.op (by first | exact gN | exact gS rfl) rfl (OpV.lenK F4_len (by decide) rfl hSA) ?_
  repeat' (first | refine zP ?_ | refine zA ?_ | (refine zM ?_; intro _ _) | refine zX ?_ | (refine zC ?_; intro _ _ _ _) | (refine zS ?_; intro _ _) | (apply Ws <;> intro hg))
  refine WC.loopX [(1, .pointer (some ⟨n0, 0, some 0⟩)), (4, wv3), (5, va), (6, .int .i64 0), (8, .pointer (some ⟨n7, 0, some 0⟩)), (30, va), (31, .int .i64 (A.length : Int))] (fun z : Nat × Nat => [(32, .int .i64 (z.1 : Int))]) []
    (fun z H' => z.1 ≤ A.length ∧ (∀ i, i < z.1 → ∀ h : i < A.length, (A[i]).1 ≠ metS T c j) ∧ n10 ≤ z.2 ∧ hasH ((n7, .row 72 0 0 (ints (metS T c j))) :: (b, .map (ents m7)) :: (n0, .row 69 0 0 [v, .map (some b)]) :: (MA ++ (MW3 ++ M))) z.2 H')
    (fun z => A.length - z.1) (0, n10) (by repeat' (first | exact .nil | refine .cons rfl ?_)) rfl ⟨Nat.zero_le _, fun i h => absurd h (Nat.not_lt_zero _), Nat.le_refl _, hH10⟩ ?_
  clear hH10
  rintro ⟨i, n11⟩ H11 ⟨hi, hno, hn11, hH11⟩
  simp only at hi hno hn11 hH11
  dsimp only [List.cons_append, List.nil_append]
  repeat' (first | refine zP ?_ | refine zA ?_ | (refine zM ?_; intro _ _) | refine zX ?_ | (refine zC ?_; intro _ _ _ _) | (refine zS ?_; intro _ _) | (apply Ws <;> intro hg))
  refine WC.condP rfl (fun hlt => ?_) (fun hlt => ?_)
  · have hi' : i < A.length := by omega
    repeat' (first | refine zP ?_ | refine zA ?_ | (refine zM ?_; intro _ _) | refine zX ?_ | (refine zC ?_; intro _ _ _ _) | (refine zS ?_; intro _ _) | (apply Ws <;> intro hg))
    refine WR.idxK F4_len (by decide) (by first | exact gN | exact gS rfl) rfl rfl hSA rfl hi' fun kb ko ku hKC => ?_
    refine WR.op (by first | exact gN | exact gS rfl) rfl (OpV.loadK rfl hKC hH11 (F4_len _)) ?_
    obtain ⟨s, hse⟩ : ∃ s, (A[i]).1 = s := ⟨_, rfl⟩
    have hF2 : F4 A[i] = ints s := by rw [← hse]; rfl
    rw [hF2]
    have hsl4 : s.length = 4 := by rw [← hse]; exact (A[i]).2
    have hli : (ints s).length = 4 := by simp [hsl4]
    repeat' (first | refine zP ?_ | refine zA ?_ | (refine zM ?_; intro _ _) | refine zX ?_ | (refine zC ?_; intro _ _ _ _) | (refine zS ?_; intro _ _) | (apply Ws <;> intro hg))
    rename_i H12 hH12
    refine WR.storeA (s := s) (by first | exact gN | exact gS rfl) hH12 rfl rfl hsl4 .here rfl fun H13 hH13 => ?_
    clear hH12 hH11
    repeat' (first | refine zP ?_ | refine zA ?_ | (refine zM ?_; intro _ _) | refine zX ?_ | (refine zC ?_; intro _ _ _ _) | (refine zS ?_; intro _ _) | (apply Ws <;> intro hg))
    refine WR.op (by first | exact gN | exact gS rfl) rfl (OpV.opAgg (eqArr4G _ _ hsl4 hml) (eqArr4Op hsl4 hml) rfl rfl (key_plain hsl4) (key_plain hml)) ?_
    by_cases hq : s = metS T c j
    · rw [decide_eq_true hq]
      have hSW : Sl ((n11, .row 72 0 0 (ints s)) :: (n7, .row 72 0 0 (ints (metS T c j))) :: (b, .map (ents m7)) :: (n0, .row 69 0 0 [v, .map (some b)]) :: (MA ++ (MW3 ++ M))) 1 wv3 (ints (W ++ [(j : Int)])) := (((hOW3.sl M).mono fun q hq => List.mem_append_right _ hq).cons.cons.cons).cons
      have hLR := hP.loop hj hi' (by rw [hse]; exact hq) (by omega)
      rw [hse] at hLR
      have hWl : (W ++ [(j : Int)]).length = W.length + 1 := by simp
      obtain ⟨W2, hW2⟩ : ∃ W2, W ++ [(j : Int)] = W2 := ⟨_, rfl⟩
      rw [hW2] at hSW hLR hWl
      clear hOW3
      obtain ⟨Mx, hMx⟩ : ∃ Mx : HL, Mx ++ M = (n11, .row 72 0 0 (ints s)) :: (n7, .row 72 0 0 (ints (metS T c j))) :: (b, .map (ents m7)) :: (n0, .row 69 0 0 [v, .map (some b)]) :: (MA ++ (MW3 ++ M)) := ⟨(n11, .row 72 0 0 (ints s)) :: (n7, .row 72 0 0 (ints (metS T c j))) :: (b, .map (ents m7)) :: (n0, .row 69 0 0 [v, .map (some b)]) :: (MA ++ MW3), by simp⟩
      rw [← hMx] at hH13 hSW
      repeat' (first | refine zP ?_ | refine zA ?_ | (refine zM ?_; intro _ _) | refine zX ?_ | (refine zC ?_; intro _ _ _ _) | (refine zS ?_; intro _ _) | (apply Ws <;> intro hg))
      refine WR.cutM (by first | exact gN | exact gS rfl) rfl rfl hSW rfl rfl (by omega) fun u1 hS1 hR1 => ?_
      repeat' (first | refine zP ?_ | refine zA ?_ | (refine zM ?_; intro _ _) | refine zX ?_ | (refine zC ?_; intro _ _ _ _) | (refine zS ?_; intro _ _) | (apply Ws <;> intro hg))
      refine WR.cutLo (by first | exact gN | exact gS rfl) rfl rfl hSW rfl (by omega) fun u2 hS2 => ?_
      refine WR.call (by first | exact gN | exact gS rfl) rfl rfl (CloneL_fs hH13 hS2 (by simp; omega) (by simp; omega)) ?_
      rintro _ H14 ⟨rb, n14, rfl, hn14, hH14⟩
      repeat' (first | refine zP ?_ | refine zA ?_ | (refine zM ?_; intro _ _) | refine zX ?_ | (refine zC ?_; intro _ _ _ _) | (refine zS ?_; intro _ _) | (apply Ws <;> intro hg))
      refine Ends.scope_ret (Ends.ret2 rfl rfl ⟨u1, _, W2.take i, W2.drop i, s, (rb, .row 3 0 0 (ints (W2.drop i))) :: Mx, n14, rfl, hLR, hS1.cons, hR1.mono fun q hq => List.mem_cons_of_mem _ hq, ?_, by omega, hH14⟩)
      exact .row (lo := 0) (cs := ints (W2.drop i)) (.head _) (.row _ _ _ _) (Nat.zero_le _) (by simp) (by rw [Nat.sub_zero, List.drop_zero, List.take_length]) (by simp) (.inl (.inl rfl))
    · rw [decide_eq_false hq]
      have hA6 : A.length ≤ 6561 := by omega
      clear hcnt hKC hSA
      repeat' (first | refine zP ?_ | refine zA ?_ | (refine zM ?_; intro _ _) | refine zX ?_ | (refine zC ?_; intro _ _ _ _) | (refine zS ?_; intro _ _) | refine zO ?_ | (apply Ws <;> intro hg))
      refine Ends.loop (i + 1, n11 + 1) (by simp only; omega) (by repeat' (first | exact .nil | refine .cons rfl ?_)) rfl ⟨hi', fun k hk h => ?_, by simp only; omega, hH13.tail⟩
      rcases Nat.lt_or_ge k i with h3 | h3
      · exact hno k h3 h
      · have : k = i := by simp only at hk; omega
        subst this
        rw [hse]; exact hq
  · have hiA : i = A.length := by omega
    subst hiA
    have hf : findI g (metS T c j) = none := by
      cases hf : findI g (metS T c j) with
      | none => rfl
      | some r =>
        obtain ⟨k, hk, _, hke⟩ := hA.inv _ _ hf
        exact absurd hke (hno k hk hk)
    have hmok := met_ok hT hcs hj.lt hj.ok.1
    obtain ⟨a, ha⟩ : ∃ a : St4, a.1 = metS T c j := ⟨⟨metS T c j, hml⟩, rfl⟩
    have hA3 := bfs_more hT hA (a := a) (by rw [ha]; exact hmok) (by rw [ha]; exact hf)
    have hP3 := hP.snoc hj ha
    have hone10 := ints_one (metS T c j)
    repeat' (first | refine zP ?_ | refine zA ?_ | (refine zM ?_; intro _ _) | refine zX ?_ | (refine zC ?_; intro _ _ _ _) | (refine zS ?_; intro _ _) | (apply Ws <;> intro hg))
    refine WR.append1F [(n7, .row 72 0 0 (ints (metS T c j))), (b, .map (ents m7)), (n0, .row 69 0 0 [v, .map (some b)])] MA (MW3 ++ M) rfl rfl rfl rfl hOA hH11 (new := ints (metS T c j)) (fill4 hml) hone10 hmi (by omega) (by omega) (by rw [cellsF_len F4_len, hmi]; omega) fun va3 MA3 n12 H15 hOA3 hH15 hn12 => ?_
    replace hH15 : hasH ((n7, .row 72 0 0 (ints (metS T c j))) :: (b, .map (ents m7)) :: (n0, .row 69 0 0 [v, .map (some b)]) :: (MA3 ++ (MW3 ++ M))) n12 H15 := hH15
    repeat' (first | refine zP ?_ | refine zA ?_ | (refine zM ?_; intro _ _) | refine zX ?_ | (refine zC ?_; intro _ _ _ _) | (refine zS ?_; intro _ _) | (apply Ws <;> intro hg))
    refine Ends.loop ⟨va3, A ++ [a], MA3, wv3, W ++ [(j : Int)], MW3, a.1, m7, putI g a.1 (A.length : Int), n12⟩ (by simp only [List.length_append, List.length_singleton]; omega) (by repeat' (first | exact .nil | refine .cons rfl ?_)) rfl ⟨hP3, hA3, ?_, hOW3, hk7, hI7, by simp only; omega, hH15.tail.swap⟩
    show Own _ 4 va3 (cellsF F4 (A ++ [a])) MA3
    rw [cellsF_snoc, ha]; exact hOA3
end
end Go.Proofs.Ytnmlfjohoeebiaa.Wk

/- Other numbers of stretches, a greater number, a stretch less. -/
namespace Go.Proofs.Ytnmlfjohoeebiaa.Wk
open Go Go.Abs Go.Mth
set_option linter.unusedVariables false
set_option linter.unusedSimpArgs false
/-- Stretches with names. -/
abbrev NmT := List (Int × Int)
structure NmW (P : NmT) (W : List Int) : Prop where
  nd : (P.map (·.1)).Nodup
  mem : ∀ x ∈ W, x ∈ P.map (·.1)
  win : ∀ p ∈ P, ∀ f, f + p.2.toNat ≤ W.length → p.1 ∈ (W.drop f).take p.2.toNat
def canN (T : List Int) (k : Nat) : Prop := ∃ P W, P.map (·.2) = T ∧ W.length = k ∧ NmW P W
def zipI : Nat → List Int → NmT
  | _, [] => []
  | i, t :: T => ((i : Int), t) :: zipI (i + 1) T
theorem NmW.perm {P P' : NmT} {W : List Int} (h : NmW P W) (k : P.Perm P') : NmW P' W :=
  ⟨(k.map _).nodup_iff.1 h.nd, fun x hx => (k.map _).mem_iff.1 (h.mem x hx), fun p hp => h.win p (k.mem_iff.2 hp)⟩
end Go.Proofs.Ytnmlfjohoeebiaa.Wk

/- As few inspectors: other numbers of stretches, and a stretch less. -/
namespace Go.Proofs.Ytnmlfjohoeebiaa.Wk
open Go Go.Abs Go.Mth
set_option linter.unusedVariables false
set_option linter.unusedSimpArgs false
/-- Stretches with inspectors. -/
abbrev InQ := List (Nat × Int)
def ownQ (Q : InQ) (j : Nat) : List Int := (Q.filter fun q => decide (q.1 = j)).map (·.2)
def validQ (Q : InQ) (g : Nat) : Prop := ∀ j, j < g → everB (ownQ Q j) (startS (ownQ Q j)) = true
def HasG (T : List Int) (g : Nat) : Prop := ∃ Q : InQ, Q.map (·.2) = T ∧ (∀ q ∈ Q, q.1 < g) ∧ validQ Q g
theorem ownK_zip {T : List Int} {l : List Nat} (hl : l.length = T.length) (j : Nat) : ∀ k, k ≤ T.length → ownK T l j k = ownQ ((l.take k).zip (T.take k)) j
  | 0, _ => by simp [ownK, ownQ]
  | k + 1, hk => by
    have hkT : k < T.length := by omega
    have hkl : k < l.length := by omega
    rw [List.take_succ_eq_append_getElem hkT, List.take_succ_eq_append_getElem hkl, List.zip_append (by simp; omega)]
    simp only [ownK, ownQ, List.filter_append, List.map_append]
    rw [ownK_zip hl j k (by omega), getD_eq hkl, getD_eq hkT]
    by_cases h : l[k] = j
    · rw [if_pos h]; simp [ownQ, h]
    · rw [if_neg h]; simp [ownQ, h]
theorem zip_snd {T : List Int} {l : List Nat} (hl : l.length = T.length) : (l.zip T).map (·.2) = T := by
  have := List.map_snd_zip (l₁ := l) (l₂ := T) (by omega)
  exact this
theorem goJ_zip {T : List Int} {l : List Nat} (hl : l.length = T.length) (j : Nat) : goJ T l j = everB (ownQ (l.zip T) j) (startS (ownQ (l.zip T) j)) := by
  unfold goJ
  rw [ownK_zip hl j _ (Nat.le_refl _), List.take_length, ← hl, List.take_length]
theorem valid_zip {T : List Int} {l : List Nat} (hl : l.length = T.length) (g : Nat) : validB T g l = true ↔ validQ (l.zip T) g := by
  rw [valid_iff]
  exact ⟨fun h j hj => by rw [← goJ_zip hl]; exact h j hj, fun h j hj => by rw [goJ_zip hl]; exact h j hj⟩
theorem FirstG.has {T : List Int} {g k : Nat} (h : FirstG T g k) : HasG T g := by
  have hl := divK_len g T.length k
  refine ⟨(divK g T.length k).zip T, zip_snd hl, fun q hq => ?_, (valid_zip hl g).1 h.ok⟩
  exact divK_lt h.g1 _ _ _ (List.of_mem_zip hq).1
theorem zip_of {Q : InQ} : (Q.map (·.1)).zip (Q.map (·.2)) = Q := by
  induction Q with
  | nil => rfl
  | cons q Q ih => simp [ih]
theorem FirstG.least {T : List Int} {g k f : Nat} (h : FirstG T g k) (hf : 1 ≤ f) (hG : HasG T f) : g ≤ f := by
  refine Nat.le_of_not_lt fun hlt => ?_
  obtain ⟨Q, hQ, hb, hv⟩ := hG
  have hl : (Q.map (·.1)).length = T.length := by rw [← hQ]; simp
  obtain ⟨i, hi, he⟩ := divK_all hf T.length hl fun x hx => by
    obtain ⟨q, hq, rfl⟩ := List.mem_map.1 hx
    exact hb q hq
  have h1 := h.few f hf hlt i hi
  have h2 : validB T f (Q.map (·.1)) = true := (valid_zip hl f).2 (by rw [← hQ, zip_of]; exact hv)
  rw [he, h2] at h1
  cases h1
theorem ever_nil : everB [] (startS []) = false := by
  cases h : everB [] (startS []) with
  | false => rfl
  | true =>
    obtain ⟨j, hj, _⟩ := everB_true.1 h 1
    simp at hj
/-- The last inspector has a stretch. -/
theorem FirstG.max {T : List Int} {g k : Nat} (h : FirstG T g k) : g - 1 ∈ divK g T.length k := by
  have hl := divK_len g T.length k
  have := valid_iff.1 h.ok (g - 1) (by have := h.g1; omega)
  rw [goJ_zip hl] at this
  refine Classical.byContradiction fun hn => ?_
  have h0 : ownQ ((divK g T.length k).zip T) (g - 1) = [] := by
    unfold ownQ
    rw [List.map_eq_nil_iff, List.filter_eq_nil_iff]
    intro q hq
    simp only [decide_eq_true_eq]
    intro e
    exact hn (e ▸ (List.of_mem_zip hq).1)
  rw [h0, ever_nil] at this
  cases this
end Go.Proofs.Ytnmlfjohoeebiaa.Wk

/- The law WalkNamed. -/
namespace Go.Proofs.Ytnmlfjohoeebiaa.Wk
open Go Go.Abs Go.Mth
set_option linter.unusedVariables false
set_option linter.unusedSimpArgs false
structure SW where
  k : Nat
  ys : List Int
attribute [local irreducible] gOK WS WC WR WD Ends FS YS OpV seqK blockK loopK midK retK rdK asgK rangeEnd sat Cell
section
variable {M : HL} {n0 : Nat} {H : Heap} {v w : Value}
end
end Go.Proofs.Ytnmlfjohoeebiaa.Wk

/- The law WalkPlans. -/
namespace Go.Proofs.Ytnmlfjohoeebiaa.Wk
open Go Go.Abs Go.Mth
set_option linter.unusedVariables false
set_option linter.unusedSimpArgs false
theorem meetE_val {T P : List Int} (hT : TOK T) (h1 : 1 ≤ T.length) (hp : 1 ≤ P.length) (hp2 : P.length ≤ 60) (hw : WOK T.length P) : (CycG T P → meetE T P = 0) ∧ (¬ CycG T P → meetE T P = 14) := by
  have hE := errT_of hT h1
  have hWE := walkE_ok.2 ⟨hp2, hw⟩
  unfold meetE
  rw [if_neg (by omega), if_neg (by omega), if_neg (by omega)]
  exact ⟨fun h => by rw [if_pos (goodB_true.2 ((cyc_good hT hp).2 h))], fun h => by rw [if_neg (by rw [goodB_false (fun h2 => h ((cyc_good hT hp).1 h2))]; simp)]⟩
/-- At one place, from there on. -/
def hitF (P : List Int) (i t f : Nat) : Prop := ∃ k, k < t ∧ P.getD ((f + k) % P.length) 0 = (i : Int)
structure BV where
  k : Nat
  g : Bool
attribute [local irreducible] gOK WS WC WR WD Ends FS YS OpV seqK blockK loopK midK retK rdK asgK rangeEnd sat Cell
section
variable {M : HL} {n0 : Nat} {H : Heap} {v w : Value}
end
end Go.Proofs.Ytnmlfjohoeebiaa.Wk

/- Loop with its checks; the mathematics of WalkSixths. -/
namespace Go.Proofs.Ytnmlfjohoeebiaa.Wk
open Go Go.Abs Go.Mth
set_option linter.unusedVariables false
set_option linter.unusedSimpArgs false
theorem rep_succ (P : List Int) (m : Nat) : repI P (m + 1) = P ++ repI P m := by simp [repI, List.replicate_succ]
theorem rep_walk {T s P : List Int} (h : WalkR T s P s) : ∀ m, WalkR T s (repI P m) s
  | 0 => by simp only [repI, List.replicate_zero, List.flatten_nil]; exact .nil
  | m + 1 => by rw [rep_succ]; exact h.trans (rep_walk h m)
theorem LoopR.rep {T Bg Lp s : List Int} (h : LoopR T Bg Lp s) (m : Nat) : WalkR T (startS T) (Bg ++ repI Lp m) s := h.bg.trans (rep_walk h.lp m)
theorem LoopR.get {T Bg Lp s W t : List Int} (h : LoopR T Bg Lp s) (hW : WalkR T (startS T) W t) (hl : W.length ≤ 60) {k : Nat} (hk : k < W.length) : W.getD k 0 = if k < Bg.length then Bg.getD k 0 else Lp.getD ((k - Bg.length) % Lp.length) 0 := by
  have hR := h.rep 61
  have hp := h.pos
  have hXl : (repI Lp 61).length = 61 * Lp.length := repI_len Lp 61
  obtain ⟨u, j, h1, _, _⟩ := hR.take W.length (by rw [List.length_append, hXl]; omega)
  have e := (WalkR.one (by rw [List.length_take, List.length_append, hXl]; omega) h1 hW).1
  rw [← e, List.getD_eq_getElem?_getD, List.getElem?_take_of_lt hk, ← List.getD_eq_getElem?_getD]
  by_cases hb : k < Bg.length
  · rw [if_pos hb, getD_app_l hb]
  · rw [if_neg hb, List.getD_eq_getElem?_getD, List.getElem?_append_right (by omega), ← List.getD_eq_getElem?_getD, repI_get Lp (by omega)]
theorem LoopR.cyc {T Bg Lp s : List Int} (hT : TOK T) (h : LoopR T Bg Lp s) : CycG T Lp := by
  intro i hi f
  have hp := h.pos
  have hg := (h.rep 9).good hT
  have hl : (repI Lp 9).length = 9 * Lp.length := repI_len Lp 9
  have hti : 1 ≤ T.getD i 0 ∧ T.getD i 0 ≤ 8 := ⟨hT.lo i hi, hT.hi i hi⟩
  have hfm := Nat.mod_lt f (show 0 < Lp.length by omega)
  have hw := hg i hi (Bg.length + f % Lp.length) (by rw [List.length_append, hl]; omega)
  obtain ⟨j, h1, h2, h3⟩ := (mem_cut (by rw [List.length_append, hl]; omega)).1 hw
  refine ⟨j - Bg.length - f % Lp.length, by omega, ?_⟩
  rw [List.getD_eq_getElem?_getD, List.getElem?_append_right (by omega), ← List.getD_eq_getElem?_getD, repI_get Lp (by omega)] at h3
  rw [← h3]
  congr 1
  rw [← Nat.mod_add_mod, show f % Lp.length + (j - Bg.length - f % Lp.length) = j - Bg.length by omega]
theorem sixth_ever {T : List Int} (hT : TOK T) (h1 : 1 ≤ T.length) (h : sumW T ≤ 700) : everS T (startS T) := by
  obtain ⟨l, rfl, hl⟩ := cast_of hT
  rw [sum_cast] at h
  rw [cast_len] at h1
  have h4 := hT.len
  rw [cast_len] at h4
  refine light h1 h4 hl ?_
  unfold needN
  rw [Nat.ble_eq_true_of_le (by omega)]; rfl
theorem WghtR.cut {T : List Int} {a b d : Nat} (h : WghtR T a b) (h2 : 2 ≤ d) (ha : a % d = 0) (hb : b % d = 0) : False := by
  have := Nat.dvd_gcd (Nat.dvd_of_mod_eq_zero ha) (Nat.dvd_of_mod_eq_zero hb)
  rw [h.cop.gcd_eq_one] at this
  have := Nat.le_of_dvd (by decide) this
  omega
theorem WghtR.b840 {T : List Int} {a b : Nat} (h : WghtR T a b) : b ≤ 840 := Nat.le_of_dvd (by decide) h.dv
theorem WghtR.weigh {T : List Int} {a b : Nat} (h : WghtR T a b) : weighI T (a : Int) (b : Int) = 0 := by
  unfold weighI
  rw [h.eq]; omega
theorem fill_step {v : Value} (h : one v = true) {l : List Value} {i : Nat} (hi : i < l.length) {rest : List (Nat × Value)} : Instr.fill (fun j => some (j * 1, 1)) l.toArray ((i, v) :: rest) = Instr.fill (fun j => some (j * 1, 1)) (l.set i v).toArray rest := by
  have hc : v.cells = #[v] := by cases v <;> first | rfl | cases h
  rw [Instr.fill]
  simp only [hc]
  rw [if_neg (by simp; omega)]
  congr 1
  simp
theorem fill10 {v w : Value} (h : one v = true) (k : one w = true) : Instr.fill (fun j => some (j * 1, 1)) (List.replicate 10 (Value.slice none 0 0)).toArray [(0, v), (1, w), (2, w), (3, w), (4, w), (5, w), (6, w), (7, w), (8, w), (9, w)] = some [v, w, w, w, w, w, w, w, w, w].toArray := by
  rw [fill_step h (by simp), fill_step k (by simp), fill_step k (by simp), fill_step k (by simp), fill_step k (by simp), fill_step k (by simp), fill_step k (by simp), fill_step k (by simp), fill_step k (by simp), fill_step k (by simp)]
  rfl
theorem lens10 (Bg Lp : List Int) : lenS [Bg, Lp, Lp, Lp, Lp, Lp, Lp, Lp, Lp, Lp] = Bg.length + 9 * Lp.length := by simp [lenS]; omega
theorem flat10 (Bg Lp : List Int) : [Bg, Lp, Lp, Lp, Lp, Lp, Lp, Lp, Lp, Lp].flatten = Bg ++ repI Lp 9 := rfl
theorem parts10 {M : HL} {u1 u2 : Value} {Bg Lp : List Int} (h1 : Sl M 1 u1 (ints Bg)) (hr : RdS M u1) (h2 : Sl M 1 u2 (ints Lp)) (hp : 1 ≤ Lp.length) : PartsM M [u1, u2, u2, u2, u2, u2, u2, u2, u2, u2] [Bg, Lp, Lp, Lp, Lp, Lp, Lp, Lp, Lp, Lp] := by
  refine ⟨rfl, fun i hi => ?_, fun i hi h0 => ?_⟩
  · match i, hi with
    | 0, _ => exact h1
    | 1, _ => exact h2
    | 2, _ => exact h2
    | 3, _ => exact h2
    | 4, _ => exact h2
    | 5, _ => exact h2
    | 6, _ => exact h2
    | 7, _ => exact h2
    | 8, _ => exact h2
    | 9, _ => exact h2
    | i + 10, hi => exact absurd hi (by show ¬ i + 10 < 10; omega)
  · match i, hi, h0 with
    | 0, _, _ => exact hr
    | 1, _, h0 => exact absurd (congrArg List.length (show Lp = [] from h0)) (by simp; intro e; rw [e] at hp; simp at hp)
    | 2, _, h0 => exact absurd (congrArg List.length (show Lp = [] from h0)) (by simp; intro e; rw [e] at hp; simp at hp)
    | 3, _, h0 => exact absurd (congrArg List.length (show Lp = [] from h0)) (by simp; intro e; rw [e] at hp; simp at hp)
    | 4, _, h0 => exact absurd (congrArg List.length (show Lp = [] from h0)) (by simp; intro e; rw [e] at hp; simp at hp)
    | 5, _, h0 => exact absurd (congrArg List.length (show Lp = [] from h0)) (by simp; intro e; rw [e] at hp; simp at hp)
    | 6, _, h0 => exact absurd (congrArg List.length (show Lp = [] from h0)) (by simp; intro e; rw [e] at hp; simp at hp)
    | 7, _, h0 => exact absurd (congrArg List.length (show Lp = [] from h0)) (by simp; intro e; rw [e] at hp; simp at hp)
    | 8, _, h0 => exact absurd (congrArg List.length (show Lp = [] from h0)) (by simp; intro e; rw [e] at hp; simp at hp)
    | 9, _, h0 => exact absurd (congrArg List.length (show Lp = [] from h0)) (by simp; intro e; rw [e] at hp; simp at hp)
    | i + 10, hi, _ => exact absurd hi (by show ¬ i + 10 < 10; omega)
attribute [local irreducible] gOK WS WC WR WD Ends FS YS OpV seqK blockK loopK midK retK rdK asgK rangeEnd sat Cell
section
variable {M : HL} {n0 : Nat} {H : Heap} {v w : Value}
theorem Loop_fs (hH : hasH M n0 H) {T : List Int} (hS : Sl M 1 v (ints T)) (hT : TOK T) (h1 : 1 ≤ T.length) :
    FS C 34 [v] H (fun e H' => ∃ n', n0 ≤ n' ∧ ((¬ everS T (startS T) ∧ hasH M n' H' ∧ e = .tuple #[.slice none 0 0, .slice none 0 0, .int .i64 12]) ∨
      (everS T (startS T) ∧ ∃ u1 u2 Bg Lp s Mx, e = .tuple #[u1, u2, .int .i64 0] ∧ LoopR T Bg Lp s ∧ Sl (Mx ++ M) 1 u1 (ints Bg) ∧ RdS (Mx ++ M) u1 ∧ Sl (Mx ++ M) 1 u2 (ints Lp) ∧ hasH (Mx ++ M) n' H'))) := by
  have hv := hS.one_
  have hTl := hT.len
  have h0 := errT_of hT h1
  have hb1 : ∀ b, one (.map (some b)) = true := fun _ => rfl
  refine FS.intro (pf := pf34) rfl rfl rfl ?_
  repeat' (first | refine zP ?_ | refine zA ?_ | (refine zM ?_; intro _ _) | refine zX ?_ | (refine zC ?_; intro _ _ _ _) | (refine zS ?_; intro _ _) | (apply Ws <;> intro hg))
  refine WR.call (by first | exact gN | exact gS rfl) rfl rfl (Check_fs hH hS (by omega)) ?_
  rintro _ _ ⟨rfl, rfl⟩
  repeat' (first | refine zP ?_ | refine zA ?_ | (refine zM ?_; intro _ _) | refine zX ?_ | (refine zC ?_; intro _ _ _ _) | (refine zS ?_; intro _ _) | refine zO ?_ | (apply Ws <;> intro hg))
  refine WR.call (by first | exact gN | exact gS rfl) rfl rfl (look_fs hH hv) ?_
  rintro _ H1 ⟨b, n1, rfl, hb, hbn, hH1⟩
  repeat' (first | refine zP ?_ | refine zA ?_ | (refine zM ?_; intro _ _) | refine zX ?_ | (refine zC ?_; intro _ _ _ _) | (refine zS ?_; intro _ _) | (apply Ws <;> intro hg))
  rename_i H2 hH2
  refine WR.store2 (by first | exact gN | exact gS rfl) hH2 rfl rfl hv rfl .here fun H3 hH3 => ?_
  repeat' (first | refine zP ?_ | refine zA ?_ | (refine zM ?_; intro _ _) | refine zX ?_ | (refine zC ?_; intro _ _ _ _) | (refine zS ?_; intro _ _) | (apply Ws <;> intro hg))
  refine WR.call (by first | exact gN | exact gS rfl) rfl rfl (can_fs hH3.swap hS.cons hT h1 (KeysN.nil 4) (inv_nil T)) ?_
  rintro _ H4 ⟨m', n4, rfl, hn4, hH4, hk4, hI4⟩
  have hH4s := hH4.swap
  cases hev : everB T (startS T) with
  | false =>
    repeat' (first | refine zP ?_ | refine zA ?_ | (refine zM ?_; intro _ _) | refine zX ?_ | (refine zC ?_; intro _ _ _ _) | (refine zS ?_; intro _ _) | (apply Ws <;> intro hg))
    refine Ends.ret3 rfl rfl rfl ⟨n4, by omega, .inl ⟨fun h => ?_, hH4.tail.tail, rfl⟩⟩
    rw [everB_true.2 h] at hev; cases hev
  | true =>
    repeat' (first | refine zP ?_ | refine zA ?_ | (refine zM ?_; intro _ _) | refine zX ?_ | (refine zC ?_; intro _ _ _ _) | (refine zS ?_; intro _ _) | (apply Ws <;> intro hg))
    refine WR.call (by first | exact gN | exact gS rfl) rfl rfl (loop_fs hH4 hS.cons hT h1 (everB_true.1 hev) hk4 hI4) ?_
    rintro _ H5 ⟨u1, u2, Bg, Lp, s, Mx, n5, rfl, hL, hS1, hR1, hS2, hn5, hH5⟩
    repeat' (first | refine zP ?_ | refine zA ?_ | (refine zM ?_; intro _ _) | refine zX ?_ | (refine zC ?_; intro _ _ _ _) | (refine zS ?_; intro _ _) | (apply Ws <;> intro hg))
    have e : ∀ p : Nat × Ch, Mx ++ p :: M = (Mx ++ [p]) ++ M := fun p => by simp
    rw [e] at hS1 hR1 hS2 hH5
    exact Ends.ret3 rfl rfl rfl ⟨n5, by omega, .inr ⟨everB_true.1 hev, u1, u2, Bg, Lp, s, _, rfl, hL, hS1, hR1, hS2, hH5⟩⟩
end
end Go.Proofs.Ytnmlfjohoeebiaa.Wk

/- The law WalkSixths. -/
namespace Go.Proofs.Ytnmlfjohoeebiaa.Wk
open Go Go.Abs Go.Mth
set_option linter.unusedVariables false
set_option linter.unusedSimpArgs false
attribute [local irreducible] gOK WS WC WR WD Ends FS YS OpV seqK blockK loopK midK retK rdK asgK rangeEnd sat Cell
section
variable {M : HL} {n0 : Nat} {H : Heap} {v w : Value}
set_option maxHeartbeats 2000000 in
theorem WalkSixths_fs (hH : hasH M n0 H) {a b c : Int} {hs : List Int} (ha : 0 ≤ a ∧ a ≤ 255) (hb : 0 ≤ b ∧ b ≤ 255) (hc : 0 ≤ c ∧ c ≤ 255) (hl : hs.length = 2) (hu : ∀ x ∈ hs, 0 ≤ x ∧ x ≤ 255) :
    FS C 7 [.agg (trayV a b c hs).toArray] H (fun e H' => e = .bool true) := by
  obtain ⟨x, ys, hE, hx, hyl, hy⟩ := tray_beach ha hb hc hl hu
  rw [hE]
  clear hE ha hb hc hl hu
  have hone := beach_one x ys
  have hbl : (beachC x ys).length = 5 := by simp [beachC, hyl]
  refine FS.intro (pf := pf7) rfl rfl rfl ?_
  repeat' (first | refine zP ?_ | refine zA ?_ | (refine zM ?_; intro _ _) | refine zX ?_ | (refine zC ?_; intro _ _ _ _) | (refine zS ?_; intro _ _) | (apply Ws <;> intro hg))
  rename_i H1 hH1
  refine WR.call (by first | exact gN | exact gS rfl) rfl rfl (made_fs (many := 4) (most := 8) hH1 hx hyl hy (by omega) (by omega)) ?_
  rintro tv H2 ⟨MT, n2, hOT, hn2, hH2⟩
  have hST := hOT.sl ((n0, .row 45 0 0 (beachC x ys)) :: M)
  clear hOT hH1
  generalize MT ++ ((n0, .row 45 0 0 (beachC x ys)) :: M) = T0 at hH2 hST
  obtain ⟨N, hN⟩ : ∃ N, 1 + x % 4 = N := ⟨_, rfl⟩
  have hN4 : 1 ≤ N ∧ N ≤ 4 := by omega
  rw [hN] at hST
  have hTok := made_ok (ys := ys) (most := 8) (n := N) (by omega) (by omega)
  have hTl : (firstT (madeF 8) ys N).length = N := firstT_len _ _ _
  generalize firstT (madeF 8) ys N = T at hST hTok hTl
  have hE := errT_of hTok (by omega)
  have hTl4 := hTok.len
  have hT1 : 1 ≤ T.length := by omega
  repeat' (first | refine zP ?_ | refine zA ?_ | (refine zM ?_; intro _ _) | refine zX ?_ | (refine zC ?_; intro _ _ _ _) | (refine zS ?_; intro _ _) | (apply Ws <;> intro hg))
  refine WR.call (by first | exact gN | exact gS rfl) rfl rfl (Weight_fs hH2 hST hTok hT1) ?_
  rintro _ H3 ⟨aa, bb, rfl, hWt, rfl⟩
  have ha1 := hWt.a1
  have hb1 := hWt.b1
  have hab := hWt.le
  have hb8 := hWt.b840
  have h840 : (840 : Int) % (bb : Int) = 0 := by
    have := Nat.mod_eq_zero_of_dvd hWt.dv
    exact congrArg (fun n : Nat => (n : Int)) this
  have hws := hWt.weigh
  repeat' (first | refine zP ?_ | refine zA ?_ | (refine zM ?_; intro _ _) | refine zX ?_ | (refine zC ?_; intro _ _ _ _) | (refine zS ?_; intro _ _) | (apply Ws <;> intro hg))
  refine WR.call (by first | exact gN | exact gS rfl) rfl rfl (Can_fs hH2 hST (by omega)) ?_
  rintro _ H4 ⟨n4, hn4, hH4, rfl⟩
  rw [hE, show (decide ((0 : Int) = 0) && everB T (startS T)) = everB T (startS T) by simp]
  obtain ⟨g, hg⟩ : ∃ g, everB T (startS T) = g := ⟨_, rfl⟩
  rw [hg]
  repeat' (first | refine zP ?_ | refine zA ?_ | (refine zM ?_; intro _ _) | refine zX ?_ | (refine zC ?_; intro _ _ _ _) | (refine zS ?_; intro _ _) | (apply Ws <;> intro hg))
  refine WR.call (by first | exact gN | exact gS rfl) rfl rfl (Longest_fs hH4 hST (by omega)) ?_
  rintro _ H5 ⟨n5, r, cc, hn5, hH5, rfl, hLong⟩
  repeat' (first | refine zP ?_ | refine zA ?_ | (refine zM ?_; intro _ _) | refine zX ?_ | (refine zC ?_; intro _ _ _ _) | (refine zS ?_; intro _ _) | refine zO ?_ | (apply Ws <;> intro hg))
  refine WR.call (by first | exact gN | exact gS rfl) rfl rfl (weighs_fs hH5 hST hTok (by omega) (by omega)) ?_
  rintro _ H6 ⟨rfl, rfl⟩
  rw [hws]
  repeat' (first | refine zP ?_ | refine zA ?_ | (refine zM ?_; intro _ _) | refine zX ?_ | (refine zC ?_; intro _ _ _ _) | (refine zS ?_; intro _ _) | refine zO ?_ | (apply Ws <;> intro hg))
  refine WC.loopX [(3, tv), (4, .int .i64 (aa : Int)), (5, .int .i64 (bb : Int)), (7, .bool g), (9, .int .i64 r), (10, .int .i64 cc)] (fun d : Nat => [(11, .int .i64 (d : Int))]) []
    (fun d H' => H' = H6 ∧ 2 ≤ d ∧ d ≤ bb + 2) (fun d => bb + 2 - d) 2 (by repeat' (first | exact .nil | refine .cons rfl ?_)) rfl ⟨rfl, Nat.le_refl _, by omega⟩ ?_
  rintro d _ ⟨rfl, hd2, hdb⟩
  dsimp only [List.cons_append, List.nil_append]
  repeat' (first | refine zP ?_ | refine zA ?_ | (refine zM ?_; intro _ _) | refine zX ?_ | (refine zC ?_; intro _ _ _ _) | (refine zS ?_; intro _ _) | (apply Ws <;> intro hg))
  refine WC.condP rfl (fun hlt => ?_) (fun hlt => ?_)
  · have ea : (aa : Int) % (d : Int) = ((aa % d : Nat) : Int) := by simp
    have eb : (bb : Int) % (d : Int) = ((bb % d : Nat) : Int) := by simp
    by_cases h3 : aa % d = 0
    · have h4 : bb % d ≠ 0 := fun h4 => hWt.cut hd2 h3 h4
      have h3' : (aa : Int) % (d : Int) = 0 := by omega
      have h4' : (bb : Int) % (d : Int) ≠ 0 := by omega
      clear ea eb
      repeat' (first | refine zP ?_ | refine zA ?_ | (refine zM ?_; intro _ _) | refine zX ?_ | (refine zC ?_; intro _ _ _ _) | (refine zS ?_; intro _ _) | refine zO ?_ | (apply Ws <;> intro hg))
      exact Ends.loop (d + 1) (by omega) (by repeat' (first | exact .nil | refine .cons rfl ?_)) rfl ⟨rfl, by omega, by omega⟩
    · have h3' : (aa : Int) % (d : Int) ≠ 0 := by omega
      clear ea eb
      repeat' (first | refine zP ?_ | refine zA ?_ | (refine zM ?_; intro _ _) | refine zX ?_ | (refine zC ?_; intro _ _ _ _) | (refine zS ?_; intro _ _) | refine zO ?_ | (apply Ws <;> intro hg))
      exact Ends.loop (d + 1) (by omega) (by repeat' (first | exact .nil | refine .cons rfl ?_)) rfl ⟨rfl, by omega, by omega⟩
  clear hlt hdb hd2
  repeat' (first | refine zP ?_ | refine zA ?_ | (refine zM ?_; intro _ _) | refine zX ?_ | (refine zC ?_; intro _ _ _ _) | (refine zS ?_; intro _ _) | refine zO ?_ | (apply Ws <;> intro hg))
  refine WR.call (by first | exact gN | exact gS rfl) rfl rfl (weighs_fs hH5 hST hTok (a := 1) (b := 1) (by omega) (by omega)) ?_
  rintro _ H7 ⟨rfl, rfl⟩
  have hwk0 : wlkE T 60 = if g = false then 12 else 0 := by unfold wlkE; rw [if_neg (by omega), if_neg (by omega), hg]
  cases g with
  | false =>
    have hne : ¬ everS T (startS T) := fun h => by rw [everB_true.2 h] at hg; cases hg
    have hw2 : 0 < weighI T 5 6 := by
      refine Classical.byContradiction fun h => hne (sixth_ever hTok hT1 ?_)
      unfold weighI at h; omega
    rw [if_pos rfl] at hwk0
    have hL : cc = 0 ∧ 0 ≤ r := by
      rcases hLong with ⟨h, _⟩ | ⟨_, h, _⟩ | ⟨_, h, m, h2, _⟩
      · omega
      · exact absurd h hne
      · omega
    obtain ⟨rfl, hr0⟩ := hL
    by_cases hw1 : 0 < weighI T 1 1
    all_goals
      repeat' (first | refine zP ?_ | refine zA ?_ | (refine zM ?_; intro _ _) | refine zX ?_ | (refine zC ?_; intro _ _ _ _) | (refine zS ?_; intro _ _) | refine zO ?_ | (apply Ws <;> intro hg))
      refine WR.call (by first | exact gN | exact gS rfl) rfl rfl (weighs_fs hH5 hST hTok (a := 5) (b := 6) (by omega) (by omega)) ?_
      rintro _ H8 ⟨rfl, rfl⟩
      repeat' (first | refine zP ?_ | refine zA ?_ | (refine zM ?_; intro _ _) | refine zX ?_ | (refine zC ?_; intro _ _ _ _) | (refine zS ?_; intro _ _) | refine zO ?_ | (apply Ws <;> intro hg))
      refine WR.call (by first | exact gN | exact gS rfl) rfl rfl (Walk_fs hH5 hST (by omega) 60) ?_
      rintro _ H9 ⟨wv, W, MW, n9, rfl, hOW, hn9, hH9, hcase⟩
      rcases hcase with ⟨_, rfl⟩ | ⟨h, _⟩
      case' inr => omega
      rw [hwk0]
      have hSW := hOW.sl T0
      have hST9 : Sl (MW ++ T0) 1 tv (ints T) := hST.mono fun q hq => List.mem_append_right _ hq
      generalize MW ++ T0 = T1 at hH9 hSW hST9
      repeat' (first | refine zP ?_ | refine zA ?_ | (refine zM ?_; intro _ _) | refine zX ?_ | (refine zC ?_; intro _ _ _ _) | (refine zS ?_; intro _ _) | (apply Ws <;> intro hg))
      refine WR.call (by first | exact gN | exact gS rfl) rfl rfl (Loop_fs hH9 hST9 hTok hT1) ?_
      rintro _ H10 ⟨n10, hn10, ⟨_, hH10, rfl⟩ | ⟨h, _⟩⟩
      case' inr => exact absurd h hne
      have hwl : ([] : List Int).length = 0 := rfl
      repeat' (first | refine zP ?_ | refine zA ?_ | (refine zM ?_; intro _ _) | refine zX ?_ | (refine zC ?_; intro _ _ _ _) | (refine zS ?_; intro _ _) | refine zO ?_ | (apply Ws <;> intro hg))
      refine WR.call (by first | exact gN | exact gS rfl) rfl rfl (FS.works (C := C) (R := fun v H' => v = .bool true) rfl) ?_
      rintro _ _ rfl
      repeat' (first | refine zP ?_ | refine zA ?_ | (refine zM ?_; intro _ _) | refine zX ?_ | (refine zC ?_; intro _ _ _ _) | (refine zS ?_; intro _ _) | (apply Ws <;> intro hg))
      exact Ends.ret1 rfl rfl
  | true =>
    have hev := everB_true.1 hg
    have hw1 : ¬ 0 < weighI T 1 1 := fun h => by
      refine heavy hTok ?_ hev
      unfold weighI at h; omega
    rw [if_neg (by simp)] at hwk0
    have hL : cc = 13 ∧ r = 0 := by
      rcases hLong with ⟨h, _⟩ | ⟨_, h, h1, h2⟩ | ⟨_, h, m, h2, _, _, h3⟩
      · omega
      · omega
      · exact absurd (hev _) h3
    obtain ⟨rfl, rfl⟩ := hL
    repeat' (first | refine zP ?_ | refine zA ?_ | (refine zM ?_; intro _ _) | refine zX ?_ | (refine zC ?_; intro _ _ _ _) | (refine zS ?_; intro _ _) | refine zO ?_ | (apply Ws <;> intro hg))
    refine WR.call (by first | exact gN | exact gS rfl) rfl rfl (weighs_fs hH5 hST hTok (a := 5) (b := 6) (by omega) (by omega)) ?_
    rintro _ H8 ⟨rfl, rfl⟩
    by_cases h56 : weighI T 5 6 ≤ 0
    all_goals
      repeat' (first | refine zP ?_ | refine zA ?_ | (refine zM ?_; intro _ _) | refine zX ?_ | (refine zC ?_; intro _ _ _ _) | (refine zS ?_; intro _ _) | refine zO ?_ | (apply Ws <;> intro hg))
      refine WR.call (by first | exact gN | exact gS rfl) rfl rfl (Walk_fs hH5 hST (by omega) 60) ?_
      rintro _ H9 ⟨wv, W, MW, n9, rfl, hOW, hn9, hH9, hcase⟩
      rcases hcase with ⟨h, _⟩ | ⟨_, hWl0, t, hR⟩
      case' inl => omega
      have hWl : W.length = 60 := hWl0
      rw [hwk0]
      have hSW := hOW.sl T0
      have hST9 : Sl (MW ++ T0) 1 tv (ints T) := hST.mono fun q hq => List.mem_append_right _ hq
      generalize MW ++ T0 = T1 at hH9 hSW hST9
      repeat' (first | refine zP ?_ | refine zA ?_ | (refine zM ?_; intro _ _) | refine zX ?_ | (refine zC ?_; intro _ _ _ _) | (refine zS ?_; intro _ _) | (apply Ws <;> intro hg))
      refine WR.call (by first | exact gN | exact gS rfl) rfl rfl (Loop_fs hH9 hST9 hTok hT1) ?_
      rintro _ H10 ⟨n10, hn10, ⟨h, _⟩ | ⟨_, u1, u2, Bg, Lp, s, Mx, rfl, hL, hS1, hR1, hS2, hH10⟩⟩
      case' inl => exact absurd hev h
      have hST10 : Sl (Mx ++ T1) 1 tv (ints T) := hST9.mono fun q hq => List.mem_append_right _ hq
      have hSW10 : Sl (Mx ++ T1) 1 wv (ints W) := hSW.mono fun q hq => List.mem_append_right _ hq
      clear hH9 hSW hST9 hOW hWl0
      generalize Mx ++ T1 = T2 at hH10 hS1 hR1 hS2 hST10 hSW10
      have hLp := hL.pos
      have hLb := hL.bd
      have hgw := goodB_true.2 (hR.good hTok)
      repeat' (first | refine zP ?_ | refine zA ?_ | (refine zM ?_; intro _ _) | refine zX ?_ | (refine zC ?_; intro _ _ _ _) | (refine zS ?_; intro _ _) | refine zO ?_ | (apply Ws <;> intro hg))
      refine WR.call (by first | exact gN | exact gS rfl) rfl rfl (walked_fs hH10 hST10 hTok hSW10 (by omega)) ?_
      rintro _ H11 ⟨rfl, rfl⟩
      rw [hgw]
      repeat' (first | refine zP ?_ | refine zA ?_ | (refine zM ?_; intro _ _) | refine zX ?_ | (refine zC ?_; intro _ _ _ _) | (refine zS ?_; intro _ _) | refine zO ?_ | (apply Ws <;> intro hg))
      refine WC.loopX [(3, tv), (12, wv), (14, u1), (15, u2), (176, wv), (177, .int .i64 (W.length : Int))] (fun k : Nat => [(178, .int .i64 (k : Int))]) []
        (fun k H' => H' = H11 ∧ k ≤ W.length) (fun k => W.length - k) 0 (by repeat' (first | exact .nil | refine .cons rfl ?_)) rfl ⟨rfl, Nat.zero_le _⟩ ?_
      rintro k _ ⟨rfl, hk⟩
      dsimp only [List.cons_append, List.nil_append]
      repeat' (first | refine zP ?_ | refine zA ?_ | (refine zM ?_; intro _ _) | refine zX ?_ | (refine zC ?_; intro _ _ _ _) | (refine zS ?_; intro _ _) | (apply Ws <;> intro hg))
      refine WC.condP rfl (fun hlt => ?_) (fun hlt => ?_)
      · have hk' : k < W.length := by omega
        have hget := hL.get hR (by omega) hk'
        repeat' (first | refine zP ?_ | refine zA ?_ | (refine zM ?_; intro _ _) | refine zX ?_ | (refine zC ?_; intro _ _ _ _) | (refine zS ?_; intro _ _) | (apply Ws <;> intro hg))
        refine WC.condP rfl (fun hge => ?_) (fun hge => ?_)
        · have hbk : Bg.length ≤ k := by omega
          rw [if_neg (by omega)] at hget
          have hmodE : ((k : Int) - (Bg.length : Int)) % (Lp.length : Int) = (((k - Bg.length) % Lp.length : Nat) : Int) := by
            rw [show (k : Int) - (Bg.length : Int) = ((k - Bg.length : Nat) : Int) by omega]; simp
          have hrm := Nat.mod_lt (k - Bg.length) (show 0 < Lp.length by omega)
          generalize (k - Bg.length) % Lp.length = rr at hget hmodE hrm
          repeat' (first | refine zP ?_ | refine zA ?_ | (refine zM ?_; intro _ _) | refine zX ?_ | (refine zC ?_; intro _ _ _ _) | (refine zS ?_; intro _ _) | (apply Ws <;> intro hg))
          rw [hmodE]
          repeat' (first | refine zP ?_ | refine zA ?_ | (refine zM ?_; intro _ _) | refine zX ?_ | (refine zC ?_; intro _ _ _ _) | (refine zS ?_; intro _ _) | (apply Ws <;> intro hg))
          rw [Int.toNat_natCast]
          repeat' (first | refine zP ?_ | refine zA ?_ | (refine zM ?_; intro _ _) | refine zX ?_ | (refine zC ?_; intro _ _ _ _) | (refine zS ?_; intro _ _) | refine zO ?_ | (apply Ws <;> intro hg))
          exact Ends.loop (k + 1) (by omega) (by repeat' (first | exact .nil | refine .cons rfl ?_)) rfl ⟨rfl, by omega⟩
        · have hbk : k < Bg.length := by omega
          rw [if_pos hbk] at hget
          repeat' (first | refine zP ?_ | refine zA ?_ | (refine zM ?_; intro _ _) | refine zX ?_ | (refine zC ?_; intro _ _ _ _) | (refine zS ?_; intro _ _) | refine zO ?_ | (apply Ws <;> intro hg))
          exact Ends.loop (k + 1) (by omega) (by repeat' (first | exact .nil | refine .cons rfl ?_)) rfl ⟨rfl, by omega⟩
      · clear hlt hk
        have ho1 := hS1.one_
        have ho2 := hS2.one_
        repeat' (first | refine zP ?_ | refine zA ?_ | (refine zM ?_; intro _ _) | refine zX ?_ | (refine zC ?_; intro _ _ _ _) | (refine zS ?_; intro _ _) | (apply Ws <;> intro hg))
        refine WR.bldS (by first | exact gN | exact gS rfl) rfl hH10 (vs := [(0, u1), (1, u2), (2, u2), (3, u2), (4, u2), (5, u2), (6, u2), (7, u2), (8, u2), (9, u2)]) rfl (cs := [u1, u2, u2, u2, u2, u2, u2, u2, u2, u2]) (fill10 ho1 ho2) (by simp only [List.all_cons, ho1, ho2]; rfl) fun H12 hH12 => ?_
        have hSv : Sl ((n10, Ch.row 22 0 0 [u1, u2, u2, u2, u2, u2, u2, u2, u2, u2]) :: T2) 1 (.slice (some ⟨n10, 0, some 0⟩) 10 (2 * 10 + 1)) [u1, u2, u2, u2, u2, u2, u2, u2, u2, u2] :=
          .row (lo := 0) (cs := [u1, u2, u2, u2, u2, u2, u2, u2, u2, u2]) (.head _) (.row _ _ _ _) (Nat.zero_le _) rfl rfl (by simp) (.inr ⟨10, rfl, Nat.le_refl _⟩)
        have hPM := parts10 (M := (n10, Ch.row 22 0 0 [u1, u2, u2, u2, u2, u2, u2, u2, u2, u2]) :: T2) hS1.cons (hR1.mono fun q hq => List.mem_cons_of_mem _ hq) hS2.cons hLp
        have hl10 := lens10 Bg Lp
        have hf10 := flat10 Bg Lp
        refine WR.call (by first | exact gN | exact gS rfl) rfl rfl (Concat_fs hH12 hSv hPM (by simp) (by omega) (by omega)) ?_
        rintro _ H13 ⟨qb, n13, rfl, hn13, hH13⟩
        rw [hl10, hf10] at *
        have hQl : (Bg ++ repI Lp 9).length = Bg.length + 9 * Lp.length := by rw [List.length_append, repI_len]
        have hgQ := goodB_true.2 ((hL.rep 9).good hTok)
        generalize Bg ++ repI Lp 9 = Q at hH13 hQl hgQ
        have hSQ : Sl ((qb, Ch.row 3 0 0 (ints Q)) :: (n10, Ch.row 22 0 0 [u1, u2, u2, u2, u2, u2, u2, u2, u2, u2]) :: T2) 1 (.slice (some ⟨qb, 0, some 0⟩) (Bg.length + 9 * Lp.length) (roomCode 1 (Bg.length + 9 * Lp.length))) (ints Q) :=
          .row (lo := 0) (cs := ints Q) (.head _) (.row _ _ _ _) (Nat.zero_le _) (by simp [hQl]) (by rw [Nat.sub_zero, List.drop_zero, List.take_length]) (by simp) (.inl (.inr ⟨Bg.length + 9 * Lp.length, rfl, Nat.le_refl _⟩))
        have hST13 := (hST10.cons (p := (n10, Ch.row 22 0 0 [u1, u2, u2, u2, u2, u2, u2, u2, u2, u2]))).cons (p := (qb, Ch.row 3 0 0 (ints Q)))
        have hS213 := (hS2.cons (p := (n10, Ch.row 22 0 0 [u1, u2, u2, u2, u2, u2, u2, u2, u2, u2]))).cons (p := (qb, Ch.row 3 0 0 (ints Q)))
        clear hSv hPM hH12 hH10 hST10 hSW10 hS1 hS2 hR1
        generalize (qb, Ch.row 3 0 0 (ints Q)) :: (n10, Ch.row 22 0 0 [u1, u2, u2, u2, u2, u2, u2, u2, u2, u2]) :: T2 = T3 at hH13 hSQ hST13 hS213
        generalize Value.slice (some ⟨qb, 0, some 0⟩) (Bg.length + 9 * Lp.length) (roomCode 1 (Bg.length + 9 * Lp.length)) = qv at hSQ ⊢
        repeat' (first | refine zP ?_ | refine zA ?_ | (refine zM ?_; intro _ _) | refine zX ?_ | (refine zC ?_; intro _ _ _ _) | (refine zS ?_; intro _ _) | (apply Ws <;> intro hg))
        refine WR.call (by first | exact gN | exact gS rfl) rfl rfl (walkedL_fs hH13 hST13 hTok hSQ (by omega)) ?_
        rintro _ H14 ⟨rfl, rfl⟩
        rw [hgQ]
        by_cases hlong : 60 < Lp.length
        · repeat' (first | refine zP ?_ | refine zA ?_ | (refine zM ?_; intro _ _) | refine zX ?_ | (refine zC ?_; intro _ _ _ _) | (refine zS ?_; intro _ _) | refine zO ?_ | (apply Ws <;> intro hg))
          refine WR.call (by first | exact gN | exact gS rfl) rfl rfl (FS.works (C := C) (R := fun v H' => v = .bool true) rfl) ?_
          rintro _ _ rfl
          repeat' (first | refine zP ?_ | refine zA ?_ | (refine zM ?_; intro _ _) | refine zX ?_ | (refine zC ?_; intro _ _ _ _) | (refine zS ?_; intro _ _) | (apply Ws <;> intro hg))
          exact Ends.ret1 rfl rfl
        · have hmt := (meetE_val hTok hT1 hLp (by omega) hL.lp.go.2).1 (hL.cyc hTok)
          repeat' (first | refine zP ?_ | refine zA ?_ | (refine zM ?_; intro _ _) | refine zX ?_ | (refine zC ?_; intro _ _ _ _) | (refine zS ?_; intro _ _) | refine zO ?_ | (apply Ws <;> intro hg))
          refine WR.call (by first | exact gN | exact gS rfl) rfl rfl (Meets_fs hH13 hST13 (by omega) hS213 (by omega)) ?_
          rintro _ H15 ⟨n15, hn15, hH15, rfl⟩
          rw [hmt]
          repeat' (first | refine zP ?_ | refine zA ?_ | (refine zM ?_; intro _ _) | refine zX ?_ | (refine zC ?_; intro _ _ _ _) | (refine zS ?_; intro _ _) | refine zO ?_ | (apply Ws <;> intro hg))
          refine WR.call (by first | exact gN | exact gS rfl) rfl rfl (FS.works (C := C) (R := fun v H' => v = .bool true) rfl) ?_
          rintro _ _ rfl
          repeat' (first | refine zP ?_ | refine zA ?_ | (refine zM ?_; intro _ _) | refine zX ?_ | (refine zC ?_; intro _ _ _ _) | (refine zS ?_; intro _ _) | (apply Ws <;> intro hg))
          exact Ends.ret1 rfl rfl
end
end Go.Proofs.Ytnmlfjohoeebiaa.Wk
