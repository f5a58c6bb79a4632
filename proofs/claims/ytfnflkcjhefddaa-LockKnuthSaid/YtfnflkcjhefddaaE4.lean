/- The law LockKnuth. -/
import Derived.Test.YtfnflkcjhefddaaJ2
import Derived.Test.YtfnflkcjhefddaaJ3
namespace Go.Proofs.Ytfnflkcjhefddaa.Lk
open Go Go.Abs Go.Mth
set_option linter.unusedVariables false
set_option linter.unusedSimpArgs false
theorem pureRun_pure {α : Type} {P : Program} (a : α) : pureRun P (pure a : Sem α) = some a := rfl
theorem equal_k {P : Program} {e : TypeId} {k : IntKind} (h : P.underlying e = some (.int k)) (a b : Int) (d : Nat) : pureRun P (Op.equalIn (d + 1) e (.int k a) (.int k b)) = some (a == b) := by
  unfold Op.equalIn
  simp only [pureRun_bind, pureRun_underlying P h, Option.bind_some]
  cases k <;> rfl
theorem sameArr3 (a b c : Int) (k : Nat) : pureRun C.c.P (Op.equalIn (k + 1 + 1) 53 (.agg #[.int .i64 a, .int .i64 b, .int .i64 c]) (.agg #[.int .i64 a, .int .i64 b, .int .i64 c])) = some true := by
  have hu : C.c.P.underlying 53 = some (.array 3 3) := Try.underlying53
  have hz : pureRun C.c.P (sizeOf 3) = some 1 := by kernel_rfl
  have hp0 : ∀ x y z : Int, pureRun C.c.P (part 3 #[.int .i64 x, .int .i64 y, .int .i64 z] 0) = some (.int .i64 x) := fun x y z => by kernel_rfl
  have hp1 : ∀ x y z : Int, pureRun C.c.P (part 3 #[.int .i64 x, .int .i64 y, .int .i64 z] 1) = some (.int .i64 y) := fun x y z => by kernel_rfl
  have hp2 : ∀ x y z : Int, pureRun C.c.P (part 3 #[.int .i64 x, .int .i64 y, .int .i64 z] 2) = some (.int .i64 z) := fun x y z => by kernel_rfl
  have hk := equal_k (P := C.c.P) (e := 3) (k := .i64) (by kernel_rfl)
  unfold Op.equalIn
  simp only [pureRun_bind, pureRun_underlying C.c.P hu, Option.bind_some, hz, Std.Legacy.Range.forIn_eq_forIn_range', Std.Legacy.Range.size]
  simp only [show (3 - 0 + 1 - 1) / 1 = 3 from rfl, List.range', List.forIn_cons, List.forIn_nil, pureRun_bind, Nat.zero_mul, Nat.one_mul, Nat.zero_add, Nat.mul_one, Nat.reduceAdd, hp0, hp1, hp2, hk, Option.bind_some]
  simp [pureRun_bind, pureRun_pure, hp0, hp1, hp2, hk]
theorem sameArr3Op (a b c : Int) : pureRun C.c.P (binOp .neq 53 (.agg #[.int .i64 a, .int .i64 b, .int .i64 c]) (.agg #[.int .i64 a, .int .i64 b, .int .i64 c])) = some (.bool false) := by
  have := sameArr3 a b c 9998
  show pureRun C.c.P (Op.equal 53 _ _ >>= fun q => (pure (Value.bool (!q)) : Sem Value)) = _
  rw [pureRun_bind]
  show Option.bind (pureRun C.c.P (Op.equalIn (9998 + 1 + 1) 53 _ _)) _ = _
  rw [this]
  simp [pureRun_pure]
theorem OpV.neArr3 {L : Env} {H : Heap} {dst : Option Tmp} {x y : Operand} {ty2 ty3 : TypeId} {pos : String} {af : Array Edge} {g : Option (Nat × Bool)} {a b c : Int}
    (hx : ev L x = some (.agg [.int .i64 a, .int .i64 b, .int .i64 c].toArray)) (hy : ev L y = some (.agg [.int .i64 a, .int .i64 b, .int .i64 c].toArray)) :
    OpV C (.plain ⟨dst, .binOp .neq 53 x y ty2, ty3, pos, af, g⟩) L H (.bool false) H := by
  have e1 : pureRun C.c.P (eqGuard .neq 53 x y (.agg #[.int .i64 a, .int .i64 b, .int .i64 c]) (.agg #[.int .i64 a, .int .i64 b, .int .i64 c])) = some () := by kernel_rfl
  refine OpV.plain (fun t ht => ?_) (fun t ht => by simp [Op.operands, ev_ok ht hx, ev_ok ht hy, plainV, plain1]) rfl
  simp only [pureNext, execOp, ev_ok ht hx, ev_ok ht hy, pureRun_bind, e1, sameArr3Op, Option.bind_some]
  rfl
/-- What the law has seen before a place. -/
def WSt (o : List Nat) (i j k : Nat) (f : Bool) (a b c : Nat) : Prop := (f = true ∧ a < b ∧ b < c ∧ c < o.length ∧ barB o a b c = true ∧ NoBefore o a b c) ∨ (f = false ∧ a = 0 ∧ b = 0 ∧ c = 0 ∧ NoBefore o i j k)
theorem WSt.on {o : List Nat} {i j k i' j' k' : Nat} {f : Bool} {a b c : Nat} (h : WSt o i j k f a b c) (hn : NoBefore o i j k → NoBefore o i' j' k') : WSt o i' j' k' f a b c := by
  rcases h with h | ⟨h1, h2, h3, h4, h5⟩
  · exact .inl h
  · exact .inr ⟨h1, h2, h3, h4, hn h5⟩
theorem first_eq {o : List Nat} {a b c x y z : Nat} (h1 : a < b) (h2 : b < c) (h3 : c < o.length) (hb : barB o a b c = true) (hn : NoBefore o a b c) (k1 : x < y) (k2 : y < z) (k3 : z < o.length) (kb : barB o x y z = true) (kn : NoBefore o x y z) : a = x ∧ b = y ∧ c = z := by
  refine Classical.byContradiction fun hne => ?_
  by_cases h : a < x ∨ (a = x ∧ (b < y ∨ (b = y ∧ c < z)))
  · rw [kn a b c h1 h2 h3 h] at hb; cases hb
  · rw [hn x y z k1 k2 k3 (by omega)] at kb; cases kb
theorem use_tail {C : CW} {ro : Option Nat} {fn : FuncId} {nt : Nat} {α : Type} {P : α → Heap → Prop} {E : α → Env} {code : PC} {K : Ex → St → Prop} {G : Prop} (tail : ∀ s H', P s H' → WC C ro fn nt code (E s) [] H' K) (main : (∀ s H', P s H' → WC C ro fn nt code (E s) [] H' K) → G) : G := main tail
theorem neB' {a b : Bool} {L : Env} {H : Heap} {dst : Option Tmp} {x y : Operand} {ty2 : TypeId} {pos : String} {af : Array Edge} {g : Option (Nat × Bool)} (hx : ev L x = some (.bool a)) (hy : ev L y = some (.bool b)) :
    OpV C (.plain ⟨dst, .binOp .neq 4 x y 4, ty2, pos, af, g⟩) L H (.bool (a != b)) H := OpV.neB (by cases a <;> cases b <;> kernel_rfl) hx hy
theorem eqB' {a b : Bool} {L : Env} {H : Heap} {dst : Option Tmp} {x y : Operand} {ty2 : TypeId} {pos : String} {af : Array Edge} {g : Option (Nat × Bool)} (hx : ev L x = some (.bool a)) (hy : ev L y = some (.bool b)) :
    OpV C (.plain ⟨dst, .binOp .eql 4 x y 4, ty2, pos, af, g⟩) L H (.bool (a == b)) H := OpV.eqB (by cases a <;> cases b <;> kernel_rfl) hx hy
structure KT where
  w : Int
  f : Bool
  a : Nat
  b : Nat
  c : Nat
structure KW where
  x : Nat
  f : Bool
  a : Nat
  b : Nat
  c : Nat
abbrev arr3 (a b c : Nat) : List Value := [.int .i64 (a : Int), .int .i64 (b : Int), .int .i64 (c : Int)]
attribute [local irreducible] gOK WS WC WR WD Ends FS YS OpV seqK blockK loopK midK retK rdK asgK rangeEnd sat Cell
section
variable {M : HL} {n0 : Nat} {H : Heap} {v w : Value}
set_option maxHeartbeats 8000000 in
theorem LockKnuth_fs (hH : hasH M n0 H) {x : List Nat} (hxl : x.length = 8) (hx : ∀ y ∈ x, y ≤ 255) :
    FS C 7 [.agg (numsK .u8 x).toArray] H (fun e H' => e = .bool true) := by
  obtain ⟨x, by_, rfl⟩ : ∃ a l, x = a :: l := by
    cases x with
    | nil => simp at hxl
    | cons a l => exact ⟨a, l, rfl⟩
  have hbl : by_.length = 7 := by simpa using hxl
  have hx0 := hx x (by simp)
  have hb : ∀ y ∈ by_, y ≤ 255 := fun y hy => hx y (by simp [hy])
  have hone : (numsK .u8 (x :: by_)).all one = true := by rw [List.all_eq_true]; intro q hq; obtain ⟨z, _, rfl⟩ := List.mem_map.1 hq; rfl
  have hsl : (numsK .u8 (x :: by_)).length = 8 := by simp [numsK, hbl]
  have hfin : ∀ {H' : Heap}, FS C 15 [] H' (fun e H'' => e = .bool true ∧ H'' = H') := fun {H'} => FS.works ⟨rfl, rfl⟩
  refine FS.intro (pf := pf7) rfl rfl rfl ?_
  refine WC.seq ?_
  refine WC.region ?_
  refine WR.boxA (cs := numsK .u8 (x :: by_)) (by first | exact gN | exact gS rfl) rfl hH rfl hone fun H1 hH1 => ?_
  repeat' (first | refine zP ?_ | refine zA ?_ | (refine zM ?_; intro _ _) | refine zX ?_ | (refine zC ?_; intro _ _ _ _) | (refine zS ?_; intro _ _) | (apply Ws <;> intro hg))
  refine WR.call (by first | exact gN | exact gS rfl) rfl rfl (made_fs (most := 7) hH1 hx0 hbl hb (by decide) (by decide)) ?_
  rintro v H2 ⟨Mx, n2, hO, hn2, hH2⟩
  obtain ⟨hord, hol⟩ := madeO_ord (x := x) (most := 7) by_ (by decide) (by decide)
  generalize madeO x by_ 7 = o at hO hord hol
  have ho2 : Sl (Mx ++ ((n0, Ch.row 50 0 0 (numsK .u8 (x :: by_))) :: M)) 1 v (nodes o) := hO.sl _
  generalize Mx ++ ((n0, Ch.row 50 0 0 (numsK .u8 (x :: by_))) :: M) = X at hH2 ho2
  have h7 := hord.most
  have h1o := hord.one
  have hv := ho2.one_
  clear hH hH1 hO hsl hone hb hbl hx hxl hx0
  repeat' (first | refine zP ?_ | refine zA ?_ | (refine zM ?_; intro _ _) | refine zX ?_ | (refine zC ?_; intro _ _ _ _) | (refine zS ?_; intro _ _) | (apply Ws <;> intro hg))
  rename_i H3 hH3
  refine WR.call (by first | exact gN | exact gS rfl) rfl rfl (reach_fs (S := Bool) (J := fun s Mj => Mj = [(n2, Ch.row 4 0 0 [.bool s])]) (step := stepA) (Mj := [(n2, Ch.row 4 0 0 [.bool false])]) (M := X) (each_asc (bs := n2)) hord ho2 (s := false) rfl rfl hH3) ?_
  rintro _ H4 ⟨_, Y, n4, rfl, hY, hn4, hH4⟩
  rw [fold_can _ _ _ _ _ _ (StM.start o)] at hH4
  obtain ⟨hk1, hk2⟩ := knuth hord
  have ho4 := ho2.mono hY
  clear hH2 hH3 ho2 hY
  generalize canB o (2 * o.length) 0 [] [] = sb at hk1 hH4
  replace hH4 : hasH ((n2, Ch.row 4 0 0 [.bool sb]) :: Y) n4 H4 := hH4
  repeat' (first | refine zP ?_ | refine zA ?_ | (refine zM ?_; intro _ _) | refine zX ?_ | (refine zC ?_; intro _ _ _ _) | (refine zS ?_; intro _ _) | (apply Ws <;> intro hg))
  refine WR.op (by first | exact gN | exact gS rfl) rfl (OpV.bldA (vs := []) rfl (by rfl)) ?_
  repeat' (first | refine zP ?_ | refine zA ?_ | (refine zM ?_; intro _ _) | refine zX ?_ | (refine zC ?_; intro _ _ _ _) | (refine zS ?_; intro _ _) | (apply Ws <;> intro hg))
  rename_i H5 hH5
  refine WR.storeAll (by first | exact gN | exact gS rfl) hH5 rfl rfl (ls := arr3 0 0 0) rfl rfl .here rfl rfl fun H6 hH6 => ?_
  repeat' (first | refine zP ?_ | refine zA ?_ | (refine zM ?_; intro _ _) | refine zX ?_ | (refine zC ?_; intro _ _ _ _) | (refine zS ?_; intro _ _) | (apply Ws <;> intro hg))
  clear hH4 hH5
  refine WC.loopX [(3, v), (4, _), (5, _), (6, _), (28, _)] (fun z : KW => [(29, .int .i64 (z.x : Int)), (7, .bool z.f)]) [] (fun z H' => z.x ≤ o.length ∧ WSt o z.x 0 0 z.f z.a z.b z.c ∧ hasH ((n4, .row 53 0 0 (arr3 z.a z.b z.c)) :: (n2, .row 4 0 0 [.bool sb]) :: Y) (n4 + 1) H') (fun z => o.length - z.x) ⟨0, false, 0, 0, 0⟩ (by repeat' (first | exact .nil | refine .cons rfl ?_)) rfl
    ⟨Nat.zero_le _, .inr ⟨rfl, rfl, rfl, rfl, fun a b c _ _ _ h => by simp only at h; omega⟩, hH6⟩ ?_
  clear hH6
  rintro ⟨i, f, wa, wb, wc⟩ H7 ⟨hi, hW, hH⟩
  simp only at hi hW hH
  dsimp only [List.cons_append, List.nil_append]
  repeat' (first | refine zP ?_ | refine zA ?_ | (refine zM ?_; intro _ _) | refine zX ?_ | (refine zC ?_; intro _ _ _ _) | (refine zS ?_; intro _ _) | (apply Ws <;> intro hg))
  refine WC.condP rfl (fun hlt => ?_) (fun hlt => ?_)
  · have hi' : i < o.length := by omega
    repeat' (first | refine zP ?_ | refine zA ?_ | (refine zM ?_; intro _ _) | refine zX ?_ | (refine zC ?_; intro _ _ _ _) | (refine zS ?_; intro _ _) | (apply Ws <;> intro hg))
    refine WC.loopX [(3, v), (4, _), (5, _), (6, _), (28, _), (29, _), (8, _), (32, _)] (fun z : KW => [(33, .int .i64 (z.x : Int)), (7, .bool z.f)]) [] (fun z H' => z.x ≤ o.length ∧ WSt o i z.x 0 z.f z.a z.b z.c ∧ hasH ((n4, .row 53 0 0 (arr3 z.a z.b z.c)) :: (n2, .row 4 0 0 [.bool sb]) :: Y) (n4 + 1) H') (fun z => o.length - z.x) ⟨0, f, wa, wb, wc⟩ (by repeat' (first | exact .nil | refine .cons rfl ?_)) rfl ⟨Nat.zero_le _, hW, hH⟩ ?_
    clear hH hW
    rintro ⟨j, f, wa, wb, wc⟩ H8 ⟨hj, hW, hH⟩
    simp only at hj hW hH
    dsimp only [List.cons_append, List.nil_append]
    repeat' (first | refine zP ?_ | refine zA ?_ | (refine zM ?_; intro _ _) | refine zX ?_ | (refine zC ?_; intro _ _ _ _) | (refine zS ?_; intro _ _) | (apply Ws <;> intro hg))
    refine WC.condP rfl (fun hlt2 => ?_) (fun hlt2 => ?_)
    · have hj' : j < o.length := by omega
      repeat' (first | refine zP ?_ | refine zA ?_ | (refine zM ?_; intro _ _) | refine zX ?_ | (refine zC ?_; intro _ _ _ _) | (refine zS ?_; intro _ _) | (apply Ws <;> intro hg))
      refine WC.loopX [(3, v), (4, _), (5, _), (6, _), (28, _), (29, _), (8, _), (32, _), (33, _), (9, _), (36, _)] (fun z : KW => [(37, .int .i64 (z.x : Int)), (7, .bool z.f)]) [] (fun z H' => z.x ≤ o.length ∧ WSt o i j z.x z.f z.a z.b z.c ∧ hasH ((n4, .row 53 0 0 (arr3 z.a z.b z.c)) :: (n2, .row 4 0 0 [.bool sb]) :: Y) (n4 + 1) H') (fun z => o.length - z.x) ⟨0, f, wa, wb, wc⟩ (by repeat' (first | exact .nil | refine .cons rfl ?_)) rfl ⟨Nat.zero_le _, hW, hH⟩ ?_
      clear hH hW
      rintro ⟨k, f, wa, wb, wc⟩ H9 ⟨hk, hW, hH⟩
      simp only at hk hW hH
      dsimp only [List.cons_append, List.nil_append]
      repeat' (first | refine zP ?_ | refine zA ?_ | (refine zM ?_; intro _ _) | refine zX ?_ | (refine zC ?_; intro _ _ _ _) | (refine zS ?_; intro _ _) | (apply Ws <;> intro hg))
      refine WC.condP rfl (fun hlt3 => ?_) (fun hlt3 => ?_)
      · have hk' : k < o.length := by omega
        have hstep : ∀ {f : Bool} {a b c : Nat}, WSt o i j k f a b c → (i < j → j < k → barB o i j k = false) → WSt o i j (k + 1) f a b c := fun h hb => h.on fun hn a b c h1 h2 h3 h4 => by
          by_cases e : a = i ∧ b = j ∧ c = k
          · obtain ⟨rfl, rfl, rfl⟩ := e; exact hb h1 h2
          · exact hn a b c h1 h2 h3 (by omega)
        repeat' (first | refine zP ?_ | refine zA ?_ | (refine zM ?_; intro _ _) | refine zX ?_ | (refine zC ?_; intro _ _ _ _) | (refine zS ?_; intro _ _))
        apply use_tail (C := C) (ro := none) (fn := 7) (nt := pf7.nt) (α := KT) (P := fun z H' => z.w = prvE o i j k ∧ WSt o i j (k + 1) z.f z.a z.b z.c ∧ hasH ((n4, .row 53 0 0 (arr3 z.a z.b z.c)) :: (n2, .row 4 0 0 [.bool sb]) :: Y) (n4 + 1) H')
          (E := fun z => [(3, v), (4, .int .i64 (o.length : Int)), (5, ptrO n2 0), (6, ptrO n4 0), (28, .int .i64 (o.length : Int)), (29, .int .i64 (i : Int)), (8, .int .i64 (i : Int)), (32, .int .i64 (o.length : Int)), (33, .int .i64 (j : Int)), (9, .int .i64 (j : Int)), (36, .int .i64 (o.length : Int)), (37, .int .i64 (k : Int)), (10, .int .i64 (k : Int)), (11, .int .i64 z.w), (7, .bool z.f)])
        case main =>
          intro htail
          by_cases h1 : i < j
          · rw [decide_eq_true (show (i : Int) < (j : Int) by omega)]
            repeat' (first | refine zP ?_ | refine zR ?_ | (refine zM ?_; intro _ _) | refine zX ?_ | (refine zC ?_; intro _ _ _ _) | (refine zS ?_; intro _ _))
            refine WR.nil ?_
            refine Ends.seq ?_
            by_cases h2 : j < k
            · rw [decide_eq_true (show (j : Int) < (k : Int) by omega)]
              have hpr : prvE o i j k = if barB o i j k = true then 0 else 14 := by unfold prvE; rw [if_pos ⟨h1, h2⟩]
              refine WC.condT rfl ?_
              repeat' (first | refine zP ?_ | refine zA ?_ | (refine zM ?_; intro _ _) | refine zX ?_ | (refine zC ?_; intro _ _ _ _) | (refine zS ?_; intro _ _) | (apply Ws <;> intro hg))
              refine WR.call (by first | exact gN | exact gS rfl) rfl rfl (bars_fs hH (ho4.cons.cons) hi' hj' hk') ?_
              rintro _ H10 ⟨rfl, rfl⟩
              refine WR.nil ?_
              refine Ends.seq ?_
              cases hb : barB o i j k with
              | true =>
                rw [hb, if_pos rfl] at hpr
                refine WC.condT rfl ?_
                refine WC.seq ?_
                refine WC.region ?_
                repeat' (first | refine zP ?_ | refine zR ?_ | (refine zM ?_; intro _ _) | refine zX ?_ | (refine zC ?_; intro _ _ _ _) | (refine zS ?_; intro _ _))
                refine WR.nil ?_
                refine Ends.seq ?_
                refine WC.seq ?_
                refine WC.region ?_
                repeat' (first | refine zP ?_ | refine zR ?_ | (refine zM ?_; intro _ _) | refine zX ?_ | (refine zC ?_; intro _ _ _ _) | (refine zS ?_; intro _ _))
                refine WR.nil ?_
                refine Ends.seq ?_
                have hW2 : f = true → WSt o i j (k + 1) f wa wb wc := fun hf => hW.elim (fun h => .inl h) (fun h => by rw [h.1] at hf; cases hf)
                have hno : f = false → NoBefore o i j k := fun hf => hW.elim (fun h => by rw [h.1] at hf; cases hf) (fun h => h.2.2.2.2)
                refine WC.cond rfl (fun hf => ?_) (fun hf => ?_)
                · have hf2 : f = false := by cases f <;> simp_all
                  have hno2 := hno hf2
                  refine WC.region ?_
                  repeat' (first | refine zP ?_ | refine zR ?_ | (refine zM ?_; intro _ _) | refine zX ?_ | (refine zC ?_; intro _ _ _ _) | (refine zS ?_; intro _ _))
                  refine WR.op (by first | exact gN | exact gS rfl) rfl (OpV.bldA (vs := [(0, .int .i64 (i : Int)), (1, .int .i64 (j : Int)), (2, .int .i64 (k : Int))]) rfl (by rfl)) ?_
                  refine WR.storeAll (by first | exact gN | exact gS rfl) hH rfl rfl (ls := arr3 i j k) rfl rfl .here rfl rfl fun H11 hH11 => ?_
                  repeat' (first | refine zP ?_ | refine zR ?_ | (refine zM ?_; intro _ _) | refine zX ?_ | (refine zC ?_; intro _ _ _ _) | (refine zS ?_; intro _ _))
                  refine WR.nil ?_
                  refine Ends.seq ?_
                  refine WC.weaken (htail ⟨0, true, i, j, k⟩ _ ⟨hpr.symm, .inl ⟨rfl, h1, h2, hk', hb, hno2⟩, hH11⟩) ?_
                  exact (by repeat' (first | exact .nil | refine .cons rfl ?_))
                · have hf2 : f = true := by cases f <;> simp_all
                  refine WC.skip ?_
                  refine Ends.seq ?_
                  refine WC.weaken (htail ⟨0, f, wa, wb, wc⟩ _ ⟨hpr.symm, hW2 hf2, hH⟩) ?_
                  exact (by repeat' (first | exact .nil | refine .cons rfl ?_))
              | false =>
                rw [hb, if_neg (by decide)] at hpr
                refine WC.condF rfl ?_
                refine WC.skip ?_
                refine Ends.seq ?_
                refine WC.weaken (htail ⟨14, f, wa, wb, wc⟩ _ ⟨hpr.symm, hstep hW fun _ _ => hb, hH⟩) ?_
                exact (by repeat' (first | exact .nil | refine .cons rfl ?_))
            · rw [decide_eq_false (show ¬ (j : Int) < (k : Int) by omega)]
              refine WC.condF rfl ?_
              refine WC.skip ?_
              refine Ends.seq ?_
              refine WC.weaken (htail ⟨7, f, wa, wb, wc⟩ _ ⟨by unfold prvE; rw [if_neg fun h => h2 h.2], hstep hW fun _ h => absurd h h2, hH⟩) ?_
              exact (by repeat' (first | exact .nil | refine .cons rfl ?_))
          · rw [decide_eq_false (show ¬ (i : Int) < (j : Int) by omega)]
            repeat' (first | refine zP ?_ | refine zR ?_ | (refine zM ?_; intro _ _) | refine zX ?_ | (refine zC ?_; intro _ _ _ _) | (refine zS ?_; intro _ _))
            refine WR.nil ?_
            refine Ends.seq ?_
            refine WC.condF rfl ?_
            refine WC.skip ?_
            refine Ends.seq ?_
            refine WC.weaken (htail ⟨7, f, wa, wb, wc⟩ _ ⟨by unfold prvE; rw [if_neg fun h => h1 h.1], hstep hW fun h => absurd h h1, hH⟩) ?_
            exact (by repeat' (first | exact .nil | refine .cons rfl ?_))
        case tail =>
          clear hH hW
          rintro ⟨want, f, wa, wb, wc⟩ H10 ⟨hw, hW, hH⟩
          simp only at hw hW hH
          dsimp only [List.cons_append, List.nil_append]
          repeat' (first | refine zP ?_ | refine zA ?_ | (refine zM ?_; intro _ _) | refine zX ?_ | (refine zC ?_; intro _ _ _ _) | (refine zS ?_; intro _ _) | (apply Ws <;> intro hg))
          · refine WR.call (by first | exact gN | exact gS rfl) rfl rfl (Proves_fs hH (ho4.cons.cons) hord hi' hj' hk') ?_
            rintro _ H11 ⟨rfl, rfl⟩
            rw [← hw]
            repeat' (first | refine zP ?_ | refine zA ?_ | (refine zM ?_; intro _ _) | refine zX ?_ | (refine zC ?_; intro _ _ _ _) | (refine zS ?_; intro _ _) | refine zO ?_ | (apply Ws <;> intro hg))
            exact Ends.loop ⟨k + 1, f, wa, wb, wc⟩ (by simp only; omega) (by repeat' (first | exact .nil | refine .cons rfl ?_)) rfl ⟨by simp only; omega, hW, hH⟩
          · exact Ends.loop ⟨k + 1, f, wa, wb, wc⟩ (by simp only; omega) (by repeat' (first | exact .nil | refine .cons rfl ?_)) rfl ⟨by simp only; omega, hW, hH⟩
      · have hkn : k = o.length := by omega
        subst hkn
        repeat' (first | refine zP ?_ | refine zA ?_ | (refine zM ?_; intro _ _) | refine zX ?_ | (refine zC ?_; intro _ _ _ _) | (refine zS ?_; intro _ _) | (apply Ws <;> intro hg))
        exact Ends.loop ⟨j + 1, f, wa, wb, wc⟩ (by simp only; omega) (by repeat' (first | exact .nil | refine .cons rfl ?_)) rfl ⟨by simp only; omega, hW.on fun hn a b c h1 h2 h3 h4 => hn a b c h1 h2 h3 (by simp only at h4; omega), hH⟩
    · have hjn : j = o.length := by omega
      subst hjn
      repeat' (first | refine zP ?_ | refine zA ?_ | (refine zM ?_; intro _ _) | refine zX ?_ | (refine zC ?_; intro _ _ _ _) | (refine zS ?_; intro _ _) | (apply Ws <;> intro hg))
      exact Ends.loop ⟨i + 1, f, wa, wb, wc⟩ (by simp only; omega) (by repeat' (first | exact .nil | refine .cons rfl ?_)) rfl ⟨by simp only; omega, hW.on fun hn a b c h1 h2 h3 h4 => hn a b c h1 h2 h3 (by simp only at h4; omega), hH⟩
  · have hin : i = o.length := by omega
    subst hin
    have hS2 : Sl ((n4, Ch.row 53 0 0 (arr3 wa wb wc)) :: (n2, Ch.row 4 0 0 [.bool sb]) :: Y) 1 v (nodes o) := ho4.cons.cons
    repeat' (first | refine zP ?_ | refine zA ?_ | (refine zM ?_; intro _ _) | refine zX ?_ | (refine zC ?_; intro _ _ _ _) | (refine zS ?_; intro _ _) | (apply Ws <;> intro hg))
    refine WR.call (by first | exact gN | exact gS rfl) rfl rfl (Sorted_fs hH hS2 hord) ?_
    rintro _ H8 ⟨n8, rfl, hn8, hH8⟩
    clear hH
    repeat' (first | refine zP ?_ | refine zA ?_ | (refine zM ?_; intro _ _) | refine zX ?_ | (refine zC ?_; intro _ _ _ _) | (refine zS ?_; intro _ _) | (apply Ws <;> intro hg))
    refine WR.call (by first | exact gN | exact gS rfl) rfl rfl (Pass_fs hH8 hS2 hord) ?_
    rintro _ H9 ⟨u, Mp, n9, rfl, hOp, hn9, hH9⟩
    have hSp := hOp.sl ((n4, Ch.row 53 0 0 (arr3 wa wb wc)) :: (n2, Ch.row 4 0 0 [.bool sb]) :: Y)
    replace hS2 := hS2.mono fun q hq => List.mem_append_right Mp hq
    clear hH8
    have hu1 := hSp.one_
    repeat' (first | refine zP ?_ | refine zA ?_ | (refine zM ?_; intro _ _) | refine zX ?_ | (refine zC ?_; intro _ _ _ _) | (refine zS ?_; intro _ _) | (apply Ws <;> intro hg))
    refine WR.call (by first | exact gN | exact gS rfl) rfl rfl (Why_fs hH9 hS2 hord) ?_
    rintro _ H10 ⟨rfl, ya, yb, yc, ye, hWhy, rfl⟩
    have hpl := passF_len o
    have hpo := passF_ord hord
    have hall : ∃ (cb : Bool), sb = cb ∧ ascT o (List.replicate o.length 0) = cb ∧ f = !cb ∧ ascB (passF o) = cb ∧ ya = wa ∧ yb = wb ∧ yc = wc ∧ (ye = if cb then 13 else 0) := by
      have hasc := asc_nobar hord
      by_cases hnb : NoBar o
      · refine ⟨true, hk1.2 hnb, by unfold ascT; rw [decide_eq_true (hasc.2 hnb)], ?_, hk2.2 hnb, ?_⟩
        · rcases hW with ⟨_, h1, h2, h3, h4, _⟩ | h
          · rw [hnb _ _ _ h1 h2 h3] at h4; cases h4
          · exact h.1
        · rcases hWhy with ⟨_, h1, h2, h3, h4, _⟩ | ⟨h1, h2, h3, h4, _⟩
          · rw [hnb _ _ _ h1 h2 h3] at h4; cases h4
          · rcases hW with ⟨_, k1, k2, k3, k4, _⟩ | ⟨_, k1, k2, k3, _⟩
            · rw [hnb _ _ _ k1 k2 k3] at k4; cases k4
            · exact ⟨by omega, by omega, by omega, h1⟩
      · refine ⟨false, ?_, ?_, ?_, ?_, ?_⟩
        · cases h : sb with | false => rfl | true => exact absurd (hk1.1 h) hnb
        · unfold ascT; rw [decide_eq_false fun h => hnb (hasc.1 h)]
        · rcases hW with h | ⟨_, _, _, _, h⟩
          · exact h.1
          · exact absurd (fun a b c h1 h2 h3 => h a b c h1 h2 h3 (by omega)) hnb
        · cases h : ascB (passF o) with | false => rfl | true => exact absurd (hk2.1 h) hnb
        · rcases hWhy with ⟨h0, h1, h2, h3, h4, h5⟩ | ⟨_, _, _, _, h⟩
          · rcases hW with ⟨_, k1, k2, k3, k4, k5⟩ | ⟨_, _, _, _, h⟩
            · obtain ⟨q1, q2, q3⟩ := first_eq h1 h2 h3 h4 h5 k1 k2 k3 k4 k5
              exact ⟨q1, q2, q3, h0⟩
            · exact absurd (fun a b c h1 h2 h3 => h a b c h1 h2 h3 (by omega)) hnb
          · exact absurd h hnb
    obtain ⟨cb, rfl, h2, rfl, h4, rfl, rfl, rfl, rfl⟩ := hall
    rw [h2]
    clear hW hWhy hk1 hk2 h2
    repeat' (first | refine zP ?_ | refine zA ?_ | (refine zM ?_; intro _ _) | refine zX ?_ | (refine zC ?_; intro _ _ _ _) | (refine zS ?_; intro _ _) | (apply Ws <;> intro hg))
    have mB : (n2, Ch.row 4 0 0 [.bool sb]) ∈ Mp ++ ((n4, Ch.row 53 0 0 (arr3 ya yb yc)) :: (n2, Ch.row 4 0 0 [.bool sb]) :: Y) := List.mem_append_right _ (.tail _ (.head _))
    have mA : (n4, Ch.row 53 0 0 (arr3 ya yb yc)) ∈ Mp ++ ((n4, Ch.row 53 0 0 (arr3 ya yb yc)) :: (n2, Ch.row 4 0 0 [.bool sb]) :: Y) := List.mem_append_right _ (.head _)
    generalize Mp ++ ((n4, Ch.row 53 0 0 (arr3 ya yb yc)) :: (n2, Ch.row 4 0 0 [.bool sb]) :: Y) = Z at hH9 hS2 hSp mB mA
    refine WC.regionD ?_
    repeat' (first | refine zD ?_ | (refine zE ?_; intro _ _ _ _))
    refine WD.op (by first | exact gN | exact gS rfl) rfl (neB' rfl rfl) rfl (stands_nil _ _) ?_
    rw [show (sb != sb) = false by cases sb <;> rfl]
    repeat' (first | refine zD ?_ | (refine zE ?_; intro _ _ _ _))
    refine WD.op (by first | exact gN | exact gS rfl) rfl (eqB' rfl rfl) rfl (stands_nil _ _) ?_
    rw [show (sb == !sb) = false by cases sb <;> rfl]
    repeat' (first | refine zD ?_ | (refine zE ?_; intro _ _ _ _))
    refine WD.call (by first | exact gN | exact gS rfl) rfl rfl (lpass_fs 10 (by omega) hH9 hS2 hord.nodup (by omega)) ?_
    rintro w8 H11 ⟨Mz, n11, hOz, hn11, hH11⟩
    refine ⟨stands_nil _ _, ?_⟩
    have hSz : Sl (Mz ++ Z) 1 w8 (nodes (passF o)) := hOz.sl fun q hq => List.mem_append_left _ hq
    replace hSp := hSp.mono fun q hq => List.mem_append_right Mz hq
    replace mB := List.mem_append_right Mz mB
    replace mA := List.mem_append_right Mz mA
    clear hH9 hS2
    generalize Mz ++ Z = Z2 at hH11 hSz hSp mB mA
    refine WD.call (by first | exact gN | exact gS rfl) rfl rfl (same_fs hH11 hSp hSz (by omega) (by omega)) ?_
    rintro _ H12 ⟨rfl, rfl⟩
    refine ⟨stands_nil _ _, ?_⟩
    rw [decide_eq_true (show passF o = passF o from rfl)]
    repeat' (first | refine zD ?_ | (refine zE ?_; intro _ _ _ _))
    refine WD.call (by first | exact gN | exact gS rfl) rfl rfl (IsSorted_fs hH11 hSp (by omega)) ?_
    rintro _ H13 ⟨rfl, rfl⟩
    refine ⟨stands_cons (.inr (holds_at (hH11.read mB (.row _ _ _ _) (Nat.zero_le _) rfl) (by cases sb <;> rfl))) (stands_cons (.inl rfl) (stands_cons (.inl rfl) stands_nil')), ?_⟩
    rw [h4]
    refine WD.toWR rfl ?_
    refine WR.op (by first | exact gN | exact gS rfl) rfl (neB' rfl rfl) ?_
    rw [show (sb != sb) = false by cases sb <;> rfl]
    repeat' (first | refine zP ?_ | refine zR ?_ | (refine zM ?_; intro _ _) | refine zX ?_ | (refine zC ?_; intro _ _ _ _) | (refine zS ?_; intro _ _))
    refine WR.op (by first | exact gN | exact gS rfl) rfl (OpV.bldA (vs := [(0, .int .i64 (ya : Int)), (1, .int .i64 (yb : Int)), (2, .int .i64 (yc : Int))]) rfl (by rfl)) ?_
    refine WR.op (by first | exact gN | exact gS rfl) rfl (OpV.loadAll rfl hH11 mA (.row _ _ _ _) rfl) ?_
    refine WR.op (by first | exact gN | exact gS rfl) rfl (OpV.neArr3 rfl rfl) ?_
    cases sb with
    | true =>
      rw [show (if (true = true) then (13 : Int) else 0) = 13 from rfl]
      repeat' (first | refine zP ?_ | refine zA ?_ | (refine zM ?_; intro _ _) | refine zX ?_ | (refine zC ?_; intro _ _ _ _) | (refine zS ?_; intro _ _) | refine zO ?_ | (apply Ws <;> intro hg))
      refine WR.call (by first | exact gN | exact gS rfl) rfl rfl hfin ?_
      rintro _ _ ⟨rfl, rfl⟩
      repeat' (first | refine zP ?_ | refine zA ?_ | (refine zM ?_; intro _ _) | refine zX ?_ | (refine zC ?_; intro _ _ _ _) | (refine zS ?_; intro _ _) | (apply Ws <;> intro hg))
      exact Ends.ret1 rfl rfl
    | false =>
      rw [show (if (false = true) then (13 : Int) else 0) = 0 from rfl]
      repeat' (first | refine zP ?_ | refine zA ?_ | (refine zM ?_; intro _ _) | refine zX ?_ | (refine zC ?_; intro _ _ _ _) | (refine zS ?_; intro _ _) | refine zO ?_ | (apply Ws <;> intro hg))
      refine WR.call (by first | exact gN | exact gS rfl) rfl rfl hfin ?_
      rintro _ _ ⟨rfl, rfl⟩
      repeat' (first | refine zP ?_ | refine zA ?_ | (refine zM ?_; intro _ _) | refine zX ?_ | (refine zC ?_; intro _ _ _ _) | (refine zS ?_; intro _ _) | (apply Ws <;> intro hg))
      exact Ends.ret1 rfl rfl
end
end Go.Proofs.Ytfnflkcjhefddaa.Lk
