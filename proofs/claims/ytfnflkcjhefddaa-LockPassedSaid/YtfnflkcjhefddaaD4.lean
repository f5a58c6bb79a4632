/- The law LockPassed. -/
import Derived.Test.YtfnflkcjhefddaaJ2
namespace Go.Proofs.Ytfnflkcjhefddaa.Lk
open Go Go.Abs Go.Mth
set_option linter.unusedVariables false
set_option linter.unusedSimpArgs false
theorem neB' {a b : Bool} {L : Env} {H : Heap} {dst : Option Tmp} {x y : Operand} {ty2 : TypeId} {pos : String} {af : Array Edge} {g : Option (Nat × Bool)} (hx : ev L x = some (.bool a)) (hy : ev L y = some (.bool b)) :
    OpV C (.plain ⟨dst, .binOp .neq 4 x y 4, ty2, pos, af, g⟩) L H (.bool (a != b)) H := OpV.neB (by cases a <;> cases b <;> kernel_rfl) hx hy
attribute [local irreducible] gOK WS WC WR WD Ends FS YS OpV seqK blockK loopK midK retK rdK asgK rangeEnd sat Cell
section
variable {M : HL} {n0 : Nat} {H : Heap} {v w : Value}
set_option maxHeartbeats 4000000 in
theorem LockPassed_fs (hH : hasH M n0 H) {x : List Nat} (hxl : x.length = 8) (hx : ∀ y ∈ x, y ≤ 255) :
    FS C 9 [.agg (numsK .u8 x).toArray] H (fun e H' => e = .bool true) := by
  obtain ⟨x, by_, rfl⟩ : ∃ a l, x = a :: l := by
    cases x with
    | nil => simp at hxl
    | cons a l => exact ⟨a, l, rfl⟩
  have hbl : by_.length = 7 := by simpa using hxl
  have hx0 := hx x (by simp)
  have hb : ∀ y ∈ by_, y ≤ 255 := fun y hy => hx y (by simp [hy])
  have hone : (numsK .u8 (x :: by_)).all one = true := by rw [List.all_eq_true]; intro q hq; obtain ⟨z, _, rfl⟩ := List.mem_map.1 hq; rfl
  have hsl : (numsK .u8 (x :: by_)).length = 8 := by simp [numsK, hbl]
  have hfin : ∀ {H' : Heap}, FS C 15 [] H' (fun e H'' => e = .bool true ∧ H'' = H') := fun {H'} => FS.works ⟨rfl, rfl⟩
  refine FS.intro (pf := pf9) rfl rfl rfl ?_
  refine WC.seq ?_
  refine WC.region ?_
  refine WR.boxA (cs := numsK .u8 (x :: by_)) (by first | exact gN | exact gS rfl) rfl hH rfl hone fun H1 hH1 => ?_
  repeat' (first | refine zP ?_ | refine zA ?_ | (refine zM ?_; intro _ _) | refine zX ?_ | (refine zC ?_; intro _ _ _ _) | (refine zS ?_; intro _ _) | (apply Ws <;> intro hg))
  refine WR.call (by first | exact gN | exact gS rfl) rfl rfl (made_fs (most := 7) hH1 hx0 hbl hb (by decide) (by decide)) ?_
  rintro v H2 ⟨Mx, n2, hO, hn2, hH2⟩
  obtain ⟨hord, hol⟩ := madeO_ord (x := x) (most := 7) by_ (by decide) (by decide)
  generalize madeO x by_ 7 = o at hO hord hol
  have ho2 : Sl (Mx ++ ((n0, Ch.row 50 0 0 (numsK .u8 (x :: by_))) :: M)) 1 v (nodes o) := hO.sl _
  generalize Mx ++ ((n0, Ch.row 50 0 0 (numsK .u8 (x :: by_))) :: M) = X at hH2 ho2
  have h7 := hord.most
  have h1o := hord.one
  have hv := ho2.one_
  clear hH hH1 hO hsl hone hb hbl hx hxl hx0
  repeat' (first | refine zP ?_ | refine zA ?_ | (refine zM ?_; intro _ _) | refine zX ?_ | (refine zC ?_; intro _ _ _ _) | (refine zS ?_; intro _ _) | (apply Ws <;> intro hg))
  refine WR.call (by first | exact gN | exact gS rfl) rfl rfl (Passes_fs hH2 ho2 hord) ?_
  rintro _ H3 ⟨k, n3, rfl, hP, hn3, hH3⟩
  have hkl := hP.1
  repeat' (first | refine zP ?_ | refine zA ?_ | (refine zM ?_; intro _ _) | refine zX ?_ | (refine zC ?_; intro _ _ _ _) | (refine zS ?_; intro _ _) | refine zO ?_ | (apply Ws <;> intro hg))
  refine WC.loopX [(1, _), (3, v), (4, _), (5, _), (35, _)] (fun z : QX => [(36, .int .i64 (z.k : Int)), (7, z.v)]) [] (fun z H' => z.k ≤ o.length ∧ Sl (z.Mx ++ X) 1 z.v (nodes (pit o z.k)) ∧ n3 ≤ z.n ∧ hasH (z.Mx ++ X) z.n H') (fun z => o.length - z.k) ⟨0, v, [], n3⟩ (by repeat' (first | exact .nil | refine .cons rfl ?_)) rfl
    ⟨Nat.zero_le _, ho2, Nat.le_refl _, hH3⟩ ?_
  clear hH3 ho2
  rintro ⟨i, nv, Mx, n4⟩ H4 ⟨hi, hS, hn4, hH⟩
  simp only at hi hS hn4 hH
  obtain ⟨hp1, hp2⟩ := pit_ord hord i
  have hnv := hS.one_
  dsimp only [List.cons_append, List.nil_append]
  repeat' (first | refine zP ?_ | refine zA ?_ | (refine zM ?_; intro _ _) | refine zX ?_ | (refine zC ?_; intro _ _ _ _) | (refine zS ?_; intro _ _) | (apply Ws <;> intro hg))
  refine WC.condP rfl (fun hlt => ?_) (fun hlt => ?_)
  · have hi' : i < o.length := by omega
    repeat' (first | refine zP ?_ | refine zA ?_ | (refine zM ?_; intro _ _) | refine zX ?_ | (refine zC ?_; intro _ _ _ _) | (refine zS ?_; intro _ _) | (apply Ws <;> intro hg))
    refine WR.call (by first | exact gN | exact gS rfl) rfl rfl (IsSorted_fs hH hS (by omega)) ?_
    rintro _ H5 ⟨rfl, rfl⟩
    have hiff := hP.iff hord i
    repeat' (first | refine zP ?_ | refine zR ?_ | (refine zM ?_; intro _ _) | refine zX ?_ | (refine zC ?_; intro _ _ _ _) | (refine zS ?_; intro _ _))
    refine WR.op (by first | exact gN | exact gS rfl) rfl (neB' rfl rfl) ?_
    have hb : (ascB (pit o i) != decide ((k : Int) ≤ (i : Int))) = false := by
      by_cases hki : k ≤ i
      · rw [hiff.2 hki, decide_eq_true (by omega)]; rfl
      · have : ascB (pit o i) = false := by cases h : ascB (pit o i) with | false => rfl | true => exact absurd (hiff.1 h) hki
        rw [this, decide_eq_false (by omega)]; rfl
    rw [hb]
    repeat' (first | refine zP ?_ | refine zA ?_ | (refine zM ?_; intro _ _) | refine zX ?_ | (refine zC ?_; intro _ _ _ _) | (refine zS ?_; intro _ _) | (apply Ws <;> intro hg))
    have htop := tops_all hord i (by omega)
    rw [show min (i : Int) ((o.length : Nat) : Int) = (i : Int) by omega, show (o.length : Int) - (i : Int) = ((o.length - i : Nat) : Int) by omega]
    refine WC.loopX [(1, _), (3, v), (4, _), (5, _), (35, _), (36, _), (7, nv), (8, _)] (fun z : Nat => [(9, .int .i64 (z : Int))]) [] (fun z H' => H' = H5 ∧ o.length - i ≤ z ∧ z ≤ o.length) (fun z => o.length - z) (o.length - i) (by repeat' (first | exact .nil | refine .cons rfl ?_)) rfl ⟨rfl, Nat.le_refl _, by omega⟩ ?_
    rintro y H6 ⟨rfl, hy1, hy2⟩
    dsimp only [List.cons_append, List.nil_append]
    repeat' (first | refine zP ?_ | refine zA ?_ | (refine zM ?_; intro _ _) | refine zX ?_ | (refine zC ?_; intro _ _ _ _) | (refine zS ?_; intro _ _) | (apply Ws <;> intro hg))
    refine WC.condP rfl (fun hlt2 => ?_) (fun hlt2 => ?_)
    · have hy' : y < o.length := by omega
      have hg := tops_get htop (x := y) (by omega) (by omega)
      repeat' (first | refine zP ?_ | refine zA ?_ | (refine zM ?_; intro _ _) | refine zX ?_ | (refine zC ?_; intro _ _ _ _) | (refine zS ?_; intro _ _) | (apply Ws <;> intro hg))
      refine WC.condF (by rw [hg, decide_eq_false (fun h => h rfl)]; rfl) ?_
      repeat' (first | refine zP ?_ | refine zA ?_ | (refine zM ?_; intro _ _) | refine zX ?_ | (refine zC ?_; intro _ _ _ _) | (refine zS ?_; intro _ _) | (apply Ws <;> intro hg))
      exact Ends.loop (y + 1) (by omega) (by repeat' (first | exact .nil | refine .cons rfl ?_)) rfl ⟨rfl, by omega, by omega⟩
    · repeat' (first | refine zP ?_ | refine zA ?_ | (refine zM ?_; intro _ _) | refine zX ?_ | (refine zC ?_; intro _ _ _ _) | (refine zS ?_; intro _ _) | (apply Ws <;> intro hg))
      refine WR.call (by first | exact gN | exact gS rfl) rfl rfl (Pass_fs hH hS hp1) ?_
      rintro _ H7 ⟨u, My, n7, rfl, hOw, hn7, hH7⟩
      have hS7 := hS.mono fun q hq => List.mem_append_right My hq
      have hSu := hOw.sl (Mx ++ X)
      repeat' (first | refine zP ?_ | refine zA ?_ | (refine zM ?_; intro _ _) | refine zX ?_ | (refine zC ?_; intro _ _ _ _) | (refine zS ?_; intro _ _) | refine zO ?_ | (apply Ws <;> intro hg))
      refine WR.call (by first | exact gN | exact gS rfl) rfl rfl (lpass_fs 10 (by omega) hH7 hS7 hp1.nodup (by omega)) ?_
      rintro w8 H8 ⟨Mz, n8, hOz, hn8, hH8⟩
      have hl8 := passF_len (pit o i)
      refine WR.call (by first | exact gN | exact gS rfl) rfl rfl (same_fs hH8 (hSu.mono fun q hq => List.mem_append_right Mz hq) (hOz.sl fun q hq => List.mem_append_left _ hq) (by omega) (by omega)) ?_
      rintro _ H9 ⟨rfl, rfl⟩
      rw [decide_eq_true (show passF (pit o i) = passF (pit o i) from rfl)]
      repeat' (first | refine zP ?_ | refine zA ?_ | (refine zM ?_; intro _ _) | refine zX ?_ | (refine zC ?_; intro _ _ _ _) | (refine zS ?_; intro _ _) | (apply Ws <;> intro hg))
      refine Ends.loop ⟨i + 1, u, My, n8⟩ (by simp only; omega) (by repeat' (first | exact .nil | refine .cons rfl ?_)) rfl ⟨by simp only; omega, hOw.sl X, by simp only; omega, ?_⟩
      exact (hH8.sub (List.sublist_append_right _ _)).sub (List.Sublist.append_left (List.sublist_append_right _ _) _)
  · repeat' (first | refine zP ?_ | refine zA ?_ | (refine zM ?_; intro _ _) | refine zX ?_ | (refine zC ?_; intro _ _ _ _) | (refine zS ?_; intro _ _) | (apply Ws <;> intro hg))
    refine WR.call (by first | exact gN | exact gS rfl) rfl rfl hfin ?_
    rintro _ _ ⟨rfl, rfl⟩
    repeat' (first | refine zP ?_ | refine zA ?_ | (refine zM ?_; intro _ _) | refine zX ?_ | (refine zC ?_; intro _ _ _ _) | (refine zS ?_; intro _ _) | (apply Ws <;> intro hg))
    exact Ends.ret1 rfl rfl
end
end Go.Proofs.Ytfnflkcjhefddaa.Lk
