/- Texts of the law, joined. -/
import Derived.Test.YtfnflkcjhefddaaJ2
import Derived.Test.YtfnflkcjhefddaaSymL
import Derived.Test.YtfnflkcjhefddaaJ1
import Derived.Test.YtfnflkcjhefddaaSymD
import Derived.Test.YtfnflkcjhefddaaSymR
/- The law tries all moves. -/
namespace Go.Abs
set_option linter.unusedSectionVars false
open Go
section
variable [Globs] {C : CW} {nt : Nat} {L : Env} {D : List Nat} {H H' : Heap} {K : St → Prop} {M M' : HL} {n i d : Nat} {gd : Option (Tmp × Bool)} {lo : List Nat} {l : List POp} {rs : List Rd}
/-- One string behind another. -/
theorem cat_run {P : Program} {t : TypeId} {a b : ByteArray} (h : a.size + b.size ≤ 100000) : pureRun P (binOp .add t (.string a) (.string b)) = some (.string (a ++ b)) := by
  have h1 : ¬ (((a.size + b.size : Nat) : Int) > IntKind.i64.max) := by
    have : IntKind.i64.max = 9223372036854775807 := by decide
    rw [this]; omega
  show pureRun P (Op.stringOp .add a b) = _
  unfold Op.stringOp
  simp only [if_neg h1]
  rfl
theorem OpV.cat {dst : Option Tmp} {x y : Operand} {ty ty2 ty3 : TypeId} {pos : String} {af : Array Edge} {g : Option (Nat × Bool)} {a b : ByteArray} (h : a.size + b.size ≤ 100000) (hx : ev L x = some (.string a)) (hy : ev L y = some (.string b)) :
    OpV C (.plain ⟨dst, .binOp .add ty x y ty2, ty3, pos, af, g⟩) L H (.string (a ++ b)) H := by
  refine OpV.plain (fun t ht => ?_) (fun t ht => by simp [Op.operands, ev_ok ht hx, ev_ok ht hy, plainV, plain1]) rfl
  have e1 : pureRun C.c.P (eqGuard .add ty x y (.string a) (.string b)) = some () := rfl
  simp only [pureNext, execOp, ev_ok ht hx, ev_ok ht hy, pureRun_bind, e1, cat_run h, Option.bind_some]
  rfl
end
end Go.Abs
namespace Go.Proofs.Ytfnflkcjhefddaa.Lk
open Go Go.Abs Go.Mth
set_option linter.unusedVariables false
set_option linter.unusedSimpArgs false
/-- All moves are tried, as long as it goes on. -/
def foldM {S : Type} (o : List Nat) (step : S → List Nat → ByteArray → S × Bool) : Nat → Nat → List Nat → List Nat → ByteArray → S → S × Bool
  | 0, c, i, u, mv, s => step s u mv
  | m + 1, c, i, u, mv, s =>
    let r := if c < o.length then foldM o step m (c + 1) (i ++ [o.getD c 0]) u (mv ++ ⟨#[105]⟩) s else (s, true)
    if r.2 = false then r else if i ≠ [] then foldM o step m c i.dropLast (u ++ [i.getD (i.length - 1) 0]) (mv ++ ⟨#[111]⟩) r.1 else (r.1, true)
theorem foldM_step {S : Type} {o : List Nat} {step : S → List Nat → ByteArray → S × Bool} {m c : Nat} {i u : List Nat} {mv : ByteArray} {s : S} {r : S × Bool} (hr : (if c < o.length then foldM o step m (c + 1) (i ++ [o.getD c 0]) u (mv ++ ⟨#[105]⟩) s else (s, true)) = r) :
    foldM o step (m + 1) c i u mv s = if r.2 = false then r else if i ≠ [] then foldM o step m c i.dropLast (u ++ [i.getD (i.length - 1) 0]) (mv ++ ⟨#[111]⟩) r.1 else (r.1, true) := by
  subst hr; rfl
theorem foldM_nil {S : Type} {o : List Nat} {step : S → List Nat → ByteArray → S × Bool} {m c : Nat} {u : List Nat} {mv : ByteArray} {s s2 : S} (hr : (if c < o.length then foldM o step m (c + 1) ([] ++ [o.getD c 0]) u (mv ++ ⟨#[105]⟩) s else (s, true)) = (s2, true)) :
    foldM o step (m + 1) c [] u mv s = (s2, true) := by rw [foldM_step hr]; rfl
theorem foldM_snoc {S : Type} {o : List Nat} {step : S → List Nat → ByteArray → S × Bool} {m c y : Nat} {i u : List Nat} {mv : ByteArray} {s s2 : S} (hr : (if c < o.length then foldM o step m (c + 1) ((i ++ [y]) ++ [o.getD c 0]) u (mv ++ ⟨#[105]⟩) s else (s, true)) = (s2, true)) :
    foldM o step (m + 1) c (i ++ [y]) u mv s = foldM o step m c i (u ++ [y]) (mv ++ ⟨#[111]⟩) s2 := by
  rw [foldM_step hr, if_neg (by simp), if_pos (by simp), List.dropLast_concat, List.length_append, List.length_singleton, Nat.add_sub_cancel, getD_snoc]
theorem nodes_ne {l : List Nat} (h : l ≠ []) : nodes l ≠ [] := fun e => h (List.map_eq_nil_iff.1 e)
/-- What is done with each order. -/
def EachK {S : Type} (fe : Nat) (caps : List Value) (J : S → HL → Prop) (X0 : HL) (step : S → List Nat → ByteArray → S × Bool) : Prop := ∀ {s : S} {Mj X : HL} {n : Nat} {H : Heap} {w : Value} {u : List Nat} {mv : ByteArray}, J s Mj → (∀ q ∈ X0, q ∈ X) → Sl X 1 w (nodes u) → u.length ≤ 7 → hasH (Mj ++ X) n H →
  FS C fe ([] ++ [w, .string mv] ++ caps) H (fun e H' => ∃ Mj' X' n', e = .bool (step s u mv).2 ∧ J (step s u mv).1 Mj' ∧ (∀ q ∈ X, q ∈ X') ∧ n ≤ n' ∧ hasH (Mj' ++ X') n' H')
attribute [local irreducible] gOK WS WC WR WD Ends FS YS OpV seqK blockK loopK midK retK rdK asgK rangeEnd sat Cell
section
variable {bo be bp fe : Nat} {caps : List Value} {o : List Nat} {vo : Value} {X0 : HL}
set_option maxHeartbeats 4000000 in
theorem reach1_fs {S : Type} {J : S → HL → Prop} {step : S → List Nat → ByteArray → S × Bool} (hE : EachK fe caps J X0 step) (hO : OrdN o) (hmO : (bo, Ch.row 22 0 0 [vo]) ∈ X0) (hSo : Sl X0 1 vo (nodes o))
    (hmE : (be, Ch.row 32 0 0 [.func (.func fe) [].toArray caps.toArray]) ∈ X0)
    (hmP : (bp, Ch.row 97 0 0 [.func (.func 88) [].toArray [ptrO bo 0, ptrO be 0, ptrO bp 0].toArray]) ∈ X0) :
    ∀ (m : Nat) {c : Nat} {i u : List Nat} {mv : ByteArray} {s : S} {iv uv : Value} {Mj X : HL} {n : Nat} {H : Heap}, StM o m c i u → mv.size + m ≤ 1000 → LstW X iv (nodes i) → LstW X uv (nodes u) → J s Mj → (∀ q ∈ X0, q ∈ X) → hasH (Mj ++ X) n H →
      FS C 88 [.int .i64 (c : Int), iv, uv, .string mv, ptrO bo 0, ptrO be 0, ptrO bp 0] H (fun e H' => ∃ Mj' X' n', e = .bool (foldM o step m c i u mv s).2 ∧ J (foldM o step m c i u mv s).1 Mj' ∧ (∀ q ∈ X, q ∈ X') ∧ n ≤ n' ∧ hasH (Mj' ++ X') n' H') := by
  have h7 := hO.most
  intro m
  induction m with
  | zero =>
    intro c i u mv s iv uv Mj X n H hM hmv hi hu hJ hX hH
    obtain ⟨h1, h2, h3⟩ := hM.full
    have hul := h3.length_eq
    have hSu := hu.sl.mono fun q hq => List.mem_append_right Mj hq
    have hSv := hSo.mono fun q hq => List.mem_append_right Mj (hX q hq)
    have mO := List.mem_append_right Mj (hX _ hmO)
    have mE := List.mem_append_right Mj (hX _ hmE)
    have huv := hu.one_
    refine FS.intro (pf := pf88) rfl rfl rfl ?_
    repeat' (first | refine zP ?_ | refine zA ?_ | (refine zM ?_; intro _ _) | refine zX ?_ | (refine zC ?_; intro _ _ _ _) | (refine zS ?_; intro _ _) | refine zO ?_ | (apply Ws <;> intro hg))
    refine WR.callV (by first | exact gN | exact gS rfl) rfl rfl rfl (hE hJ hX hu.sl (by omega) hH) ?_
    rintro _ H2 ⟨Mj2, X2, n2, rfl, hJ2, hX2, hn2, hH2⟩
    repeat' (first | refine zP ?_ | refine zA ?_ | (refine zM ?_; intro _ _) | refine zX ?_ | (refine zC ?_; intro _ _ _ _) | (refine zS ?_; intro _ _) | (apply Ws <;> intro hg))
    exact Ends.ret1 rfl ⟨Mj2, X2, n2, rfl, hJ2, hX2, hn2, hH2⟩
  | succ m ih =>
    intro c i u mv s iv uv Mj X n H hM hmv hi hu hJ hX hH
    have hlen := hM.len
    have hnum := hM.num
    have hcle := hM.le
    have hSu := hu.sl.mono fun q hq => List.mem_append_right Mj hq
    have hSv := hSo.mono fun q hq => List.mem_append_right Mj (hX q hq)
    have mO := List.mem_append_right Mj (hX _ hmO)
    have mP := List.mem_append_right Mj (hX _ hmP)
    refine FS.intro (pf := pf88) rfl rfl rfl ?_
    repeat' (first | refine zP ?_ | refine zA ?_ | (refine zM ?_; intro _ _) | refine zX ?_ | (refine zC ?_; intro _ _ _ _) | (refine zS ?_; intro _ _) | refine zO ?_ | (apply Ws <;> intro hg))
    have hSi := hi.sl.mono fun q hq => List.mem_append_right Mj hq
    have hil : (nodes i).length = i.length := nodes_len' i
    have hul : (nodes u).length = u.length := nodes_len' u
    have hst : ∀ {Y : HL} {n' : Nat} {H' : Heap} {r1 r2 r3 : Rd}, (r1.i = 17 ∧ r2.i = 14 ∧ r3.i = 1) → hasH Y n' H' → (∀ q ∈ X, q ∈ Y) → stands H' [5] [r1, r2, ⟨5, ⟨bp, 0, some 0⟩, none, .func (.func 88) [].toArray [ptrO bo 0, ptrO be 0, ptrO bp 0].toArray⟩, r3] = true := fun hr h hm =>
      stands_cons (.inl (by rw [hr.1]; rfl)) (stands_cons (.inl (by rw [hr.2.1]; rfl)) (stands_cons (.inr (holds_at (h.read (hm _ (hX _ hmP)) (.row _ _ _ _) (Nat.zero_le _) rfl) (same_fn _ [⟨bo, 0, some 0⟩, ⟨be, 0, some 0⟩, ⟨bp, 0, some 0⟩]))) (stands_cons (.inl (by rw [hr.2.2]; rfl)) stands_nil')))
    have hiv := hi.one_
    have huv := hu.one_
    by_cases hc : c < o.length
    · refine WC.regionD ?_
      repeat' (first | refine zD ?_ | (refine zE ?_; intro _ _ _ _))
      rw [decide_eq_true (show (c : Int) < ((o.length : Nat) : Int) by omega)]
      repeat' (first | refine zD ?_ | (refine zE ?_; intro _ _ _ _))
      refine WD.clipW hil (by first | exact gN | exact gS rfl) rfl rfl hi rfl rfl fun v35 hCV => ?_
      repeat' (first | refine zD ?_ | (refine zE ?_; intro _ _ _ _))
      refine WD.op (by first | exact gN | exact gS rfl) rfl (OpV.cat (by show mv.size + 1 ≤ 100000; omega) rfl rfl) rfl (stands_nil _ _) ?_
      refine WD.bldS (by first | exact gN | exact gS rfl) rfl hH (vs := [(0, .int .i64 ((o.getD c 0 : Nat) : Int))]) rfl (cs := [.int .i64 ((o.getD c 0 : Nat) : Int)]) (by rfl) rfl (fun H3 h3 => hst ⟨rfl, rfl, rfl⟩ h3 fun q hq => List.mem_cons_of_mem _ (List.mem_append_right _ hq)) fun H3 hH3 => ?_
      refine WD.appFullW (by first | exact gN | exact gS rfl) rfl hH3 rfl (hCV.mono fun q hq => List.mem_cons_of_mem _ (List.mem_append_right _ hq)) rfl (.head _) (nodes_one' _) rfl (by rw [nodes_len']; omega) fun H4 hH4 => ⟨hst ⟨rfl, rfl, rfl⟩ hH4 fun q hq => List.mem_cons_of_mem _ (List.mem_cons_of_mem _ (List.mem_append_right _ hq)), ?_⟩
      refine WD.toWR rfl ?_
      rw [hil]
      rw [← nodes_snoc] at hH4
      rw [show (c : Int) + 1 = ((c + 1 : Nat) : Int) by omega]
      obtain ⟨X5, hX5⟩ : ∃ X5, (n + 1, Ch.row 3 0 0 (nodes (i ++ [o.getD c 0]))) :: (n, Ch.row 3 0 0 [.int .i64 ((o.getD c 0 : Nat) : Int)]) :: X = X5 := ⟨_, rfl⟩
      have hsub5 : ∀ q ∈ X, q ∈ X5 := fun q hq => by rw [← hX5]; exact List.mem_cons_of_mem _ (List.mem_cons_of_mem _ hq)
      have hH5 : hasH (Mj ++ X5) (n + 1 + 1) H4 := by rw [← hX5]; exact hH4.perm (by classical exact List.perm_iff_count.2 (fun a => by simp only [defds, List.map_cons, List.map_nil, List.count_append, List.count_cons, List.count_nil, List.cons_append, List.nil_append, List.append_nil]; omega))
      have hi5 : LstW X5 (.slice (some ⟨n + 1, 0, some 0⟩) (i.length + 1) (2 * 1)) (nodes (i ++ [o.getD c 0])) := by rw [← hX5]; exact LstW.row (.head _) (by simp) (nodes_ne (by simp))
      refine WR.callV (by first | exact gN | exact gS rfl) rfl rfl rfl (ih (hM.come hc) (by show (mv ++ _).size + m ≤ 1000; rw [ByteArray.size_append]; show mv.size + 1 + m ≤ 1000; omega) hi5 (hu.mono hsub5) hJ (fun q hq => hsub5 q (hX q hq)) hH5) ?_
      rintro _ H6 ⟨Mj6, X6, n6, rfl, hJ6, hX6, hn6, hH6⟩
      have hsub6 : ∀ q ∈ X, q ∈ X6 := fun q hq => hX6 q (hsub5 q hq)
      clear hH hH3 hH4 hH5 hSi hSu hSv mO mP
      obtain ⟨r, hr⟩ : ∃ r, foldM o step m (c + 1) (i ++ [o.getD c 0]) u (mv ++ ⟨#[105]⟩) s = r := ⟨_, rfl⟩
      have hfc : (if c < o.length then foldM o step m (c + 1) (i ++ [o.getD c 0]) u (mv ++ ⟨#[105]⟩) s else (s, true)) = r := by rw [if_pos hc, hr]
      rw [hr] at hJ6 ⊢
      clear hr
      obtain ⟨s6, b6⟩ := r
      simp only at hJ6 ⊢
      cases b6 with
      | false =>
        have hfo : foldM o step (m + 1) c i u mv s = (s6, false) := by rw [foldM_step hfc]; rfl
        rw [hfo]
        repeat' (first | refine zP ?_ | refine zA ?_ | (refine zM ?_; intro _ _) | refine zX ?_ | (refine zC ?_; intro _ _ _ _) | (refine zS ?_; intro _ _) | refine zO ?_ | (apply Ws <;> intro hg))
        exact Ends.ret1 rfl ⟨Mj6, X6, n6, rfl, hJ6, hsub6, by omega, hH6⟩
      | true =>
        repeat' (first | refine zP ?_ | refine zA ?_ | (refine zM ?_; intro _ _) | refine zX ?_ | (refine zC ?_; intro _ _ _ _) | (refine zS ?_; intro _ _) | refine zO ?_ | (apply Ws <;> intro hg))
        have hS3 := (hi.mono hsub6).sl.mono fun q hq => List.mem_append_right Mj6 hq
        have hU3 := (hu.mono hsub6).sl.mono fun q hq => List.mem_append_right Mj6 hq
        rcases List.eq_nil_or_concat i with rfl | ⟨i', y, hiy⟩
        · have hl0 : ([] : List Nat).length = 0 := rfl
          have hfo : foldM o step (m + 1) c [] u mv s = (s6, true) := foldM_nil hfc
          rw [hfo]
          repeat' (first | refine zP ?_ | refine zA ?_ | (refine zM ?_; intro _ _) | refine zX ?_ | (refine zC ?_; intro _ _ _ _) | (refine zS ?_; intro _ _) | refine zO ?_ | (apply Ws <;> intro hg))
          exact Ends.ret1 rfl ⟨Mj6, X6, n6, rfl, hJ6, hsub6, by omega, hH6⟩
        · rw [List.concat_eq_append] at hiy
          subst hiy
          have hfo : foldM o step (m + 1) c (i' ++ [y]) u mv s = foldM o step m c i' (u ++ [y]) (mv ++ ⟨#[111]⟩) s6 := foldM_snoc hfc
          have hMl := hM.leave (by simp)
          rw [List.dropLast_concat, List.length_append, List.length_singleton, Nat.add_sub_cancel, getD_snoc] at hMl
          have hll : (i' ++ [y]).length = i'.length + 1 := by simp
          rw [hfo]
          have hst2 : ∀ {Y : HL} {n' : Nat} {H' : Heap} {r1 : Rd}, r1.i = 16 → hasH Y n' H' → (∀ q ∈ X6, q ∈ Y) → stands H' [0] [r1, ⟨0, ⟨bp, 0, some 0⟩, none, .func (.func 88) [].toArray [ptrO bo 0, ptrO be 0, ptrO bp 0].toArray⟩] = true := fun hr h hm =>
            stands_cons (.inl (by rw [hr]; rfl)) (stands_cons (.inr (holds_at (h.read (hm _ ((fun q hq => hsub6 q (hX q hq)) _ hmP)) (.row _ _ _ _) (Nat.zero_le _) rfl) (same_fn _ [⟨bo, 0, some 0⟩, ⟨be, 0, some 0⟩, ⟨bp, 0, some 0⟩]))) stands_nil')
          have mP3 := List.mem_append_right Mj6 ((fun q hq => hsub6 q (hX q hq)) _ hmP)
          repeat' (first | refine zP ?_ | refine zA ?_ | (refine zM ?_; intro _ _) | refine zX ?_ | (refine zC ?_; intro _ _ _ _) | (refine zS ?_; intro _ _) | refine zO ?_ | (apply Ws <;> intro hg))
          refine WC.regionD ?_
          repeat' (first | refine zD ?_ | (refine zE ?_; intro _ _ _ _))
          rw [show (((i' ++ [y]).length : Nat) : Int) - 1 = (i'.length : Int) by rw [hll]; omega]
          have hi2 := hi.mono hsub6
          rw [nodes_snoc] at hi2
          refine WD.initW (nodes_len' i') (by first | exact gN | exact gS rfl) rfl rfl hi2 rfl fun v57 hI => ?_
          repeat' (first | refine zD ?_ | (refine zE ?_; intro _ _ _ _))
          refine WD.clipW hul (by first | exact gN | exact gS rfl) rfl rfl (hu.mono hsub6) rfl rfl fun v63 hCV => ?_
          refine WD.op (by first | exact gN | exact gS rfl) rfl (OpV.move rfl) rfl (stands_nil _ _) ?_
          refine WD.op (by first | exact gN | exact gS rfl) rfl (OpV.move rfl) rfl (stands_nil _ _) ?_
          refine WD.op (by first | exact gN | exact gS rfl) rfl (OpV.sub rfl rfl (by rw [hll]; omega)) rfl (stands_nil _ _) ?_
          rw [show (((i' ++ [y]).length : Nat) : Int) - 1 = (i'.length : Int) by rw [hll]; omega]
          repeat' (first | refine zD ?_ | (refine zE ?_; intro _ _ _ _))
          rw [getD_snoc]
          refine WD.op (by first | exact gN | exact gS rfl) rfl (OpV.cat (by show mv.size + 1 ≤ 100000; omega) rfl rfl) rfl (stands_nil _ _) ?_
          refine WD.bldS (by first | exact gN | exact gS rfl) rfl hH6 (vs := [(0, .int .i64 (y : Int))]) rfl (cs := [.int .i64 (y : Int)]) (by rfl) rfl (fun H3 h3 => hst2 rfl h3 fun q hq => List.mem_cons_of_mem _ (List.mem_append_right _ hq)) fun H3 hH3 => ?_
          refine WD.appFullW (by first | exact gN | exact gS rfl) rfl hH3 rfl (hCV.mono fun q hq => List.mem_cons_of_mem _ (List.mem_append_right _ hq)) rfl (.head _) (nodes_one' _) rfl (by rw [nodes_len']; omega) fun H4 hH4 => ⟨hst2 rfl hH4 fun q hq => List.mem_cons_of_mem _ (List.mem_cons_of_mem _ (List.mem_append_right _ hq)), ?_⟩
          refine WD.toWR rfl ?_
          rw [hul, ← nodes_snoc] at *
          obtain ⟨X5, hX5⟩ : ∃ X5, (n6 + 1, Ch.row 3 0 0 (nodes (u ++ [y]))) :: (n6, Ch.row 3 0 0 [.int .i64 (y : Int)]) :: X6 = X5 := ⟨_, rfl⟩
          have hsub5 : ∀ q ∈ X6, q ∈ X5 := fun q hq => by rw [← hX5]; exact List.mem_cons_of_mem _ (List.mem_cons_of_mem _ hq)
          have hH5 : hasH (Mj6 ++ X5) (n6 + 1 + 1) H4 := by rw [← hX5]; exact hH4.perm (by classical exact List.perm_iff_count.2 (fun a => by simp only [defds, List.map_cons, List.map_nil, List.count_append, List.count_cons, List.count_nil, List.cons_append, List.nil_append, List.append_nil]; omega))
          have hu5 : LstW X5 (.slice (some ⟨n6 + 1, 0, some 0⟩) (u.length + 1) (2 * 1)) (nodes (u ++ [y])) := by rw [← hX5]; exact LstW.row (.head _) (by simp) (nodes_ne (by simp))
          refine WR.callV (by first | exact gN | exact gS rfl) rfl rfl rfl (ih hMl (by show (mv ++ _).size + m ≤ 1000; rw [ByteArray.size_append]; show mv.size + 1 + m ≤ 1000; omega) (hI.mono hsub5) hu5 hJ6 (fun q hq => hsub5 q ((fun q hq => hsub6 q (hX q hq)) q hq)) hH5) ?_
          rintro _ H6 ⟨Mj6, X6, n6, rfl, hJ6, hX6, hn6, hH6⟩
          repeat' (first | refine zP ?_ | refine zA ?_ | (refine zM ?_; intro _ _) | refine zX ?_ | (refine zC ?_; intro _ _ _ _) | (refine zS ?_; intro _ _) | (apply Ws <;> intro hg))
          exact Ends.ret1 rfl ⟨Mj6, X6, n6, rfl, hJ6, fun q hq => hX6 q (hsub5 q ((hsub6) q hq)), by omega, hH6⟩
    · have hfc : (if c < o.length then foldM o step m (c + 1) (i ++ [o.getD c 0]) u (mv ++ ⟨#[105]⟩) s else (s, true)) = (s, true) := if_neg hc
      refine WC.regionD ?_
      repeat' (first | refine zD ?_ | (refine zE ?_; intro _ _ _ _))
      rw [decide_eq_false (show ¬ (c : Int) < ((o.length : Nat) : Int) by omega)]
      repeat' (first | refine WD.guardF rfl rfl (stands_nil _ _) ?_ | refine WD.guardU rfl rfl (stands_nil _ _) ?_ | refine zD ?_ | (refine zE ?_; intro _ _ _ _))
      refine WD.guardF rfl rfl (stands_cons (.inl rfl) stands_nil') ?_
      refine WD.guardF rfl rfl (stands_cons (.inl rfl) stands_nil') ?_
      refine WD.toWR rfl ?_
      repeat' (first | refine zP ?_ | refine zA ?_ | (refine zM ?_; intro _ _) | refine zX ?_ | (refine zC ?_; intro _ _ _ _) | (refine zS ?_; intro _ _) | refine zO ?_ | (apply Ws <;> intro hg))
      have hS3 := hi.sl.mono fun q hq => List.mem_append_right Mj hq
      have hU3 := hu.sl.mono fun q hq => List.mem_append_right Mj hq
      rcases List.eq_nil_or_concat i with rfl | ⟨i', y, hiy⟩
      · exfalso; rw [List.length_nil] at hnum; omega
      · rw [List.concat_eq_append] at hiy
        subst hiy
        have hfo : foldM o step (m + 1) c (i' ++ [y]) u mv s = foldM o step m c i' (u ++ [y]) (mv ++ ⟨#[111]⟩) s := foldM_snoc hfc
        have hMl := hM.leave (by simp)
        rw [List.dropLast_concat, List.length_append, List.length_singleton, Nat.add_sub_cancel, getD_snoc] at hMl
        have hll : (i' ++ [y]).length = i'.length + 1 := by simp
        rw [hfo]
        have hst2 : ∀ {Y : HL} {n' : Nat} {H' : Heap} {r1 : Rd}, r1.i = 16 → hasH Y n' H' → (∀ q ∈ X, q ∈ Y) → stands H' [0] [r1, ⟨0, ⟨bp, 0, some 0⟩, none, .func (.func 88) [].toArray [ptrO bo 0, ptrO be 0, ptrO bp 0].toArray⟩] = true := fun hr h hm =>
          stands_cons (.inl (by rw [hr]; rfl)) (stands_cons (.inr (holds_at (h.read (hm _ (hX _ hmP)) (.row _ _ _ _) (Nat.zero_le _) rfl) (same_fn _ [⟨bo, 0, some 0⟩, ⟨be, 0, some 0⟩, ⟨bp, 0, some 0⟩]))) stands_nil')
        have mP3 := List.mem_append_right Mj (hX _ hmP)
        repeat' (first | refine zP ?_ | refine zA ?_ | (refine zM ?_; intro _ _) | refine zX ?_ | (refine zC ?_; intro _ _ _ _) | (refine zS ?_; intro _ _) | refine zO ?_ | (apply Ws <;> intro hg))
        refine WC.regionD ?_
        repeat' (first | refine zD ?_ | (refine zE ?_; intro _ _ _ _))
        rw [show (((i' ++ [y]).length : Nat) : Int) - 1 = (i'.length : Int) by rw [hll]; omega]
        have hi2 := hi
        rw [nodes_snoc] at hi2
        refine WD.initW (nodes_len' i') (by first | exact gN | exact gS rfl) rfl rfl hi2 rfl fun v57 hI => ?_
        repeat' (first | refine zD ?_ | (refine zE ?_; intro _ _ _ _))
        refine WD.clipW hul (by first | exact gN | exact gS rfl) rfl rfl hu rfl rfl fun v63 hCV => ?_
        refine WD.op (by first | exact gN | exact gS rfl) rfl (OpV.move rfl) rfl (stands_nil _ _) ?_
        refine WD.op (by first | exact gN | exact gS rfl) rfl (OpV.move rfl) rfl (stands_nil _ _) ?_
        refine WD.op (by first | exact gN | exact gS rfl) rfl (OpV.sub rfl rfl (by rw [hll]; omega)) rfl (stands_nil _ _) ?_
        rw [show (((i' ++ [y]).length : Nat) : Int) - 1 = (i'.length : Int) by rw [hll]; omega]
        repeat' (first | refine zD ?_ | (refine zE ?_; intro _ _ _ _))
        rw [getD_snoc]
        refine WD.op (by first | exact gN | exact gS rfl) rfl (OpV.cat (by show mv.size + 1 ≤ 100000; omega) rfl rfl) rfl (stands_nil _ _) ?_
        refine WD.bldS (by first | exact gN | exact gS rfl) rfl hH (vs := [(0, .int .i64 (y : Int))]) rfl (cs := [.int .i64 (y : Int)]) (by rfl) rfl (fun H3 h3 => hst2 rfl h3 fun q hq => List.mem_cons_of_mem _ (List.mem_append_right _ hq)) fun H3 hH3 => ?_
        refine WD.appFullW (by first | exact gN | exact gS rfl) rfl hH3 rfl (hCV.mono fun q hq => List.mem_cons_of_mem _ (List.mem_append_right _ hq)) rfl (.head _) (nodes_one' _) rfl (by rw [nodes_len']; omega) fun H4 hH4 => ⟨hst2 rfl hH4 fun q hq => List.mem_cons_of_mem _ (List.mem_cons_of_mem _ (List.mem_append_right _ hq)), ?_⟩
        refine WD.toWR rfl ?_
        rw [hul, ← nodes_snoc] at *
        obtain ⟨X5, hX5⟩ : ∃ X5, (n + 1, Ch.row 3 0 0 (nodes (u ++ [y]))) :: (n, Ch.row 3 0 0 [.int .i64 (y : Int)]) :: X = X5 := ⟨_, rfl⟩
        have hsub5 : ∀ q ∈ X, q ∈ X5 := fun q hq => by rw [← hX5]; exact List.mem_cons_of_mem _ (List.mem_cons_of_mem _ hq)
        have hH5 : hasH (Mj ++ X5) (n + 1 + 1) H4 := by rw [← hX5]; exact hH4.perm (by classical exact List.perm_iff_count.2 (fun a => by simp only [defds, List.map_cons, List.map_nil, List.count_append, List.count_cons, List.count_nil, List.cons_append, List.nil_append, List.append_nil]; omega))
        have hu5 : LstW X5 (.slice (some ⟨n + 1, 0, some 0⟩) (u.length + 1) (2 * 1)) (nodes (u ++ [y])) := by rw [← hX5]; exact LstW.row (.head _) (by simp) (nodes_ne (by simp))
        refine WR.callV (by first | exact gN | exact gS rfl) rfl rfl rfl (ih hMl (by show (mv ++ _).size + m ≤ 1000; rw [ByteArray.size_append]; show mv.size + 1 + m ≤ 1000; omega) (hI.mono hsub5) hu5 hJ (fun q hq => hsub5 q (hX q hq)) hH5) ?_
        rintro _ H6 ⟨Mj6, X6, n6, rfl, hJ6, hX6, hn6, hH6⟩
        repeat' (first | refine zP ?_ | refine zA ?_ | (refine zM ?_; intro _ _) | refine zX ?_ | (refine zC ?_; intro _ _ _ _) | (refine zS ?_; intro _ _) | (apply Ws <;> intro hg))
        exact Ends.ret1 rfl ⟨Mj6, X6, n6, rfl, hJ6, fun q hq => hX6 q (hsub5 q ((fun q hq => hq) q hq)), by omega, hH6⟩
end
end Go.Proofs.Ytfnflkcjhefddaa.Lk

/- All moves, tried from the beginning; whether some lead to the ascending order. -/
namespace Go.Proofs.Ytfnflkcjhefddaa.Lk
open Go Go.Abs Go.Mth
set_option linter.unusedVariables false
set_option linter.unusedSimpArgs false
theorem EachK.mono {S : Type} {fe : Nat} {caps : List Value} {J : S → HL → Prop} {X0 X1 : HL} {step : S → List Nat → ByteArray → S × Bool} (h : EachK fe caps J X0 step) (k : ∀ q ∈ X0, q ∈ X1) : EachK fe caps J X1 step :=
  fun hJ hX hS hl hH => h hJ (fun q hq => hX q (k q hq)) hS hl hH
def stepA (s : Bool) (u : List Nat) (mv : ByteArray) : Bool × Bool := (ascB u, !ascB u)
theorem fold_can {o : List Nat} : ∀ (m c : Nat) (i u : List Nat) (mv : ByteArray) (s : Bool), StM o m c i u → foldM o stepA m c i u mv s = (canB o m c i u, !canB o m c i u)
  | 0, c, i, u, mv, s, h => rfl
  | m + 1, c, i, u, mv, s, h => by
    have hnum := h.num
    by_cases hc : c < o.length
    · have ih := fold_can m (c + 1) (i ++ [o.getD c 0]) u (mv ++ ⟨#[105]⟩) s (h.come hc)
      rw [foldM_step (r := (canB o m (c + 1) (i ++ [o.getD c 0]) u, !canB o m (c + 1) (i ++ [o.getD c 0]) u)) (by rw [if_pos hc, ih])]
      simp only [canB, decide_eq_true hc, Bool.true_and]
      cases hb : canB o m (c + 1) (i ++ [o.getD c 0]) u with
      | true => simp
      | false =>
        simp only [Bool.not_false, Bool.true_eq_false, if_false, Bool.false_or]
        by_cases hi : i ≠ []
        · rw [if_pos hi, decide_eq_true hi, Bool.true_and]
          exact fold_can m c _ _ _ _ (h.leave hi)
        · rw [if_neg hi, decide_eq_false hi]; rfl
    · have hi : i ≠ [] := by
        rintro rfl
        rw [List.length_nil] at hnum
        have := h.le
        omega
      rw [foldM_step (r := (s, true)) (if_neg hc)]
      simp only [canB, decide_eq_false hc, Bool.false_and, Bool.false_or, decide_eq_true hi, Bool.true_and, Bool.true_eq_false, if_false, if_pos hi]
      exact fold_can m c _ _ _ _ (h.leave hi)
attribute [local irreducible] gOK WS WC WR WD Ends FS YS OpV seqK blockK loopK midK retK rdK asgK rangeEnd sat Cell
section
variable {M : HL} {n0 : Nat} {H : Heap} {v w : Value}
theorem reach_fs {S : Type} {fe : Nat} {caps : List Value} {J : S → HL → Prop} {step : S → List Nat → ByteArray → S × Bool} (hE : EachK fe caps J M step) {o : List Nat} (hO : OrdN o) (hS : Sl M 1 v (nodes o)) {s : S} {Mj : HL} (hJ : J s Mj) (hone : one (.func (.func fe) [].toArray caps.toArray) = true) (hH : hasH (Mj ++ M) n0 H) :
    FS C 43 [v, .func (.func fe) [].toArray caps.toArray] H (fun e H' => ∃ Mj' X' n', J (foldM o step (2 * o.length) 0 [] [] ⟨#[]⟩ s).1 Mj' ∧ (∀ q ∈ M, q ∈ X') ∧ n0 ≤ n' ∧ hasH (Mj' ++ X') n' H') := by
  have hv := hS.one_
  have h7 := hO.most
  refine FS.intro (pf := pf43) rfl rfl rfl ?_
  refine WC.seq ?_
  refine WC.region ?_
  refine WR.box1 (by first | exact gN | exact gS rfl) rfl hH rfl hv fun H1 hH1 => ?_
  refine WR.box1 (by first | exact gN | exact gS rfl) rfl hH1 rfl hone fun H2 hH2 => ?_
  repeat' (first | refine zP ?_ | refine zA ?_ | (refine zM ?_; intro _ _) | refine zX ?_ | (refine zC ?_; intro _ _ _ _) | (refine zS ?_; intro _ _) | (apply Ws <;> intro hg))
  rename_i H3 hH3
  have hH4 : hasH ((n0 + 1 + 1, Ch.row 97 0 0 [.func (.func 88) [].toArray [ptrO n0 0, ptrO (n0 + 1) 0, ptrO (n0 + 1 + 1) 0].toArray]) :: (n0 + 1, Ch.row 32 0 0 [.func (.func fe) [].toArray caps.toArray]) :: (n0, Ch.row 22 0 0 [v]) :: (Mj ++ M)) (n0 + 1 + 1 + 1) H3 := hH3
  obtain ⟨X0, hX0⟩ : ∃ X0, (n0 + 1 + 1, Ch.row 97 0 0 [.func (.func 88) [].toArray [ptrO n0 0, ptrO (n0 + 1) 0, ptrO (n0 + 1 + 1) 0].toArray]) :: (n0 + 1, Ch.row 32 0 0 [.func (.func fe) [].toArray caps.toArray]) :: (n0, Ch.row 22 0 0 [v]) :: M = X0 := ⟨_, rfl⟩
  have hsub : ∀ q ∈ M, q ∈ X0 := fun q hq => by rw [← hX0]; simp [hq]
  have hH5 : hasH (Mj ++ X0) (n0 + 1 + 1 + 1) H3 := by rw [← hX0]; exact hH4.perm (by classical exact List.perm_iff_count.2 (fun a => by simp only [defds, List.map_cons, List.map_nil, List.count_append, List.count_cons, List.count_nil, List.cons_append, List.nil_append, List.append_nil]; omega))
  refine WR.callV (by first | exact gN | exact gS rfl) rfl rfl rfl (reach1_fs (X0 := X0) (hE.mono hsub) hO (by rw [← hX0]; simp) (hS.mono hsub) (by rw [← hX0]; simp) (by rw [← hX0]; simp) (2 * o.length) (StM.start o) (by show 0 + _ ≤ _; omega) (LstW.none X0) (LstW.none X0) hJ (fun q hq => hq) hH5) ?_
  rintro _ H6 ⟨Mj6, X6, n6, rfl, hJ6, hX6, hn6, hH6⟩
  repeat' (first | refine zP ?_ | refine zA ?_ | (refine zM ?_; intro _ _) | refine zX ?_ | (refine zC ?_; intro _ _ _ _) | (refine zS ?_; intro _ _) | (apply Ws <;> intro hg))
  exact Ends.end0 ⟨Mj6, X6, n6, hJ6, fun q hq => hX6 q (hsub q hq), by omega, hH6⟩
theorem each_asc {bs : Nat} : EachK 44 [ptrO bs 0] (fun s Mj => Mj = [(bs, Ch.row 4 0 0 [.bool s])]) M stepA := by
  rintro s _ X n H w u mv rfl hX hS hl hH
  have hS2 := hS.cons (p := (bs, Ch.row 4 0 0 [.bool s]))
  refine FS.intro (pf := pf44) rfl rfl rfl ?_
  repeat' (first | refine zP ?_ | refine zA ?_ | (refine zM ?_; intro _ _) | refine zX ?_ | (refine zC ?_; intro _ _ _ _) | (refine zS ?_; intro _ _) | (apply Ws <;> intro hg))
  refine WR.call (by first | exact gN | exact gS rfl) rfl rfl (IsSorted_fs hH hS2 (by omega)) ?_
  rintro _ H2 ⟨rfl, rfl⟩
  replace hH : hasH ((bs, Ch.row 4 0 0 [.bool s]) :: X) n H2 := hH
  refine WR.storeBox (by first | exact gN | exact gS rfl) hH rfl rfl rfl .here fun H3 hH3 => ?_
  repeat' (first | refine zP ?_ | refine zA ?_ | (refine zM ?_; intro _ _) | refine zX ?_ | (refine zC ?_; intro _ _ _ _) | (refine zS ?_; intro _ _) | (apply Ws <;> intro hg))
  exact Ends.ret1 rfl ⟨_, X, n, rfl, rfl, fun q hq => hq, Nat.le_refl _, hH3⟩
end
end Go.Proofs.Ytfnflkcjhefddaa.Lk

/- A pass is made. -/
namespace Go.Proofs.Ytfnflkcjhefddaa.Lk
open Go Go.Abs Go.Mth
set_option linter.unusedVariables false
set_option linter.unusedSimpArgs false
/-- One basin in memory. -/
def BP (b : Nat) (p : List Nat) (M : HL) (n : Nat) (H : Heap) : Prop := ∃ v M0, StkO 3 v (nodes p.reverse) M0 ∧ hasH ((b, .row 103 0 0 [v]) :: (M0 ++ M)) n H
theorem BP.tell {fn : Nat} {caps : List Value} {J : List (Nat × Nat) → HL → Prop} {M Mj : HL} {b n : Nat} {H : Heap} {p : List Nat} {tr : List (Nat × Nat)} (hT : TellK fn caps J M) (h : BP b p (Mj ++ M) n H) (hJ : J tr Mj) (hl : tr.length ≤ 100) (a x : Nat) (ha : a = 105 ∨ a = 111) :
    FS C fn ([] ++ [.int .u8 (a : Int), .int .i64 (x : Int)] ++ caps) H (fun e H' => ∃ Mj' n', J (tr ++ [(a, x)]) Mj' ∧ n ≤ n' ∧ BP b p (Mj' ++ M) n' H') := by
  obtain ⟨v, M0, hp, hH⟩ := h
  refine (hT tr Mj ((b, .row 103 0 0 [v]) :: M0) n H a x hJ hl ha hH).mono ?_
  rintro e H' ⟨Mj', n', h1, h2, h3⟩
  exact ⟨Mj', n', h1, h2, v, M0, hp, h3⟩
theorem BP.bring {M : HL} {b n : Nat} {H : Heap} {p : List Nat} (h : BP b p M n H) (x : Nat) (hl : p.length ≤ 1000) :
    FS C 98 [ptrO b 0, .int .i64 (x : Int)] H (fun e H' => ∃ n', n ≤ n' ∧ BP b (x :: p) M n' H') := by
  obtain ⟨v, M0, hp, hH⟩ := h
  refine (bring_fs hp hH rfl (by simp; omega)).mono ?_
  rintro e H' ⟨v', Mx', n', h1, h2, h3⟩
  refine ⟨n', h2, v', Mx', ?_, h3⟩
  rw [nodes_cons_rev]; exact h1
theorem BP.isEmpty {M : HL} {b n : Nat} {H : Heap} {p : List Nat} (h : BP b p M n H) :
    FS C 95 [ptrO b 0] H (fun e H' => H' = H ∧ e = .bool (decide (p = []))) := by
  obtain ⟨v, M0, hp, hH⟩ := h
  refine (isEmpty_fs hH (cell_row (.head _) rfl) (hp.sl _).cons).mono ?_
  rintro e H' ⟨h1, rfl⟩
  refine ⟨h1, ?_⟩
  congr 1
  rw [decide_eq_decide, nodes_len', List.length_reverse, List.length_eq_zero_iff]
theorem BP.last {M : HL} {b n x : Nat} {H : Heap} {p : List Nat} (h : BP b (x :: p) M n H) :
    FS C 96 [ptrO b 0] H (fun e H' => H' = H ∧ e = .int .i64 (x : Int)) := by
  obtain ⟨v, M0, hp, hH⟩ := h
  rw [nodes_cons_rev] at hp
  have hb := StkO.len hp
  rw [List.length_append, List.length_singleton] at hb
  exact last_fs hH (cell_row (.head _) rfl) (hp.sl _).cons (by omega)
theorem BP.take {M : HL} {b n x : Nat} {H : Heap} {p : List Nat} (h : BP b (x :: p) M n H) :
    FS C 97 [ptrO b 0] H (fun e H' => e = .int .i64 (x : Int) ∧ BP b p M n H') := by
  obtain ⟨v, M0, hp, hH⟩ := h
  rw [nodes_cons_rev] at hp
  refine (take_fs hp hH rfl).mono ?_
  rintro e H' ⟨h1, v', h2, h3⟩
  exact ⟨h1, v', M0, h2, h3⟩
theorem BP.sl {M : HL} {b n : Nat} {H : Heap} {p : List Nat} (h : BP b p M n H) : ∃ U, hasH U n H ∧ ∀ z ∈ M, z ∈ U := by
  obtain ⟨v, M0, hp, hH⟩ := h
  exact ⟨_, hH, fun z hz => List.mem_cons_of_mem _ (List.mem_append_right _ hz)⟩
structure PX where
  k : Nat
  st : List Nat
  tr : List (Nat × Nat)
  Mj : HL
  n : Nat
attribute [local irreducible] gOK WS WC WR WD Ends FS YS OpV seqK blockK loopK midK retK rdK asgK rangeEnd sat Cell
section
variable {M : HL} {n0 : Nat} {H : Heap} {v w : Value}
set_option maxHeartbeats 2000000 in
theorem pass_fs {fn : Nat} {caps : List Value} {J : List (Nat × Nat) → HL → Prop} (hT : TellK fn caps J M) {Mj : HL} (hJ : J [] Mj) {o : List Nat} {vo : Value} (ho : Sl M 1 vo (nodes o)) (hol : o.length ≤ 10) (hH : hasH (Mj ++ M) n0 H) :
    FS C 63 [vo, .func (.func fn) [].toArray caps.toArray] H (fun e H' => ∃ Mj' n', J (runTr [] o) Mj' ∧ n0 ≤ n' ∧ hasH (Mj' ++ M) n' H') := by
  have ho0 := ho.mono fun q hq => List.mem_append_right Mj hq
  refine FS.intro (pf := pf63) rfl rfl rfl ?_
  repeat' (first | refine zP ?_ | refine zA ?_ | (refine zM ?_; intro _ _) | refine zX ?_ | (refine zC ?_; intro _ _ _ _) | (refine zS ?_; intro _ _) | (apply Ws <;> intro hg))
  rename_i H1 hH1
  have ho1 := ho0.cons (p := (n0, Ch.row 103 0 0 [.slice none 0 0]))
  repeat' (first | refine zP ?_ | refine zA ?_ | (refine zM ?_; intro _ _) | refine zX ?_ | (refine zC ?_; intro _ _ _ _) | (refine zS ?_; intro _ _) | (apply Ws <;> intro hg))
  have hB1 : BP n0 [] (Mj ++ M) (n0 + 1) H1 := ⟨_, [], .nil, hH1⟩
  clear ho0 ho1 hH hH1
  refine WC.loopX [(1, .func (.func fn) [].toArray caps.toArray), (4, ptrO n0 0), (7, vo), (8, .int .i64 (o.length : Int))] (fun z : PX => [(9, .int .i64 (z.k : Int))]) []
    (fun z H' => z.k ≤ o.length ∧ z.st.length ≤ z.k ∧ z.tr ++ runTr z.st (o.drop z.k) = runTr [] o ∧ J z.tr z.Mj ∧ n0 ≤ z.n ∧ BP n0 z.st (z.Mj ++ M) z.n H') (fun z => o.length - z.k) ⟨0, [], [], Mj, n0 + 1⟩ (by repeat' (first | exact .nil | refine .cons rfl ?_)) rfl
    ⟨Nat.zero_le _, Nat.zero_le _, rfl, hJ, Nat.le_succ _, hB1⟩ ?_
  clear hB1 hJ
  rintro ⟨k, st, tr, Mj, n1⟩ H2 ⟨hk, hstl, htr, hJ, hn1, hB⟩
  simp only at hk hstl htr hJ hn1 hB
  have hlen := congrArg List.length htr
  rw [List.length_append, runTr_len, runTr_len, List.length_drop, List.length_nil] at hlen
  dsimp only [List.cons_append, List.nil_append]
  obtain ⟨U, hU, hMU⟩ := hB.sl
  have hoU := ho.mono fun q hq => hMU q (List.mem_append_right _ hq)
  repeat' (first | refine zP ?_ | refine zA ?_ | (refine zM ?_; intro _ _) | refine zX ?_ | (refine zC ?_; intro _ _ _ _) | (refine zS ?_; intro _ _) | (apply Ws <;> intro hg))
  refine WC.condP rfl (fun hlt => ?_) (fun hlt => ?_)
  · have hk' : k < o.length := by omega
    repeat' (first | refine zP ?_ | refine zA ?_ | (refine zM ?_; intro _ _) | refine zX ?_ | (refine zC ?_; intro _ _ _ _) | (refine zS ?_; intro _ _) | (apply Ws <;> intro hg))
    clear hU hoU hMU
    rw [List.drop_eq_getElem_cons hk', ← getD_eq (a := 0)] at htr
    have hx : o.getD k 0 = o.getD k 0 := rfl
    generalize o.getD k 0 = x at htr ⊢
    refine WC.loopX [(1, .func (.func fn) [].toArray caps.toArray), (4, ptrO n0 0), (7, vo), (8, .int .i64 (o.length : Int)), (9, .int .i64 (k : Int)), (6, .int .i64 (x : Int))] (fun z : PX => []) []
      (fun z H' => z.st.length ≤ k ∧ z.tr ++ runTr z.st (x :: o.drop (k + 1)) = runTr [] o ∧ J z.tr z.Mj ∧ n0 ≤ z.n ∧ BP n0 z.st (z.Mj ++ M) z.n H') (fun z => z.st.length) ⟨0, st, tr, Mj, n1⟩ (by repeat' (first | exact .nil | refine .cons rfl ?_)) rfl
      ⟨hstl, htr, hJ, hn1, hB⟩ ?_
    clear hB hJ htr hlen
    rintro ⟨_, st, tr, Mj, n1⟩ H3 ⟨hstl, htr, hJ, hn1, hB⟩
    simp only at hstl htr hJ hn1 hB
    have hlen := congrArg List.length htr
    rw [List.length_append, runTr_len, runTr_len, List.length_cons, List.length_drop, List.length_nil] at hlen
    dsimp only [List.cons_append, List.nil_append]
    repeat' (first | refine zP ?_ | refine zA ?_ | (refine zM ?_; intro _ _) | refine zX ?_ | (refine zC ?_; intro _ _ _ _) | (refine zS ?_; intro _ _) | (apply Ws <;> intro hg))
    refine WR.call (by first | exact gN | exact gS rfl) rfl rfl hB.isEmpty ?_
    rintro _ H4 ⟨rfl, rfl⟩
    cases st with
    | nil =>
      have hl0 : ([] : List Nat).length = 0 := rfl
      repeat' (first | refine zP ?_ | refine zA ?_ | (refine zM ?_; intro _ _) | refine zX ?_ | (refine zC ?_; intro _ _ _ _) | (refine zS ?_; intro _ _) | refine zO ?_ | (apply Ws <;> intro hg))
      refine WR.call (by first | exact gN | exact gS rfl) rfl rfl (hB.bring x (by omega)) ?_
      rintro _ H5 ⟨n5, hn5, hB5⟩
      repeat' (first | refine zP ?_ | refine zA ?_ | (refine zM ?_; intro _ _) | refine zX ?_ | (refine zC ?_; intro _ _ _ _) | (refine zS ?_; intro _ _) | (apply Ws <;> intro hg))
      refine WR.callV (by first | exact gN | exact gS rfl) rfl rfl rfl (hB5.tell hT hJ (by omega) 105 x (.inl rfl)) ?_
      rintro _ H6 ⟨Mj6, n6, hJ6, hn6, hB6⟩
      repeat' (first | refine zP ?_ | refine zA ?_ | (refine zM ?_; intro _ _) | refine zX ?_ | (refine zC ?_; intro _ _ _ _) | (refine zS ?_; intro _ _) | (apply Ws <;> intro hg))
      refine Ends.loop ⟨k + 1, x :: [], tr ++ [(105, x)], Mj6, n6⟩ (by simp only; omega) (by repeat' (first | exact .nil | refine .cons rfl ?_)) rfl ⟨hk', by simp only [List.length_cons] at hstl ⊢; omega, ?_, hJ6, by simp only; omega, hB6⟩
      simp only
      rw [← htr, run_no (fun y h => by simp at h)]; simp
    | cons y st =>
      have hl0 : (y :: st).length = st.length + 1 := rfl
      repeat' (first | refine zP ?_ | refine zA ?_ | (refine zM ?_; intro _ _) | refine zX ?_ | (refine zC ?_; intro _ _ _ _) | (refine zS ?_; intro _ _) | refine zO ?_ | (apply Ws <;> intro hg))
      refine WR.call (by first | exact gN | exact gS rfl) rfl rfl hB.last ?_
      rintro _ H7 ⟨rfl, rfl⟩
      by_cases hyx : y < x
      · repeat' (first | refine zP ?_ | refine zA ?_ | (refine zM ?_; intro _ _) | refine zX ?_ | (refine zC ?_; intro _ _ _ _) | (refine zS ?_; intro _ _) | refine zO ?_ | (apply Ws <;> intro hg))
        refine WR.call (by first | exact gN | exact gS rfl) rfl rfl hB.take ?_
        rintro _ H8 ⟨rfl, hB8⟩
        refine WR.callV (by first | exact gN | exact gS rfl) rfl rfl rfl (hB8.tell hT hJ (by omega) 111 y (.inr rfl)) ?_
        rintro _ H9 ⟨Mj9, n9, hJ9, hn9, hB9⟩
        repeat' (first | refine zP ?_ | refine zA ?_ | (refine zM ?_; intro _ _) | refine zX ?_ | (refine zC ?_; intro _ _ _ _) | (refine zS ?_; intro _ _) | (apply Ws <;> intro hg))
        refine Ends.loop ⟨0, st, tr ++ [(111, y)], Mj9, n9⟩ (by simp only [hl0]; omega) (by repeat' (first | exact .nil | refine .cons rfl ?_)) rfl ⟨by simp only; omega, ?_, hJ9, by simp only; omega, hB9⟩
        simp only
        rw [← htr, run_yes hyx]; simp
      · repeat' (first | refine zP ?_ | refine zA ?_ | (refine zM ?_; intro _ _) | refine zX ?_ | (refine zC ?_; intro _ _ _ _) | (refine zS ?_; intro _ _) | refine zO ?_ | (apply Ws <;> intro hg))
        refine WR.call (by first | exact gN | exact gS rfl) rfl rfl (hB.bring x (by omega)) ?_
        rintro _ H5 ⟨n5, hn5, hB5⟩
        repeat' (first | refine zP ?_ | refine zA ?_ | (refine zM ?_; intro _ _) | refine zX ?_ | (refine zC ?_; intro _ _ _ _) | (refine zS ?_; intro _ _) | (apply Ws <;> intro hg))
        refine WR.callV (by first | exact gN | exact gS rfl) rfl rfl rfl (hB5.tell hT hJ (by omega) 105 x (.inl rfl)) ?_
        rintro _ H6 ⟨Mj6, n6, hJ6, hn6, hB6⟩
        repeat' (first | refine zP ?_ | refine zA ?_ | (refine zM ?_; intro _ _) | refine zX ?_ | (refine zC ?_; intro _ _ _ _) | (refine zS ?_; intro _ _) | (apply Ws <;> intro hg))
        refine Ends.loop ⟨k + 1, x :: (y :: st), tr ++ [(105, x)], Mj6, n6⟩ (by simp only; omega) (by repeat' (first | exact .nil | refine .cons rfl ?_)) rfl ⟨hk', by simp only [List.length_cons] at hstl ⊢; omega, ?_, hJ6, by simp only; omega, hB6⟩
        simp only
        rw [← htr, run_no (fun z h => by simp at h; omega)]; simp
  · have hkn : k = o.length := by omega
    subst hkn
    rw [List.drop_length] at htr
    repeat' (first | refine zP ?_ | refine zA ?_ | (refine zM ?_; intro _ _) | refine zX ?_ | (refine zC ?_; intro _ _ _ _) | (refine zS ?_; intro _ _) | (apply Ws <;> intro hg))
    clear hU hoU hMU
    refine WC.loopX [(1, .func (.func fn) [].toArray caps.toArray), (4, ptrO n0 0)] (fun z : PX => []) []
      (fun z H' => z.tr ++ z.st.map (fun y => (111, y)) = runTr [] o ∧ J z.tr z.Mj ∧ n0 ≤ z.n ∧ BP n0 z.st (z.Mj ++ M) z.n H') (fun z => z.st.length) ⟨0, st, tr, Mj, n1⟩ (by repeat' (first | exact .nil | refine .cons rfl ?_)) rfl
      ⟨htr, hJ, hn1, hB⟩ ?_
    clear hB hJ htr hlen hstl hn1
    rintro ⟨_, st, tr, Mj, n1⟩ H3 ⟨htr, hJ, hn1, hB⟩
    simp only at htr hJ hn1 hB
    have hlen := congrArg List.length htr
    rw [List.length_append, runTr_len, List.length_map, List.length_nil] at hlen
    dsimp only [List.cons_append, List.nil_append]
    repeat' (first | refine zP ?_ | refine zA ?_ | (refine zM ?_; intro _ _) | refine zX ?_ | (refine zC ?_; intro _ _ _ _) | (refine zS ?_; intro _ _) | (apply Ws <;> intro hg))
    refine WR.call (by first | exact gN | exact gS rfl) rfl rfl hB.isEmpty ?_
    rintro _ H4 ⟨rfl, rfl⟩
    cases st with
    | nil =>
      repeat' (first | refine zP ?_ | refine zA ?_ | (refine zM ?_; intro _ _) | refine zX ?_ | (refine zC ?_; intro _ _ _ _) | (refine zS ?_; intro _ _) | refine zO ?_ | (apply Ws <;> intro hg))
      obtain ⟨v, M0, hp, hH⟩ := hB
      rw [List.map_nil, List.append_nil] at htr
      exact Ends.end0 ⟨Mj, n1, htr ▸ hJ, hn1, hH.sub ((List.sublist_append_right M0 _).cons _)⟩
    | cons y st =>
      have hl0 : (y :: st).length = st.length + 1 := rfl
      repeat' (first | refine zP ?_ | refine zA ?_ | (refine zM ?_; intro _ _) | refine zX ?_ | (refine zC ?_; intro _ _ _ _) | (refine zS ?_; intro _ _) | refine zO ?_ | (apply Ws <;> intro hg))
      refine WR.call (by first | exact gN | exact gS rfl) rfl rfl hB.take ?_
      rintro _ H8 ⟨rfl, hB8⟩
      refine WR.callV (by first | exact gN | exact gS rfl) rfl rfl rfl (hB8.tell hT hJ (by omega) 111 y (.inr rfl)) ?_
      rintro _ H9 ⟨Mj9, n9, hJ9, hn9, hB9⟩
      repeat' (first | refine zP ?_ | refine zA ?_ | (refine zM ?_; intro _ _) | refine zX ?_ | (refine zC ?_; intro _ _ _ _) | (refine zS ?_; intro _ _) | (apply Ws <;> intro hg))
      refine Ends.loop ⟨0, st, tr ++ [(111, y)], Mj9, n9⟩ (by simp only [hl0]; omega) (by repeat' (first | exact .nil | refine .cons rfl ?_)) rfl ⟨?_, hJ9, by simp only; omega, hB9⟩
      simp only
      rw [← htr]; simp
end
end Go.Proofs.Ytfnflkcjhefddaa.Lk

/- The order in which barges leave; how many passes. -/
namespace Go.Abs
set_option linter.unusedSectionVars false
open Go
section
variable [Globs] {C : CW} {nt : Nat} {L : Env} {D : List Nat} {H H' : Heap} {K : St → Prop} {M M' : HL} {n i d : Nat} {gd : Option (Tmp × Bool)} {lo : List Nat} {l : List POp} {rs : List Rd}
theorem WD.append {e sz : Nat} {s x : Operand} {v y : Value} {cs : List Value} {Mx M0 : HL} {k : Nat} {new : List Value} (hg : gOK L gd) (hd : Nat.blt d nt = true) (hs : ev L s = some v) (hy : ev L x = some y)
    (hO : Own e sz v cs Mx) (hH : hasH M n H) (hM : M'.Sublist M) (hp : M'.Perm (Mx ++ M0)) (hk : srcLen y = some k) (hx : srcCells H sz k y = some new) (hl : new.length = k * sz) (h1 : 1 ≤ k) (hone : new.all one = true) (hs1 : 1 ≤ sz) (hs2 : sz ≤ 1000)
    (hsm : cs.length + new.length ≤ 100000) (kk : ∀ v' Mx' n' H', OwnR e sz v' (cs ++ new) Mx' → hasH (Mx' ++ M0) n' H' → n ≤ n' → stands H' lo rs = true ∧ WD C nt l rs ((d, v') :: L) D H' K) :
    WD C nt (⟨i, some d, .append e sz s x, gd, lo⟩ :: l) rs L D H K := by
  obtain ⟨v', Mx', n', H', q1, q2, q3, q4⟩ := append_ownR (P := C.c.P) hO ((hH.sub hM).perm hp) hk hx hl h1 hone hs1 hs2 hsm
  obtain ⟨k1, k2⟩ := kk v' Mx' n' H' q2 q3 q4
  refine WD.op hg hd (H' := H') (v := v') (fun t ht => ?_) rfl k1 k2
  simp only [opA, ev_ok ht hs, ev_ok ht hy, q1]
/-- One element more, what was read before may be read after. -/
theorem WD.append1F {j d2 : Nat} {e : Nat} {z : List Value} {s x : Operand} {lo2 : List Nat} {v y : Value} {cs : List Value} {new : Value} (F Mx T : HL) (hd : Nat.blt d nt = true) (hd2 : Nat.blt d2 nt = true)
    (hx : ev L x = some y) (hs : ev ((d, .slice (some ⟨n, 0, some 0⟩) 1 (2 * 1 + 1)) :: L) s = some v) (hO : Own e 1 v cs Mx) (hH : hasH (F ++ (Mx ++ T)) n H)
    (hc : Instr.fill (fun j => some (j * 1, 1)) z.toArray [(0, y)] = some [new].toArray) (hone : one new = true) (hsm : cs.length + 1 ≤ 100000)
    (hst : ∀ H', hasH ((n, .row e 0 0 [new]) :: (F ++ (Mx ++ T))) (n + 1) H' → stands H' lo rs = true)
    (kk : ∀ v' Mx' n' H', OwnR e 1 v' (cs ++ [new]) Mx' → hasH (F ++ (Mx' ++ T)) n' H' → n ≤ n' → stands H' lo2 rs = true ∧ WD C nt l rs ((d2, v') :: (d, .slice (some ⟨n, 0, some 0⟩) 1 (2 * 1 + 1)) :: L) D H' K) :
    WD C nt (⟨i, some d, .bldS e 1 z 1 [(0, x)], none, lo⟩ :: ⟨j, some d2, .append e 1 s (.tmp d), none, lo2⟩ :: l) rs L D H K := by
  refine WD.bldS True.intro hd hH (vs := [(0, y)]) (by simp only [evp, hx]) hc (by simp [hone]) hst fun H1 hH1 => ?_
  have hx2 : srcCells H1 1 1 (.slice (some ⟨n, 0, some 0⟩) 1 (2 * 1 + 1)) = some [new] := by
    have := hH1.readN (b := n) (u := 0) (lo := 0) (o := 0) (k := 1 * 1) (ch := .row e 0 0 [new]) (cs := [new]) (by simp) (.row _ _ _ _) (Nat.le_refl _) (by simp)
    simpa [srcCells] using this
  have hy : ev ((d, .slice (some ⟨n, 0, some 0⟩) 1 (2 * 1 + 1)) :: L) (.tmp d) = some (.slice (some ⟨n, 0, some 0⟩) 1 (2 * 1 + 1)) := by simp [ev, Env.get]
  refine WD.append True.intro hd2 hs hy hO hH1 (M' := F ++ (Mx ++ T)) (List.sublist_cons_self _ _) (M0 := F ++ T) (List.perm_append_comm_assoc F Mx T) rfl hx2 (by simp) (Nat.le_refl _) (by simp [hone]) (Nat.le_refl _) (by omega) (by simpa using hsm) fun v' Mx' n' H' q1 q2 q3 => ?_
  exact kk v' Mx' n' H' q1 (q2.perm (List.perm_append_comm_assoc Mx' F T)) (by omega)

end
end Go.Abs
namespace Go.Proofs.Ytfnflkcjhefddaa.Lk
open Go Go.Abs Go.Mth
set_option linter.unusedVariables false
set_option linter.unusedSimpArgs false
def LeftJ (bl : Nat) (tr : List (Nat × Nat)) (Mj : HL) : Prop := ∃ lv Mo, Own 3 1 lv (nodes (outsT tr)) Mo ∧ Mj = (bl, Ch.row 22 0 0 [lv]) :: Mo
theorem outsT_in (tr : List (Nat × Nat)) (x : Nat) : outsT (tr ++ [(105, x)]) = outsT tr := by rw [outsT_app]; simp [outsT]
theorem outsT_out (tr : List (Nat × Nat)) (x : Nat) : outsT (tr ++ [(111, x)]) = outsT tr ++ [x] := by rw [outsT_app]; rfl
theorem outsT_le (tr : List (Nat × Nat)) : (outsT tr).length ≤ tr.length := by
  unfold outsT; rw [List.length_map]; exact List.length_filter_le _ _
attribute [local irreducible] gOK WS WC WR WD Ends FS YS OpV seqK blockK loopK midK retK rdK asgK rangeEnd sat Cell
section
variable {M : HL} {n0 : Nat} {H : Heap} {v w : Value}
set_option maxHeartbeats 1000000 in
theorem tell_left {bl bx : Nat} (hm : (bx, Ch.row 82 0 0 [ptrO bl 0]) ∈ M) : TellK 100 [ptrO bx 0] (LeftJ bl) M := by
  rintro tr Mj F n H a x ⟨lv, Mo, hO, rfl⟩ hl ha hH
  have hol := outsT_le tr
  refine FS.intro (pf := pf100) rfl rfl rfl ?_
  rcases ha with rfl | rfl
  · repeat' (first | refine zP ?_ | refine zA ?_ | (refine zM ?_; intro _ _) | refine zX ?_ | (refine zC ?_; intro _ _ _ _) | (refine zS ?_; intro _ _) | refine zO ?_ | (apply Ws <;> intro hg))
    exact Ends.end0 ⟨_, n, ⟨lv, Mo, by rw [outsT_in]; exact hO, rfl⟩, Nat.le_refl _, hH⟩
  · repeat' (first | refine zP ?_ | refine zA ?_ | (refine zM ?_; intro _ _) | refine zX ?_ | (refine zC ?_; intro _ _ _ _) | (refine zS ?_; intro _ _) | refine zO ?_ | (apply Ws <;> intro hg))
    have hlv := (hO.sl []).one_
    have hls := (hO.sl []).same
    have mX : (bx, Ch.row 82 0 0 [ptrO bl 0]) ∈ F ++ (((bl, Ch.row 22 0 0 [lv]) :: Mo) ++ M) := List.mem_append_right _ (List.mem_append_right _ hm)
    have mL : (bl, Ch.row 22 0 0 [lv]) ∈ F ++ (((bl, Ch.row 22 0 0 [lv]) :: Mo) ++ M) := List.mem_append_right _ (List.mem_append_left _ (.head _))
    have hsp : same1 (ptrO bl 0) (ptrO bl 0) = true := same_ptr _
    refine WC.regionD ?_
    refine WD.load1 (by first | exact gN | exact gS rfl) rfl rfl (hH.read mX (.row _ _ _ _) (Nat.zero_le _) rfl) ?_
    refine WD.load1 (by first | exact gN | exact gS rfl) rfl rfl (hH.read mX (.row _ _ _ _) (Nat.zero_le _) rfl) ?_
    repeat' (first | refine zD ?_ | (refine zE ?_; intro _ _ _ _))
    have hst : ∀ {Y : HL} {n' : Nat} {H' : Heap}, hasH Y n' H' → (bx, Ch.row 82 0 0 [ptrO bl 0]) ∈ Y → (bl, Ch.row 22 0 0 [lv]) ∈ Y → stands H' [0, 1, 3] [⟨3, ⟨bl, 0, some 0⟩, none, lv⟩, ⟨1, ⟨bx, 0, some 0⟩, none, ptrO bl 0⟩, ⟨0, ⟨bx, 0, some 0⟩, none, ptrO bl 0⟩] = true := fun h h1 h2 =>
      stands_cons (.inr (holds_at (h.read h2 (.row _ _ _ _) (Nat.zero_le _) rfl) hls)) (stands_cons (.inr (holds_at (h.read h1 (.row _ _ _ _) (Nat.zero_le _) rfl) hsp)) (stands_cons (.inr (holds_at (h.read h1 (.row _ _ _ _) (Nat.zero_le _) rfl) hsp)) stands_nil'))
    refine WD.append1F (new := .int .i64 (x : Int)) (F ++ [(bl, Ch.row 22 0 0 [lv])]) Mo M rfl rfl rfl rfl hO (by simpa using hH) rfl rfl (by simp; omega) (fun H' h' => hst h' (by simp [hm]) (by simp)) fun v' Mx' n' H2 hO2 hH2 hn2 => ⟨?_, ?_⟩
    · exact stands_cons (.inl rfl) (stands_cons (.inl rfl) (stands_cons (.inr (holds_at (hH2.read (b := bx) (ch := .row 82 0 0 [ptrO bl 0]) (by simp [hm]) (.row _ _ _ _) (Nat.zero_le _) rfl) hsp)) stands_nil'))
    refine WD.toWR rfl ?_
    repeat' (first | refine zP ?_ | refine zA ?_ | (refine zM ?_; intro _ _) | refine zX ?_ | (refine zC ?_; intro _ _ _ _) | (refine zS ?_; intro _ _) | (apply Ws <;> intro hg))
    have hH3 : hasH ((bl, .row 22 0 0 [lv]) :: (F ++ (Mx' ++ M))) n' H2 := hH2.perm (by classical exact List.perm_iff_count.2 (fun a => by simp only [defds, List.map_cons, List.map_nil, List.count_append, List.count_cons, List.count_nil, List.cons_append, List.nil_append, List.append_nil]; omega))
    refine WR.storeBox (by first | exact gN | exact gS rfl) hH3 rfl rfl (hO2.own.sl []).one_ .here fun H4 hH4 => ?_
    repeat' (first | refine zP ?_ | refine zA ?_ | (refine zM ?_; intro _ _) | refine zX ?_ | (refine zC ?_; intro _ _ _ _) | (refine zS ?_; intro _ _) | (apply Ws <;> intro hg))
    refine Ends.end0 ⟨(bl, Ch.row 22 0 0 [v']) :: Mx', n', ⟨v', Mx', ?_, rfl⟩, hn2, hH4.perm (by classical exact List.perm_iff_count.2 (fun a => by simp only [defds, List.map_cons, List.map_nil, List.count_append, List.count_cons, List.count_nil, List.cons_append, List.nil_append, List.append_nil]; omega))⟩
    rw [outsT_out, nodes_snoc]; exact hO2.own
theorem leavers_fs (hH : hasH M n0 H) (b : Nat) :
    FS C 66 [ptrO b 0] H (fun e H' => e = .func (.func 100) [].toArray [ptrO n0 0].toArray ∧ hasH ((n0, .row 82 0 0 [ptrO b 0]) :: M) (n0 + 1) H') := by
  refine FS.intro (pf := pf66) rfl rfl rfl ?_
  repeat' (first | refine zP ?_ | refine zA ?_ | (refine zM ?_; intro _ _) | refine zX ?_ | (refine zC ?_; intro _ _ _ _) | (refine zS ?_; intro _ _) | (apply Ws <;> intro hg))
  rename_i H1 hH1
  exact Ends.ret1 rfl ⟨rfl, hH1⟩
theorem passed_fs (hH : hasH M n0 H) {o : List Nat} (ho : Sl M 1 v (nodes o)) (hol : o.length ≤ 10) :
    FS C 61 [v] H (fun e H' => ∃ Mx n', Own 3 1 e (nodes (passF o)) Mx ∧ n0 ≤ n' ∧ hasH (Mx ++ M) n' H') := by
  have hv := ho.one_
  refine FS.intro (pf := pf61) rfl rfl rfl ?_
  repeat' (first | refine zP ?_ | refine zA ?_ | (refine zM ?_; intro _ _) | refine zX ?_ | (refine zC ?_; intro _ _ _ _) | (refine zS ?_; intro _ _) | (apply Ws <;> intro hg))
  rename_i H1 hH1
  refine WR.call (by first | exact gN | exact gS rfl) rfl rfl (leavers_fs hH1 n0) ?_
  rintro _ H2 ⟨rfl, hH2⟩
  clear hH1
  have hH3 : hasH ([(n0, Ch.row 22 0 0 [.slice none 0 0])] ++ ((n0 + 1, Ch.row 82 0 0 [ptrO n0 0]) :: M)) (n0 + 1 + 1) H2 := hH2.perm (.swap _ _ _)
  clear hH2
  refine WR.call (by first | exact gN | exact gS rfl) rfl rfl (pass_fs (tell_left (bl := n0) (bx := n0 + 1) (.head _)) ⟨.slice none 0 0, [], .nil, rfl⟩ ho.cons hol hH3) ?_
  rintro _ H4 ⟨_, n4, ⟨lv, Mo, hO, rfl⟩, hn4, hH4⟩
  rw [outs_run] at hO
  replace hH4 : hasH ((n0, Ch.row 22 0 0 [lv]) :: (Mo ++ ((n0 + 1, Ch.row 82 0 0 [ptrO n0 0]) :: M))) n4 H4 := hH4
  repeat' (first | refine zP ?_ | refine zA ?_ | (refine zM ?_; intro _ _) | refine zX ?_ | (refine zC ?_; intro _ _ _ _) | (refine zS ?_; intro _ _) | (apply Ws <;> intro hg))
  exact Ends.ret1 rfl ⟨Mo, n4, hO, by omega, (hH4.tail).sub (List.Sublist.append_left (List.sublist_cons_self _ _) _)⟩
theorem Pass_fs (hH : hasH M n0 H) {o : List Nat} (ho : Sl M 1 v (nodes o)) (hO : OrdN o) :
    FS C 16 [v] H (fun e H' => ∃ u Mx n', e = .tuple #[u, .int .i64 0] ∧ Own 3 1 u (nodes (passF o)) Mx ∧ n0 ≤ n' ∧ hasH (Mx ++ M) n' H') := by
  have hv := ho.one_
  have h7 := hO.most
  refine FS.intro (pf := pf16) rfl rfl rfl ?_
  repeat' (first | refine zP ?_ | refine zA ?_ | (refine zM ?_; intro _ _) | refine zX ?_ | (refine zC ?_; intro _ _ _ _) | (refine zS ?_; intro _ _) | (apply Ws <;> intro hg))
  refine WR.call (by first | exact gN | exact gS rfl) rfl rfl (CheckN_fs hH ho hO) ?_
  rintro _ H1 ⟨rfl, rfl⟩
  repeat' (first | refine zP ?_ | refine zA ?_ | (refine zM ?_; intro _ _) | refine zX ?_ | (refine zC ?_; intro _ _ _ _) | (refine zS ?_; intro _ _) | refine zO ?_ | (apply Ws <;> intro hg))
  refine WR.call (by first | exact gN | exact gS rfl) rfl rfl (passed_fs hH ho (by omega)) ?_
  rintro u H2 ⟨Mx, n2, hOw, hn2, hH2⟩
  repeat' (first | refine zP ?_ | refine zA ?_ | (refine zM ?_; intro _ _) | refine zX ?_ | (refine zC ?_; intro _ _ _ _) | (refine zS ?_; intro _ _) | refine zO ?_ | (apply Ws <;> intro hg))
  exact Ends.ret2 rfl rfl ⟨u, Mx, n2, rfl, hOw, hn2, hH2⟩
end
end Go.Proofs.Ytfnflkcjhefddaa.Lk

/- The law's own pass; lists compared. -/
namespace Go.Abs
set_option linter.unusedSectionVars false
open Go
section
variable [Globs] {C : CW} {nt : Nat} {L : Env} {D : List Nat} {H H' : Heap} {K : St → Prop} {M M' : HL} {n i d : Nat} {gd : Option (Tmp × Bool)} {lo : List Nat} {l : List POp} {rs : List Rd}
/-- Numbers in a row of one's own, or none. -/
def OwnN (e : Nat) (v : Value) (xs : List Nat) (Mx : HL) : Prop := (xs = [] ∧ v = .slice none 0 0 ∧ Mx = []) ∨ (xs ≠ [] ∧ OwnR e 1 v (nodes xs) Mx)
theorem OwnN.own {e : Nat} {v : Value} {xs : List Nat} {Mx : HL} (h : OwnN e v xs Mx) : Own e 1 v (nodes xs) Mx := by
  rcases h with ⟨rfl, rfl, rfl⟩ | ⟨_, h⟩
  · exact .nil
  · exact h.own
theorem OwnN.sl {e : Nat} {v : Value} {xs : List Nat} {Mx T : HL} (h : OwnN e v xs Mx) (k : ∀ q ∈ Mx, q ∈ T) : Sl T 1 v (nodes xs) := (h.own.sl []).mono fun q hq => k q (by simpa using hq)
/-- One list behind another. -/
theorem WD.appN {e : Nat} {s x : Operand} {v y : Value} {xs ys : List Nat} {Mx My T : HL} (hg : gOK L gd) (hd : Nat.blt d nt = true) (hs : ev L s = some v) (hy : ev L x = some y) (hO : OwnN e v xs Mx) (hO2 : OwnN e y ys My) (hH : hasH (Mx ++ (My ++ T)) n H)
    (hx : xs.length ≤ 1000) (hyl : ys.length ≤ 1000)
    (kk : ∀ v' Mx' n' H', OwnN e v' (xs ++ ys) Mx' → hasH (Mx' ++ (My ++ T)) n' H' → n ≤ n' → stands H' lo rs = true ∧ WD C nt l rs ((d, v') :: L) D H' K) :
    WD C nt (⟨i, some d, .append e 1 s x, gd, lo⟩ :: l) rs L D H K := by
  rcases hO2 with ⟨rfl, rfl, rfl⟩ | ⟨hne, hO2⟩
  · obtain ⟨k1, k2⟩ := kk v Mx n H (by rw [List.append_nil]; exact hO) hH (Nat.le_refl _)
    refine WD.op hg hd (H' := H) (v := v) (fun t ht => ?_) rfl k1 k2
    simp only [opA, ev_ok ht hs, ev_ok ht hy]
    have hk : srcLen (.slice none 0 0) = some 0 := rfl
    have hx0 : srcCells H 1 0 (.slice none 0 0) = some [] := rfl
    rcases hO with ⟨rfl, rfl, rfl⟩ | ⟨_, h⟩
    · have hb : Nat.ble (0 + 0) 0 = true := rfl
      have hq : Nat.beq 0 0 = true := rfl
      simp only [appendA, hk, hx0, appWith, capOf, hb, cond_true, appIn, hq, Nat.add_zero]
    · cases h with
      | mk hl =>
        have hq : Nat.beq 0 0 = true := rfl
        simp only [appendA, hk, hx0, appWith, capOf_open _ (show 1 ≤ 1000 by decide), Nat.beq_refl, cond_true]
  · have hnn : nodes ys ≠ [] := fun h => hne (List.map_eq_nil_iff.1 h)
    have hl0 := List.length_pos_iff.2 hne
    have hS : Sl (Mx ++ (My ++ T)) 1 y (nodes ys) := (hO2.own.sl []).mono fun q hq => List.mem_append_right _ (List.mem_append_left _ (by simpa using hq))
    obtain ⟨hk, hsr⟩ := hS.src hH hnn
    refine WD.append hg hd hs hy hO.own hH (List.Sublist.refl _) (M0 := My ++ T) (List.Perm.refl _) hk (new := nodes ys) (by have := hsr _ (Nat.le_refl _); rw [List.take_length] at this; exact this) (by simp) (by simp; omega) (by rw [List.all_eq_true]; intro q hq; obtain ⟨z, _, rfl⟩ := List.mem_map.1 hq; rfl) (Nat.le_refl _) (by decide) (by simp; omega) fun v' Mx' n' H' q1 q2 q3 => ?_
    exact kk v' Mx' n' H' (.inr ⟨fun h => hne (List.append_eq_nil_iff.1 h).2, by rw [nodes, List.map_append]; exact q1⟩) q2 q3
end
end Go.Abs
namespace Go.Proofs.Ytfnflkcjhefddaa.Lk
open Go Go.Abs Go.Mth
set_option linter.unusedVariables false
set_option linter.unusedSimpArgs false
attribute [local irreducible] gOK WS WC WR WD Ends FS YS OpV seqK blockK loopK midK retK rdK asgK rangeEnd sat Cell
section
variable {M : HL} {n0 : Nat} {H : Heap} {v w : Value}
theorem same_fs (hH : hasH M n0 H) {xs ys : List Nat} (hS : Sl M 1 v (nodes xs)) (hU : Sl M 1 w (nodes ys)) (hx : xs.length ≤ 1000) (hy : ys.length ≤ 1000) :
    FS C 22 [v, w] H (fun e H' => e = .bool (decide (xs = ys)) ∧ H' = H) := by
  refine FS.intro (pf := pf22) rfl rfl rfl ?_
  repeat' (first | refine zP ?_ | refine zA ?_ | (refine zM ?_; intro _ _) | refine zX ?_ | (refine zC ?_; intro _ _ _ _) | (refine zS ?_; intro _ _) | (apply Ws <;> intro hg))
  refine WC.condP rfl (fun hne => ?_) (fun hne => ?_)
  · repeat' (first | refine zP ?_ | refine zA ?_ | (refine zM ?_; intro _ _) | refine zX ?_ | (refine zC ?_; intro _ _ _ _) | (refine zS ?_; intro _ _) | (apply Ws <;> intro hg))
    refine Ends.ret1 rfl ⟨?_, rfl⟩
    rw [decide_eq_false fun e => hne (by rw [e])]
  · have hll : xs.length = ys.length := by omega
    repeat' (first | refine zP ?_ | refine zA ?_ | (refine zM ?_; intro _ _) | refine zX ?_ | (refine zC ?_; intro _ _ _ _) | (refine zS ?_; intro _ _) | (apply Ws <;> intro hg))
    refine WC.loopX [(0, _), (1, _)] (fun k : Nat => [(5, .int .i64 (k : Int))]) [] (fun k H' => H' = H ∧ k ≤ xs.length ∧ ∀ i, i < k → xs.getD i 0 = ys.getD i 0) (fun k => xs.length - k) 0 (by repeat' (first | exact .nil | refine .cons rfl ?_)) rfl ⟨rfl, Nat.zero_le _, fun i h => absurd h (Nat.not_lt_zero _)⟩ ?_
    rintro k _ ⟨rfl, hk, hall⟩
    dsimp only [List.cons_append, List.nil_append]
    repeat' (first | refine zP ?_ | refine zA ?_ | (refine zM ?_; intro _ _) | refine zX ?_ | (refine zC ?_; intro _ _ _ _) | (refine zS ?_; intro _ _) | (apply Ws <;> intro hg))
    refine WC.condP rfl (fun hlt => ?_) (fun hlt => ?_)
    · have hk' : k < xs.length := by omega
      repeat' (first | refine zP ?_ | refine zA ?_ | (refine zM ?_; intro _ _) | refine zX ?_ | (refine zC ?_; intro _ _ _ _) | (refine zS ?_; intro _ _) | (apply Ws <;> intro hg))
      refine WC.condP rfl (fun hd => ?_) (fun hd => ?_)
      · repeat' (first | refine zP ?_ | refine zA ?_ | (refine zM ?_; intro _ _) | refine zX ?_ | (refine zC ?_; intro _ _ _ _) | (refine zS ?_; intro _ _) | (apply Ws <;> intro hg))
        refine Ends.ret1 rfl ⟨?_, rfl⟩
        rw [decide_eq_false fun e => hd (by rw [e])]
      · repeat' (first | refine zP ?_ | refine zA ?_ | (refine zM ?_; intro _ _) | refine zX ?_ | (refine zC ?_; intro _ _ _ _) | (refine zS ?_; intro _ _) | (apply Ws <;> intro hg))
        refine Ends.loop (k + 1) (by omega) (by repeat' (first | exact .nil | refine .cons rfl ?_)) rfl ⟨rfl, hk', fun i hi => ?_⟩
        rcases Nat.lt_or_ge i k with h | h
        · exact hall i h
        · rw [show i = k by omega]; omega
    · repeat' (first | refine zP ?_ | refine zA ?_ | (refine zM ?_; intro _ _) | refine zX ?_ | (refine zC ?_; intro _ _ _ _) | (refine zS ?_; intro _ _) | (apply Ws <;> intro hg))
      refine Ends.ret1 rfl ⟨?_, rfl⟩
      rw [decide_eq_true (ext_getD (a := 0) hll fun i hi => hall i (by omega))]
theorem Max_fs (hH : hasH M n0 H) {xs : List Nat} (hS : Sl M 1 v (nodes xs)) (hx : xs.length ≤ 1000) (h0 : 1 ≤ xs.length) :
    FS C 90 [v] H (fun e H' => H' = H ∧ ∃ m : Nat, e = .int .i64 (m : Int) ∧ m ∈ xs ∧ ∀ x ∈ xs, x ≤ m) := by
  refine FS.intro (pf := pf90) rfl rfl rfl ?_
  repeat' (first | refine zP ?_ | refine zA ?_ | (refine zM ?_; intro _ _) | refine zX ?_ | (refine zC ?_; intro _ _ _ _) | (refine zS ?_; intro _ _) | refine zO ?_ | (apply Ws <;> intro hg))
  refine WC.loopX [(0, v)] (fun s : Nat × Nat => [(3, .int .i64 (s.2 : Int)), (4, .int .i64 (s.1 : Int))]) [] (fun s H' => H' = H ∧ 1 ≤ s.1 ∧ s.1 ≤ xs.length ∧ (∃ i, i < s.1 ∧ s.2 = xs.getD i 0) ∧ ∀ j, j < s.1 → xs.getD j 0 ≤ s.2) (fun s => xs.length - s.1) (1, xs.getD 0 0) (by repeat' (first | exact .nil | refine .cons rfl ?_)) rfl
    ⟨rfl, Nat.le_refl _, h0, ⟨0, by simp, rfl⟩, fun j hj => by rw [show j = 0 by simp only at hj; omega]; exact Nat.le_refl _⟩ ?_
  rintro ⟨k, m⟩ H' ⟨rfl, hk1, hk, ⟨i, hi, hm⟩, hall⟩
  simp only at hk1 hk hi hm hall
  dsimp only [List.cons_append, List.nil_append]
  repeat' (first | refine zP ?_ | refine zA ?_ | (refine zM ?_; intro _ _) | refine zX ?_ | (refine zC ?_; intro _ _ _ _) | (refine zS ?_; intro _ _) | (apply Ws <;> intro hg))
  refine WC.condP rfl (fun hlt => ?_) (fun hlt => ?_)
  · have hk' : k < xs.length := by omega
    repeat' (first | refine zP ?_ | refine zA ?_ | (refine zM ?_; intro _ _) | refine zX ?_ | (refine zC ?_; intro _ _ _ _) | (refine zS ?_; intro _ _) | (apply Ws <;> intro hg))
    rw [show Max.max (m : Int) ((xs.getD k 0 : Nat) : Int) = ((Max.max m (xs.getD k 0) : Nat) : Int) by omega]
    refine Ends.loop (k + 1, Max.max m (xs.getD k 0)) (by simp only; omega) (by repeat' (first | exact .nil | refine .cons rfl ?_)) rfl ⟨rfl, by simp only; omega, hk', ?_, fun j hj => ?_⟩
    · rcases Nat.le_total m (xs.getD k 0) with h | h
      · exact ⟨k, by simp only; omega, by simp only; omega⟩
      · exact ⟨i, by simp only; omega, by simp only; omega⟩
    · simp only at hj ⊢
      rcases Nat.lt_or_ge j k with h | h
      · have := hall j h; omega
      · rw [show j = k by omega]; omega
  · have hkn : k = xs.length := by omega
    subst hkn
    repeat' (first | refine zP ?_ | refine zA ?_ | (refine zM ?_; intro _ _) | refine zX ?_ | (refine zC ?_; intro _ _ _ _) | (refine zS ?_; intro _ _) | (apply Ws <;> intro hg))
    refine Ends.ret1 rfl ⟨rfl, m, rfl, by rw [hm]; exact getD_mem hi, fun x hx => ?_⟩
    obtain ⟨j, hj, rfl⟩ := mem_get hx
    exact hall j hj
set_option maxHeartbeats 4000000 in
theorem lpass_fs : ∀ (N : Nat) {M : HL} {n0 : Nat} {H : Heap} {v : Value} {l : List Nat}, l.length ≤ N → hasH M n0 H → Sl M 1 v (nodes l) → l.Nodup → l.length ≤ 10 →
    FS C 47 [v] H (fun e H' => ∃ Mx n', OwnN 3 e (passF l) Mx ∧ n0 ≤ n' ∧ hasH (Mx ++ M) n' H') := by
  intro N
  induction N with
  | zero =>
    intro M n0 H v l hN hH hS hn h10
    have hl : l = [] := List.length_eq_zero_iff.1 (by omega)
    subst hl
    have hl0 : ([] : List Nat).length = 0 := rfl
    refine FS.intro (pf := pf47) rfl rfl rfl ?_
    repeat' (first | refine zP ?_ | refine zA ?_ | (refine zM ?_; intro _ _) | refine zX ?_ | (refine zC ?_; intro _ _ _ _) | (refine zS ?_; intro _ _) | refine zO ?_ | (apply Ws <;> intro hg))
    exact Ends.ret1 rfl ⟨[], n0, .inl ⟨rfl, rfl, rfl⟩, Nat.le_refl _, hH⟩
  | succ N ih =>
    intro M n0 H v l hN hH hS hn h10
    by_cases h0 : l.length = 0
    · have hl : l = [] := List.length_eq_zero_iff.1 h0
      subst hl
      have hl0 : ([] : List Nat).length = 0 := rfl
      refine FS.intro (pf := pf47) rfl rfl rfl ?_
      repeat' (first | refine zP ?_ | refine zA ?_ | (refine zM ?_; intro _ _) | refine zX ?_ | (refine zC ?_; intro _ _ _ _) | (refine zS ?_; intro _ _) | refine zO ?_ | (apply Ws <;> intro hg))
      exact Ends.ret1 rfl ⟨[], n0, .inl ⟨rfl, rfl, rfl⟩, Nat.le_refl _, hH⟩
    · refine FS.intro (pf := pf47) rfl rfl rfl ?_
      repeat' (first | refine zP ?_ | refine zA ?_ | (refine zM ?_; intro _ _) | refine zX ?_ | (refine zC ?_; intro _ _ _ _) | (refine zS ?_; intro _ _) | refine zO ?_ | (apply Ws <;> intro hg))
      refine WR.call (by first | exact gN | exact gS rfl) rfl rfl (Max_fs hH hS (by omega) (by omega)) ?_
      rintro _ H1 ⟨rfl, m, rfl, hmm, hmax⟩
      repeat' (first | refine zP ?_ | refine zA ?_ | (refine zM ?_; intro _ _) | refine zX ?_ | (refine zC ?_; intro _ _ _ _) | (refine zS ?_; intro _ _) | (apply Ws <;> intro hg))
      refine WR.call (by first | exact gN | exact gS rfl) rfl rfl (Index_fs hH (xs := IL l) (by rw [← nodes_IL]; exact hS) (by rw [IL_len]; omega) _) ?_
      rintro _ H2 ⟨rfl, ⟨p, hp, he, _, rfl⟩ | ⟨hno, _⟩⟩
      · rw [IL_len] at hp
        rw [IL_get hp] at he
        have he2 : l.getD p 0 = m := by omega
        subst he2
        clear he hmm
        have hsplit : l = l.take p ++ l.getD p 0 :: l.drop (p + 1) := by rw [getD_eq hp, ← List.drop_eq_getElem_cons hp, List.take_append_drop]
        have hL : ∀ x ∈ l.take p, x < l.getD p 0 := fun x hx => by
          have h1 := hmax x ((List.take_sublist _ _).subset hx)
          obtain ⟨i, q1, q2, q3⟩ : ∃ i, i < p ∧ i < l.length ∧ l.getD i 0 = x := by
            obtain ⟨i, hi, he⟩ := mem_get hx
            simp only [List.length_take] at hi
            rw [getD_take (by omega)] at he
            exact ⟨i, by omega, by omega, he⟩
          have : x ≠ l.getD p 0 := fun e => by have := nodup_get hn q2 hp (q3.trans e); omega
          omega
        have hR : ∀ x ∈ l.drop (p + 1), x < l.getD p 0 := fun x hx => by
          have h1 := hmax x ((List.drop_sublist _ _).subset hx)
          obtain ⟨i, q1, q2⟩ := mem_get hx
          simp only [List.length_drop] at q1
          rw [List.getD_eq_getElem?_getD, List.getElem?_drop, ← List.getD_eq_getElem?_getD] at q2
          have : x ≠ l.getD p 0 := fun e => by have := nodup_get hn (show p + 1 + i < l.length by omega) hp (q2.trans e); omega
          omega
        have hpass := passF_split hL hR
        rw [← hsplit] at hpass
        repeat' (first | refine zA ?_ | (refine zM ?_; intro _ _) | (apply Ws <;> intro hg))
        refine WC.regionD ?_
        repeat' (first | refine zD ?_ | (refine zE ?_; intro _ _ _ _))
        refine WD.cutHiN (by first | exact gN | exact gS rfl) rfl rfl hS rfl (by omega) fun v1 hs1 => ?_
        repeat' (first | refine zD ?_ | (refine zE ?_; intro _ _ _ _))
        rw [show (p : Int) + 1 = ((p + 1 : Nat) : Int) by omega]
        refine WD.cutLoN (by first | exact gN | exact gS rfl) rfl rfl hS rfl (by omega) fun v2 hs2 => ?_
        repeat' (first | refine zD ?_ | (refine zE ?_; intro _ _ _ _))
        rename_i bb oo uu hC
        have hst : ∀ {Y : HL} {n' : Nat} {H' : Heap}, hasH Y n' H' → (∀ q ∈ M, q ∈ Y) → stands H' [13] [⟨13, ⟨bb, oo, some uu⟩, none, .int .i64 ((l.getD p 0 : Nat) : Int)⟩] = true := fun h h1 =>
          stands_cons (.inr (holds_at ((hC.mono h1).read h) (same_int _ _))) stands_nil'
        have hlt : (l.take p).length ≤ N := by simp; omega
        have hld : (l.drop (p + 1)).length ≤ N := by simp; omega
        have hlt2 : (l.take p).length ≤ 10 := by rw [List.length_take]; omega
        have hld2 : (l.drop (p + 1)).length ≤ 10 := by rw [List.length_drop]; omega
        refine WD.call (by first | exact gN | exact gS rfl) rfl rfl (ih hlt hH hs1 ((List.take_sublist _ _).nodup hn) (by omega)) ?_
        rintro w1 H3 ⟨Mx, n3, hO3, hn3, hH3⟩
        refine ⟨hst hH3 fun q hq => List.mem_append_right _ hq, ?_⟩
        refine WD.call (by first | exact gN | exact gS rfl) rfl rfl (ih hld hH3 (hs2.mono fun q hq => List.mem_append_right _ hq) ((List.drop_sublist _ _).nodup hn) (by omega)) ?_
        rintro w2 H4 ⟨My, n4, hO4, hn4, hH4⟩
        refine ⟨hst hH4 fun q hq => List.mem_append_right _ (List.mem_append_right _ hq), ?_⟩
        have hH5 : hasH (Mx ++ (My ++ M)) n4 H4 := hH4.perm (List.perm_append_comm_assoc My Mx M)
        have hl1 := passF_len (l.take p)
        have hl2 := passF_len (l.drop (p + 1))
        refine WD.appN (by first | exact gN | exact gS rfl) rfl rfl rfl hO3 hO4 hH5 (by omega) (by omega) fun v' Mz n6 H6 hO6 hH6 hn6 => ⟨hst hH6 fun q hq => List.mem_append_right _ (List.mem_append_right _ hq), ?_⟩
        refine WD.toWR rfl ?_
        refine WR.append1RF [] Mz (My ++ M) rfl rfl rfl rfl hO6.own hH6 (new := [.int .i64 ((l.getD p 0 : Nat) : Int)]) rfl rfl rfl (Nat.le_refl _) (by decide) (by simp; omega) fun v7 M7 n7 H7 hO7 hH7 hn7 => ?_
        have hv7 := (hO7.own.sl []).one_
        repeat' (first | refine zP ?_ | refine zA ?_ | (refine zM ?_; intro _ _) | refine zX ?_ | (refine zC ?_; intro _ _ _ _) | (refine zS ?_; intro _ _) | (apply Ws <;> intro hg))
        refine Ends.ret1 rfl ⟨M7, n7, .inr ⟨by rw [hpass]; simp, ?_⟩, by omega, hH7.sub (List.Sublist.append_left (List.sublist_append_right _ _) _)⟩
        rw [hpass, nodes_snoc]; exact hO7
      · refine absurd ?_ hno
        exact List.mem_map.2 ⟨m, hmm, rfl⟩
end
end Go.Proofs.Ytfnflkcjhefddaa.Lk

/- A basin of lists: its methods. -/
namespace Go.Proofs.Ytfnflkcjhefddaa.Lk
open Go Go.Abs Go.Mth
set_option linter.unusedVariables false
set_option linter.unusedSimpArgs false
attribute [local irreducible] gOK WS WC WR WD Ends FS YS OpV seqK blockK loopK midK retK rdK asgK rangeEnd sat Cell
section
variable {M : HL} {n0 : Nat} {H : Heap} {v w : Value}
end
end Go.Proofs.Ytfnflkcjhefddaa.Lk

/- All lists of numbers below a bound, one after the other. -/
namespace Go.Proofs.Ytfnflkcjhefddaa.Lk
open Go Go.Abs Go.Mth
set_option linter.unusedVariables false
set_option linter.unusedSimpArgs false
/-- All that a list begins, with so many numbers more, in ascending order. -/
def extL (bound : Nat) (fits : List Nat → Nat → Bool) : Nat → List Nat → List (List Nat)
  | 0, b => [b]
  | m + 1, b => ((List.range bound).filter (fits b)).flatMap fun x => extL bound fits m (b ++ [x])
/-- The same, for numbers from k on. -/
def extK (bound : Nat) (fits : List Nat → Nat → Bool) (m : Nat) (b : List Nat) (k : Nat) : List (List Nat) := (((List.range bound).drop k).filter (fits b)).flatMap fun x => extL bound fits m (b ++ [x])
def rst (len bound : Nat) (fits : List Nat → Nat → Bool) (W : List (List Nat)) : List (List Nat) := W.reverse.flatMap fun b => extL bound fits (len - b.length) b
def wgt (len bound : Nat) (W : List (List Nat)) : Nat := (W.map fun b => (bound + 1) ^ (len - b.length)).sum
/-- A stack of lists, as they wait: not too many. -/
structure WaitS (len bound : Nat) (W : List (List Nat)) : Prop where
  idx : ∀ i, i < W.length → i ≤ bound * (W.getD i []).length
  len : ∀ i, i < W.length → (W.getD i []).length ≤ len
theorem WaitS.few {len bound : Nat} {W : List (List Nat)} (h : WaitS len bound W) (hl : len ≤ 7) (hb : bound ≤ 7) : W.length ≤ 50 := by
  refine Classical.byContradiction fun hn => ?_
  have h1 := h.idx 50 (by omega)
  have h2 := h.len 50 (by omega)
  have h3 : bound * (W.getD 50 []).length ≤ 7 * 7 := Nat.mul_le_mul hb (by omega)
  omega
/-- Lists in memory; none is nil. -/
def RowsZ (M : HL) (ws : List Value) (vs : List (List Nat)) : Prop := ws.length = vs.length ∧ ∀ i, i < vs.length → Sl M 1 (ws.getD i undef) (nodes (vs.getD i [])) ∧ (vs.getD i [] = [] → ws.getD i undef = .slice none 0 0)
theorem RowsZ.mono {M M' : HL} {ws : List Value} {vs : List (List Nat)} (h : RowsZ M ws vs) (k : ∀ p ∈ M, p ∈ M') : RowsZ M' ws vs := ⟨h.1, fun i hi => ⟨(h.2 i hi).1.mono k, (h.2 i hi).2⟩⟩
theorem RowsZ.nil (M : HL) : RowsZ M [] [] := ⟨rfl, fun i h => absurd h (Nat.not_lt_zero _)⟩
structure LX where
  v : Value
  ws : List Value
  W : List (List Nat)
  Mo : HL
  Mi : HL
  Mc : HL
  n : Nat
structure LY where
  k : Nat
  v : Value
  ws : List Value
  W : List (List Nat)
  Mo : HL
  Mi : HL
  n : Nat
attribute [local irreducible] gOK WS WC WR WD Ends FS YS OpV seqK blockK loopK midK retK rdK asgK rangeEnd sat Cell
section
variable {M : HL} {n0 : Nat} {H : Heap} {v w : Value}
end
end Go.Proofs.Ytfnflkcjhefddaa.Lk

/- The first of the lists with which two basins are enough. -/
namespace Go.Proofs.Ytfnflkcjhefddaa.Lk
open Go Go.Abs Go.Mth
set_option linter.unusedVariables false
set_option linter.unusedSimpArgs false
/-- Lists of zeros and ones. -/
def allT (n : Nat) : List (List Nat) := extL 2 (fun _ _ => true) n []
def twoL (o : List Nat) : Option (List Nat) := (allT o.length).find? (ascT o)
attribute [local irreducible] gOK WS WC WR WD Ends FS YS OpV seqK blockK loopK midK retK rdK asgK rangeEnd sat Cell
section
variable {M : HL} {n0 : Nat} {H : Heap} {v w : Value}
end
end Go.Proofs.Ytfnflkcjhefddaa.Lk

/- Orders by numbers. -/
namespace Go.Proofs.Ytfnflkcjhefddaa.Lk
open Go Go.Abs Go.Mth
set_option linter.unusedVariables false
set_option linter.unusedSimpArgs false
theorem u8k : C.c.P.underlying 5 = some (.int .u8) := by kernel_rfl
theorem i64k : C.c.P.underlying 3 = some (.int .i64) := by kernel_rfl
theorem cons_erase : ∀ {l : List Nat} {j : Nat} (h : j < l.length), (l[j] :: l.eraseIdx j).Perm l
  | a :: l, 0, h => List.Perm.refl _
  | a :: l, j + 1, h => by
    have := cons_erase (l := l) (j := j) (by simpa using h)
    simp only [List.getElem_cons_succ, List.eraseIdx_cons_succ]
    exact (List.Perm.swap _ _ _).trans (this.cons a)
/-- What is drawn, and what is left. -/
def drawO (by_ : List Nat) (n : Nat) : Nat → List Nat × List Nat
  | 0 => ([], List.range n)
  | k + 1 => let s := drawO by_ n k; (s.1 ++ [s.2.getD (by_.getD k 0 % s.2.length) 0], s.2.eraseIdx (by_.getD k 0 % s.2.length))
def madeO (x : Nat) (by_ : List Nat) (most : Nat) : List Nat := (drawO by_ (1 + x % most) (1 + x % most)).1
theorem drawO_props (by_ : List Nat) (n : Nat) : ∀ k, k ≤ n → (drawO by_ n k).1.length = k ∧ (drawO by_ n k).2.length = n - k ∧ ((drawO by_ n k).1 ++ (drawO by_ n k).2).Perm (List.range n)
  | 0, _ => by simp [drawO]
  | k + 1, hk => by
    obtain ⟨h1, h2, h3⟩ := drawO_props by_ n k (by omega)
    have hp : 0 < (drawO by_ n k).2.length := by omega
    have hm := Nat.mod_lt (by_.getD k 0) hp
    simp only [drawO]
    generalize by_.getD k 0 % (drawO by_ n k).2.length = j at hm
    refine ⟨by simp [h1], by rw [List.length_eraseIdx, if_pos hm]; omega, ?_⟩
    refine List.Perm.trans ?_ h3
    rw [List.append_assoc]
    refine List.Perm.append_left _ ?_
    rw [getD_eq hm]
    exact cons_erase hm
theorem madeO_ord {x most : Nat} (by_ : List Nat) (h1 : 1 ≤ most) (h7 : most ≤ 7) : OrdN (madeO x by_ most) ∧ (madeO x by_ most).length = 1 + x % most := by
  have hm := Nat.mod_lt x (show 0 < most by omega)
  obtain ⟨q1, q2, q3⟩ := drawO_props by_ (1 + x % most) (1 + x % most) (Nat.le_refl _)
  have hnil : (drawO by_ (1 + x % most) (1 + x % most)).2 = [] := List.length_eq_zero_iff.1 (by omega)
  rw [hnil, List.append_nil] at q3
  unfold madeO
  refine ⟨⟨by omega, by omega, fun y hy => ?_, ?_⟩, q1⟩
  · rw [q1]; exact List.mem_range.1 (q3.mem_iff.1 hy)
  · exact q3.nodup_iff.2 List.nodup_range
theorem getD_numsK {k : IntKind} {l : List Nat} {i : Nat} (h : i < l.length) : (numsK k l)[i]? = some (.int k ((l.getD i 0 : Nat) : Int)) := by
  unfold numsK
  rw [List.getElem?_map, List.getElem?_eq_getElem h, getD_eq h]; rfl
structure KM where
  k : Nat
  v : Value
  Mx : HL
  n : Nat
structure KN where
  k : Nat
  cp : Nat
  R : Nat
  ys : List Int
  ov : Value
  Mo : HL
  n : Nat
theorem sl_left {M : HL} {b u o len cp R : Nat} {ys : List Int} {l : List Nat} (hm : (b, Ch.row 3 u o (ints ys)) ∈ M) (hc : capR cp len R) (hly : len ≤ ys.length) (hy : ys.take len = IL l) : Sl M 1 (.slice (some ⟨b, o, some u⟩) len cp) (nodes l) := by
  have hl : l.length = len := by have := congrArg List.length hy; simp at this; omega
  refine .row hm (.row _ _ _ _) (Nat.le_refl _) (by simp [hl]) ?_ (by simp [hl]; omega) (.inl hc.cap)
  rw [nodes_IL, ← hy]
  simp [ints, List.map_take]
theorem drawO_succ (by_ : List Nat) (n k : Nat) : drawO by_ n (k + 1) = ((drawO by_ n k).1 ++ [(drawO by_ n k).2.getD (by_.getD k 0 % (drawO by_ n k).2.length) 0], (drawO by_ n k).2.eraseIdx (by_.getD k 0 % (drawO by_ n k).2.length)) := rfl
theorem IL_erase (l : List Nat) (j : Nat) : IL (l.eraseIdx j) = (IL l).take j ++ (IL l).drop (j + 1) := by
  rw [List.eraseIdx_eq_take_drop_succ]; simp [IL, List.map_take, List.map_drop]
attribute [local irreducible] gOK WS WC WR WD Ends FS YS OpV seqK blockK loopK midK retK rdK asgK rangeEnd sat Cell
section
variable {M : HL} {n0 : Nat} {H : Heap} {v w : Value}
theorem Delete_fs {b u o len cp R i j : Nat} {ys : List Int} (hH : hasH ((b, .row 3 u o (ints ys)) :: M) n0 H) (hc : capR cp len R) (hly : len ≤ ys.length) (hij : i < j) (hjl : j ≤ len) (hyl : ys.length ≤ 100000) :
    FS C 87 [.slice (some ⟨b, o, some u⟩) len cp, .int .i64 (i : Int), .int .i64 (j : Int)] H (fun e H' => ∃ zs, e = .slice (some ⟨b, o, some u⟩) (len - (j - i)) (roomCode 1 R) ∧ hasH ((b, .row 3 u o (ints zs)) :: M) n0 H' ∧
      zs.length = ys.length ∧ zs.take (len - (j - i)) = ys.take i ++ (ys.take len).drop j) := by
  have hR := hc.le
  refine FS.intro (pf := pf87) rfl rfl rfl ?_
  repeat' (first | refine zP ?_ | refine zA ?_ | (refine zM ?_; intro _ _) | refine zX ?_ | (refine zC ?_; intro _ _ _ _) | (refine zS ?_; intro _ _) | (apply Ws <;> intro hg))
  refine WR.cutMax (by first | exact gN | exact gS rfl) rfl rfl hc rfl rfl rfl (Nat.le_of_lt hij) hjl (Nat.le_refl _) (by omega) fun v13 => ?_
  repeat' (first | refine zP ?_ | refine zA ?_ | (refine zM ?_; intro _ _) | refine zX ?_ | (refine zC ?_; intro _ _ _ _) | (refine zS ?_; intro _ _) | refine zO ?_ | (apply Ws <;> intro hg))
  refine WR.op (by first | exact gN | exact gS rfl) rfl (OpV.cutPre rfl hc rfl (by omega) (by omega)) ?_
  repeat' (first | refine zP ?_ | refine zA ?_ | (refine zM ?_; intro _ _) | refine zX ?_ | (refine zC ?_; intro _ _ _ _) | (refine zS ?_; intro _ _) | (apply Ws <;> intro hg))
  refine WR.cutSuf (by first | exact gN | exact gS rfl) rfl rfl hc rfl hjl fun cp' => ?_
  refine WR.appendR (M' := (b, .row 3 u o (ints (ys.take i ++ (ys.drop j).take (len - j) ++ ys.drop (i + (len - j))))) :: M) (by first | exact gN | exact gS rfl) rfl rfl rfl hH .here (by omega) (by omega) (by omega) fun H1 hH1 => ?_
  have hl2 : i + (len - j) = len - (j - i) := by omega
  rw [hl2] at hH1 ⊢
  obtain ⟨zs, hzs⟩ : ∃ zs, ys.take i ++ (ys.drop j).take (len - j) ++ ys.drop (len - (j - i)) = zs := ⟨_, rfl⟩
  rw [hzs] at hH1
  have hzl : zs.length = ys.length := by rw [← hzs]; simp; omega
  have hzt : zs.take (len - (j - i)) = ys.take i ++ (ys.take len).drop j := by
    rw [← hzs, List.take_append_of_le_length (by simp; omega), List.take_of_length_le (by simp; omega), List.drop_take]
  repeat' (first | refine zP ?_ | refine zA ?_ | (refine zM ?_; intro _ _) | refine zX ?_ | (refine zC ?_; intro _ _ _ _) | (refine zS ?_; intro _ _) | (apply Ws <;> intro hg))
  refine WR.cutOver (by first | exact gN | exact gS rfl) rfl rfl (by omega) rfl rfl (by omega) (by omega) fun cp2 => ?_
  refine WR.clrI (M' := (b, .row 3 u o (ints (zs.take (len - (j - i)) ++ List.replicate (len - (len - (j - i))) 0 ++ zs.drop (len - (j - i) + (len - (len - (j - i))))))) :: M) (by first | exact gN | exact gS rfl) rfl hH1 .here (by omega) (by omega) fun H2 hH2 => ?_
  repeat' (first | refine zP ?_ | refine zA ?_ | (refine zM ?_; intro _ _) | refine zX ?_ | (refine zC ?_; intro _ _ _ _) | (refine zS ?_; intro _ _) | (apply Ws <;> intro hg))
  refine Ends.ret1 rfl ⟨_, rfl, hH2, by simp; omega, ?_⟩
  rw [List.append_assoc, List.take_append_of_le_length (by simp; omega), List.take_of_length_le (by simp; omega), hzt]
set_option maxHeartbeats 4000000 in
theorem made_fs (hH : hasH M n0 H) {x : Nat} {by_ : List Nat} (hx : x ≤ 255) (hbl : by_.length = 7) (hb : ∀ y ∈ by_, y ≤ 255) {most : Nat} (hm1 : 1 ≤ most) (hm : most ≤ 7) :
    FS C 42 [.agg (numsK .u8 (x :: by_)).toArray, .int .i64 (most : Int)] H (fun e H' => ∃ Mx n', Own 3 1 e (nodes (madeO x by_ most)) Mx ∧ n0 ≤ n' ∧ hasH (Mx ++ M) n' H') := by
  have hone : (numsK .u8 (x :: by_)).all one = true := by rw [List.all_eq_true]; intro q hq; obtain ⟨z, _, rfl⟩ := List.mem_map.1 hq; rfl
  have hsl : (numsK .u8 (x :: by_)).length = 8 := by simp [numsK, hbl]
  have hg0 : (numsK .u8 (x :: by_))[0]? = some (.int .u8 (x : Int)) := rfl
  refine FS.intro (pf := pf42) rfl rfl rfl ?_
  refine WC.seq ?_
  refine WC.region ?_
  refine WR.boxA (cs := numsK .u8 (x :: by_)) (by first | exact gN | exact gS rfl) rfl hH rfl hone fun H1 hH1 => ?_
  repeat' (first | refine zP ?_ | refine zA ?_ | (refine zM ?_; intro _ _) | refine zX ?_ | (refine zC ?_; intro _ _ _ _) | (refine zS ?_; intro _ _) | (apply Ws <;> intro hg))
  refine WR.op (by first | exact gN | exact gS rfl) rfl (OpV.conv u8k i64k rfl (c := (x : Int)) (IntWalk.i64_in _ (by omega))) ?_
  have hmod := Nat.mod_lt x (show 0 < most by omega)
  repeat' (first | refine zP ?_ | refine zA ?_ | (refine zM ?_; intro _ _) | refine zX ?_ | (refine zC ?_; intro _ _ _ _) | (refine zS ?_; intro _ _) | (apply Ws <;> intro hg))
  rw [show (x : Int) % (most : Int) = ((x % most : Nat) : Int) by simp]
  obtain ⟨r, hr⟩ : ∃ r, x % most = r := ⟨_, rfl⟩
  rw [hr] at hmod ⊢
  repeat' (first | refine zP ?_ | refine zA ?_ | (refine zM ?_; intro _ _) | refine zX ?_ | (refine zC ?_; intro _ _ _ _) | (refine zS ?_; intro _ _) | (apply Ws <;> intro hg))
  rw [show (1 : Int) + (r : Int) = ((1 + r : Nat) : Int) by omega]
  have hmade : madeO x by_ most = (drawO by_ (1 + r) (1 + r)).1 := by unfold madeO; rw [hr]
  rw [hmade]
  obtain ⟨n, hn⟩ : ∃ n, 1 + r = n := ⟨_, rfl⟩
  rw [hn]
  have hn7 : 1 ≤ n ∧ n ≤ 7 := by omega
  clear hmade hr hn hmod
  refine WC.loopX [(1, _), (2, _), (4, _), (5, _), (7, .slice none 0 0), (17, _)] (fun z : KM => [(18, .int .i64 (z.k : Int)), (6, z.v)]) [] (fun z H' => z.k ≤ n ∧ ((z.k = 0 ∧ z.v = .slice none 0 0 ∧ z.Mx = []) ∨ OwnR 3 1 z.v (nodes (List.range z.k)) z.Mx) ∧ n0 + 1 ≤ z.n ∧ hasH (z.Mx ++ ((n0, .row 50 0 0 (numsK .u8 (x :: by_))) :: M)) z.n H') (fun z => n - z.k) ⟨0, .slice none 0 0, [], n0 + 1⟩ (by repeat' (first | exact .nil | refine .cons rfl ?_)) rfl ⟨Nat.zero_le _, .inl ⟨rfl, rfl, rfl⟩, Nat.le_refl _, hH1⟩ ?_
  clear hH hH1
  rintro ⟨k, v, Mx, n1⟩ H2 ⟨hk, hO, hn1, hH⟩
  simp only at hk hO hn1 hH
  dsimp only [List.cons_append, List.nil_append]
  repeat' (first | refine zP ?_ | refine zA ?_ | (refine zM ?_; intro _ _) | refine zX ?_ | (refine zC ?_; intro _ _ _ _) | (refine zS ?_; intro _ _) | (apply Ws <;> intro hg))
  refine WC.condP rfl (fun hlt => ?_) (fun hlt => ?_)
  · have hk' : k < n := by omega
    have hOw : Own 3 1 v (nodes (List.range k)) Mx := by
      rcases hO with ⟨rfl, rfl, rfl⟩ | hO
      · exact .nil
      · exact hO.own
    repeat' (first | refine zP ?_ | refine zA ?_ | (refine zM ?_; intro _ _) | refine zX ?_ | (refine zC ?_; intro _ _ _ _) | (refine zS ?_; intro _ _) | (apply Ws <;> intro hg))
    refine WR.append1RF [] Mx _ rfl rfl rfl rfl hOw hH (new := [.int .i64 (k : Int)]) rfl rfl rfl (Nat.le_refl _) (by decide) (by simp; omega) fun v' Mx' n' H' h1 h2 h3 => ?_
    repeat' (first | refine zP ?_ | refine zA ?_ | (refine zM ?_; intro _ _) | refine zX ?_ | (refine zC ?_; intro _ _ _ _) | (refine zS ?_; intro _ _) | (apply Ws <;> intro hg))
    refine Ends.loop ⟨k + 1, v', Mx', n'⟩ (by simp only; omega) (by repeat' (first | exact .nil | refine .cons rfl ?_)) rfl ⟨hk', .inr ?_, by simp only; omega, h2⟩
    have : nodes (List.range (k + 1)) = nodes (List.range k) ++ [.int .i64 (k : Int)] := by rw [List.range_succ, nodes_snoc]
    simp only [this]; exact h1
  · have hkn : k = n := by omega
    subst hkn
    rcases hO with ⟨h0, _⟩ | hO
    · omega
    generalize hcs : nodes (List.range k) = cs at hO
    cases hO with
    | mk hl =>
    rename_i b u o len
    subst hcs
    have hlen : len = k := by simp at hl; omega
    subst hlen
    rw [nodes_IL] at hH
    repeat' (first | refine zP ?_ | refine zA ?_ | (refine zM ?_; intro _ _) | refine zX ?_ | (refine zC ?_; intro _ _ _ _) | (refine zS ?_; intro _ _) | (apply Ws <;> intro hg))
    refine WC.loopX [(1, _), (2, _), (4, _), (5, _), (26, _)] (fun z : KN => [(27, .int .i64 (z.k : Int)), (6, .slice (some ⟨b, o, some u⟩) (len - z.k) z.cp), (7, z.ov)]) []
      (fun z H' => z.k ≤ len ∧ capR z.cp (len - z.k) z.R ∧ z.ys.length = len ∧ z.ys.take (len - z.k) = IL (drawO by_ len z.k).2 ∧ Own 3 1 z.ov (nodes (drawO by_ len z.k).1) z.Mo ∧ n0 ≤ z.n ∧ hasH ((b, .row 3 u o (ints z.ys)) :: (z.Mo ++ ((n0, .row 50 0 0 (numsK .u8 (x :: by_))) :: M))) z.n H') (fun z => len - z.k)
      ⟨0, 2 * 1, len, IL (List.range len), .slice none 0 0, [], n1⟩ (by repeat' (first | exact .nil | refine .cons rfl ?_)) rfl ⟨Nat.zero_le _, .inl ⟨rfl, rfl⟩, by simp [IL], by simp only [drawO, Nat.sub_zero]; rw [List.take_of_length_le (by simp [IL])], .nil, by simp only; omega, hH⟩ ?_
    clear hH
    rintro ⟨k, cp, R, ys, ov, Mo, n2⟩ H3 ⟨hk, hc, hyl, hy, hO, hn2, hH⟩
    simp only at hk hc hyl hy hO hn2 hH
    obtain ⟨q1, q2, _⟩ := drawO_props by_ len k hk
    have hdr := drawO_succ by_ len k
    dsimp only [List.cons_append, List.nil_append]
    repeat' (first | refine zP ?_ | refine zA ?_ | (refine zM ?_; intro _ _) | refine zX ?_ | (refine zC ?_; intro _ _ _ _) | (refine zS ?_; intro _ _) | (apply Ws <;> intro hg))
    refine WC.condP rfl (fun hlt2 => ?_) (fun hlt2 => ?_)
    · have hk' : k < len := by omega
      have hby : by_.getD k 0 ≤ 255 := hb _ (getD_mem (by omega))
      have hSl := sl_left (.head _) hc (by omega) hy (M := (b, .row 3 u o (ints ys)) :: (Mo ++ ((n0, .row 50 0 0 (numsK .u8 (x :: by_))) :: M)))
      have hgk : (numsK .u8 (x :: by_))[1 + k]? = some (.int .u8 ((by_.getD k 0 : Nat) : Int)) := by
        rw [getD_numsK (by simp; omega), show 1 + k = k + 1 by omega]; rfl
      repeat' (first | refine zP ?_ | refine zA ?_ | (refine zM ?_; intro _ _) | refine zX ?_ | (refine zC ?_; intro _ _ _ _) | (refine zS ?_; intro _ _) | (apply Ws <;> intro hg))
      refine WR.op (by first | exact gN | exact gS rfl) rfl (OpV.load1 rfl hH (List.mem_cons_of_mem _ (List.mem_append_right _ (.head _))) (.row _ _ _ _) (Nat.zero_le _) hgk) ?_
      refine WR.op (by first | exact gN | exact gS rfl) rfl (OpV.conv u8k i64k rfl (c := ((by_.getD k 0 : Nat) : Int)) (IntWalk.i64_in _ (by omega))) ?_
      generalize by_.getD k 0 = y at hby hdr ⊢
      rw [q2] at hdr
      have hmod := Nat.mod_lt y (show 0 < len - k by omega)
      repeat' (first | refine zP ?_ | refine zR ?_ | (refine zM ?_; intro _ _) | refine zX ?_ | (refine zC ?_; intro _ _ _ _) | (refine zS ?_; intro _ _))
      rw [show (y : Int) % (((len - k) : Nat) : Int) = ((y % (len - k) : Nat) : Int) by simp]
      generalize y % (len - k) = j at hmod hdr ⊢
      obtain ⟨lv, hlv⟩ : ∃ lv, Value.slice (some ⟨b, o, some u⟩) (len - k) cp = lv := ⟨_, rfl⟩
      rw [hlv] at hSl ⊢
      repeat' (first | refine zP ?_ | refine zA ?_ | (refine zM ?_; intro _ _) | refine zX ?_ | (refine zC ?_; intro _ _ _ _) | (refine zS ?_; intro _ _) | (apply Ws <;> intro hg))
      rw [← hlv]
      refine WR.append1F [(b, .row 3 u o (ints ys))] Mo _ rfl rfl rfl rfl hO hH (new := [.int .i64 (((drawO by_ len k).2.getD j 0 : Nat) : Int)]) rfl rfl rfl (Nat.le_refl _) (by decide) (by simp; omega) fun v' Mx' n' H' h1 h2 h3 => ?_
      repeat' (first | refine zP ?_ | refine zA ?_ | (refine zM ?_; intro _ _) | refine zX ?_ | (refine zC ?_; intro _ _ _ _) | (refine zS ?_; intro _ _) | (apply Ws <;> intro hg))
      replace h2 : hasH ((b, .row 3 u o (ints ys)) :: (Mx' ++ ((n0, .row 50 0 0 (numsK .u8 (x :: by_))) :: M))) n' H' := h2
      refine WR.call (by first | exact gN | exact gS rfl) rfl rfl (Delete_fs (i := j) (j := j + 1) h2 hc (by omega) (Nat.lt_succ_self j) (by omega) (by omega)) ?_
      rintro _ H5 ⟨zs, rfl, hH5, hzl, hz⟩
      rw [show len - k - (j + 1 - j) = len - (k + 1) by omega] at hz ⊢
      have hR := hc.le
      repeat' (first | refine zP ?_ | refine zA ?_ | (refine zM ?_; intro _ _) | refine zX ?_ | (refine zC ?_; intro _ _ _ _) | (refine zS ?_; intro _ _) | (apply Ws <;> intro hg))
      refine Ends.loop ⟨k + 1, roomCode 1 R, R, zs, v', Mx', n'⟩ (by simp only; omega) (by repeat' (first | exact .nil | refine .cons rfl ?_)) rfl ⟨hk', .inr ⟨rfl, by simp only; omega⟩, by simp only; omega, ?_, ?_, by simp only; omega, hH5⟩
      · simp only
        rw [hz, hdr, hy, IL_erase]
        congr 1
        have := congrArg (List.take j) hy
        rw [List.take_take, Nat.min_eq_left (by omega)] at this
        exact this
      · simp only
        rw [hdr, nodes_snoc]; exact h1
    · have hkl : k = len := by omega
      subst hkl
      repeat' (first | refine zP ?_ | refine zA ?_ | (refine zM ?_; intro _ _) | refine zX ?_ | (refine zC ?_; intro _ _ _ _) | (refine zS ?_; intro _ _) | (apply Ws <;> intro hg))
      exact Ends.ret1 rfl ⟨Mo, n2, hO, hn2, (hH.sub (List.sublist_cons_self _ _)).sub (List.Sublist.append_left (List.sublist_cons_self _ _) _)⟩
end
end Go.Proofs.Ytfnflkcjhefddaa.Lk

/- Pairs of numbers that are compared. -/
namespace Go.Abs
set_option linter.unusedSectionVars false
variable [Globs]
open Go
set_option linter.unusedSimpArgs false
theorem pureRun_pure {α : Type} (P : Program) (a : α) : pureRun P (pure a : Sem α) = some a := rfl
structure Arr2 (P : Program) (t e : TypeId) : Prop where
  u : P.underlying e = some (.int .i64)
  a : P.underlying t = some (.array 2 e)
  s : pureRun P (sizeOf e) = some 1
  p : ∀ (x y : Int), pureRun P (part e #[.int .i64 x, .int .i64 y] (0 * 1)) = some (.int .i64 x) ∧ pureRun P (part e #[.int .i64 x, .int .i64 y] (1 * 1)) = some (.int .i64 y)
  g : ∀ (x y : Operand) (a b : Array Value), pureRun P (eqGuard .neq t x y (.agg a) (.agg b)) = some ()
section
variable {C : CW} {L : Env} {H : Heap}
end
section
variable {C : CW} {L : Env} {H : Heap}
theorem OpV.eqB {dst : Option Tmp} {x y : Operand} {ty ty2 ty3 : TypeId} {pos : String} {af : Array Edge} {g : Option (Nat × Bool)} {a b : Bool} (e2 : pureRun C.c.P (binOp .eql ty (.bool a) (.bool b)) = some (.bool (a == b))) (hx : ev L x = some (.bool a)) (hy : ev L y = some (.bool b)) :
    OpV C (.plain ⟨dst, .binOp .eql ty x y ty2, ty3, pos, af, g⟩) L H (.bool (a == b)) H := by
  refine OpV.plain (fun t ht => ?_) (fun t ht => by simp [Op.operands, ev_ok ht hx, ev_ok ht hy, plainV, plain1]) rfl
  have e1 : pureRun C.c.P (eqGuard .eql ty x y (.bool a) (.bool b)) = some () := rfl
  simp only [pureNext, execOp, ev_ok ht hx, ev_ok ht hy, pureRun_bind, e1, e2, Option.bind_some]
  rfl
end
end Go.Abs
