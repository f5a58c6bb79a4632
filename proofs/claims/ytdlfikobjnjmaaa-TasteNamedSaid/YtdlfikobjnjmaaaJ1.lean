/- Texts of the law, joined. -/
import Derived.Test.YtdlfikobjnjmaaaSym6
/- Regions that draw their order, and in which what was read before is read again behind calls. -/
namespace Go.Abs
set_option linter.unusedSectionVars false
variable [Globs]
open Go
set_option linter.unusedVariables false
set_option linter.unusedSimpArgs false
attribute [local irreducible] gOK
section
variable {C : CW} {ro : Option Nat} {fn : FuncId} {nt : Nat} {L L' : Env} {D : List Nat} {H H' : Heap} {K : St → Prop} {M M' : HL} {n : Nat} {i d : Nat} {gd : Option (Tmp × Bool)} {lo : List Nat} {l : List POp} {rs : List Rd}

theorem sameAddr_refl (a : Addr) : sameAddrA a a = true := by
  simp only [sameAddrA, Nat.beq_refl, Bool.true_and]
  cases a.spot <;> simp
theorem sameInt_refl (a : Int) : sameInt a a = true := by cases a <;> simp [sameInt]

theorem same_int (k : IntKind) (a : Int) : same1 (.int k a) (.int k a) = true := by simp [same1, same0, sameInt_refl]
theorem Sl.same {M : HL} {sz : Nat} {v : Value} {l : List Value} (h : Sl M sz v l) : same1 v v = true := by
  cases h <;> simp [same1, same0, sameAddr_refl]
theorem same_ptr (a : Addr) : same1 (.pointer (some a)) (.pointer (some a)) = true := by simp [same1, same0, sameAddr_refl]
/-- A function with places that it has caught. -/
theorem same_fn (f : FuncId) (as : List Addr) : same1 (.func (.func f) #[] (as.map fun a => Value.pointer (some a)).toArray) (.func (.func f) #[] (as.map fun a => Value.pointer (some a)).toArray) = true := by
  have h : ∀ l : List Addr, sameL0 (l.map fun a => Value.pointer (some a)) (l.map fun a => Value.pointer (some a)) = true := by
    intro l
    induction l with
    | nil => rfl
    | cons a l ih => simp [sameL0, same0, sameAddr_refl, ih]
  simp only [same1, Nat.beq_refl, Bool.true_and]
  rw [h as]; rfl

theorem holds_at {H : Heap} {i : Nat} {a : Addr} {v : Value} (h : H.read a = some v) (hs : same1 v v = true) : holds H ⟨i, a, none, v⟩ = true := by
  simp only [holds, h, hs]

/-- One operation that turns nothing. -/
theorem d1 {op : AOp} {v : Value} (hv : opS L op = some v) (k : WD C nt l rs ((d, v) :: L) D H K) (hn : reads op = false := by exact rfl) (hg : gOK L gd := by first | exact gN | exact gS rfl) (hd : Nat.blt d nt = true := by exact rfl) :
    WD C nt (⟨i, some d, op, gd, []⟩ :: l) rs L D H K := WD.op hg hd (opS_ok hv) hn (stands_nil _ _) k
theorem d2 {x : Operand} {b : Nat} {sp : Option Nat} {off : Nat} (hx : ev L x = some (.pointer (some ⟨b, 0, sp⟩))) (k : WD C nt l rs ((d, .pointer (some ⟨b, off, sp⟩)) :: L) D H K) (hg : gOK L gd := by first | exact gN | exact gS rfl) (hd : Nat.blt d nt = true := by exact rfl) :
    WD C nt (⟨i, some d, .fieldAddr x off, gd, []⟩ :: l) rs L D H K := WD.op hg hd (OpV.field0 hx) rfl (stands_nil _ _) k
theorem d3 {x : Operand} {b o : Nat} {sp : Option Nat} {off : Nat} (hx : ev L x = some (.pointer (some ⟨b, o, sp⟩))) (k : WD C nt l rs ((d, .pointer (some ⟨b, o + off, sp⟩)) :: L) D H K) (hg : gOK L gd := by first | exact gN | exact gS rfl) (hd : Nat.blt d nt = true := by exact rfl) :
    WD C nt (⟨i, some d, .fieldAddr x off, gd, []⟩ :: l) rs L D H K := WD.op hg hd (OpV.field hx) rfl (stands_nil _ _) k
theorem WD.call {g : FuncId} {xs : List Operand} {vs : List Value} (hg : gOK L gd) (hd : Nat.blt d nt = true) (hx : evs L xs = some vs) {R : Value → Heap → Prop} (hc : FS C g vs H R)
    (k : ∀ v H', R v H' → stands H' lo rs = true ∧ WD C nt l rs ((d, v) :: L) D H' K) : WD C nt (⟨i, some d, .callF g xs, gd, lo⟩ :: l) rs L D H K := by
  obtain ⟨v, H1, ⟨m1, h1⟩, h2⟩ := hc
  intro t ht
  obtain ⟨ks, kk⟩ := k v H1 h2
  obtain ⟨m2, s', h3, h4⟩ := kk _ (ht.put d v)
  refine ⟨max m1 m2, s', ?_, h4⟩
  have hv : opA C.c.P (.callF g xs) (evalO t) H = .call g vs := by simp only [opA, evs_ok ht hx]
  have hn : ∀ s s', noteRd ⟨i, some d, .callF g xs, gd, lo⟩ s s' rs = rs := by
    intro s s'; simp only [noteRd]; cases wantedA s.t ⟨i, some d, .callF g xs, gd, lo⟩ <;> rfl
  simp only [stepOpsD, doOp, hg.wanted ht, cond_true, hv, ans, run_mono (Nat.le_max_left m1 m2) _ _ h1, afterOp, putT, hd, stOf, ks, hn]
  exact stepOpsD_mono' (run_mono (Nat.le_max_right m1 m2)) h3

/-- What is appended to nothing that has no room lies in a new row. -/
theorem WR.appendNew {e sz k b u lo' o : Nat} {s x : Operand} {y : Value} {new cs : List Value} {ch : Ch} (hg : gOK L gd) (hd : Nat.blt d nt = true) (hs : ev L s = some (.slice (some ⟨b, o, some u⟩) 0 (2 * 0 + 1))) (hy : ev L x = some y) (hH : hasH M n H)
    (hm : (b, ch) ∈ M) (hc : ch.cellsAre u lo' cs) (hlo : lo' ≤ o) (hin : o - lo' ≤ cs.length) (hk : srcLen y = some k) (hx : srcCells H sz k y = some new) (hl : new.length = k * sz) (h1 : 1 ≤ k) (hone : new.all one = true) (hs1 : 1 ≤ sz) (hs2 : sz ≤ 1000) (hsm : k ≤ 100000)
    (kk : ∀ H', hasH ((n, .row e 0 0 new) :: M) (n + 1) H' → WR C nt l ((d, .slice (some ⟨n, 0, some 0⟩) k (2 * sz)) :: L) D H' K) : WR C nt (⟨i, some d, .append e sz s x, gd, lo⟩ :: l) L D H K := by
  refine WR.op hg hd (H' := H.row e new) (v := .slice (some ⟨n, 0, some 0⟩) k (2 * sz)) (fun t ht => ?_) (kk _ (hH.row e hone))
  have hb : Nat.ble (0 + k) 0 = false := by
    cases hb : Nat.ble (0 + k) 0 with
    | false => rfl
    | true => have := Nat.le_of_ble_eq_true hb; omega
  have hr := hH.readN (b := b) (u := u) (lo := lo') (o := o) (k := 0 * sz) hm hc hlo (by omega)
  rw [Nat.zero_mul, List.take_zero] at hr
  have hs0 : srcCells H sz 0 (.slice (some ⟨b, o, some u⟩) 0 (2 * 0 + 1)) = some [] := by simp only [srcCells, Nat.zero_mul]; exact hr
  have hsm' : small sz (0 + k) = true := by simp only [small, Bool.and_eq_true]; exact ⟨⟨Nat.ble_eq_true_of_le (by omega), Nat.ble_eq_true_of_le hs1⟩, Nat.ble_eq_true_of_le hs2⟩
  have hq : Nat.beq (0 + new.length) ((0 + k) * sz) = true := by rw [Nat.zero_add, Nat.zero_add, hl]; exact Nat.beq_refl _
  simp only [opA, ev_ok ht hs, ev_ok ht hy, appendA, hk, hx, appWith, capOf_known, hb, cond_false, hs0, appNew, hsm', List.all_nil, hone, Bool.true_and, List.length_nil, cond_true, List.nil_append, newAddr, hH.next, Nat.zero_add]
  rw [Nat.zero_add] at hb hsm'
  rw [Nat.zero_add, Nat.zero_add] at hq
  simp only [hb, cond_false, hsm', hq, Bool.and_self, cond_true]

end
end Go.Abs

namespace Go.Abs
set_option linter.unusedSectionVars false
variable [Globs]
open Go
set_option linter.unusedVariables false
set_option linter.unusedSimpArgs false
section
variable {C : CW} {L : Env} {H : Heap}
theorem eqGuard_run {P : Program} {op : BinOp} (h : op = .shl ∨ op = .shr) {t : TypeId} {x y : Operand} {a b : Value} : pureRun P (eqGuard op t x y a b) = some () := by
  rcases h with rfl | rfl <;> rfl

theorem OpV.shr {dst : Option Tmp} {x y : Operand} {ty ty2 ty3 : TypeId} {pos : String} {af : Array Edge} {g : Option (Nat × Bool)} {k k' : IntKind} {a b c : Int} (hx : ev L x = some (.int k a)) (hy : ev L y = some (.int k' b)) (hb : 0 ≤ b) (hc : a.fdiv (2 ^ (Min.min b.toNat k.bits)) = c) :
    OpV C (.plain ⟨dst, .binOp .shr ty x y ty2, ty3, pos, af, g⟩) L H (.int k c) H := by
  subst hc
  refine OpV.plain (fun t ht => ?_) (fun t ht => by simp [Op.operands, ev_ok ht hx, ev_ok ht hy, plainV, plain1]) rfl
  have e2 : pureRun C.c.P (binOp .shr ty (.int k a) (.int k' b)) = some (.int k (a.fdiv (2 ^ (Min.min b.toNat k.bits)))) := by
    simp only [binOp, Op.shift, if_neg (Int.not_lt.2 hb)]
    rfl
  simp only [pureNext, execOp, ev_ok ht hx, ev_ok ht hy, pureRun_bind, eqGuard_run (.inr rfl), e2, Option.bind_some]
  rfl

theorem OpV.shl {dst : Option Tmp} {x y : Operand} {ty ty2 ty3 : TypeId} {pos : String} {af : Array Edge} {g : Option (Nat × Bool)} {k k' : IntKind} {a b c : Int} (hx : ev L x = some (.int k a)) (hy : ev L y = some (.int k' b)) (hb : 0 ≤ b) (hc : k.wrap (a * 2 ^ (Min.min b.toNat k.bits)) = c) :
    OpV C (.plain ⟨dst, .binOp .shl ty x y ty2, ty3, pos, af, g⟩) L H (.int k c) H := by
  subst hc
  refine OpV.plain (fun t ht => ?_) (fun t ht => by simp [Op.operands, ev_ok ht hx, ev_ok ht hy, plainV, plain1]) rfl
  have e2 : pureRun C.c.P (binOp .shl ty (.int k a) (.int k' b)) = some (.int k (k.wrap (a * 2 ^ (Min.min b.toNat k.bits)))) := by
    simp only [binOp, Op.shift, if_neg (Int.not_lt.2 hb)]
    rfl
  simp only [pureNext, execOp, ev_ok ht hx, ev_ok ht hy, pureRun_bind, eqGuard_run (.inl rfl), e2, Option.bind_some]
  rfl

/-- Bits of two numbers: whatever the model says. -/
theorem OpV.bits {op : BinOp} {k : IntKind} {x y : Operand} {a b : Int} {v : Value} (hx : ev L x = some (.int k a)) (hy : ev L y = some (.int k b)) (hn : ibinA op k a b = none) (hv : pureRun C.c.P (Op.intBits op k a b) = some v) (hop : op = .and ∨ op = .or) (hp : plainV v = true) :
    OpV C (.ibin op k x y) L H v H := by
  refine OpV.other hx hy hn ?_ hp
  rcases hop with rfl | rfl <;> simpa [binOp] using hv
end
end Go.Abs

namespace Go.Abs
set_option linter.unusedSectionVars false
variable [Globs]
open Go
section
variable {C : CW} {L : Env} {D : List Nat} {H : Heap} {M M' : HL} {n : Nat}
theorem Ends.retC1D {a : Nat} {p : Addr} {v : Value} {R : Value → Heap → Prop} {M0 : HL} (hx : ev L (.tmp a) = some (.pointer (some p))) (hH : hasH M n H) (hM : M'.Sublist M) (hp : M'.Perm (D.map (fun b => (b, Ch.defd false)) ++ M0))
    (k2 : ∀ H', hasH M0 n H' → H'.read p = some v ∧ R v H') : Ends (retK [.cell a none] R) .ret L D H :=
  Ends.retD trivial hH hM hp fun H' h' t ht => by
    obtain ⟨h1, h2⟩ := k2 H' h'
    exact ⟨v, H', by simp only [leaveC, resultOf, ev_ok ht hx, h1, retVal], h2⟩
end
end Go.Abs

namespace Go.Abs
set_option linter.unusedSectionVars false
variable [Globs]
open Go
section
variable {C : CW} {nt : Nat} {L : Env} {D : List Nat} {H : Heap} {K : St → Prop}
/-- A guard that wasn't reached. -/
theorem WR.guardU {i d g : Nat} {q : Bool} {op : AOp} {lo : List Nat} {l : List POp} (hg : Env.get L g = some undef) (hd : Nat.blt d nt = true) (k : WR C nt l ((d, undef) :: L) D H K) :
    WR C nt (⟨i, some d, op, some (g, q), lo⟩ :: l) L D H K := by
  intro t ht
  obtain ⟨m, s', h1, h2⟩ := k _ (ht.put d undef)
  have hw : wantedA t ⟨i, some d, op, some (g, q), lo⟩ = false := by simp only [wantedA, ht g _ hg]; rfl
  exact ⟨m, s', by simp only [stepOps, doOp, hw, cond_false, putT, hd, cond_true, stOf]; exact h1, h2⟩
theorem WR.guardU0 {i g : Nat} {q : Bool} {op : AOp} {lo : List Nat} {l : List POp} (hg : Env.get L g = some undef) (k : WR C nt l L D H K) :
    WR C nt (⟨i, none, op, some (g, q), lo⟩ :: l) L D H K := by
  intro t ht
  obtain ⟨m, s', h1, h2⟩ := k _ ht
  have hw : wantedA t ⟨i, none, op, some (g, q), lo⟩ = false := by simp only [wantedA, ht g _ hg]; rfl
  exact ⟨m, s', by simp only [stepOps, doOp, hw, cond_false, putT, stOf]; exact h1, h2⟩
end
end Go.Abs

namespace Go.Abs
set_option linter.unusedSectionVars false
variable [Globs]
open Go
section
variable {C : CW} {ro : Option Nat} {fn : FuncId} {nt : Nat} {L : Env} {D : List Nat} {H : Heap} {K : Ex → St → Prop}
end
end Go.Abs

namespace Go.Abs
set_option linter.unusedSectionVars false
variable [Globs]
open Go
section
variable {C : CW} {ro : Option Nat} {fn : FuncId} {nt : Nat} {L : Env} {D : List Nat} {H : Heap} {K : Ex → St → Prop}
/-- Ways that meet again, with something that they have chosen. -/
theorem WC.joinE {α : Type} {a b : PC} (Lf : α → Env) (Df : α → List Nat) (hp : α → Heap → Prop) (h1 : WC C ro fn nt a L D H (midK (fun s => ∃ x, sat (Lf x) (Df x) (hp x) s) K)) (h2 : ∀ x H', hp x H' → WC C ro fn nt b (Lf x) (Df x) H' K) :
    WC C ro fn nt a L D H (seqK C ro fn nt b K) := by
  intro t ht
  refine WS.mono (h1 t ht) ?_
  intro e s h
  cases e with
  | normal =>
    obtain ⟨x, q1, q2, q3⟩ := h
    have := h2 x s.H q3 s.t q1
    cases s
    simp only at q2
    subst q2
    exact this
  | _ => exact h
theorem Ends.midE {α : Type} {Lf : α → Env} {Df : α → List Nat} {hp : α → Heap → Prop} (x : α) (h0 : Sub L (Lf x)) (hD : D = Df x) (hH : hp x H) : Ends (midK (fun s => ∃ x, sat (Lf x) (Df x) (hp x) s) K) .normal L D H :=
  fun _ ht => ⟨x, ht.weaken h0.mem, hD, hH⟩
end
end Go.Abs

namespace Go.Abs
set_option linter.unusedSectionVars false
variable [Globs]
open Go
set_option linter.unusedVariables false
section
variable {C : CW} {nt : Nat} {L : Env} {D : List Nat} {H : Heap} {K : St → Prop} {M : HL} {n : Nat} {i d : Nat} {gd : Option (Tmp × Bool)} {l : List POp} {rs : List Rd}

theorem Cell.read {b o u : Nat} {v : Value} (h : Cell M b o u v) (hH : hasH M n H) : H.read ⟨b, o, some u⟩ = some v := by
  obtain ⟨ch, lo, cs, h1, h2, h3, h4⟩ := h
  exact hH.read h1 h2 h3 h4
theorem Cell.mono {M' : HL} {b o u : Nat} {v : Value} (h : Cell M b o u v) (k : ∀ p ∈ M, p ∈ M') : Cell M' b o u v := by
  obtain ⟨ch, lo, cs, h1, h2, h3, h4⟩ := h
  exact ⟨ch, lo, cs, k _ h1, h2, h3, h4⟩

/-- An element of a slice: where it lies. -/
theorem OpV.idxSl {x ix : Operand} {kd : IntKind} {j : Int} {m : Nat} {v c : Value} {cs : List Value} (hx : ev L x = some v) (hS : Sl M 1 v cs) (hi : ev L ix = some (.int kd j)) (hj : j = (m : Int)) (hm : cs[m]? = some c) :
    ∃ b o u, OpV C (.idxS x ix 1) L H (.pointer (some ⟨b, o, some u⟩)) H ∧ Cell M b o u c := by
  have hlt : m < cs.length := by
    rcases Nat.lt_or_ge m cs.length with h | h
    · exact h
    · rw [List.getElem?_eq_none h] at hm; cases hm
  cases hS with
  | nil c => simp at hlt
  | emp a => simp at hlt
  | row hm2 hc hlo hl hv hin hp =>
    rename_i b o u lo' len cap ch cs'
    refine ⟨b, o + m, u, OpV.idxS hx hi hj (by omega) (addr1 _ _ _ _), ch, lo', cs', hm2, hc, by omega, ?_⟩
    rw [← hv, List.getElem?_take_of_lt hlt, List.getElem?_drop] at hm
    rw [← hm]; congr 1; omega

theorem WD.loadN {x : Operand} {a : Addr} {k : Nat} {ls : List Value} (hg : gOK L gd) (hd : Nat.blt d nt = true) (hx : ev L x = some (.pointer (some a))) (hr : H.readN a k = some ls)
    (kk : WD C nt l (⟨i, a, some k, .agg ls.toArray⟩ :: rs) ((d, .agg ls.toArray) :: L) D H K) : WD C nt (⟨i, some d, .loadN x k, gd, []⟩ :: l) rs L D H K := by
  intro t ht
  obtain ⟨m, s', h1, h2⟩ := kk _ (ht.put d _)
  refine ⟨m, s', ?_, h2⟩
  have e1 : doOp C.c (runW C m) nt ⟨i, some d, .loadN x k, gd, []⟩ ⟨t, D, H⟩ = some ⟨t.put d (.agg ls.toArray), D, H⟩ := by
    simp only [doOp, hg.wanted ht, cond_true, opA, oLoadN, ev_ok ht hx, hr, aggOf, asVal, ans, afterOp, putT, hd, stOf]
  have e2 : noteRd ⟨i, some d, .loadN x k, gd, []⟩ ⟨t, D, H⟩ ⟨t.put d (.agg ls.toArray), D, H⟩ rs = ⟨i, a, some k, .agg ls.toArray⟩ :: rs := by
    have e3 : evalO (t.put d (.agg ls.toArray)) (.tmp d) = .agg ls.toArray := by simp only [evalO, Tr.get_put, if_true]
    simp only [noteRd, hg.wanted ht, cond_true, ev_ok ht hx, e3]
  simp only [stepOpsD, e1, stands_nil, cond_true, e2]; exact h1
end
end Go.Abs

namespace Go.Abs
set_option linter.unusedSectionVars false
variable [Globs]
open Go
theorem OpV.weaken {C : CW} {op : AOp} {L L' : Env} {H H' : Heap} {v : Value} (h : OpV C op L' H v H') (k : Sub L L') : OpV C op L H v H' := fun t ht => h t (ht.weaken k.mem)
end Go.Abs

namespace Go.Abs
set_option linter.unusedSectionVars false
variable [Globs]
end Go.Abs

/- Cut, made and copied: slices whose room is known. -/
namespace Go.Abs
set_option linter.unusedSectionVars false
variable [Globs]
open Go
set_option linter.unusedVariables false
set_option linter.unusedSimpArgs false
section
variable {C : CW} {nt : Nat} {L : Env} {D : List Nat} {H : Heap} {K : St → Prop} {M M' : HL} {n : Nat}
theorem WR.mkS {i d : Nat} {e m : Nat} {z : Value} {x y : Operand} {kd kd2 : IntKind} {lo : List Nat} {l : List POp} {gd : Option (Tmp × Bool)} (hg : gOK L gd) (hd : Nat.blt d nt = true) (hH : hasH M n H) (hx : ev L x = some (.int kd (m : Int))) (hy : ev L y = some (.int kd2 (m : Int)))
    (hm : m ≤ 100000) (hz : one z = true)
    (kk : ∀ H', hasH ((n, .row e 0 0 (List.replicate m z)) :: M) (n + 1) H' → WR C nt l ((d, .slice (some ⟨n, 0, some 0⟩) m (2 * m + 1)) :: L) D H' K) : WR C nt (⟨i, some d, .mkS e [z] x y, gd, lo⟩ :: l) L D H K := by
  have hf : (List.replicate m [z]).flatten = List.replicate m z := by
    clear hx hy hm kk
    induction m with
    | zero => rfl
    | succ m ih => simp [List.replicate_succ, ih]
  have e1 : natOf (.int kd (m : Int)) = some m := rfl
  have e2 : natOf (.int kd2 (m : Int)) = some m := rfl
  refine WR.op hg hd (H' := H.row e (List.replicate m z)) (v := .slice (some ⟨n, 0, some 0⟩) m (2 * m + 1)) (fun t ht => ?_) (kk _ (hH.row e ?_))
  · simp only [opA, ev_ok ht hx, ev_ok ht hy, oMkS, e1, e2, hf, newAddr, hH.next]
    have b1 : Nat.ble m m = true := Nat.ble_eq_true_of_le (Nat.le_refl _)
    have b2 : Nat.ble m 100000 = true := Nat.ble_eq_true_of_le hm
    rw [b1, b2]; rfl
  · rw [List.all_eq_true]; intro q hq; rw [(List.mem_replicate.1 hq).2]; exact hz
end
end Go.Abs

namespace Go.Abs
set_option linter.unusedSectionVars false
variable [Globs]
open Go
set_option linter.unusedVariables false
attribute [local irreducible] gOK WS WC WR WD Ends FS YS OpV seqK blockK loopK midK retK rdK asgK rangeEnd sat Cell

/-- A step of code, or an operation that lays nothing. -/
theorem zA {p q : Prop} (k : q) (h : q → p := by
  first
  | exact WC.seq | exact WC.skip | exact WC.ret | exact WC.exit | exact WC.block | exact WC.region
  | exact fun k => WC.regD (by exact rfl) k
  | exact WR.nil | exact Ends.seq | exact Ends.seq_ret | exact Ends.seq_exit | exact Ends.block | exact Ends.block_ret | exact Ends.block_exit
  | exact fun k => Ends.block_pass (by exact rfl) k
  | exact Ends.mid_ret | exact Ends.mid_exit | exact Ends.loop_ret | exact Ends.loop_exit
  | exact fun k => WC.condT rfl k
  | exact fun k => WC.condF rfl k
  | (intro k; refine zw ?_
     first
     | exact WR.guardF rfl rfl k
     | exact WR.guardU rfl rfl k
     | exact o1 rfl k
     | (refine zf ?_; first | exact o2 rfl k | exact o3 rfl k)
     | (refine za ?_; exact o4 rfl rfl k)
     | (refine ze ?_; exact p4 rfl rfl k)
     | (refine zg ?_; exact p5 rfl rfl k)
     | (refine zm ?_; exact p6 rfl rfl k)
     | (refine zn ?_; first | exact q1 rfl k | exact q2 rfl k | exact p1 rfl k | exact p2 rfl k)
     | (refine zp ?_; first | exact q3 rfl rfl k | exact q4 rfl rfl k)
     | (refine zl ?_; first | exact p3 rfl k | exact o5 rfl rfl k)
     | (refine zk ?_; exact o7 rfl k)
     | (refine zi ?_; refine zi2 rfl rfl ?_; exact o8 rfl rfl rfl k)
     | (refine zj ?_; refine zj2 rfl rfl ?_; exact o9 rfl rfl rfl k))
  | exact fun k => WR.guardF0 rfl k
  | exact fun k => WR.guardU0 rfl k
  | exact WC.label | exact WC.goto) : p := h k

/-- An operation that lays a row, or stores. -/
theorem zM {p q : Prop} (k : q) (h : q → p := by
  intro k
  first
  | (refine zw ?_; first | (refine zc ?_; exact m1 k) | (refine zb ?_; first | exact m2 rfl rfl k | exact m3 rfl k))
  | (refine zs ?_; exact m4 rfl rfl k)) : p := h k
end Go.Abs
