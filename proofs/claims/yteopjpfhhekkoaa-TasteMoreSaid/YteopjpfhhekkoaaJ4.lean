/- Texts of the law, joined. -/
import Derived.Test.YteopjpfhhekkoaaJ3
import Derived.Test.YteopjpfhhekkoaaJ1
/- Numbers by ranks. -/
namespace Go.Proofs.Yteopjpfhhekkoaa.Tt
open Go Go.Abs Go.Mth
set_option linter.unusedVariables false
set_option linter.unusedSimpArgs false
def bdN : Nat → Int
  | 0 => 0
  | 1 => 0
  | m + 2 => bdN (m + 1) + 243 * max (bdN (m + 1)) 1
theorem bdN_le {m : Nat} (h : m ≤ 6) : 0 ≤ bdN m ∧ bdN m ≤ 861322076928 := by
  rcases (show m = 0 ∨ m = 1 ∨ m = 2 ∨ m = 3 ∨ m = 4 ∨ m = 5 ∨ m = 6 by omega) with rfl | rfl | rfl | rfl | rfl | rfl | rfl <;> decide
theorem bdN_le5 {m : Nat} (h : m ≤ 5) : bdN m ≤ 4000000000 := by
  rcases (show m = 0 ∨ m = 1 ∨ m = 2 ∨ m = 3 ∨ m = 4 ∨ m = 5 by omega) with rfl | rfl | rfl | rfl | rfl | rfl <;> decide
theorem bdN_mono (m : Nat) : bdN m ≤ bdN (m + 1) := by
  cases m with
  | zero => decide
  | succ m => simp only [bdN]; omega
structure RkOK (D : Nat → Nat → Int) (n : Nat) (R : Nat → Nat) : Prop where
  lt : ∀ a, a < n → R a < n
  le : ∀ a b, a < n → b < n → 0 ≤ D a b → R b ≤ R a
  st : ∀ a b, a < n → b < n → 0 < D a b → R b < R a
structure NInv (D : Nat → Nat → Int) (n : Nat) (R : Nat → Nat) (m : Nat) (dp : Int) (B W : List Int) : Prop where
  lb : B.length = n
  lw : W.length = n
  dp0 : 0 ≤ dp
  dp1 : dp ≤ bdN m
  bb : ∀ a, a < n → n ≤ R a + m → 0 ≤ B.getD a 0 ∧ B.getD a 0 ≤ dp ∧ W.getD a 0 = max (B.getD a 0) 1
  ok : ∀ a b, a < n → b < n → n ≤ R a + m → n ≤ R b + m → B.getD a 0 + W.getD a 0 * D a b ≤ B.getD b 0
def DepR (D : Nat → Nat → Int) (n : Nat) (R : Nat → Nat) (rank : Int) (B W : List Int) (dep : Int) : Prop := 0 ≤ dep ∧
  (∀ a b, a < n → b < n → rank < R a → (R b : Int) = rank → B.getD a 0 + W.getD a 0 * D a b ≤ dep) ∧
  (dep = 0 ∨ ∃ a b, a < n ∧ b < n ∧ rank < R a ∧ (R b : Int) = rank ∧ dep = B.getD a 0 + W.getD a 0 * D a b)
def UpdR (n : Nat) (R : Nat → Nat) (rank : Int) (x : Int) (B B' : List Int) (k : Nat) : Prop := B'.length = n ∧ ∀ j, j < n → B'.getD j 0 = if j < k ∧ (R j : Int) = rank then x else B.getD j 0
theorem UpdR.zero {n : Nat} {R : Nat → Nat} {rank x : Int} {B : List Int} (h : B.length = n) : UpdR n R rank x B B 0 := ⟨h, fun j _ => by rw [if_neg (by omega)]⟩
theorem UpdR.set {n k : Nat} {R : Nat → Nat} {rank x : Int} {B B' : List Int} (h : UpdR n R rank x B B' k) (hk : k < n) (hr : (R k : Int) = rank) : UpdR n R rank x B (B'.set k x) (k + 1) := by
  refine ⟨by rw [List.length_set]; exact h.1, fun j hj => ?_⟩
  rw [getD_set' (by rw [h.1]; exact hk)]
  by_cases e : j = k
  · subst e; rw [if_pos rfl, if_pos ⟨by omega, hr⟩]
  · rw [if_neg e, h.2 j hj]
    by_cases e2 : j < k ∧ (R j : Int) = rank
    · rw [if_pos e2, if_pos ⟨by omega, e2.2⟩]
    · rw [if_neg e2, if_neg fun q => e2 ⟨by omega, q.2⟩]
theorem UpdR.skip {n k : Nat} {R : Nat → Nat} {rank x : Int} {B B' : List Int} (h : UpdR n R rank x B B' k) (hr : (R k : Int) ≠ rank) : UpdR n R rank x B B' (k + 1) := by
  refine ⟨h.1, fun j hj => ?_⟩
  rw [h.2 j hj]
  by_cases e2 : j < k ∧ (R j : Int) = rank
  · rw [if_pos e2, if_pos ⟨by omega, e2.2⟩]
  · rw [if_neg e2, if_neg fun q => e2 ⟨by
      rcases Nat.lt_or_ge j k with h1 | h1
      · exact h1
      · have : j = k := by omega
        rw [this] at q; exact absurd q.2 hr, q.2⟩]
theorem UpdR.all {n : Nat} {R : Nat → Nat} {rank x : Int} {B B' : List Int} (h : UpdR n R rank x B B' n) : ∀ j, j < n → B'.getD j 0 = if (R j : Int) = rank then x else B.getD j 0 := fun j hj => by
  rw [h.2 j hj]
  by_cases e : (R j : Int) = rank
  · rw [if_pos ⟨hj, e⟩, if_pos e]
  · rw [if_neg fun q => e q.2, if_neg e]
theorem NInv.zero {D : Nat → Nat → Int} {n : Nat} {R : Nat → Nat} (hr : RkOK D n R) {B W : List Int} (h1 : B.length = n) (h2 : W.length = n) : NInv D n R 0 0 B W :=
  ⟨h1, h2, Int.le_refl _, Int.le_refl _, fun a ha h => by have := hr.lt a ha; omega, fun a b ha _ h => by have := hr.lt a ha; omega⟩
theorem NInv.step {D : Nat → Nat → Int} {n : Nat} {R : Nat → Nat} (hD : ∀ a b, -243 ≤ D a b ∧ D a b ≤ 243) (hn : n ≤ 6) (hr : RkOK D n R) {m : Nat} (hm : m < n) {dp dep : Int} {B W B' W' : List Int} (h : NInv D n R m dp B W)
    (hd : DepR D n R ((n : Int) - 1 - m) B W dep) (hB : UpdR n R ((n : Int) - 1 - m) (max dp dep) B B' n) (hW : UpdR n R ((n : Int) - 1 - m) (max (max dp dep) 1) W W' n) : NInv D n R (m + 1) (max dp dep) B' W' := by
  have hBa := hB.all
  have hWa := hW.all
  have hdp := h.dp0
  have hdp1 := h.dp1
  have hb5 := bdN_le5 (m := m) (by omega)
  obtain ⟨hd0, hd1, hd2⟩ := hd
  have hbound : max dp dep ≤ bdN (m + 1) := by
    have h1 := bdN_mono m
    rcases hd2 with rfl | ⟨a, b, ha, hb, hra, hrb, rfl⟩
    · omega
    · have hpa : n ≤ R a + m := by omega
      obtain ⟨q1, q2, q3⟩ := h.bb a ha hpa
      have hmm : 1 ≤ m := by
        have := hr.lt a ha
        omega
      obtain ⟨m, rfl⟩ : ∃ m', m = m' + 1 := ⟨m - 1, by omega⟩
      have q4 := mul_bd (V := W.getD a 0) (D := D a b) (B := max (bdN (m + 1)) 1) (by omega) (by omega) (hD a b).1 (hD a b).2
      simp only [bdN]
      omega
  refine ⟨hB.1, hW.1, by omega, hbound, fun a ha hp => ?_, fun a b ha hb hpa hpb => ?_⟩
  · rw [hBa a ha, hWa a ha]
    by_cases e : (R a : Int) = (n : Int) - 1 - m
    · rw [if_pos e, if_pos e]; omega
    · rw [if_neg e, if_neg e]
      obtain ⟨q1, q2, q3⟩ := h.bb a ha (by omega)
      omega
  · rw [hBa a ha, hWa a ha, hBa b hb]
    by_cases e : (R a : Int) = (n : Int) - 1 - m
    · rw [if_pos e, if_pos e]
      by_cases e2 : (R b : Int) = (n : Int) - 1 - m
      · rw [if_pos e2]
        have hle : D a b ≤ 0 := by
          rcases Int.lt_or_le 0 (D a b) with hlt | hge
          · have := hr.st a b ha hb hlt; omega
          · exact hge
        have := Int.mul_nonneg (show 0 ≤ max (max dp dep) 1 by omega) (show 0 ≤ - D a b by omega)
        rw [Int.mul_neg] at this
        omega
      · rw [if_neg e2]
        have hlt : D a b ≤ -1 := by
          rcases Int.lt_or_le (D a b) 0 with hlt | hge
          · omega
          · have := hr.le a b ha hb hge; omega
        have := Int.mul_nonneg (show 0 ≤ max (max dp dep) 1 by omega) (show 0 ≤ -1 - D a b by omega)
        rw [Int.mul_sub, Int.mul_neg, Int.mul_one] at this
        have q1 := (h.bb b hb (by omega)).1
        omega
    · rw [if_neg e, if_neg e]
      by_cases e2 : (R b : Int) = (n : Int) - 1 - m
      · rw [if_pos e2]
        have := hd1 a b ha hb (by omega) e2
        omega
      · rw [if_neg e2]
        exact h.ok a b ha hb (by omega) (by omega)
def worL (dp : Int) (B : List Int) : List Int := B.map fun x => dp - x
theorem worL_len (dp : Int) (B : List Int) : (worL dp B).length = B.length := by simp [worL]
theorem worL_get {dp : Int} {B : List Int} {a : Nat} (h : a < B.length) : (worL dp B).getD a 0 = dp - B.getD a 0 := by
  rw [getD_eq (by rw [worL_len]; exact h), getD_eq h]; simp [worL]
theorem NInv.fin {P : List (List Int)} {R : Nat → Nat} {dp : Int} {B W : List Int} (hn : P.length ≤ 6) (h : NInv (DP P) P.length R P.length dp B W) : RngP P.length (worL dp B) W ∧ NumP P (worL dp B) W := by
  have hb := bdN_le hn
  have hdp := h.dp1
  have hdp0 := h.dp0
  have hlb := h.lb
  refine ⟨⟨by rw [worL_len]; exact h.lb, h.lw, fun a ha => ?_, fun a ha => ?_⟩, fun a b ha hb => ?_⟩
  · obtain ⟨q1, q2, q3⟩ := h.bb a ha (by omega)
    rw [worL_get (by omega)]; omega
  · obtain ⟨q1, q2, q3⟩ := h.bb a ha (by omega)
    omega
  · have := h.ok a b ha hb (by omega) (by omega)
    show (worL dp B).getD b 0 ≤ (worL dp B).getD a 0 - W.getD a 0 * DP P a b
    rw [worL_get (by omega), worL_get (by omega)]; omega
end Go.Proofs.Yteopjpfhhekkoaa.Tt

/- Numbers by ranks: the walks. -/
namespace Go.Proofs.Yteopjpfhhekkoaa.Tt
open Go Go.Abs Go.Mth
set_option linter.unusedVariables false
set_option linter.unusedSimpArgs false
attribute [local irreducible] gOK WS WC WR WD Ends FS YS OpV seqK blockK loopK midK retK rdK asgK rangeEnd sat Cell
section
variable {M : HL} {n0 : Nat} {H : Heap} {v w u x y : Value}
end
end Go.Proofs.Yteopjpfhhekkoaa.Tt

/- Numbers, Agrees; numbered. -/
namespace Go.Abs
set_option linter.unusedSectionVars false
variable [Globs]
open Go
section
theorem KCell.readN' {M : HL} {n : Nat} {H : Heap} {b o u k : Nat} {vs : List Value} (h : KCell M b o u vs) (hH : hasH M n H) (hk : vs.length = k) : H.readN ⟨b, o, some u⟩ k = some vs := by
  obtain ⟨ch, lo, cs, q1, q2, q3, q4, q5⟩ := h
  subst hk
  rw [hH.readN q1 q2 q3 q4, q5]
end
end Go.Abs
namespace Go.Proofs.Yteopjpfhhekkoaa.Tt
open Go Go.Abs Go.Mth
set_option linter.unusedVariables false
set_option linter.unusedSimpArgs false
def NumOut (M : HL) (g : Int) (S : List Sal) (e : Value) : Prop := ∃ a b, e = .tuple #[a, b, .int .i64 (if errS g S ≠ 0 then errS g S else if tasteB (matS S) = true then 0 else 13)] ∧ one a = true ∧ one b = true ∧
  ((errS g S = 0 ∧ tasteB (matS S) = true ∧ ∃ W V, RngP S.length W V ∧ NumP (matS S) W V ∧ Sl M 1 a (ints W) ∧ Sl M 1 b (ints V)) ∨ ((errS g S ≠ 0 ∨ tasteB (matS S) = false) ∧ a = .slice none 0 0 ∧ b = .slice none 0 0))
attribute [local irreducible] gOK WS WC WR WD Ends FS YS OpV seqK blockK loopK midK retK rdK asgK rangeEnd sat Cell
section
variable {M : HL} {n0 : Nat} {H : Heap} {v w u : Value}
end
end Go.Proofs.Yteopjpfhhekkoaa.Tt

/- Pairs of numbers that are compared. -/
namespace Go.Abs
set_option linter.unusedSectionVars false
variable [Globs]
open Go
set_option linter.unusedSimpArgs false
section
variable {C : CW} {L : Env} {H : Heap}
end
section
variable {C : CW} {L : Env} {H : Heap}
theorem OpV.eqB {dst : Option Tmp} {x y : Operand} {ty ty2 ty3 : TypeId} {pos : String} {af : Array Edge} {g : Option (Nat × Bool)} {a b : Bool} (e2 : pureRun C.c.P (binOp .eql ty (.bool a) (.bool b)) = some (.bool (a == b))) (hx : ev L x = some (.bool a)) (hy : ev L y = some (.bool b)) :
    OpV C (.plain ⟨dst, .binOp .eql ty x y ty2, ty3, pos, af, g⟩) L H (.bool (a == b)) H := by
  refine OpV.plain (fun t ht => ?_) (fun t ht => by simp [Op.operands, ev_ok ht hx, ev_ok ht hy, plainV, plain1]) rfl
  have e1 : pureRun C.c.P (eqGuard .eql ty x y (.bool a) (.bool b)) = some () := rfl
  simp only [pureNext, execOp, ev_ok ht hx, ev_ok ht hy, pureRun_bind, e1, e2, Option.bind_some]
  rfl
end
end Go.Abs

/- What the laws share. -/
namespace Go.Abs
set_option linter.unusedSectionVars false
open Go
section
variable [Globs] {C : CW} {nt : Nat} {L : Env} {D : List Nat} {H H' : Heap} {K : St → Prop} {M M' : HL} {n i d : Nat} {gd : Option (Tmp × Bool)} {lo : List Nat} {l : List POp} {rs : List Rd}
theorem WD.append {e sz : Nat} {s x : Operand} {v y : Value} {cs : List Value} {Mx M0 : HL} {k : Nat} {new : List Value} (hg : gOK L gd) (hd : Nat.blt d nt = true) (hs : ev L s = some v) (hy : ev L x = some y)
    (hO : Own e sz v cs Mx) (hH : hasH M n H) (hM : M'.Sublist M) (hp : M'.Perm (Mx ++ M0)) (hk : srcLen y = some k) (hx : srcCells H sz k y = some new) (hl : new.length = k * sz) (h1 : 1 ≤ k) (hone : new.all one = true) (hs1 : 1 ≤ sz) (hs2 : sz ≤ 1000)
    (hsm : cs.length + new.length ≤ 100000) (kk : ∀ v' Mx' n' H', OwnR e sz v' (cs ++ new) Mx' → hasH (Mx' ++ M0) n' H' → n ≤ n' → stands H' lo rs = true ∧ WD C nt l rs ((d, v') :: L) D H' K) :
    WD C nt (⟨i, some d, .append e sz s x, gd, lo⟩ :: l) rs L D H K := by
  obtain ⟨v', Mx', n', H', q1, q2, q3, q4⟩ := append_ownR (P := C.c.P) hO ((hH.sub hM).perm hp) hk hx hl h1 hone hs1 hs2 hsm
  obtain ⟨k1, k2⟩ := kk v' Mx' n' H' q2 q3 q4
  refine WD.op hg hd (H' := H') (v := v') (fun t ht => ?_) rfl k1 k2
  simp only [opA, ev_ok ht hs, ev_ok ht hy, q1]
theorem WD.append1F {j d2 : Nat} {e : Nat} {z : List Value} {s x : Operand} {lo2 : List Nat} {v y : Value} {cs : List Value} {new : Value} (F Mx T : HL) (hd : Nat.blt d nt = true) (hd2 : Nat.blt d2 nt = true)
    (hx : ev L x = some y) (hs : ev ((d, .slice (some ⟨n, 0, some 0⟩) 1 (2 * 1 + 1)) :: L) s = some v) (hO : Own e 1 v cs Mx) (hH : hasH (F ++ (Mx ++ T)) n H)
    (hc : Instr.fill (fun j => some (j * 1, 1)) z.toArray [(0, y)] = some [new].toArray) (hone : one new = true) (hsm : cs.length + 1 ≤ 100000)
    (hst : ∀ H', hasH ((n, .row e 0 0 [new]) :: (F ++ (Mx ++ T))) (n + 1) H' → stands H' lo rs = true)
    (kk : ∀ v' Mx' n' H', OwnR e 1 v' (cs ++ [new]) Mx' → hasH (F ++ (Mx' ++ T)) n' H' → n ≤ n' → stands H' lo2 rs = true ∧ WD C nt l rs ((d2, v') :: (d, .slice (some ⟨n, 0, some 0⟩) 1 (2 * 1 + 1)) :: L) D H' K) :
    WD C nt (⟨i, some d, .bldS e 1 z 1 [(0, x)], none, lo⟩ :: ⟨j, some d2, .append e 1 s (.tmp d), none, lo2⟩ :: l) rs L D H K := by
  refine WD.bldS True.intro hd hH (vs := [(0, y)]) (by simp only [evp, hx]) hc (by simp [hone]) hst fun H1 hH1 => ?_
  have hx2 : srcCells H1 1 1 (.slice (some ⟨n, 0, some 0⟩) 1 (2 * 1 + 1)) = some [new] := by
    have := hH1.readN (b := n) (u := 0) (lo := 0) (o := 0) (k := 1 * 1) (ch := .row e 0 0 [new]) (cs := [new]) (by simp) (.row _ _ _ _) (Nat.le_refl _) (by simp)
    simpa [srcCells] using this
  have hy : ev ((d, .slice (some ⟨n, 0, some 0⟩) 1 (2 * 1 + 1)) :: L) (.tmp d) = some (.slice (some ⟨n, 0, some 0⟩) 1 (2 * 1 + 1)) := by simp [ev, Env.get]
  refine WD.append True.intro hd2 hs hy hO hH1 (M' := F ++ (Mx ++ T)) (List.sublist_cons_self _ _) (M0 := F ++ T) (List.perm_append_comm_assoc F Mx T) rfl hx2 (by simp) (Nat.le_refl _) (by simp [hone]) (Nat.le_refl _) (by omega) (by simpa using hsm) fun v' Mx' n' H' q1 q2 q3 => ?_
  exact kk v' Mx' n' H' q1 (q2.perm (List.perm_append_comm_assoc Mx' F T)) (by omega)
end
end Go.Abs
namespace Go.Proofs.Yteopjpfhhekkoaa.Tt
open Go Go.Abs Go.Mth
set_option linter.unusedVariables false
set_option linter.unusedSimpArgs false
theorem eqlB : ∀ a b : Bool, pureRun C.c.P (binOp .eql 4 (.bool a) (.bool b)) = some (.bool (a == b)) := by
  intro a b
  cases a <;> cases b <;> kernel_rfl
theorem nq4 : ∀ a b : Bool, pureRun C.c.P (binOp .neq 4 (.bool a) (.bool b)) = some (.bool (a != b)) := by
  intro a b
  cases a <;> cases b <;> kernel_rfl
theorem numsK_one (kk : IntKind) (l : List Nat) : (numsK kk l).all one = true := by
  rw [List.all_eq_true]; intro q hq; obtain ⟨z, _, rfl⟩ := List.mem_map.1 hq; rfl
theorem err0 {g : Nat} {S : List Sal} (h : OKS g S) : errS (g : Int) S = 0 := errS_zero.2 ⟨g, rfl, h⟩
theorem NumOut.ok {M : HL} {g : Nat} {S : List Sal} {e : Value} (hok : OKS g S) (h : NumOut M g S e) : ∃ a b, one a = true ∧ one b = true ∧ ((tasteB (matS S) = true ∧ e = .tuple #[a, b, .int .i64 0] ∧ ∃ W V, RngP S.length W V ∧ NumP (matS S) W V ∧ Sl M 1 a (ints W) ∧ Sl M 1 b (ints V)) ∨
    (tasteB (matS S) = false ∧ a = .slice none 0 0 ∧ b = .slice none 0 0 ∧ e = .tuple #[a, b, .int .i64 13])) := by
  obtain ⟨a, b, he, ha, hb, hc⟩ := h
  rw [if_neg (not_not_intro (err0 hok))] at he
  refine ⟨a, b, ha, hb, ?_⟩
  rcases hc with ⟨_, h2, h3⟩ | ⟨h1, h2, h3⟩
  · rw [if_pos h2] at he; exact .inl ⟨h2, he, h3⟩
  · rcases h1 with h1 | h1
    · exact absurd (err0 hok) h1
    · rw [h1, if_neg (by decide)] at he; exact .inr ⟨h1, h2, h3, he⟩
theorem RingOut.ok {M : HL} {g : Nat} {S : List Sal} {e : Value} (hok : OKS g S) (h : RingOut M g S e) : ∃ u, one u = true ∧ ((tasteB (matS S) = true ∧ u = .slice none 0 0 ∧ e = .tuple #[u, .int .i64 13]) ∨ (tasteB (matS S) = false ∧ e = .tuple #[u, .int .i64 0] ∧ ∃ z, firstRing (matS S) = some z ∧ Sl M 1 u (nodes z))) := by
  obtain ⟨u, he, hu, hc⟩ := h
  rw [if_neg (not_not_intro (err0 hok))] at he
  refine ⟨u, hu, ?_⟩
  rcases hc with ⟨_, z, h2, h3⟩ | ⟨h1, h2⟩
  · have htb : tasteB (matS S) = false := by rw [tasteB, h2]; rfl
    rw [htb, if_neg (by decide)] at he
    exact .inr ⟨htb, he, z, h2, h3⟩
  · rcases h1 with h1 | h1
    · exact absurd (err0 hok) h1
    · rw [if_pos h1] at he; exact .inl ⟨h1, h2, he⟩
theorem RanksOut.ok {M : HL} {g : Nat} {S : List Sal} {e : Value} (hok : OKS g S) (h : RanksOut M g S e) : ∃ u, one u = true ∧ ((tasteB (matS S) = false ∧ u = .slice none 0 0 ∧ e = .tuple #[u, .int .i64 13]) ∨ (tasteB (matS S) = true ∧ e = .tuple #[u, .int .i64 0] ∧ Sl M 1 u (nodes (rkL (DP (matS S)) S.length)))) := by
  obtain ⟨u, he, hu, hc⟩ := h
  rw [if_neg (not_not_intro (err0 hok))] at he
  refine ⟨u, hu, ?_⟩
  rcases hc with ⟨_, h2, h3⟩ | ⟨h1, h2⟩
  · rw [if_pos h2] at he
    rw [matS_len] at h3
    exact .inr ⟨h2, he, h3⟩
  · rcases h1 with h1 | h1
    · exact absurd (err0 hok) h1
    · rw [h1, if_neg (by decide)] at he; exact .inl ⟨h1, h2, he⟩
end Go.Proofs.Yteopjpfhhekkoaa.Tt

/- The fewest sales that have to be left out. -/
namespace Go.Proofs.Yteopjpfhhekkoaa.Tt
open Go Go.Abs Go.Mth
set_option linter.unusedVariables false
set_option linter.unusedSimpArgs false
def outK (s k : Nat) : List Nat := (List.range k).filter fun i => s.testBit i
def keepK (s k : Nat) : List Nat := (List.range k).filter fun i => !s.testBit i
theorem outK_succ (s k : Nat) : outK s (k + 1) = outK s k ++ if s.testBit k = true then [k] else [] := by
  unfold outK
  rw [List.range_succ, List.filter_append]
  congr 1
  by_cases h : s.testBit k = true
  · rw [if_pos h]; simp only [List.filter, h]
  · rw [if_neg h, Bool.not_eq_true] at *; simp only [List.filter, h]
theorem keepK_succ (s k : Nat) : keepK s (k + 1) = keepK s k ++ if s.testBit k = true then [] else [k] := by
  unfold keepK
  rw [List.range_succ, List.filter_append]
  congr 1
  by_cases h : s.testBit k = true
  · rw [if_pos h]; simp only [List.filter, h, Bool.not_true]
  · rw [if_neg h, Bool.not_eq_true] at *; simp only [List.filter, h, Bool.not_false]
theorem outK_len (s k : Nat) : (outK s k).length ≤ k := Nat.le_trans (List.length_filter_le _ _) (by simp)
theorem keepK_len (s k : Nat) : (keepK s k).length ≤ k := Nat.le_trans (List.length_filter_le _ _) (by simp)
theorem outK_lt {s k : Nat} : ∀ x ∈ outK s k, x < k := fun x hx => List.mem_range.1 (List.mem_filter.1 hx).1
theorem keepK_lt {s k : Nat} : ∀ x ∈ keepK s k, x < k := fun x hx => List.mem_range.1 (List.mem_filter.1 hx).1
theorem mem_outK {s k x : Nat} : x ∈ outK s k ↔ x < k ∧ s.testBit x = true := by simp [outK]
theorem mem_keepK {s k x : Nat} : x ∈ keepK s k ↔ x < k ∧ s.testBit x = false := by simp [keepK]
def pickR (P : List (List Int)) (K : List Nat) (a : Nat) : List Int := K.map fun b => (P.getD a []).getD b 0
def pickP (P : List (List Int)) (K : List Nat) : List (List Int) := K.map (pickR P K)
theorem pickR_len (P : List (List Int)) (K : List Nat) (a : Nat) : (pickR P K a).length = K.length := by simp [pickR]
theorem pickP_len (P : List (List Int)) (K : List Nat) : (pickP P K).length = K.length := by simp [pickP]
theorem pickP_get {P : List (List Int)} {K : List Nat} {i : Nat} (h : i < K.length) : (pickP P K).getD i [] = pickR P K (K.getD i 0) := by
  rw [getD_eq (by rw [pickP_len]; exact h), getD_eq h]; simp [pickP]
theorem pickR_get {P : List (List Int)} {K : List Nat} {a j : Nat} (h : j < K.length) : (pickR P K a).getD j 0 = (P.getD a []).getD (K.getD j 0) 0 := by
  rw [getD_eq (by rw [pickR_len]; exact h), getD_eq h]; simp [pickR]
theorem SqP.pick {P : List (List Int)} {K : List Nat} (h : SqP P) (hK : K.length ≤ 6) : SqP (pickP P K) := by
  refine ⟨by rw [pickP_len]; exact hK, fun i hi => ?_, fun i j => ?_⟩
  · rw [pickP_len] at hi ⊢; rw [pickP_get hi, pickR_len]
  · by_cases hi : i < K.length
    · rw [pickP_get hi]
      by_cases hj : j < K.length
      · rw [pickR_get hj]; exact h.bd _ _
      · rw [List.getD_eq_getElem?_getD (l := pickR _ _ _), List.getElem?_eq_none (by rw [pickR_len]; omega)]; decide
    · rw [List.getD_eq_getElem?_getD (l := pickP P K), List.getElem?_eq_none (by rw [pickP_len]; omega)]; simp
theorem pick_DP {P : List (List Int)} {K : List Nat} {i j : Nat} (hi : i < K.length) (hj : j < K.length) : DP (pickP P K) i j = DP P (K.getD i 0) (K.getD j 0) := by
  unfold DP; rw [pickP_get hi, pickR_get hi, pickR_get hj]
def pickS (S : List Sal) (K : List Nat) : List Sal := K.map fun i => S.getD i noSal
theorem pickS_len (S : List Sal) (K : List Nat) : (pickS S K).length = K.length := by simp [pickS]
theorem pickS_get {S : List Sal} {K : List Nat} {i : Nat} (h : i < K.length) : (pickS S K).getD i noSal = S.getD (K.getD i 0) noSal := by
  rw [getD_eq (by rw [pickS_len]; exact h), getD_eq h]; simp [pickS]
theorem pick_mat {S : List Sal} {K : List Nat} (hK : ∀ x ∈ K, x < S.length) : matS (pickS S K) = pickP (matS S) K := by
  refine ext_getD (a := []) (by rw [matS_len, pickS_len, pickP_len]) fun i hi => ?_
  rw [matS_len, pickS_len] at hi
  rw [matS_get (by rw [pickS_len]; exact hi), pickP_get hi]
  have hki := hK _ (getD_mem (a := 0) hi)
  refine ext_getD (a := 0) (by rw [rowS_len, pickS_len, pickR_len]) fun j hj => ?_
  rw [rowS_len, pickS_len] at hj
  have hkj := hK _ (getD_mem (a := 0) hj)
  rw [rowS_get (by rw [pickS_len]; exact hj), pickR_get hj, matS_get hki, rowS_get hkj]
  unfold cs
  rw [pickS_get hi, pickS_get hj]
theorem OKS.pick {g : Nat} {S : List Sal} {K : List Nat} (h : OKS g S) (hK : ∀ x ∈ K, x < S.length) (hl : K.length ≤ 6) : OKS g (pickS S K) := by
  have key : ∀ i, i < (pickS S K).length → (pickS S K).getD i noSal = S.getD (K.getD i 0) noSal ∧ K.getD i 0 < S.length := fun i hi => by
    rw [pickS_len] at hi
    exact ⟨pickS_get hi, hK _ (getD_mem hi)⟩
  refine ⟨h.g1, h.g3, by rw [pickS_len]; exact hl, fun i hi => ?_, fun i hi => ?_, fun i hi => ?_, fun i hi => ?_⟩ <;> obtain ⟨k1, k2⟩ := key i hi <;> rw [k1]
  · exact h.lp _ k2
  · exact h.lt _ k2
  · exact h.bp _ k2
  · exact h.bt _ k2
def okW (P : List (List Int)) (s : Nat) : Bool := tasteB (pickP P (keepK s P.length))
def WrongP (P : List (List Int)) (l : List Nat) : Prop := ∃ s, s < 2 ^ P.length ∧ okW P s = true ∧ l = outK s P.length
def BestW (P : List (List Int)) (l : List Nat) : Prop := LeastP (WrongP P) l
structure WInv (P : List (List Int)) (k : Nat) (l : List Nat) : Prop where
  is : WrongP P l
  no : ∀ s, s < k → okW P s = true → ¬ ordN (outK s P.length) l
theorem ordN_trans_not {a b c : List Nat} (h : ordN a b) (k : ¬ ordN c b) : ¬ ordN c a := by
  intro q
  apply k
  rcases q with q | ⟨q1, q2⟩ <;> rcases h with h | ⟨h1, h2⟩
  · exact .inl (by omega)
  · exact .inl (by omega)
  · exact .inl (by omega)
  · refine .inr ⟨by omega, ?_⟩
    rw [← lexN_C] at q2 h2 ⊢
    exact lex_trans _ _ _ q2 h2
theorem full_all {n : Nat} : ∀ i, i < n → (2 ^ n - 1).testBit i = true := fun i hi => by
  rw [Nat.testBit_two_pow_sub_one]; simpa using hi
theorem keep_full (n : Nat) : keepK (2 ^ n - 1) n = [] := by
  rw [List.eq_nil_iff_forall_not_mem]
  intro x hx
  obtain ⟨h1, h2⟩ := mem_keepK.1 hx
  rw [full_all x h1] at h2; cases h2
theorem WInv.zero (P : List (List Int)) : WInv P 0 (outK (2 ^ P.length - 1) P.length) :=
  ⟨⟨_, Nat.sub_lt (Nat.two_pow_pos _) (by omega), by rw [okW, keep_full]; rfl, rfl⟩, fun s h => absurd h (Nat.not_lt_zero _)⟩
theorem WInv.take {P : List (List Int)} {k : Nat} {l : List Nat} (h : WInv P k l) (hk : k < 2 ^ P.length) (hok : okW P k = true) (ho : ordN (outK k P.length) l) : WInv P (k + 1) (outK k P.length) := by
  refine ⟨⟨k, hk, hok, rfl⟩, fun s hs hsk => ?_⟩
  by_cases e : s = k
  · rw [e]; exact ordN_irr _
  · exact ordN_trans_not ho (h.no s (by omega) hsk)
theorem WInv.skip {P : List (List Int)} {k : Nat} {l : List Nat} (h : WInv P k l) (ho : ¬ (okW P k = true ∧ ordN (outK k P.length) l)) : WInv P (k + 1) l := by
  refine ⟨h.is, fun s hs hsk => ?_⟩
  by_cases e : s = k
  · rw [e] at hsk ⊢; exact fun q => ho ⟨hsk, q⟩
  · exact h.no s (by omega) hsk
theorem out_ge {P : List (List Int)} {l : List Nat} (h : WrongP P l) : ¬ ordN (outK (2 ^ P.length - 1) P.length) l := by
  obtain ⟨s, hs, _, rfl⟩ := h
  have hfull : outK (2 ^ P.length - 1) P.length = List.range P.length := List.filter_eq_self.2 fun x hx => full_all x (List.mem_range.1 hx)
  rw [hfull]
  intro q
  have hle := outK_len s P.length
  rcases q with q | ⟨q1, q2⟩
  · rw [List.length_range] at q; omega
  · rw [List.length_range] at q1
    have : outK s P.length = List.range P.length := by
      have hsub : (outK s P.length).Sublist (List.range P.length) := List.filter_sublist
      exact hsub.eq_of_length (by rw [List.length_range]; omega)
    rw [this] at q2
    exact lexN_irr _ q2
theorem WInv.fin {P : List (List Int)} {l : List Nat} (h : WInv P (2 ^ P.length - 1) l) : BestW P l := by
  refine ⟨h.is, fun m ⟨s, hs, hok, hm⟩ => ?_⟩
  by_cases e : s = 2 ^ P.length - 1
  · rw [hm, e]; exact out_ge h.is
  · rw [hm]; exact h.no s (by omega) hok
theorem WInv.fin' {P : List (List Int)} {l : List Nat} (h : WInv P (2 ^ P.length) l) : BestW P l :=
  ⟨h.is, fun m ⟨s, hs, hok, hm⟩ => by rw [hm]; exact h.no s hs hok⟩
theorem WrongP.len {P : List (List Int)} {l : List Nat} (h : WrongP P l) : l.length ≤ P.length ∧ ∀ x ∈ l, x < P.length := by
  obtain ⟨s, _, _, rfl⟩ := h
  exact ⟨outK_len _ _, outK_lt⟩
structure DV where
  k : Nat
  a : Value
  b : Value
  Ma : HL
  Mb : HL
  n : Nat
structure WV where
  k : Nat
  v : Value
  l : List Nat
  Mx : HL
  n : Nat
end Go.Proofs.Yteopjpfhhekkoaa.Tt

/- divide, only, isBefore, wrong, Wrong. -/
namespace Go.Proofs.Yteopjpfhhekkoaa.Tt
open Go Go.Abs Go.Mth
set_option linter.unusedVariables false
set_option linter.unusedSimpArgs false
theorem bit_and1 (c a : Nat) : decide (((((c >>> a) &&& 1 : Nat) : Int)) = 1) = c.testBit a := by
  by_cases h : c.testBit a = true
  · rw [h, decide_eq_true (shr_and_one.2 h)]
  · rw [Bool.not_eq_true] at h
    rw [h, decide_eq_false fun k => by rw [shr_and_one.1 k] at h; cases h]
attribute [local irreducible] gOK WS WC WR WD Ends FS YS OpV seqK blockK loopK midK retK rdK asgK rangeEnd sat Cell
section
variable {M : HL} {n0 : Nat} {H : Heap} {v w : Value}
set_option maxHeartbeats 1000000 in
theorem divide_fs (hH : hasH M n0 H) {P : List (List Int)} (hP : SqP P) (hR : RowsI M v P) {s : Nat} (hs : s < 2 ^ P.length) :
    FS C 98 [v, .int .i64 (s : Int)] H (fun e H' => ∃ n' a b Ma Mb, n0 ≤ n' ∧ hasH (Ma ++ (Mb ++ M)) n' H' ∧ Own 3 1 a (nodes (outK s P.length)) Ma ∧ Own 3 1 b (nodes (keepK s P.length)) Mb ∧ e = .tuple #[a, b]) := by
  obtain ⟨cws, hcS, hcl, hcrow⟩ := hR
  have hlen6 := hP.len
  have hs64 : s < 64 := Nat.lt_of_lt_of_le hs (Nat.pow_le_pow_right (by omega) hlen6)
  refine FS.intro (pf := pf98) rfl rfl rfl ?_
  repeat' (first | refine zP ?_ | refine zA ?_ | (refine zM ?_; intro _ _) | refine zX ?_ | (refine zC ?_; intro _ _ _ _) | (refine zS ?_; intro _ _) | (apply Ws <;> intro hg))
  rw [hcl]
  refine WC.loopX [(0, _), (1, _), (8, _)] (fun z : DV => [(4, z.a), (5, z.b), (9, .int .i64 (z.k : Int))]) [] (fun z H' => z.k ≤ P.length ∧ n0 ≤ z.n ∧ Own 3 1 z.a (nodes (outK s z.k)) z.Ma ∧ Own 3 1 z.b (nodes (keepK s z.k)) z.Mb ∧ hasH (z.Ma ++ (z.Mb ++ M)) z.n H') (fun z => P.length - z.k) ⟨0, .slice none 0 0, .slice none 0 0, [], [], n0⟩ (by repeat' (first | exact .nil | refine .cons rfl ?_)) rfl
    ⟨Nat.zero_le _, Nat.le_refl _, .nil, .nil, hH⟩ ?_
  clear hH
  rintro ⟨k, va, vb, Ma, Mb, n1⟩ H1 ⟨hk, hn1, hOa, hOb, hH1⟩
  simp only at hk hn1 hOa hOb hH1
  dsimp only [List.cons_append, List.nil_append]
  repeat' (first | refine zP ?_ | refine zA ?_ | (refine zM ?_; intro _ _) | refine zX ?_ | (refine zC ?_; intro _ _ _ _) | (refine zS ?_; intro _ _) | (apply Ws <;> intro hg))
  refine WC.condP rfl (fun hltk => ?_) (fun hltk => ?_)
  · have hk' : k < P.length := by omega
    have hl1 := outK_len s k
    have hl2 := keepK_len s k
    have hsu1 := outK_succ s k
    have hsu2 := keepK_succ s k
    repeat' (first | refine zP ?_ | refine zA ?_ | (refine zM ?_; intro _ _) | refine zX ?_ | (refine zC ?_; intro _ _ _ _) | (refine zS ?_; intro _ _) | (apply Ws <;> intro hg))
    refine WR.op (by first | exact gN | exact gS rfl) rfl (OpV.shrN rfl rfl (by show k ≤ 64; omega)) ?_
    repeat' (first | refine zP ?_ | refine zA ?_ | (refine zM ?_; intro _ _) | refine zX ?_ | (refine zC ?_; intro _ _ _ _) | (refine zS ?_; intro _ _) | (apply Ws <;> intro hg))
    have hsh : s >>> k ≤ s := by rw [Nat.shiftRight_eq_div_pow]; exact Nat.div_le_self _ _
    refine WR.op (by first | exact gN | exact gS rfl) rfl (OpV.andN (b := 1) rfl rfl (by show s >>> k < 2 ^ 63; omega) (by decide)) ?_
    repeat' (first | refine zP ?_ | refine zA ?_ | (refine zM ?_; intro _ _) | refine zX ?_ | (refine zC ?_; intro _ _ _ _) | (refine zS ?_; intro _ _) | (apply Ws <;> intro hg))
    rw [bit_and1]
    cases hbt : s.testBit k with
    | true =>
      rw [if_pos hbt] at hsu1 hsu2
      rw [List.append_nil] at hsu2
      repeat' (first | refine zP ?_ | refine zA ?_ | (refine zM ?_; intro _ _) | refine zX ?_ | (refine zC ?_; intro _ _ _ _) | (refine zS ?_; intro _ _) | (apply Ws <;> intro hg))
      refine WR.append1F [] Ma (Mb ++ M) rfl rfl rfl rfl hOa hH1 (new := [.int .i64 (k : Int)]) (by rfl) rfl rfl (Nat.le_refl _) (by omega) (by simp; omega) fun v3 M3 n3 H9 hO3 hH9 hn3 => ?_
      repeat' (first | refine zP ?_ | refine zA ?_ | (refine zM ?_; intro _ _) | refine zX ?_ | (refine zC ?_; intro _ _ _ _) | (refine zS ?_; intro _ _) | (apply Ws <;> intro hg))
      refine Ends.loop ⟨k + 1, v3, vb, M3, Mb, n3⟩ (by simp only; omega) (by repeat' (first | exact .nil | refine .cons rfl ?_)) rfl ⟨by simp only; omega, by simp only; omega, ?_, by simp only; rw [hsu2]; exact hOb, hH9⟩
      simp only
      rw [hsu1, show nodes (outK s k ++ [k]) = nodes (outK s k) ++ [.int .i64 (k : Int)] by simp [nodes]]; exact hO3
    | false =>
      rw [if_neg (by rw [hbt]; decide)] at hsu1 hsu2
      rw [List.append_nil] at hsu1
      repeat' (first | refine zP ?_ | refine zA ?_ | (refine zM ?_; intro _ _) | refine zX ?_ | (refine zC ?_; intro _ _ _ _) | (refine zS ?_; intro _ _) | (apply Ws <;> intro hg))
      refine WR.append1F Ma Mb M rfl rfl rfl rfl hOb hH1 (new := [.int .i64 (k : Int)]) (by rfl) rfl rfl (Nat.le_refl _) (by omega) (by simp; omega) fun v3 M3 n3 H9 hO3 hH9 hn3 => ?_
      repeat' (first | refine zP ?_ | refine zA ?_ | (refine zM ?_; intro _ _) | refine zX ?_ | (refine zC ?_; intro _ _ _ _) | (refine zS ?_; intro _ _) | (apply Ws <;> intro hg))
      refine Ends.loop ⟨k + 1, va, v3, Ma, M3, n3⟩ (by simp only; omega) (by repeat' (first | exact .nil | refine .cons rfl ?_)) rfl ⟨by simp only; omega, by simp only; omega, by simp only; rw [hsu1]; exact hOa, ?_, hH9⟩
      simp only
      rw [hsu2, show nodes (keepK s k ++ [k]) = nodes (keepK s k) ++ [.int .i64 (k : Int)] by simp [nodes]]; exact hO3
  · have hkl : k = P.length := by omega
    subst hkl
    repeat' (first | refine zP ?_ | refine zA ?_ | (refine zM ?_; intro _ _) | refine zX ?_ | (refine zC ?_; intro _ _ _ _) | (refine zS ?_; intro _ _) | (apply Ws <;> intro hg))
    exact Ends.ret2 rfl rfl ⟨n1, va, vb, Ma, Mb, hn1, hH1, hOa, hOb, rfl⟩
set_option maxHeartbeats 2000000 in
theorem only_fs (hH : hasH M n0 H) {P : List (List Int)} (hP : SqP P) (hR : RowsI M v P) {K : List Nat} (hK : Sl M 1 w (nodes K)) (hKl : K.length ≤ 6) (hKb : ∀ x ∈ K, x < P.length) :
    FS C 100 [v, w] H (fun e H' => ∃ n' M2, n0 ≤ n' ∧ hasH (M2 ++ M) n' H' ∧ RowsI (M2 ++ M) e (pickP P K)) := by
  obtain ⟨cws, hcS, hcl, hcrow⟩ := hR
  have hlen6 := hP.len
  have hpl := pickP_len P K
  refine FS.intro (pf := pf100) rfl rfl rfl ?_
  repeat' (first | refine zP ?_ | refine zA ?_ | (refine zM ?_; intro _ _) | refine zX ?_ | (refine zC ?_; intro _ _ _ _) | (refine zS ?_; intro _ _) | (apply Ws <;> intro hg))
  refine WC.loopX [(0, _), (1, _), (11, _), (12, _)] (fun s : CO => [(5, s.v), (13, .int .i64 (s.a : Int))]) [] (fun s H' => s.a ≤ K.length ∧ n0 ≤ s.n ∧ Own 39 1 s.v s.ws s.Mo ∧ RowsP (s.Mi ++ M) s.ws ((pickP P K).take s.a) ∧ hasH (s.Mo ++ (s.Mi ++ M)) s.n H') (fun s => K.length - s.a) ⟨0, .slice none 0 0, [], [], [], n0⟩ (by repeat' (first | exact .nil | refine .cons rfl ?_)) rfl
    ⟨Nat.zero_le _, Nat.le_refl _, .nil, .nil _, hH⟩ ?_
  clear hH
  rintro ⟨a, va, ws, Mo, Mi, n1⟩ H1 ⟨ha, hn1, hO, hRr, hH1⟩
  simp only at ha hn1 hO hRr hH1
  have hK1 : Sl (Mo ++ (Mi ++ M)) 1 w (nodes K) := hK.mono fun q hq => List.mem_append_right _ (List.mem_append_right _ hq)
  dsimp only [List.cons_append, List.nil_append]
  repeat' (first | refine zP ?_ | refine zA ?_ | (refine zM ?_; intro _ _) | refine zX ?_ | (refine zC ?_; intro _ _ _ _) | (refine zS ?_; intro _ _) | (apply Ws <;> intro hg))
  refine WC.condP rfl (fun hlta => ?_) (fun hlta => ?_)
  · have ha' : a < K.length := by omega
    have hka := hKb _ (getD_mem (a := 0) ha')
    have hrl := pickR_len P K (K.getD a 0)
    repeat' (first | refine zP ?_ | refine zA ?_ | (refine zM ?_; intro _ _) | refine zX ?_ | (refine zC ?_; intro _ _ _ _) | (refine zS ?_; intro _ _) | (apply Ws <;> intro hg))
    clear hK1
    refine WC.loopX [(0, _), (1, _), (5, _), (7, .int .i64 (K.getD a 0 : Nat)), (11, _), (12, _), (13, .int .i64 (a : Int)), (17, w), (18, _)] (fun s : CI => [(8, s.v), (19, .int .i64 (s.b : Int))]) [] (fun s H' => s.b ≤ K.length ∧ n1 ≤ s.n ∧ Own 3 1 s.v (ints ((pickR P K (K.getD a 0)).take s.b)) s.Mr ∧ hasH (s.Mr ++ (Mo ++ (Mi ++ M))) s.n H') (fun s => K.length - s.b) ⟨0, .slice none 0 0, [], [], n1⟩ (by repeat' (first | exact .nil | refine .cons rfl ?_)) rfl
      ⟨Nat.zero_le _, Nat.le_refl _, .nil, hH1⟩ ?_
    clear hH1
    rintro ⟨b, vb, Mr, _, n2⟩ H5 ⟨hb, hn2, hOr, hH5⟩
    simp only at hb hn2 hOr hH5
    have hK2 : Sl (Mr ++ (Mo ++ (Mi ++ M))) 1 w (nodes K) := hK.mono fun q hq => List.mem_append_right _ (List.mem_append_right _ (List.mem_append_right _ hq))
    dsimp only [List.cons_append, List.nil_append]
    repeat' (first | refine zP ?_ | refine zA ?_ | (refine zM ?_; intro _ _) | refine zX ?_ | (refine zC ?_; intro _ _ _ _) | (refine zS ?_; intro _ _) | (apply Ws <;> intro hg))
    refine WC.condP rfl (fun hltb => ?_) (fun hltb => ?_)
    · have hb' : b < K.length := by omega
      have hkb := hKb _ (getD_mem (a := 0) hb')
      have hcS2 : Sl (Mr ++ (Mo ++ (Mi ++ M))) 1 v cws := hcS.mono fun q hq => List.mem_append_right _ (List.mem_append_right _ (List.mem_append_right _ hq))
      have hcr := (hcrow _ hka).mono (M' := Mr ++ (Mo ++ (Mi ++ M))) fun q hq => List.mem_append_right _ (List.mem_append_right _ (List.mem_append_right _ hq))
      have hprl := hP.row _ hka
      have hpg := pickR_get (P := P) (a := K.getD a 0) hb'
      repeat' (first | refine zP ?_ | refine zA ?_ | (refine zM ?_; intro _ _) | refine zX ?_ | (refine zC ?_; intro _ _ _ _) | (refine zS ?_; intro _ _) | (apply Ws <;> intro hg))
      rw [← hpg]
      refine WR.append1F [] Mr (Mo ++ (Mi ++ M)) rfl rfl rfl rfl hOr hH5 (new := [.int .i64 ((pickR P K (K.getD a 0)).getD b 0)]) (by rfl) rfl rfl (Nat.le_refl _) (by omega) (by simp [hrl]; omega) fun v3 M3 n3 H9 hO3 hH9 hn3 => ?_
      repeat' (first | refine zP ?_ | refine zA ?_ | (refine zM ?_; intro _ _) | refine zX ?_ | (refine zC ?_; intro _ _ _ _) | (refine zS ?_; intro _ _) | (apply Ws <;> intro hg))
      refine Ends.loop ⟨b + 1, v3, M3, [], n3⟩ (by simp only; omega) (by repeat' (first | exact .nil | refine .cons rfl ?_)) rfl ⟨by simp only; omega, by simp only; omega, ?_, hH9⟩
      simp only
      rw [take_snoc' (d := 0) (by omega)]
      simpa [ints] using hO3
    · have hbl : b = K.length := by omega
      subst hbl
      rw [List.take_of_length_le (by omega)] at hOr
      have hu1 := (hOr.sl M).one_
      have hwsl := hRr.1
      rw [List.length_take, hpl] at hwsl
      repeat' (first | refine zP ?_ | refine zA ?_ | (refine zM ?_; intro _ _) | refine zX ?_ | (refine zC ?_; intro _ _ _ _) | (refine zS ?_; intro _ _) | (apply Ws <;> intro hg))
      refine WR.append1F Mr Mo (Mi ++ M) rfl rfl rfl rfl hO hH5 (new := [vb]) (fill1 hu1) (by simp [hu1]) rfl (Nat.le_refl _) (by omega) (by simp; omega) fun v3 M3 n3 H6 hO3 hH6 hn3 => ?_
      repeat' (first | refine zP ?_ | refine zA ?_ | (refine zM ?_; intro _ _) | refine zX ?_ | (refine zC ?_; intro _ _ _ _) | (refine zS ?_; intro _ _) | (apply Ws <;> intro hg))
      refine Ends.loop ⟨a + 1, v3, ws ++ [vb], M3, Mr ++ Mi, n3⟩ (by simp only; omega) (by repeat' (first | exact .nil | refine .cons rfl ?_)) rfl ⟨by simp only; omega, by simp only; omega, hO3, ?_, hH6.perm (by classical exact List.perm_iff_count.2 (fun a => by simp only [defds, List.map_cons, List.map_nil, List.count_append, List.count_cons, List.count_nil, List.cons_append, List.nil_append, List.append_nil]; omega))⟩
      simp only
      rw [take_snoc' (d := []) (by omega), pickP_get ha']
      refine RowsP.snoc (hRr.mono fun q hq => by rw [List.append_assoc]; exact List.mem_append_right _ hq) ?_
      rw [List.append_assoc]
      exact hOr.sl (Mi ++ M)
  · have hal : a = K.length := by omega
    subst hal
    rw [List.take_of_length_le (by omega)] at hRr
    repeat' (first | refine zP ?_ | refine zA ?_ | (refine zM ?_; intro _ _) | refine zX ?_ | (refine zC ?_; intro _ _ _ _) | (refine zS ?_; intro _ _) | (apply Ws <;> intro hg))
    refine Ends.ret1 rfl ⟨n1, Mo ++ Mi, hn1, by simpa using hH1, ?_⟩
    rw [List.append_assoc]
    exact (hRr.mono fun q hq => List.mem_append_right _ hq).rows (hO.sl (Mi ++ M))
theorem isBefore_fs (hH : hasH M n0 H) {l m : List Nat} (hS : Sl M 1 v (nodes l)) (hU : Sl M 1 w (nodes m)) (hl : l.length ≤ 1000) (hm : m.length ≤ 1000) :
    FS C 99 [v, w] H (fun e H' => H' = H ∧ e = .bool (decide (ordN l m))) := by
  refine FS.intro (pf := pf99) rfl rfl rfl ?_
  repeat' (first | refine zP ?_ | refine zA ?_ | (refine zM ?_; intro _ _) | refine zX ?_ | (refine zC ?_; intro _ _ _ _) | (refine zS ?_; intro _ _) | (apply Ws <;> intro hg))
  refine WC.condP rfl (fun hne => ?_) (fun hne => ?_)
  · repeat' (first | refine zP ?_ | refine zA ?_ | (refine zM ?_; intro _ _) | refine zX ?_ | (refine zC ?_; intro _ _ _ _) | (refine zS ?_; intro _ _) | (apply Ws <;> intro hg))
    refine Ends.ret1 rfl ⟨rfl, ?_⟩
    congr 1
    refine decide_eq_decide.2 ⟨fun h => .inl (by omega), fun h => ?_⟩
    rcases h with h | ⟨h, _⟩ <;> omega
  · repeat' (first | refine zP ?_ | refine zA ?_ | (refine zM ?_; intro _ _) | refine zX ?_ | (refine zC ?_; intro _ _ _ _) | (refine zS ?_; intro _ _) | (apply Ws <;> intro hg))
    refine WR.call (by first | exact gN | exact gS rfl) rfl rfl (CompareN_fs hH hS hU hl hm) ?_
    rintro _ _ ⟨rfl, rfl⟩
    repeat' (first | refine zP ?_ | refine zA ?_ | (refine zM ?_; intro _ _) | refine zX ?_ | (refine zC ?_; intro _ _ _ _) | (refine zS ?_; intro _ _) | (apply Ws <;> intro hg))
    refine Ends.ret1 rfl ⟨rfl, ?_⟩
    congr 1
    rw [decide_eq_decide, lexN_C]
    exact ⟨fun h => .inr ⟨by omega, h⟩, fun h => by rcases h with h | ⟨_, h⟩; omega; exact h⟩
set_option maxHeartbeats 2000000 in
theorem wrong_fs (hH : hasH M n0 H) {P : List (List Int)} (hP : SqP P) (hR : RowsI M v P) :
    FS C 85 [v] H (fun e H' => ∃ n' M2 l, n0 ≤ n' ∧ hasH (M2 ++ M) n' H' ∧ BestW P l ∧ Sl (M2 ++ M) 1 e (nodes l)) := by
  have hRR := hR
  obtain ⟨cws, hcS, hcl, hcrow⟩ := hR
  have hlen6 := hP.len
  have h2n : 1 ≤ 2 ^ P.length ∧ 2 ^ P.length ≤ 64 := ⟨Nat.two_pow_pos _, Nat.le_trans (Nat.pow_le_pow_right (by omega) hlen6) (by decide)⟩
  refine FS.intro (pf := pf85) rfl rfl rfl ?_
  repeat' (first | refine zP ?_ | refine zA ?_ | (refine zM ?_; intro _ _) | refine zX ?_ | (refine zC ?_; intro _ _ _ _) | (refine zS ?_; intro _ _) | (apply Ws <;> intro hg))
  rw [hcl]
  refine WR.op (by first | exact gN | exact gS rfl) rfl (OpV.shl1 rfl rfl (by show P.length ≤ 64; omega) (by show 2 ^ P.length < 2 ^ 63; omega)) ?_
  repeat' (first | refine zP ?_ | refine zA ?_ | (refine zM ?_; intro _ _) | refine zX ?_ | (refine zC ?_; intro _ _ _ _) | (refine zS ?_; intro _ _) | (apply Ws <;> intro hg))
  rw [show ((2 ^ P.length : Nat) : Int) - 1 = ((2 ^ P.length - 1 : Nat) : Int) by omega]
  repeat' (first | refine zP ?_ | refine zA ?_ | (refine zM ?_; intro _ _) | refine zX ?_ | (refine zC ?_; intro _ _ _ _) | (refine zS ?_; intro _ _) | (apply Ws <;> intro hg))
  refine WR.call (by first | exact gN | exact gS rfl) rfl rfl (divide_fs hH hP hRR (s := 2 ^ P.length - 1) (by omega)) ?_
  rintro _ H1 ⟨n1, a, b, Ma, Mb, hn1, hH1, hOa, hOb, rfl⟩
  have ha1 := (hOa.sl []).one_
  have hb1 := (hOb.sl []).one_
  clear hH
  repeat' (first | refine zP ?_ | refine zA ?_ | (refine zM ?_; intro _ _) | refine zX ?_ | (refine zC ?_; intro _ _ _ _) | (refine zS ?_; intro _ _) | (apply Ws <;> intro hg))
  refine WC.loopX [(0, v), (19, _)] (fun s : WV => [(4, s.v), (20, .int .i64 (s.k : Int))]) [] (fun s H' => s.k ≤ 2 ^ P.length - 1 ∧ n0 ≤ s.n ∧ WInv P s.k s.l ∧ Sl s.Mx 1 s.v (nodes s.l) ∧ hasH (s.Mx ++ M) s.n H') (fun s => 2 ^ P.length - 1 - s.k) ⟨0, a, _, Ma, n1⟩ (by repeat' (first | exact .nil | refine .cons rfl ?_)) rfl
    ⟨Nat.zero_le _, hn1, .zero P, by have := hOa.sl []; rwa [List.append_nil] at this, hH1.sub ((List.Sublist.refl _).append (List.sublist_append_right _ _))⟩ ?_
  clear hH1 hOa hOb
  rintro ⟨k, va, l, Mx, n2⟩ H2 ⟨hk, hn2, hI, hSl, hH2⟩
  simp only at hk hn2 hI hSl hH2
  dsimp only [List.cons_append, List.nil_append]
  repeat' (first | refine zP ?_ | refine zA ?_ | (refine zM ?_; intro _ _) | refine zX ?_ | (refine zC ?_; intro _ _ _ _) | (refine zS ?_; intro _ _) | (apply Ws <;> intro hg))
  refine WC.condP rfl (fun hltk => ?_) (fun hltk => ?_)
  · have hk' : k < 2 ^ P.length - 1 := by omega
    repeat' (first | refine zP ?_ | refine zA ?_ | (refine zM ?_; intro _ _) | refine zX ?_ | (refine zC ?_; intro _ _ _ _) | (refine zS ?_; intro _ _) | (apply Ws <;> intro hg))
    refine WR.call (by first | exact gN | exact gS rfl) rfl rfl (divide_fs hH2 hP (hRR.mono fun q hq => List.mem_append_right _ hq) (s := k) (by omega)) ?_
    rintro _ H3 ⟨n3, a, b, Ma, Mb, hn3, hH3, hOa, hOb, rfl⟩
    have ha1 := (hOa.sl []).one_
    have hb1 := (hOb.sl []).one_
    have hSa := hOa.sl (Mb ++ (Mx ++ M))
    have hSb := (hOb.sl (Mx ++ M)).mono (M' := Ma ++ (Mb ++ (Mx ++ M))) fun q hq => List.mem_append_right _ hq
    have hSl2 := hSl.mono (M' := Ma ++ (Mb ++ (Mx ++ M))) fun q hq => List.mem_append_right _ (List.mem_append_right _ (List.mem_append_left _ hq))
    have hol := outK_len k P.length
    have hkl := keepK_len k P.length
    have hll := hI.is.len.1
    clear hH2
    repeat' (first | refine zP ?_ | refine zA ?_ | (refine zM ?_; intro _ _) | refine zX ?_ | (refine zC ?_; intro _ _ _ _) | (refine zS ?_; intro _ _) | (apply Ws <;> intro hg))
    refine WR.call (by first | exact gN | exact gS rfl) rfl rfl (isBefore_fs hH3 hSa hSl2 (by omega) (by omega)) ?_
    rintro _ H4 ⟨rfl, rfl⟩
    have hback : ∀ {n : Nat} {H : Heap}, hasH (Ma ++ (Mb ++ (Mx ++ M))) n H → hasH (Mx ++ M) n H := fun h => h.sub ((List.sublist_append_right _ _).trans (List.sublist_append_right _ _))
    by_cases ho : ordN (outK k P.length) l
    · rw [decide_eq_true ho]
      repeat' (first | refine zP ?_ | refine zA ?_ | (refine zM ?_; intro _ _) | refine zX ?_ | (refine zC ?_; intro _ _ _ _) | (refine zS ?_; intro _ _) | (apply Ws <;> intro hg))
      refine WR.call (by first | exact gN | exact gS rfl) rfl rfl (only_fs hH3 hP (hRR.mono fun q hq => List.mem_append_right _ (List.mem_append_right _ (List.mem_append_right _ hq))) hSb (by omega) keepK_lt) ?_
      rintro e5 H5 ⟨n5, M5, hn5, hH5, hR5⟩
      repeat' (first | refine zP ?_ | refine zA ?_ | (refine zM ?_; intro _ _) | refine zX ?_ | (refine zC ?_; intro _ _ _ _) | (refine zS ?_; intro _ _) | (apply Ws <;> intro hg))
      refine WR.call (by first | exact gN | exact gS rfl) rfl rfl (oneTaste_fs hH5 (hP.pick (K := keepK k P.length) (by omega)) hR5) ?_
      rintro _ H6 ⟨n6, hn6, hH6, rfl⟩
      have hH7 : hasH (Ma ++ (Mb ++ (Mx ++ M))) n6 H6 := hH6.sub (List.sublist_append_right _ _)
      rw [show tasteB (pickP P (keepK k P.length)) = okW P k from rfl]
      cases hok : okW P k with
      | true =>
        repeat' (first | refine zP ?_ | refine zA ?_ | (refine zM ?_; intro _ _) | refine zX ?_ | (refine zC ?_; intro _ _ _ _) | (refine zS ?_; intro _ _) | (apply Ws <;> intro hg))
        refine Ends.loop ⟨k + 1, a, outK k P.length, Ma, n6⟩ (by simp only; omega) (by repeat' (first | exact .nil | refine .cons rfl ?_)) rfl ⟨by simp only; omega, by simp only; omega, hI.take (by omega) hok ho, by have := hOa.sl []; rwa [List.append_nil] at this, ?_⟩
        exact hH7.sub ((List.Sublist.refl _).append ((List.sublist_append_right _ _).trans (List.sublist_append_right _ _)))
      | false =>
        repeat' (first | refine zP ?_ | refine zA ?_ | (refine zM ?_; intro _ _) | refine zX ?_ | (refine zC ?_; intro _ _ _ _) | (refine zS ?_; intro _ _) | (apply Ws <;> intro hg))
        exact Ends.loop ⟨k + 1, va, l, Mx, n6⟩ (by simp only; omega) (by repeat' (first | exact .nil | refine .cons rfl ?_)) rfl ⟨by simp only; omega, by simp only; omega, hI.skip (fun h => by rw [hok] at h; cases h.1), hSl, hback hH7⟩
    · rw [decide_eq_false ho]
      repeat' (first | refine zP ?_ | refine zA ?_ | (refine zM ?_; intro _ _) | refine zX ?_ | (refine zC ?_; intro _ _ _ _) | (refine zS ?_; intro _ _) | (apply Ws <;> intro hg))
      exact Ends.loop ⟨k + 1, va, l, Mx, n3⟩ (by simp only; omega) (by repeat' (first | exact .nil | refine .cons rfl ?_)) rfl ⟨by simp only; omega, by simp only; omega, hI.skip (fun h => ho h.2), hSl, hback hH3⟩
  · have hkl : k = 2 ^ P.length - 1 := by omega
    subst hkl
    repeat' (first | refine zP ?_ | refine zA ?_ | (refine zM ?_; intro _ _) | refine zX ?_ | (refine zC ?_; intro _ _ _ _) | (refine zS ?_; intro _ _) | (apply Ws <;> intro hg))
    exact Ends.ret1 rfl ⟨n2, Mx, l, hn2, hH2, hI.fin, hSl.mono fun q hq => List.mem_append_left _ hq⟩
def WrongOut (M : HL) (g : Int) (S : List Sal) (e : Value) : Prop := ∃ u, e = .tuple #[u, .int .i64 (errS g S)] ∧ one u = true ∧ ((errS g S = 0 ∧ ∃ l, BestW (matS S) l ∧ Sl M 1 u (nodes l)) ∨ (errS g S ≠ 0 ∧ u = .slice none 0 0))
theorem Wrong_fs (hH : hasH M n0 H) {S : List Sal} (hS : SalesI M v S) (hl : LenS S) (g : Int) :
    FS C 39 [.int .i64 g, v] H (fun e H' => ∃ n' M2, n0 ≤ n' ∧ hasH (M2 ++ M) n' H' ∧ WrongOut (M2 ++ M) g S e) := by
  have hv := hS.one_
  have hr := errS_range g S
  refine FS.intro (pf := pf39) rfl rfl rfl ?_
  repeat' (first | refine zP ?_ | refine zA ?_ | (refine zM ?_; intro _ _) | refine zX ?_ | (refine zC ?_; intro _ _ _ _) | (refine zS ?_; intro _ _) | (apply Ws <;> intro hg))
  refine WR.call (by first | exact gN | exact gS rfl) rfl rfl (reckon_fs hH hS hl g) ?_
  rintro _ H2 ⟨n2, M2, u, hn2, hH2, hu, rfl, ⟨he, rfl⟩ | ⟨h0, ⟨k, rfl, hk⟩, hP, hR⟩⟩
  · repeat' (first | refine zP ?_ | refine zA ?_ | (refine zM ?_; intro _ _) | refine zX ?_ | (refine zC ?_; intro _ _ _ _) | (refine zS ?_; intro _ _) | (apply Ws <;> intro hg))
    refine WC.condP rfl (fun he2 => ?_) (fun he2 => ?_)
    · repeat' (first | refine zP ?_ | refine zA ?_ | (refine zM ?_; intro _ _) | refine zX ?_ | (refine zC ?_; intro _ _ _ _) | (refine zS ?_; intro _ _) | (apply Ws <;> intro hg))
      exact Ends.ret2 rfl rfl ⟨n2, M2, hn2, hH2, _, rfl, rfl, .inr ⟨he, rfl⟩⟩
    · exact absurd he he2
  · rw [h0]
    repeat' (first | refine zP ?_ | refine zA ?_ | (refine zM ?_; intro _ _) | refine zX ?_ | (refine zC ?_; intro _ _ _ _) | (refine zS ?_; intro _ _) | refine zO ?_ | (apply Ws <;> intro hg))
    refine WR.call (by first | exact gN | exact gS rfl) rfl rfl (wrong_fs hH2 hP hR) ?_
    rintro e3 H3 ⟨n3, M3, l, hn3, hH3, hB, hSl⟩
    have he31 := hSl.one_
    repeat' (first | refine zP ?_ | refine zA ?_ | (refine zM ?_; intro _ _) | refine zX ?_ | (refine zC ?_; intro _ _ _ _) | (refine zS ?_; intro _ _) | (apply Ws <;> intro hg))
    exact Ends.ret2 rfl rfl ⟨n3, M3 ++ M2, by omega, by simpa using hH3, e3, by rw [h0], he31, .inl ⟨h0, l, hB, by simpa using hSl⟩⟩
theorem WrongOut.ok {M : HL} {g : Nat} {S : List Sal} {e : Value} (hok : OKS g S) (h : WrongOut M g S e) : ∃ u l, one u = true ∧ BestW (matS S) l ∧ Sl M 1 u (nodes l) ∧ e = .tuple #[u, .int .i64 0] := by
  obtain ⟨u, he, hu, ⟨_, l, k1, k2⟩ | ⟨k1, _⟩⟩ := h
  · rw [err0 hok] at he; exact ⟨u, l, hu, k1, k2, he⟩
  · exact absurd (err0 hok) k1
end
end Go.Proofs.Yteopjpfhhekkoaa.Tt

/- TasteLeft. -/
namespace Go.Proofs.Yteopjpfhhekkoaa.Tt
open Go Go.Abs Go.Mth
set_option linter.unusedVariables false
set_option linter.unusedSimpArgs false
def LInv (P : List (List Int)) (k : Nat) (f : Bool) (l : List Nat) : Prop := (f = false ∧ l = [] ∧ ∀ s, s < k → okW P s = false) ∨ (f = true ∧ WInv P k l)
theorem LInv.skip {P : List (List Int)} {k : Nat} {f : Bool} {l : List Nat} (h : LInv P k f l) (hok : okW P k = false) : LInv P (k + 1) f l := by
  rcases h with ⟨h1, h2, h3⟩ | ⟨h1, h2⟩
  · refine .inl ⟨h1, h2, fun s hs => ?_⟩
    by_cases e : s = k
    · rw [e]; exact hok
    · exact h3 s (by omega)
  · exact .inr ⟨h1, h2.skip fun q => by rw [hok] at q; cases q.1⟩
theorem LInv.first {P : List (List Int)} {k : Nat} {l : List Nat} (h : LInv P k false l) (hk : k < 2 ^ P.length) (hok : okW P k = true) : LInv P (k + 1) true (outK k P.length) := by
  rcases h with ⟨_, _, h3⟩ | ⟨h1, _⟩
  · refine .inr ⟨rfl, ⟨k, hk, hok, rfl⟩, fun s hs hsk => ?_⟩
    by_cases e : s = k
    · rw [e]; exact ordN_irr _
    · rw [h3 s (by omega)] at hsk; cases hsk
  · cases h1
theorem LInv.take {P : List (List Int)} {k : Nat} {l : List Nat} (h : LInv P k true l) (hk : k < 2 ^ P.length) (hok : okW P k = true) (ho : ordN (outK k P.length) l) : LInv P (k + 1) true (outK k P.length) := by
  rcases h with ⟨h1, _⟩ | ⟨_, h2⟩
  · cases h1
  · exact .inr ⟨rfl, h2.take hk hok ho⟩
theorem LInv.keep {P : List (List Int)} {k : Nat} {l : List Nat} (h : LInv P k true l) (ho : ¬ ordN (outK k P.length) l) : LInv P (k + 1) true l := by
  rcases h with ⟨h1, _⟩ | ⟨_, h2⟩
  · cases h1
  · exact .inr ⟨rfl, h2.skip fun q => ho q.2⟩
theorem LInv.fin {P : List (List Int)} {f : Bool} {l : List Nat} (h : LInv P (2 ^ P.length) f l) : BestW P l := by
  rcases h with ⟨_, _, h3⟩ | ⟨_, h2⟩
  · have := h3 (2 ^ P.length - 1) (Nat.sub_lt (Nat.two_pow_pos _) (by omega))
    rw [okW, keep_full] at this; cases this
  · exact h2.fin'
theorem LInv.len {P : List (List Int)} {k : Nat} {f : Bool} {l : List Nat} (h : LInv P k f l) : l.length ≤ P.length := by
  rcases h with ⟨_, rfl, _⟩ | ⟨_, h⟩
  · exact Nat.zero_le _
  · exact h.is.len.1
theorem keep_zero (n : Nat) : keepK 0 n = List.range n := List.filter_eq_self.2 fun x _ => by simp
theorem pick_all {P : List (List Int)} (hP : SqP P) : pickP P (List.range P.length) = P := by
  refine ext_getD (a := []) (by rw [pickP_len, List.length_range]) fun i hi => ?_
  rw [pickP_len, List.length_range] at hi
  have hr : ∀ j, j < P.length → (List.range P.length).getD j 0 = j := fun j hj => by rw [getD_eq (by simpa using hj)]; simp
  rw [pickP_get (by simpa using hi), hr i hi]
  refine ext_getD (a := 0) (by rw [pickR_len, List.length_range, hP.row i hi]) fun j hj => ?_
  rw [pickR_len, List.length_range] at hj
  rw [pickR_get (by simpa using hj), hr j hj]
theorem out_nil {s n : Nat} (hs : s < 2 ^ n) (h : outK s n = []) : s = 0 := by
  refine Nat.eq_of_testBit_eq fun i => ?_
  rw [Nat.zero_testBit]
  rcases Nat.lt_or_ge i n with hi | hi
  · cases hb : s.testBit i with
    | false => rfl
    | true => have := mem_outK.2 ⟨hi, hb⟩; rw [h] at this; cases this
  · exact Nat.testBit_lt_two_pow (Nat.lt_of_lt_of_le hs (Nat.pow_le_pow_right (by omega) hi))
theorem out_zero (n : Nat) : outK 0 n = [] := by
  rw [List.eq_nil_iff_forall_not_mem]
  intro x hx
  have := (mem_outK.1 hx).2
  rw [Nat.zero_testBit] at this; cases this
theorem okW_zero {P : List (List Int)} (hP : SqP P) : okW P 0 = tasteB P := by rw [okW, keep_zero, pick_all hP]
theorem wrong_nil {P : List (List Int)} (hP : SqP P) {l : List Nat} (h : BestW P l) : l = [] ↔ tasteB P = true := by
  constructor
  · rintro rfl
    obtain ⟨s, hs, hok, ho⟩ := h.1
    rw [out_nil hs ho.symm, okW_zero hP] at hok
    exact hok
  · intro ht
    have h0 : WrongP P [] := ⟨0, Nat.two_pow_pos _, by rw [okW_zero hP]; exact ht, (out_zero _).symm⟩
    have := h.2 _ h0
    cases l with
    | nil => rfl
    | cons a l => exact absurd (.inl (by simp)) this
end Go.Proofs.Yteopjpfhhekkoaa.Tt

/- Sales that are others again: their taste, and how many of them are wrong. -/
namespace Go.Proofs.Yteopjpfhhekkoaa.Tt
open Go Go.Abs Go.Mth
set_option linter.unusedVariables false
set_option linter.unusedSimpArgs false
theorem sub_len : ∀ {a b : List Nat}, a.Nodup → (∀ x ∈ a, x ∈ b) → a.length ≤ b.length
  | [], b, _, _ => Nat.zero_le _
  | x :: a, b, hn, hs => by
    have hx := hs x (.head _)
    have hn2 := List.nodup_cons.1 hn
    have ih := sub_len (b := b.erase x) hn2.2 fun y hy => (List.mem_erase_of_ne (show y ≠ x from fun e => hn2.1 (e ▸ hy))).2 (hs y (.tail _ hy))
    rw [List.length_erase_of_mem hx] at ih
    have := List.length_pos_of_mem hx
    rw [List.length_cons]; omega
theorem RT.hom {g g' : Nat → Nat → Bool} {n n' : Nat} {f : Nat → Nat} (hf : ∀ a, a < n' → f a < n) (hg : ∀ a b, a < n' → b < n' → g' a b = true → g (f a) (f b) = true) {a b : Nat} (h : RT g' n' a b) : RT g n (f a) (f b) := by
  induction h with
  | refl ha => exact .refl (hf _ ha)
  | step hr hgb hc ih => exact .step ih (hg _ _ hr.lt.2 hc hgb) (hf _ hc)
structure Hom (P P' : List (List Int)) (f : Nat → Nat) : Prop where
  lt : ∀ a, a < P'.length → f a < P.length
  ge : ∀ a b, a < P'.length → b < P'.length → 0 ≤ DP P' a b → 0 ≤ DP P (f a) (f b)
  gt : ∀ a b, a < P'.length → b < P'.length → 0 < DP P' a b → 0 < DP P (f a) (f b)
theorem Hom.taste {P P' : List (List Int)} {f : Nat → Nat} (h : Hom P P' f) (ht : tasteB P = true) : tasteB P' = true := by
  rw [tasteB_iff] at ht ⊢
  rintro ⟨a, b, ha, hb, hD, hr⟩
  exact ht ⟨f a, f b, h.lt a ha, h.lt b hb, h.gt a b ha hb hD, hr.hom h.lt fun p q hp hq hg => gD_iff.2 (h.ge p q hp hq (gD_iff.1 hg))⟩
theorem bits_of (p : Nat → Bool) : ∀ n, ∃ s, s < 2 ^ n ∧ ∀ a, a < n → s.testBit a = p a
  | 0 => ⟨0, by simp, fun a h => absurd h (Nat.not_lt_zero _)⟩
  | n + 1 => by
    obtain ⟨s, hs, hb⟩ := bits_of p n
    have hp : 2 ^ (n + 1) = 2 ^ n * 2 := Nat.pow_succ _ _
    cases hpn : p n with
    | false =>
      refine ⟨s, by omega, fun a ha => ?_⟩
      by_cases e : a = n
      · subst e; rw [hpn]; exact Nat.testBit_lt_two_pow hs
      · exact hb a (by omega)
    | true =>
      refine ⟨2 ^ n + s, by omega, fun a ha => ?_⟩
      by_cases e : a = n
      · subst e; rw [Nat.testBit_two_pow_add_eq, Nat.testBit_lt_two_pow hs, hpn]; rfl
      · rw [Nat.testBit_two_pow_add_gt (by omega)]; exact hb a (by omega)
theorem outK_nodup (s k : Nat) : (outK s k).Nodup := List.Pairwise.filter _ List.nodup_range
theorem Hom.wrong {P P' : List (List Int)} {f : Nat → Nat} (h : Hom P P' f) (hinj : ∀ a b, a < P'.length → b < P'.length → f a = f b → a = b) {l l' : List Nat} (hl : BestW P l) (hl' : BestW P' l') : l'.length ≤ l.length := by
  obtain ⟨s, hs, hok, rfl⟩ := hl.1
  obtain ⟨s', hs', hb⟩ := bits_of (fun a => s.testBit (f a)) P'.length
  have hkeep : ∀ i, ∃ k, i < (keepK s' P'.length).length → k < (keepK s P.length).length ∧ (keepK s P.length).getD k 0 = f ((keepK s' P'.length).getD i 0) := fun i => by
    by_cases hi : i < (keepK s' P'.length).length
    · have hm := mem_keepK.1 (getD_mem (a := 0) hi)
      have hm2 : f ((keepK s' P'.length).getD i 0) ∈ keepK s P.length := mem_keepK.2 ⟨h.lt _ hm.1, by rw [← hb _ hm.1]; exact hm.2⟩
      obtain ⟨k, hk, he⟩ := mem_at hm2
      exact ⟨k, fun _ => ⟨hk, he⟩⟩
    · exact ⟨0, fun k => absurd k hi⟩
  have hφ : ∀ i, i < (keepK s' P'.length).length → Classical.choose (hkeep i) < (keepK s P.length).length ∧ (keepK s P.length).getD (Classical.choose (hkeep i)) 0 = f ((keepK s' P'.length).getD i 0) := fun i => Classical.choose_spec (hkeep i)
  have hm : ∀ i, i < (keepK s' P'.length).length → (keepK s' P'.length).getD i 0 < P'.length := fun i hi => (mem_keepK.1 (getD_mem (a := 0) hi)).1
  have hom : Hom (pickP P (keepK s P.length)) (pickP P' (keepK s' P'.length)) (fun i => Classical.choose (hkeep i)) := by
    refine ⟨fun i hi => ?_, fun i j hi hj hD => ?_, fun i j hi hj hD => ?_⟩
    · rw [pickP_len] at hi ⊢; exact (hφ i hi).1
    · rw [pickP_len] at hi hj
      rw [pick_DP hi hj] at hD
      rw [pick_DP (hφ i hi).1 (hφ j hj).1, (hφ i hi).2, (hφ j hj).2]
      exact h.ge _ _ (hm i hi) (hm j hj) hD
    · rw [pickP_len] at hi hj
      rw [pick_DP hi hj] at hD
      rw [pick_DP (hφ i hi).1 (hφ j hj).1, (hφ i hi).2, (hφ j hj).2]
      exact h.gt _ _ (hm i hi) (hm j hj) hD
  have hok' : okW P' s' = true := hom.taste hok
  have hno := hl'.2 _ ⟨s', hs', hok', rfl⟩
  have h1 : l'.length ≤ (outK s' P'.length).length := by
    apply Nat.not_lt.1
    intro k
    exact hno (.inl k)
  have h2 : ((outK s' P'.length).map f).length ≤ (outK s P.length).length := sub_len (by
    refine List.pairwise_map.2 ?_
    refine (outK_nodup s' P'.length).imp_of_mem fun {a b} ha hb2 hne e => hne (hinj a b (mem_outK.1 ha).1 (mem_outK.1 hb2).1 e)) fun x hx => by
    obtain ⟨a, ha, rfl⟩ := List.mem_map.1 hx
    have := mem_outK.1 ha
    exact mem_outK.2 ⟨h.lt a this.1, by rw [← hb a this.1]; exact this.2⟩
  rw [List.length_map] at h2
  omega
theorem cs_eq {S S' : List Sal} {a b p q : Nat} (ha : S'.getD a noSal = S.getD p noSal) (hb : S'.getD b noSal = S.getD q noSal) : cs S' a b = cs S p q := by unfold cs; rw [ha, hb]
theorem Hom.of {S S' : List Sal} {f : Nat → Nat} (hf : ∀ a, a < S'.length → f a < S.length ∧ S'.getD a noSal = S.getD (f a) noSal) : Hom (matS S) (matS S') f := by
  have hD : ∀ a b, a < (matS S').length → b < (matS S').length → DP (matS S') a b = DP (matS S) (f a) (f b) := fun a b ha hb => by
    rw [matS_len] at ha hb
    have k1 := hf a ha
    have k2 := hf b hb
    unfold DP
    rw [matS_get ha, matS_get k1.1, rowS_get ha, rowS_get hb, rowS_get k1.1, rowS_get k2.1, cs_eq k1.2 k1.2, cs_eq k1.2 k2.2]
  exact ⟨fun a ha => by rw [matS_len] at ha ⊢; exact (hf a ha).1, fun a b ha hb h => by rwa [hD a b ha hb] at h, fun a b ha hb h => by rwa [hD a b ha hb] at h⟩
theorem getD_app {S : List Sal} {x : Sal} {a : Nat} (h : a < S.length) : (S ++ [x]).getD a noSal = S.getD a noSal := by
  rw [List.getD_eq_getElem?_getD, List.getElem?_append_left h, ← List.getD_eq_getElem?_getD]
theorem getD_last {S : List Sal} {x : Sal} : (S ++ [x]).getD S.length noSal = x := by simp
theorem taste_twice {S : List Sal} {i : Nat} (hi : i < S.length) : tasteB (matS (S ++ [S.getD i noSal])) = tasteB (matS S) := by
  have h1 : Hom (matS (S ++ [S.getD i noSal])) (matS S) (fun a => a) := .of fun a ha => ⟨by rw [List.length_append]; simp; omega, (getD_app ha).symm⟩
  have h2 : Hom (matS S) (matS (S ++ [S.getD i noSal])) (fun a => if a < S.length then a else i) := .of fun a ha => by
    rw [List.length_append, List.length_singleton] at ha
    by_cases e : a < S.length
    · rw [if_pos e]; exact ⟨e, getD_app e⟩
    · obtain rfl : a = S.length := by omega
      rw [if_neg e]; exact ⟨hi, getD_last⟩
  rw [Bool.eq_iff_iff]
  exact ⟨h1.taste, h2.taste⟩
theorem taste_less {S : List Sal} {i : Nat} (hi : i < S.length) (h : tasteB (matS S) = true) : tasteB (matS (S.eraseIdx i)) = true := by
  refine (Hom.of (S := S) (S' := S.eraseIdx i) (f := fun a => if a < i then a else a + 1) fun a ha => ?_).taste h
  rw [List.length_eraseIdx_of_lt hi] at ha
  by_cases e : a < i
  · rw [if_pos e]
    exact ⟨by omega, by rw [List.getD_eq_getElem?_getD, List.getElem?_eraseIdx_of_lt e, ← List.getD_eq_getElem?_getD]⟩
  · rw [if_neg e]
    exact ⟨by omega, by rw [List.getD_eq_getElem?_getD, List.getElem?_eraseIdx_of_ge (by omega), ← List.getD_eq_getElem?_getD]⟩
theorem wrong_more {S : List Sal} {x : Sal} {l l' : List Nat} (hl : BestW (matS S) l) (hl' : BestW (matS (S ++ [x])) l') : l.length ≤ l'.length ∧ l'.length ≤ l.length + 1 := by
  constructor
  · have h1 : Hom (matS (S ++ [x])) (matS S) (fun a => a) := .of fun a ha => ⟨by rw [List.length_append]; simp; omega, (getD_app ha).symm⟩
    exact h1.wrong (fun a b _ _ e => e) hl' hl
  · obtain ⟨s, hs, hok, rfl⟩ := hl.1
    have hlen : (matS (S ++ [x])).length = (matS S).length + 1 := by rw [matS_len, matS_len]; simp
    have hp : 2 ^ ((matS S).length + 1) = 2 ^ (matS S).length * 2 := Nat.pow_succ _ _
    have hbit : (2 ^ (matS S).length + s).testBit (matS S).length = true := by rw [Nat.testBit_two_pow_add_eq, Nat.testBit_lt_two_pow hs]; rfl
    have hlow : ∀ a, a < (matS S).length → (2 ^ (matS S).length + s).testBit a = s.testBit a := fun a ha => Nat.testBit_two_pow_add_gt ha _
    have hkeep : keepK (2 ^ (matS S).length + s) ((matS S).length + 1) = keepK s (matS S).length := by
      rw [keepK_succ, if_pos hbit, List.append_nil]
      exact List.filter_congr fun a ha => by rw [hlow a (List.mem_range.1 ha)]
    have hout : outK (2 ^ (matS S).length + s) ((matS S).length + 1) = outK s (matS S).length ++ [(matS S).length] := by
      rw [outK_succ, if_pos hbit]
      congr 1
      exact List.filter_congr fun a ha => by rw [hlow a (List.mem_range.1 ha)]
    have hK : ∀ y ∈ keepK s (matS S).length, y < S.length := fun y hy => by have := keepK_lt y hy; rwa [matS_len] at this
    have hpick : pickS (S ++ [x]) (keepK s (matS S).length) = pickS S (keepK s (matS S).length) := List.map_congr_left fun a ha => getD_app (hK a ha)
    have hok' : okW (matS (S ++ [x])) (2 ^ (matS S).length + s) = true := by
      unfold okW at hok ⊢
      rw [hlen, hkeep, ← pick_mat fun y hy => by rw [List.length_append]; have := hK y hy; omega]
      rw [hpick, pick_mat hK]; exact hok
    have hno := hl'.2 _ ⟨2 ^ (matS S).length + s, by rw [hlen]; omega, hok', rfl⟩
    rw [hlen, hout] at hno
    apply Nat.not_lt.1
    intro k
    exact hno (.inl (by rw [List.length_append, List.length_singleton]; omega))
end Go.Proofs.Yteopjpfhhekkoaa.Tt

/- Elements of some cells: cut, moved within their room, cleared. -/
namespace Go.Abs
set_option linter.unusedSectionVars false
set_option linter.unusedVariables false
set_option linter.unusedSimpArgs false
variable [Globs]
open Go
def capZ (z cp len R : Nat) : Prop := (cp = 2 * z ∧ R = len) ∨ (cp = roomCode z R ∧ len ≤ R)
theorem capZ.le {z cp len R : Nat} (h : capZ z cp len R) : len ≤ R := by rcases h with ⟨_, h⟩ | ⟨_, h⟩ <;> omega
section
variable {C : CW} {nt : Nat} {L : Env} {D : List Nat} {H : Heap} {K : St → Prop} {M M' : HL} {n i d z : Nat} {gd : Option (Tmp × Bool)} {lo' : List Nat} {l : List POp}
theorem cutZ (hz : z ≤ 1000) {a : Addr} {len cp R x y : Nat} (hc : capZ z cp len R) (hxy : x ≤ y) (hy : y ≤ len ∨ ∃ q, cp = roomCode z q ∧ y ≤ R) {lo hi : Option Value} (k1 : loOf lo = some x) (k2 : hiOf len hi = some y) :
    sliceA z (some a) len (capOf (some a) cp) lo hi none = cutPart z (some a) x y R := by
  have hzz : Nat.beq z z = true := Nat.beq_refl z
  rcases hc with ⟨rfl, rfl⟩ | ⟨rfl, hl⟩
  · have hyl : y ≤ R := by
      rcases hy with h | ⟨q, h, h'⟩
      · exact h
      · exact h'
    simp only [sliceA, k1, k2, Option.isSome_none, Bool.false_and, cond_false, capOf_open a hz, sliceTo]
    rw [cond_some (by simp [Nat.ble_eq, hyl, hxy])]
  · have hyr : y ≤ R := by
      rcases hy with h | ⟨_, _, h⟩
      · omega
      · exact h
    simp only [sliceA, k1, k2, Option.isSome_none, Bool.false_and, cond_false, capOf_room a hz, sliceTo]
    rw [cond_some (by simp [Nat.ble_eq, hyr, hxy])]
theorem OpV.cutPreZ (hz : z ≤ 1000) {x hi : Operand} {b o u len cp R m : Nat} {kd : IntKind} (hx : ev L x = some (.slice (some ⟨b, o, some u⟩) len cp)) (hc : capZ z cp len R) (hh : ev L hi = some (.int kd (m : Int))) (hm : m ≤ len) (hmR : m < R) :
    OpV C (.slS x z none (some hi) none) L H (.slice (some ⟨b, o, some u⟩) m (roomCode z R)) H := by
  intro t ht
  simp only [opA, ev_ok ht hx, Option.map_none, Option.map_some, ev_ok ht hh, oSlS]
  rw [cutZ hz hc (Nat.zero_le m) (.inl hm) rfl rfl, cutPart_lt hmR hz]
  simp [cutRoom, Addr.plus, asVal]
theorem OpV.cutSufZ (hz : z ≤ 1000) {x lo : Operand} {b o u len cp R m : Nat} {kd : IntKind} (hx : ev L x = some (.slice (some ⟨b, o, some u⟩) len cp)) (hc : capZ z cp len R) (hh : ev L lo = some (.int kd (m : Int))) (hm : m ≤ len) :
    ∃ cp', OpV C (.slS x z (some lo) none none) L H (.slice (some ⟨b, o + m * z, some u⟩) (len - m) cp') H := by
  by_cases hR : len < R
  · refine ⟨roomCode z (R - m), fun t ht => ?_⟩
    simp only [opA, ev_ok ht hx, Option.map_none, Option.map_some, ev_ok ht hh, oSlS]
    rw [cutZ hz (lo := some (.int kd (m : Int))) (hi := none) hc hm (.inl (Nat.le_refl _)) rfl rfl, cutPart_lt hR hz]
    simp [cutRoom, Addr.plus, asVal]
  · refine ⟨2 * z, fun t ht => ?_⟩
    simp only [opA, ev_ok ht hx, Option.map_none, Option.map_some, ev_ok ht hh, oSlS]
    rw [cutZ hz (lo := some (.int kd (m : Int))) (hi := none) hc hm (.inl (Nat.le_refl _)) rfl rfl, cutPart_all (by omega)]
    simp [cutOpen, Addr.plus, asVal]
theorem OpV.cutOverZ (hz : z ≤ 1000) {x lo hi : Operand} {b o u len R m k : Nat} {kd kd2 : IntKind} (hx : ev L x = some (.slice (some ⟨b, o, some u⟩) len (roomCode z R))) (hl : len ≤ R) (hh : ev L lo = some (.int kd (m : Int))) (hk : ev L hi = some (.int kd2 (k : Int))) (hm : m ≤ k) (hkR : k ≤ R) :
    ∃ cp', OpV C (.slS x z (some lo) (some hi) none) L H (.slice (some ⟨b, o + m * z, some u⟩) (k - m) cp') H := by
  have hc : capZ z (roomCode z R) len R := .inr ⟨rfl, hl⟩
  by_cases hR : k < R
  · refine ⟨roomCode z (R - m), fun t ht => ?_⟩
    simp only [opA, ev_ok ht hx, Option.map_none, Option.map_some, ev_ok ht hh, ev_ok ht hk, oSlS]
    rw [cutZ hz (lo := some (.int kd (m : Int))) (hi := some (.int kd2 (k : Int))) hc hm (.inr ⟨R, rfl, hkR⟩) rfl rfl, cutPart_lt hR hz]
    simp [cutRoom, Addr.plus, asVal]
  · refine ⟨2 * z, fun t ht => ?_⟩
    simp only [opA, ev_ok ht hx, Option.map_none, Option.map_some, ev_ok ht hh, ev_ok ht hk, oSlS]
    rw [cutZ hz (lo := some (.int kd (m : Int))) (hi := some (.int kd2 (k : Int))) hc hm (.inr ⟨R, rfl, hkR⟩) rfl rfl, cutPart_all (by omega)]
    simp [cutOpen, Addr.plus, asVal]
theorem OpV.cutMaxZ (hz : z ≤ 1000) {x lo hi mx : Operand} {b o u len m k q : Nat} {kd kd2 kd3 : IntKind} (hx : ev L x = some (.slice (some ⟨b, o, some u⟩) len (2 * z))) (hlo : ev L lo = some (.int kd (m : Int))) (hhi : ev L hi = some (.int kd2 (k : Int))) (hmx : ev L mx = some (.int kd3 (q : Int)))
    (k1 : m ≤ k) (k2 : k ≤ q) (k3 : q ≤ len) (k4 : 1 ≤ len) : ∃ v, OpV C (.slS x z (some lo) (some hi) (some mx)) L H v H := by
  have hb : Nat.beq len 0 = false := by cases hb : Nat.beq len 0 with | false => rfl | true => have := Nat.eq_of_beq_eq_true hb; omega
  refine ⟨.slice (some (bif Nat.beq q m then ⟨b, o, some u⟩ else Addr.plus ⟨b, o, some u⟩ (m * z))) (k - m) (2 * (q - m) + 1), fun t ht => ?_⟩
  simp only [opA, ev_ok ht hx, Option.map_some, ev_ok ht hlo, ev_ok ht hhi, ev_ok ht hmx, oSlS, sliceA, loOf, hiOf, nat_of, Option.isSome_some, Option.isNone_some, Bool.and_false, cond_false, capOf_open _ hz, sliceTo]
  rw [cond_some (by simp [Nat.ble_eq, k1, k2, k3])]
  simp only [cutOpenMax, hb, cond_false, cutKnown, asVal]
theorem all_subZ {ys zs : List Value} (h : ys.all one = true) (hs : ∀ x ∈ zs, x ∈ ys) : zs.all one = true := by
  rw [List.all_eq_true] at h ⊢
  exact fun x hx => h x (hs x hx)
/-- Appended within the room, at least one: the elements of a row move. -/
theorem WR.appendZ (hz : z ≤ 1000) (hz1 : 1 ≤ z) {e : TypeId} {s x : Operand} {b u o len R j k cp' : Nat} {ys : List Value} (hone : ys.all one = true) (hg : gOK L gd) (hd : Nat.blt d nt = true) (hs : ev L s = some (.slice (some ⟨b, o, some u⟩) len (roomCode z R))) (hx : ev L x = some (.slice (some ⟨b, o + j, some u⟩) k cp'))
    (hH : hasH M n H) (hu : Upd M b (.row e u o ys) (.row e u o (ys.take (len * z) ++ (ys.drop j).take (k * z) ++ ys.drop (len * z + k * z))) M') (hj : j + k * z ≤ ys.length) (hlk : len + k ≤ R) (hly : len * z + k * z ≤ ys.length)
    (kk : ∀ H', hasH M' n H' → WR C nt l ((d, .slice (some ⟨b, o, some u⟩) (len + k) (roomCode z R)) :: L) D H' K) : WR C nt (⟨i, some d, .append e z s x, gd, lo'⟩ :: l) L D H K := by
  have hread : H.readN ⟨b, o + j, some u⟩ (k * z) = some ((ys.drop j).take (k * z)) := by
    rw [hH.readN (k := k * z) hu.mem (.row _ _ _ _) (Nat.le_add_right _ _) (by omega)]
    simp
  have hlen : ((ys.drop j).take (k * z)).length = k * z := by simp; omega
  have hcs : (ys.take (len * z) ++ (ys.drop j).take (k * z) ++ ys.drop (len * z + k * z)) = splice ys (o + len * z - o) ((ys.drop j).take (k * z)) := by
    rw [show o + len * z - o = len * z by omega]
    unfold splice
    rw [hlen]
  obtain ⟨H', k5, k6⟩ := hH.writeN (l := (ys.drop j).take (k * z)) hu (all_subZ hone fun y hy => List.mem_of_mem_drop (List.mem_of_mem_take hy)) (Nat.le_add_right o (len * z)) (by omega) hcs
  by_cases hk0 : k = 0
  · subst hk0
    have hsame : ys.take (len * z) ++ (ys.drop j).take (0 * z) ++ ys.drop (len * z + 0 * z) = ys := by simp
    rw [hsame] at hu
    have hMM : M' = M := hu.same rfl
    subst hMM
    refine WR.op hg hd (v := .slice (some ⟨b, o, some u⟩) (len + 0) (roomCode z R)) (fun t ht => ?_) (kk H hH)
    simp only [opA, ev_ok ht hs, ev_ok ht hx, appendA, srcLen, srcCells, hread, appWith, capOf_room _ hz, Nat.beq_refl, cond_true]
    rfl
  · refine WR.op hg hd (v := .slice (some ⟨b, o, some u⟩) (len + k) (roomCode z R)) (fun t ht => ?_) (kk H' k6)
    have hb : Nat.beq k 0 = false := by cases hb : Nat.beq k 0 with | false => rfl | true => exact absurd (Nat.eq_of_beq_eq_true hb) hk0
    have hb2 : Nat.ble (len + k) R = true := Nat.ble_eq_true_of_le hlk
    simp only [opA, ev_ok ht hs, ev_ok ht hx, appendA, srcLen, srcCells, hread, appWith, capOf_room _ hz, Nat.beq_refl, cond_true, hb, hb2, cond_false, appIn, Addr.plus, k5]
theorem WR.clrZ {e : TypeId} {x : Operand} {b u o m k cp : Nat} {ys zs : List Value} (hzz : zs.all one = true) (hzl : zs.length = z) (hg : gOK L gd) (hx : ev L x = some (.slice (some ⟨b, o + m, some u⟩) k cp)) (hH : hasH M n H)
    (hu : Upd M b (.row e u o ys) (.row e u o (ys.take m ++ (List.replicate k zs).flatten ++ ys.drop (m + k * z))) M') (hmk : m + k * z ≤ ys.length) (hk : 1 ≤ k)
    (kk : ∀ H', hasH M' n H' → WR C nt l L D H' K) : WR C nt (⟨i, none, .clr z zs x, gd, lo'⟩ :: l) L D H K := by
  have hfl : ((List.replicate k zs).flatten).length = k * z := by simp [List.length_flatten, hzl]
  have hcs : (ys.take m ++ (List.replicate k zs).flatten ++ ys.drop (m + k * z)) = splice ys (o + m - o) (List.replicate k zs).flatten := by
    rw [show o + m - o = m by omega]
    unfold splice
    rw [hfl]
  obtain ⟨H', k5, k6⟩ := hH.writeN (l := (List.replicate k zs).flatten) hu (by
    rw [List.all_eq_true]; intro q hq
    obtain ⟨w, hw, hqw⟩ := List.mem_flatten.1 hq
    rw [List.eq_of_mem_replicate hw] at hqw
    exact List.all_eq_true.1 hzz q hqw) (Nat.le_add_right o m) (by omega) hcs
  have hb : Nat.beq k 0 = false := by cases hb : Nat.beq k 0 with | false => rfl | true => have := Nat.eq_of_beq_eq_true hb; omega
  refine WR.op0 hg (v := undef) (H' := H') (fun t ht => ?_) (kk H' k6)
  simp only [opA, ev_ok ht hx, oClr, hb, cond_false, k5, asSkip]
theorem WR.cutMaxZ (hz : z ≤ 1000) {x lo hi mx : Operand} {b o u len m k q : Nat} {kd kd2 kd3 : IntKind} (hg : gOK L gd) (hd : Nat.blt d nt = true) (hx : ev L x = some (.slice (some ⟨b, o, some u⟩) len (2 * z))) (hlo : ev L lo = some (.int kd (m : Int))) (hhi : ev L hi = some (.int kd2 (k : Int))) (hmx : ev L mx = some (.int kd3 (q : Int)))
    (k1 : m ≤ k) (k2 : k ≤ q) (k3 : q ≤ len) (k4 : 1 ≤ len) (kk : ∀ v, WR C nt l ((d, v) :: L) D H K) : WR C nt (⟨i, some d, .slS x z (some lo) (some hi) (some mx), gd, lo'⟩ :: l) L D H K := by
  obtain ⟨v, hv⟩ := OpV.cutMaxZ (C := C) (H := H) hz hx hlo hhi hmx k1 k2 k3 k4
  exact WR.op hg hd hv (kk v)
theorem WR.cutSufZ (hz : z ≤ 1000) {x lo : Operand} {b o u len cp R m : Nat} {kd : IntKind} (hg : gOK L gd) (hd : Nat.blt d nt = true) (hx : ev L x = some (.slice (some ⟨b, o, some u⟩) len cp)) (hc : capZ z cp len R) (hh : ev L lo = some (.int kd (m : Int))) (hm : m ≤ len)
    (kk : ∀ cp', WR C nt l ((d, .slice (some ⟨b, o + m * z, some u⟩) (len - m) cp') :: L) D H K) : WR C nt (⟨i, some d, .slS x z (some lo) none none, gd, lo'⟩ :: l) L D H K := by
  obtain ⟨cp', hv⟩ := OpV.cutSufZ (C := C) (H := H) hz hx hc hh hm
  exact WR.op hg hd hv (kk cp')
theorem WR.cutOverZ (hz : z ≤ 1000) {x lo hi : Operand} {b o u len R m k : Nat} {kd kd2 : IntKind} (hg : gOK L gd) (hd : Nat.blt d nt = true) (hx : ev L x = some (.slice (some ⟨b, o, some u⟩) len (roomCode z R))) (hl : len ≤ R) (hh : ev L lo = some (.int kd (m : Int))) (hk : ev L hi = some (.int kd2 (k : Int))) (hm : m ≤ k) (hkR : k ≤ R)
    (kk : ∀ cp', WR C nt l ((d, .slice (some ⟨b, o + m * z, some u⟩) (k - m) cp') :: L) D H K) : WR C nt (⟨i, some d, .slS x z (some lo) (some hi) none, gd, lo'⟩ :: l) L D H K := by
  obtain ⟨cp', hv⟩ := OpV.cutOverZ (C := C) (H := H) hz hx hl hh hk hm hkR
  exact WR.op hg hd hv (kk cp')
end
end Go.Abs

/- Clone and Delete of sales. -/
namespace Go.Abs
set_option linter.unusedSectionVars false
variable [Globs]
open Go
theorem Sl.srcZ {M : HL} {n : Nat} {H : Heap} {z : Nat} {v : Value} {l : List Value} (hS : Sl M z v l) (hH : hasH M n H) (hne : l ≠ []) : ∃ k, srcLen v = some k ∧ l.length = k * z ∧ srcCells H z k v = some l := by
  cases hS with
  | nil c => exact absurd rfl hne
  | emp a => exact absurd rfl hne
  | row hm hc hlo hl hv hin hp =>
    rename_i b o u lo len cap ch cs
    refine ⟨len, rfl, hl, ?_⟩
    rw [hl] at hv hin
    simp only [srcCells, hH.readN hm hc hlo (show o - lo + len * z ≤ cs.length by omega), hv]
end Go.Abs
namespace Go.Proofs.Yteopjpfhhekkoaa.Tt
open Go Go.Abs Go.Mth
set_option linter.unusedVariables false
set_option linter.unusedSimpArgs false
theorem cells_one {M : HL} {ws : List (Value × Value)} {S : List Sal} (hl : ws.length = S.length) (h : ∀ i, i < S.length → Sl M 1 (ws.getD i noVal).1 (ints (S.getD i noSal).1) ∧ Sl M 1 (ws.getD i noVal).2 (ints (S.getD i noSal).2)) : (cellsF pairV ws).all one = true := by
  rw [List.all_eq_true]
  intro q hq
  obtain ⟨w, hw, hqw⟩ := List.mem_flatMap.1 hq
  obtain ⟨i, hi, rfl⟩ := List.mem_iff_getElem.1 hw
  have k := h i (by omega)
  rw [getD_eq hi] at k
  simp only [pairV, List.mem_cons, List.mem_nil_iff, or_false] at hqw
  rcases hqw with rfl | rfl
  · exact k.1.one_
  · exact k.2.one_
attribute [local irreducible] gOK WS WC WR WD Ends FS YS OpV seqK blockK loopK midK retK rdK asgK rangeEnd sat Cell
section
variable {M : HL} {n0 : Nat} {H : Heap} {v w u : Value}
theorem CloneNilS_fs (H : Heap) (c : Nat) : FS C 57 [.slice none 0 c] H (fun e H' => e = .slice none 0 0 ∧ H' = H) := by
  refine FS.intro (pf := pf57) rfl rfl rfl ?_
  repeat' (first | refine zP ?_ | refine zA ?_ | (refine zM ?_; intro _ _) | refine zX ?_ | (refine zC ?_; intro _ _ _ _) | (refine zS ?_; intro _ _) | (apply Ws <;> intro hg))
  exact Ends.ret1 rfl ⟨rfl, rfl⟩
theorem CloneS_fs (hH : hasH M n0 H) {ws : List (Value × Value)} (hS : Sl M 2 v (cellsF pairV ws)) (hone : (cellsF pairV ws).all one = true) (h0 : ws ≠ []) (hl : ws.length ≤ 1000) :
    FS C 57 [v] H (fun e H' => e = .slice (some ⟨n0 + 1, 0, some 0⟩) ws.length (2 * 2) ∧ hasH ((n0 + 1, .row 74 0 0 (cellsF pairV ws)) :: M) (n0 + 2) H') := by
  have hcl := cellsF_len pairV_len ws
  have hl0 : 0 < ws.length := List.length_pos_iff.2 h0
  have hne : cellsF pairV ws ≠ [] := fun k => by rw [k] at hcl; simp at hcl; omega
  have hsm : ∃ a len cap, v = .slice (some a) len cap := by
    generalize cellsF pairV ws = cs at hS hne
    cases hS with
    | nil c => exact absurd rfl hne
    | emp a => exact ⟨_, _, _, rfl⟩
    | row => exact ⟨_, _, _, rfl⟩
  obtain ⟨a, len, cap, rfl⟩ := hsm
  refine FS.intro (pf := pf57) rfl rfl rfl ?_
  repeat' (first | refine zP ?_ | refine zA ?_ | (refine zM ?_; intro _ _) | refine zX ?_ | (refine zC ?_; intro _ _ _ _) | (refine zS ?_; intro _ _) | (apply Ws <;> intro hg))
  refine WR.bldS (by first | exact gN | exact gS rfl) rfl hH (vs := []) rfl (cs := []) (by rfl) rfl fun H3 hH3 => ?_
  repeat' (first | refine zP ?_ | refine zA ?_ | (refine zM ?_; intro _ _) | refine zX ?_ | (refine zC ?_; intro _ _ _ _) | (refine zS ?_; intro _ _) | (apply Ws <;> intro hg))
  obtain ⟨k, hk, hlk, hsr⟩ := (hS.cons (p := (n0, .row 74 0 0 []))).srcZ hH3 hne
  have hkl : k = ws.length := by omega
  subst hkl
  refine WR.appendNew (by first | exact gN | exact gS rfl) rfl rfl rfl hH3 (.head _) (.row _ _ _ _) (Nat.zero_le _) (Nat.zero_le _) hk hsr hlk hl0 hone (by omega) (by omega) (by omega) fun H' hH' => ?_
  repeat' (first | refine zP ?_ | refine zA ?_ | (refine zM ?_; intro _ _) | refine zX ?_ | (refine zC ?_; intro _ _ _ _) | (refine zS ?_; intro _ _) | (apply Ws <;> intro hg))
  exact Ends.ret1 rfl ⟨rfl, hH'.sub (.cons_cons _ (List.sublist_cons_self _ _))⟩
set_option maxHeartbeats 1000000 in
theorem DeleteS_fs {b i : Nat} {ys : List Value} {N : Nat} (hH : hasH ((b, .row 74 0 0 ys) :: M) n0 H) (hone : ys.all one = true) (hN : ys.length = N * 2) (hi : i < N) (hN2 : N ≤ 1000) :
    FS C 58 [.slice (some ⟨b, 0, some 0⟩) N (2 * 2), .int .i64 (i : Int), .int .i64 ((i : Int) + 1)] H (fun e H' => ∃ zs, hasH ((b, .row 74 0 0 zs) :: M) n0 H' ∧ zs.length = N * 2 ∧ zs.take ((N - 1) * 2) = ys.take (i * 2) ++ ys.drop (i * 2 + 2) ∧ e = .slice (some ⟨b, 0, some 0⟩) (N - 1) (roomCode 2 N)) := by
  have hc : capZ 2 (2 * 2) N N := .inl ⟨rfl, rfl⟩
  refine FS.intro (pf := pf58) rfl rfl rfl ?_
  rw [show (i : Int) + 1 = ((i + 1 : Nat) : Int) by omega]
  repeat' (first | refine zP ?_ | refine zA ?_ | (refine zM ?_; intro _ _) | refine zX ?_ | (refine zC ?_; intro _ _ _ _) | (refine zS ?_; intro _ _) | (apply Ws <;> intro hg))
  refine WR.cutMaxZ (by omega) (by first | exact gN | exact gS rfl) rfl rfl rfl rfl rfl (show i ≤ i + 1 by omega) (show i + 1 ≤ N by omega) (Nat.le_refl N) (by omega) fun vm => ?_
  repeat' (first | refine zP ?_ | refine zA ?_ | (refine zM ?_; intro _ _) | refine zX ?_ | (refine zC ?_; intro _ _ _ _) | (refine zS ?_; intro _ _) | refine zO ?_ | (apply Ws <;> intro hg))
  refine WR.op (by first | exact gN | exact gS rfl) rfl (OpV.cutPreZ (by omega) rfl hc rfl (by omega) (by omega)) ?_
  repeat' (first | refine zP ?_ | refine zA ?_ | (refine zM ?_; intro _ _) | refine zX ?_ | (refine zC ?_; intro _ _ _ _) | (refine zS ?_; intro _ _) | (apply Ws <;> intro hg))
  refine WR.cutSufZ (by omega) (by first | exact gN | exact gS rfl) rfl rfl hc rfl (show i + 1 ≤ N by omega) fun cp' => ?_
  refine WR.appendZ (M' := (b, .row 74 0 0 (ys.take (i * 2) ++ (ys.drop ((i + 1) * 2)).take ((N - (i + 1)) * 2) ++ ys.drop (i * 2 + (N - (i + 1)) * 2))) :: M) (by omega) (by omega) hone (by first | exact gN | exact gS rfl) rfl rfl rfl hH .here (by omega) (by omega) (by omega) fun H1 hH1 => ?_
  have hl2 : i + (N - (i + 1)) = N - 1 := by omega
  rw [hl2]
  obtain ⟨zs, hzs⟩ : ∃ zs, ys.take (i * 2) ++ (ys.drop ((i + 1) * 2)).take ((N - (i + 1)) * 2) ++ ys.drop (i * 2 + (N - (i + 1)) * 2) = zs := ⟨_, rfl⟩
  rw [hzs] at hH1
  have hzl : zs.length = N * 2 := by rw [← hzs]; simp; omega
  have hzt : zs.take ((N - 1) * 2) = ys.take (i * 2) ++ ys.drop (i * 2 + 2) := by
    rw [← hzs, List.take_append_of_le_length (by simp; omega), List.take_of_length_le (by simp; omega), show (i + 1) * 2 = i * 2 + 2 by omega]
    congr 1
    exact List.take_of_length_le (by simp; omega)
  repeat' (first | refine zP ?_ | refine zA ?_ | (refine zM ?_; intro _ _) | refine zX ?_ | (refine zC ?_; intro _ _ _ _) | (refine zS ?_; intro _ _) | (apply Ws <;> intro hg))
  refine WR.cutOverZ (by omega) (by first | exact gN | exact gS rfl) rfl rfl (by omega) rfl rfl (by omega) (Nat.le_refl _) fun cp2 => ?_
  refine WR.clrZ (m := (N - 1) * 2) (k := N - (N - 1)) (M' := (b, .row 74 0 0 (zs.take ((N - 1) * 2) ++ (List.replicate (N - (N - 1)) [.slice none 0 0, .slice none 0 0]).flatten ++ zs.drop ((N - 1) * 2 + (N - (N - 1)) * 2))) :: M) rfl rfl (by first | exact gN | exact gS rfl) rfl hH1 .here (by omega) (by omega) fun H2 hH2 => ?_
  repeat' (first | refine zP ?_ | refine zA ?_ | (refine zM ?_; intro _ _) | refine zX ?_ | (refine zC ?_; intro _ _ _ _) | (refine zS ?_; intro _ _) | (apply Ws <;> intro hg))
  refine Ends.ret1 rfl ⟨_, hH2, ?_, ?_, rfl⟩
  · simp [List.length_flatten]; omega
  · rw [List.append_assoc, List.take_append_of_le_length (by simp; omega), List.take_of_length_le (by simp; omega), hzt]
end
end Go.Proofs.Yteopjpfhhekkoaa.Tt

/- TasteMore: the walk. -/
namespace Go.Abs
set_option linter.unusedSectionVars false
variable [Globs]
open Go
section
variable {C : CW} {nt : Nat} {L : Env} {D : List Nat} {H : Heap} {K : St → Prop} {M M' : HL} {n i d z : Nat} {gd : Option (Tmp × Bool)} {lo : List Nat} {l : List POp} {rs : List Rd} {α : Type} {F : α → List Value}
theorem WD.idxK {x ix : Operand} {kd : IntKind} {m : Nat} {v : Value} {ps : List α} (hF : ∀ a, (F a).length = z) (hz : 1 ≤ z) (hg : gOK L gd) (hd : Nat.blt d nt = true) (hx : ev L x = some v) (hS : Sl M z v (cellsF F ps)) (hi : ev L ix = some (.int kd (m : Int))) (hm : m < ps.length)
    (k : ∀ b o u, KCell M b o u (F ps[m]) → WD C nt l rs ((d, .pointer (some ⟨b, o, some u⟩)) :: L) D H K) : WD C nt (⟨i, some d, .idxS x ix z, gd, []⟩ :: l) rs L D H K := by
  obtain ⟨b, o, u, k1, k2⟩ := OpV.idxK (C := C) (H := H) hF hz hx hS hi hm
  exact WD.op hg hd k1 rfl (stands_nil _ _) (k b o u k2)
theorem holds_two {a : Addr} {v w : Value} (h : H.readN a 2 = some [v, w]) (hv : same1 v v = true) (hw : same1 w w = true) : holds H ⟨i, a, some 2, .agg [v, w].toArray⟩ = true := by
  simp only [holds, h, sameL, hv, hw, Bool.and_self]
end
end Go.Abs
namespace Go.Proofs.Yteopjpfhhekkoaa.Tt
open Go Go.Abs Go.Mth
set_option linter.unusedVariables false
set_option linter.unusedSimpArgs false
theorem neB (a b : Bool) : pureRun C.c.P (binOp .neq 4 (.bool a) (.bool b)) = some (.bool (a != b)) := by cases a <;> cases b <;> kernel_rfl
theorem cells_take : ∀ (i : Nat) (ws : List (Value × Value)), (cellsF pairV ws).take (i * 2) = cellsF pairV (ws.take i)
  | 0, ws => by simp [cellsF]
  | i + 1, [] => by simp [cellsF]
  | i + 1, w :: ws => by
    have ih := cells_take i ws
    unfold cellsF at ih ⊢
    rw [List.take_succ_cons, List.map_cons, List.map_cons, List.flatten_cons, List.flatten_cons, ← ih]
    rw [show (i + 1) * 2 = i * 2 + 1 + 1 by omega]
    rfl
theorem cells_drop : ∀ (i : Nat) (ws : List (Value × Value)), (cellsF pairV ws).drop (i * 2) = cellsF pairV (ws.drop i)
  | 0, ws => by simp
  | i + 1, [] => by simp [cellsF]
  | i + 1, w :: ws => by
    have ih := cells_drop i ws
    unfold cellsF at ih ⊢
    rw [List.drop_succ_cons, List.map_cons, List.flatten_cons, ← ih]
    rw [show (i + 1) * 2 = i * 2 + 1 + 1 by omega]
    rfl
theorem cells_erase (i : Nat) (ws : List (Value × Value)) : (cellsF pairV ws).take (i * 2) ++ (cellsF pairV ws).drop (i * 2 + 2) = cellsF pairV (ws.eraseIdx i) := by
  rw [show i * 2 + 2 = (i + 1) * 2 by omega, cells_take, cells_drop, List.eraseIdx_eq_take_drop_succ]
  simp [cellsF]
attribute [local irreducible] gOK WS WC WR WD Ends FS YS OpV seqK blockK loopK midK retK rdK asgK rangeEnd sat Cell
section
variable {M : HL} {n0 : Nat} {H : Heap} {v w u : Value}
set_option maxHeartbeats 8000000 in
theorem TasteMore_fs (hH : hasH M n0 H) {xs : List Nat} (hl : xs.length = 39) (hb : ∀ x ∈ xs, x ≤ 255) {oa : Nat} (hoa : oa ≤ 255) (hne : xs.getD 1 0 % (5 + 1) ≠ 0) :
    FS C 13 [.agg (numsK .u8 xs).toArray, .int .u8 (oa : Int)] H (fun e H' => e = .bool true) := by
  have hoN := numsK_one .u8 xs
  have hxl : (numsK .u8 xs).length = 39 := by simpa using hl
  refine FS.intro (pf := pf13) rfl rfl rfl ?_
  repeat' (first | refine zP ?_ | refine zA ?_ | (refine zM ?_; intro _ _) | refine zX ?_ | (refine zC ?_; intro _ _ _ _) | (refine zS ?_; intro _ _) | (apply Ws <;> intro hg))
  rename_i H1 hH1
  clear hH
  refine WR.call (by first | exact gN | exact gS rfl) rfl rfl (made_fs hH1 hl hb (most := 5) (by omega)) ?_
  rintro _ H4 ⟨S, v, n4, M4, hSE, hSl, hn4, hH4, hS, rfl⟩
  obtain ⟨g, hg⟩ : ∃ g, 1 + xs.getD 0 0 % 3 = g := ⟨_, rfl⟩
  rw [hg] at hSE
  have hmod := Nat.mod_lt (xs.getD 1 0) (show 0 < 5 + 1 by omega)
  have hok : OKS g S := .of (by omega) (by omega) (by omega) hSE
  have hlen5 : S.length ≤ 5 := by omega
  have hpos : 0 < S.length := by omega
  have h0 := err0 hok
  have hlenS := hok.lens
  rw [hg]
  have mH : (n0, Ch.row 61 0 0 (numsK .u8 xs)) ∈ M4 ++ (n0, Ch.row 61 0 0 (numsK .u8 xs)) :: M := by simp
  generalize M4 ++ (n0, Ch.row 61 0 0 (numsK .u8 xs)) :: M = T at hH4 hS mH
  clear hH1 hSl hmod hne
  have hv := hS.one_
  repeat' (first | refine zP ?_ | refine zA ?_ | (refine zM ?_; intro _ _) | refine zX ?_ | (refine zC ?_; intro _ _ _ _) | (refine zS ?_; intro _ _) | (apply Ws <;> intro hg))
  refine WR.call (by first | exact gN | exact gS rfl) rfl rfl (Taste_fs hH4 hS hlenS g) ?_
  rintro _ H5 ⟨n5, hn5, hH5, rfl⟩
  rw [h0, decide_eq_true (show (0 : Int) = 0 from rfl), Bool.true_and]
  clear hH4
  repeat' (first | refine zP ?_ | refine zA ?_ | (refine zM ?_; intro _ _) | refine zX ?_ | (refine zC ?_; intro _ _ _ _) | (refine zS ?_; intro _ _) | (apply Ws <;> intro hg))
  refine WR.call (by first | exact gN | exact gS rfl) rfl rfl (Wrong_fs hH5 hS hlenS g) ?_
  rintro _ H6 ⟨n6, M6, hn6, hH6, hWO⟩
  obtain ⟨wv, wl, hwv, hBW, hWS, rfl⟩ := hWO.ok hok
  clear hH5
  replace hS := hS.mono (M' := M6 ++ T) fun q hq => List.mem_append_right _ hq
  replace mH := List.mem_append_right M6 mH
  generalize M6 ++ T = T at hH6 hS mH hWS
  repeat' (first | refine zP ?_ | refine zA ?_ | (refine zM ?_; intro _ _) | refine zX ?_ | (refine zC ?_; intro _ _ _ _) | (refine zS ?_; intro _ _) | refine zO ?_ | (apply Ws <;> intro hg))
  refine WR.op (by first | exact gN | exact gS rfl) rfl (OpV.neB (nq4 _ _) rfl rfl) ?_
  have hwz : decide ((wl.length : Int) = 0) = tasteB (matS S) := by
    have hwn := wrong_nil hok.sq hBW
    cases ht : tasteB (matS S) with
    | true => rw [decide_eq_true]; rw [hwn.2 ht]; rfl
    | false =>
      rw [decide_eq_false]
      intro k
      have : wl = [] := List.length_eq_zero_iff.1 (by omega)
      rw [hwn.1 this] at ht; cases ht
  rw [hwz, show (tasteB (matS S) != tasteB (matS S)) = false by cases tasteB (matS S) <;> rfl]
  repeat' (first | refine zP ?_ | refine zA ?_ | (refine zM ?_; intro _ _) | refine zX ?_ | (refine zC ?_; intro _ _ _ _) | (refine zS ?_; intro _ _) | refine zO ?_ | (apply Ws <;> intro hg))
  rename_i H7 hH7
  have hxs6 : (xs.set 1 6).length = 39 := by rw [List.length_set]; exact hl
  have hb6 : ∀ x ∈ xs.set 1 6, x ≤ 255 := fun x hx => by
    rcases List.mem_or_eq_of_mem_set hx with h | h
    · exact hb x h
    · omega
  have e0 : (xs.set 1 6).getD 0 0 = xs.getD 0 0 := by rw [getD_set' (by omega)]; simp
  have e1 : (xs.set 1 6).getD 1 0 = 6 := by rw [getD_set' (by omega)]; simp
  refine WR.storeAll (by first | exact gN | exact gS rfl) hH7 rfl rfl (ls := numsK .u8 xs) rfl hxl .here hoN (by rw [hxl]; rfl) fun H8 hH8 => ?_
  clear hH7 hH6
  repeat' (first | refine zP ?_ | refine zA ?_ | (refine zM ?_; intro _ _) | refine zX ?_ | (refine zC ?_; intro _ _ _ _) | (refine zS ?_; intro _ _) | refine zO ?_ | (apply Ws <;> intro hg))
  rename_i H9 hH9
  replace hH9 : hasH ((n6, Ch.row 61 0 0 (numsK .u8 (xs.set 1 6))) :: T) (n6 + 1) H9 := hH9
  have hxl6 : (numsK .u8 (xs.set 1 6)).length = 39 := by simpa using hl
  have hoN6 := numsK_one .u8 (xs.set 1 6)
  clear hH8
  repeat' (first | refine zP ?_ | refine zA ?_ | (refine zM ?_; intro _ _) | refine zX ?_ | (refine zC ?_; intro _ _ _ _) | (refine zS ?_; intro _ _) | (apply Ws <;> intro hg))
  refine WR.call (by first | exact gN | exact gS rfl) rfl rfl (made_fs hH9 hxs6 hb6 (most := 6) (by omega)) ?_
  rintro _ H10 ⟨S2, v2, n10, M10, hSE2, hSl2, hn10, hH10, hS2, rfl⟩
  rw [e0, hg] at hSE2
  rw [e1] at hSl2
  rw [e0, hg]
  replace hS := hS.mono (M' := M10 ++ (n6, Ch.row 61 0 0 (numsK .u8 (xs.set 1 6))) :: T) fun q hq => List.mem_append_right _ (.tail _ hq)
  replace hWS := hWS.mono (M' := M10 ++ (n6, Ch.row 61 0 0 (numsK .u8 (xs.set 1 6))) :: T) fun q hq => List.mem_append_right _ (.tail _ hq)
  clear hH9 mH hxl6 hoN6 hb6 hxs6 e0 e1 hxl hoN hl hb
  generalize M10 ++ (n6, Ch.row 61 0 0 (numsK .u8 (xs.set 1 6))) :: T = T at hH10 hS hWS hS2
  have hok2 : OKS g S2 := .of (by have := hok.g1; omega) hok.g3 (by omega) hSE2
  have hv2 := hS2.one_
  obtain ⟨ws, hV, hwl, hrow⟩ := hS.at
  obtain ⟨ws2, hV2, hwl2, hrow2⟩ := hS2.at
  have hone := cells_one hwl hrow
  have hws0 : ws ≠ [] := fun k => by rw [k] at hwl; simp at hwl; omega
  repeat' (first | refine zP ?_ | refine zA ?_ | (refine zM ?_; intro _ _) | refine zX ?_ | (refine zC ?_; intro _ _ _ _) | (refine zS ?_; intro _ _) | (apply Ws <;> intro hg))
  refine WC.regionD ?_
  repeat' (first | refine zD ?_ | (refine zE ?_; intro _ _ _ _))
  refine WD.idxK pairV_len (by decide) (by first | exact gN | exact gS rfl) rfl rfl hV2 rfl (show 5 < ws2.length by omega) fun b6 p6 u6 hC => ?_
  obtain ⟨hrp, hrt⟩ := hrow2 5 (by omega)
  have hw5 : ws2[5] = ws2.getD 5 noVal := (getD_eq (by omega)).symm
  rw [hw5] at hC
  obtain ⟨w12, hw12⟩ : ∃ w12, ws2.getD 5 noVal = w12 := ⟨_, rfl⟩
  rw [hw12] at hrp hrt hC
  obtain ⟨w1, w2⟩ := w12
  simp only at hrp hrt
  refine WD.loadN (by first | exact gN | exact gS rfl) rfl rfl (hC.readN' hH10 rfl) ?_
  repeat' (first | refine zD ?_ | (refine zE ?_; intro _ _ _ _))
  refine WD.call (by first | exact gN | exact gS rfl) rfl rfl (CloneS_fs hH10 hV hone hws0 (by omega)) ?_
  rintro _ H11 ⟨rfl, hH11⟩
  refine ⟨stands_cons (.inr (holds_two ((hC.mono fun q hq => .tail _ hq).readN' hH11 rfl) hrp.same hrt.same)) stands_nil', WD.toWR rfl ?_⟩
  have hcl := cellsF_len pairV_len ws
  clear hH10 hC
  repeat' (first | refine zP ?_ | refine zA ?_ | (refine zM ?_; intro _ _) | refine zX ?_ | (refine zC ?_; intro _ _ _ _) | (refine zS ?_; intro _ _) | (apply Ws <;> intro hg))
  refine WR.append1F [] [(n10 + 1, .row 74 0 0 (cellsF pairV ws))] T rfl rfl rfl rfl (Own.row hcl) hH11 (new := [w1, w2]) (by rfl) (one2 hrp.one_ hrt.one_) rfl (by decide) (by decide) (by rw [hcl]; simp; omega) fun v3 M3 n12 H12 hO3 hH12 hn12 => ?_
  clear hH11
  replace hH12 : hasH (M3 ++ T) n12 H12 := hH12
  rw [cells_snoc] at hO3
  have hR0 : SalR T ws S := ⟨hwl, hrow⟩
  have hS3 : SalesI (M3 ++ T) v3 (S ++ [S2.getD 5 noSal]) := ((hR0.snoc hrp hrt).mono fun q hq => List.mem_append_right _ hq).sales (hO3.sl T)
  have hok3 : OKS g (S ++ [S2.getD 5 noSal]) := .of hok.g1 hok.g3 (by rw [List.length_append]; simp; omega) fun s hs => by
    rcases List.mem_append.1 hs with hs | hs
    · exact hSE s hs
    · rw [List.mem_singleton.1 hs]; exact hSE2 _ (getD_mem (by omega))
  repeat' (first | refine zP ?_ | refine zA ?_ | (refine zM ?_; intro _ _) | refine zX ?_ | (refine zC ?_; intro _ _ _ _) | (refine zS ?_; intro _ _) | (apply Ws <;> intro hg))
  refine WR.call (by first | exact gN | exact gS rfl) rfl rfl (Wrong_fs hH12 hS3 hok3.lens g) ?_
  rintro _ H13 ⟨n13, M13, hn13, hH13, hWO3⟩
  obtain ⟨wv3, wl3, hwv3, hBW3, hWS3, rfl⟩ := hWO3.ok hok3
  have hmore := wrong_more hBW hBW3
  have hwll : wl.length ≤ 6 := by
    obtain ⟨s, hs, _, he⟩ := hBW.1
    have := outK_len s (matS S).length
    rw [he]; rw [matS_len] at this ⊢; omega
  have hback := hH13.sub (List.sublist_append_right M13 (M3 ++ T))
  replace hS := hS.mono (M' := M13 ++ (M3 ++ T)) fun q hq => List.mem_append_right _ (List.mem_append_right _ hq)
  replace hWS := hWS.mono (M' := M13 ++ (M3 ++ T)) fun q hq => List.mem_append_right _ (List.mem_append_right _ hq)
  clear hH12 hback hO3 hS3 hok3 hrow hrow2 hV2 hV hS2 hok2 hrp hrt hR0 hSE2
  generalize M13 ++ (M3 ++ T) = T at hH13 hS hWS hWS3
  obtain ⟨ws, hV, hwl, hrow⟩ := hS.at
  repeat' (first | refine zP ?_ | refine zA ?_ | (refine zM ?_; intro _ _) | refine zX ?_ | (refine zC ?_; intro _ _ _ _) | (refine zS ?_; intro _ _) | refine zO ?_ | (apply Ws <;> intro hg))
  refine WR.op (by first | exact gN | exact gS rfl) rfl (OpV.lenK pairV_len (by decide) rfl hV) ?_
  rw [hwl]
  repeat' (first | refine zP ?_ | refine zA ?_ | (refine zM ?_; intro _ _) | refine zX ?_ | (refine zC ?_; intro _ _ _ _) | (refine zS ?_; intro _ _) | refine zO ?_ | (apply Ws <;> intro hg))
  refine WR.op (by first | exact gN | exact gS rfl) rfl (OpV.conv u8k i64k rfl (c := (oa : Int)) (IntWalk.i64_in _ (by omega))) ?_
  repeat' (first | refine zP ?_ | refine zA ?_ | (refine zM ?_; intro _ _) | refine zX ?_ | (refine zC ?_; intro _ _ _ _) | (refine zS ?_; intro _ _) | refine zO ?_ | (apply Ws <;> intro hg))
  refine WR.op (by first | exact gN | exact gS rfl) rfl (OpV.lenK pairV_len (by decide) rfl hV) ?_
  rw [hwl]
  have hmi := Nat.mod_lt oa (show 0 < S.length by omega)
  have hposI : 0 < (S.length : Int) := by omega
  repeat' (first | refine zP ?_ | refine zA ?_ | (refine zM ?_; intro _ _) | refine zX ?_ | (refine zC ?_; intro _ _ _ _) | (refine zS ?_; intro _ _) | refine zO ?_ | (apply Ws <;> intro hg))
  rw [show (oa : Int) % (S.length : Int) = ((oa % S.length : Nat) : Int) by simp]
  generalize oa % S.length = I at hmi ⊢
  have hone := cells_one hwl hrow
  have hws0 : ws ≠ [] := fun k => by rw [k] at hwl; simp at hwl; omega
  have hcl := cellsF_len pairV_len ws
  repeat' (first | refine zP ?_ | refine zA ?_ | (refine zM ?_; intro _ _) | refine zX ?_ | (refine zC ?_; intro _ _ _ _) | (refine zS ?_; intro _ _) | refine zO ?_ | (apply Ws <;> intro hg))
  refine WC.regionD ?_
  repeat' (first | refine zD ?_ | (refine zE ?_; intro _ _ _ _))
  refine WD.idxK pairV_len (by decide) (by first | exact gN | exact gS rfl) rfl rfl hV rfl (show I < ws.length by omega) fun b6 p6 u6 hC => ?_
  obtain ⟨hrp, hrt⟩ := hrow I (by omega)
  have hwI : ws[I]'(by omega) = ws.getD I noVal := (getD_eq (by omega)).symm
  rw [hwI] at hC
  obtain ⟨w34, hw34⟩ : ∃ w34, ws.getD I noVal = w34 := ⟨_, rfl⟩
  rw [hw34] at hrp hrt hC
  obtain ⟨w3, w4⟩ := w34
  simp only at hrp hrt
  refine WD.loadN (by first | exact gN | exact gS rfl) rfl rfl (hC.readN' hH13 rfl) ?_
  repeat' (first | refine zD ?_ | (refine zE ?_; intro _ _ _ _))
  refine WD.call (by first | exact gN | exact gS rfl) rfl rfl (CloneS_fs hH13 hV hone hws0 (by omega)) ?_
  rintro _ H11 ⟨rfl, hH11⟩
  refine ⟨stands_cons (.inr (holds_two ((hC.mono fun q hq => .tail _ hq).readN' hH11 rfl) hrp.same hrt.same)) stands_nil', WD.toWR rfl ?_⟩
  clear hH13 hC
  repeat' (first | refine zP ?_ | refine zA ?_ | (refine zM ?_; intro _ _) | refine zX ?_ | (refine zC ?_; intro _ _ _ _) | (refine zS ?_; intro _ _) | (apply Ws <;> intro hg))
  refine WR.append1F [] [(n13 + 1, .row 74 0 0 (cellsF pairV ws))] T rfl rfl rfl rfl (Own.row hcl) hH11 (new := [w3, w4]) (by rfl) (one2 hrp.one_ hrt.one_) rfl (by decide) (by decide) (by rw [hcl]; simp; omega) fun v4 M4 n14 H14 hO4 hH14 hn14 => ?_
  clear hH11
  replace hH14 : hasH (M4 ++ T) n14 H14 := hH14
  rw [cells_snoc] at hO4
  have hR0 : SalR T ws S := ⟨hwl, hrow⟩
  have hS4 : SalesI (M4 ++ T) v4 (S ++ [S.getD I noSal]) := ((hR0.snoc hrp hrt).mono fun q hq => List.mem_append_right _ hq).sales (hO4.sl T)
  have hok4 : OKS g (S ++ [S.getD I noSal]) := .of hok.g1 hok.g3 (by rw [List.length_append]; simp; omega) fun s hs => by
    rcases List.mem_append.1 hs with hs | hs
    · exact hSE s hs
    · rw [List.mem_singleton.1 hs]; exact hSE _ (getD_mem (by omega))
  repeat' (first | refine zP ?_ | refine zA ?_ | (refine zM ?_; intro _ _) | refine zX ?_ | (refine zC ?_; intro _ _ _ _) | (refine zS ?_; intro _ _) | (apply Ws <;> intro hg))
  refine WR.call (by first | exact gN | exact gS rfl) rfl rfl (Taste_fs hH14 hS4 hok4.lens g) ?_
  rintro _ H15 ⟨n15, hn15, hH15, rfl⟩
  rw [err0 hok4, decide_eq_true (show (0 : Int) = 0 from rfl), Bool.true_and, taste_twice hmi]
  have hH16 : hasH T n15 H15 := hH15.sub (List.sublist_append_right _ _)
  clear hH14 hH15 hO4 hS4 hok4 hR0 hrp hrt
  repeat' (first | refine zP ?_ | refine zA ?_ | (refine zM ?_; intro _ _) | refine zX ?_ | (refine zC ?_; intro _ _ _ _) | (refine zS ?_; intro _ _) | refine zO ?_ | (apply Ws <;> intro hg))
  refine WR.call (by first | exact gN | exact gS rfl) rfl rfl (CloneS_fs hH16 hV hone hws0 (by omega)) ?_
  rintro _ H17 ⟨rfl, hH17⟩
  clear hH16
  repeat' (first | refine zP ?_ | refine zA ?_ | (refine zM ?_; intro _ _) | refine zX ?_ | (refine zC ?_; intro _ _ _ _) | (refine zS ?_; intro _ _) | refine zO ?_ | (apply Ws <;> intro hg))
  refine WR.call (by first | exact gN | exact gS rfl) rfl rfl (DeleteS_fs hH17 hone hcl (show I < ws.length by omega) (by omega)) ?_
  rintro _ H18 ⟨zs, hH18, hzl, hzt, rfl⟩
  clear hH17
  rw [cells_erase] at hzt
  have hIw : I < ws.length := by omega
  have hel : (ws.eraseIdx I).length = ws.length - 1 := List.length_eraseIdx_of_lt hIw
  have heS : (S.eraseIdx I).length = S.length - 1 := List.length_eraseIdx_of_lt hmi
  have hce := cellsF_len pairV_len (ws.eraseIdx I)
  rw [hel] at hce
  have hS5 : SalesI ((n15 + 1, Ch.row 74 0 0 zs) :: T) (.slice (some ⟨n15 + 1, 0, some 0⟩) (ws.length - 1) (roomCode 2 ws.length)) (S.eraseIdx I) := by
    refine ⟨ws.eraseIdx I, Sl.row (lo := 0) (cs := zs) (.head _) (.row _ _ _ _) (Nat.le_refl _) hce ?_ ?_ (.inl (.inr ⟨ws.length, rfl, by omega⟩)), by omega, fun j hj => ?_⟩
    · rw [hce, Nat.sub_self, List.drop_zero]; exact hzt
    · rw [hce, hzl]; omega
    · rw [heS] at hj
      by_cases hjI : j < I
      · have k := hrow j (by omega)
        have x1 : (ws.eraseIdx I).getD j noVal = ws.getD j noVal := by rw [List.getD_eq_getElem?_getD, List.getElem?_eraseIdx_of_lt hjI, ← List.getD_eq_getElem?_getD]
        have x2 : (S.eraseIdx I).getD j noSal = S.getD j noSal := by rw [List.getD_eq_getElem?_getD, List.getElem?_eraseIdx_of_lt hjI, ← List.getD_eq_getElem?_getD]
        rw [x1, x2]; exact ⟨k.1.cons, k.2.cons⟩
      · have k := hrow (j + 1) (by omega)
        have x1 : (ws.eraseIdx I).getD j noVal = ws.getD (j + 1) noVal := by rw [List.getD_eq_getElem?_getD, List.getElem?_eraseIdx_of_ge (by omega), ← List.getD_eq_getElem?_getD]
        have x2 : (S.eraseIdx I).getD j noSal = S.getD (j + 1) noSal := by rw [List.getD_eq_getElem?_getD, List.getElem?_eraseIdx_of_ge (by omega), ← List.getD_eq_getElem?_getD]
        rw [x1, x2]; exact ⟨k.1.cons, k.2.cons⟩
  have hok5 : OKS g (S.eraseIdx I) := .of hok.g1 hok.g3 (by omega) fun s hs => hSE s (List.mem_of_mem_eraseIdx hs)
  repeat' (first | refine zP ?_ | refine zA ?_ | (refine zM ?_; intro _ _) | refine zX ?_ | (refine zC ?_; intro _ _ _ _) | (refine zS ?_; intro _ _) | (apply Ws <;> intro hg))
  refine WR.call (by first | exact gN | exact gS rfl) rfl rfl (Taste_fs hH18 hS5 hok5.lens g) ?_
  rintro _ H19 ⟨n19, hn19, hH19, rfl⟩
  rw [err0 hok5, decide_eq_true (show (0 : Int) = 0 from rfl), Bool.true_and]
  clear hH18 hS5
  have hfin : ∀ {H' : Heap}, FS C 16 [] H' (fun e H'' => e = .bool true ∧ H'' = H') := fun {H'} => FS.works ⟨rfl, rfl⟩
  have hless := taste_less (S := S) hmi
  repeat' (first | refine zP ?_ | refine zA ?_ | (refine zM ?_; intro _ _) | refine zX ?_ | (refine zC ?_; intro _ _ _ _) | (refine zS ?_; intro _ _) | refine zO ?_ | (apply Ws <;> intro hg))
  refine WR.op (by first | exact gN | exact gS rfl) rfl (OpV.eqB (eqlB _ _) rfl rfl) ?_
  rw [show (tasteB (matS S) == tasteB (matS S)) = true by cases tasteB (matS S) <;> rfl]
  cases ht : tasteB (matS S) with
  | true =>
    rw [hless ht]
    repeat' (first | refine zP ?_ | refine zA ?_ | (refine zM ?_; intro _ _) | refine zX ?_ | (refine zC ?_; intro _ _ _ _) | (refine zS ?_; intro _ _) | refine zO ?_ | (apply Ws <;> intro hg))
    refine WR.call (by first | exact gN | exact gS rfl) rfl rfl hfin ?_
    rintro _ _ ⟨rfl, rfl⟩
    repeat' (first | refine zP ?_ | refine zA ?_ | (refine zM ?_; intro _ _) | refine zX ?_ | (refine zC ?_; intro _ _ _ _) | (refine zS ?_; intro _ _) | refine zO ?_ | (apply Ws <;> intro hg))
    exact Ends.ret1 rfl rfl
  | false =>
    repeat' (first | refine zP ?_ | refine zA ?_ | (refine zM ?_; intro _ _) | refine zX ?_ | (refine zC ?_; intro _ _ _ _) | (refine zS ?_; intro _ _) | refine zO ?_ | (apply Ws <;> intro hg))
    refine WR.call (by first | exact gN | exact gS rfl) rfl rfl hfin ?_
    rintro _ _ ⟨rfl, rfl⟩
    repeat' (first | refine zP ?_ | refine zA ?_ | (refine zM ?_; intro _ _) | refine zX ?_ | (refine zC ?_; intro _ _ _ _) | (refine zS ?_; intro _ _) | refine zO ?_ | (apply Ws <;> intro hg))
    exact Ends.ret1 rfl rfl
end
end Go.Proofs.Yteopjpfhhekkoaa.Tt
