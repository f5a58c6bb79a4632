/- Texts of the law, joined. -/
import Derived.Test.YtfnflkcjhefddaaJ2
import Derived.Test.YtfnflkcjhefddaaSymT
import Derived.Test.YtfnflkcjhefddaaSymZ
import Derived.Test.YtfnflkcjhefddaaJ1
import Derived.Test.YtfnflkcjhefddaaSymR
/- The letters of a pass. -/
namespace Go.Proofs.Ytfnflkcjhefddaa.Lk
open Go Go.Abs Go.Mth
set_option linter.unusedVariables false
set_option linter.unusedSimpArgs false
def ltrs (tr : List (Nat × Nat)) : List Nat := tr.map (·.1)
theorem ltrs_snoc (tr : List (Nat × Nat)) (a x : Nat) : ltrs (tr ++ [(a, x)]) = ltrs tr ++ [a] := by simp [ltrs]
theorem ltrs_len (tr : List (Nat × Nat)) : (ltrs tr).length = tr.length := by simp [ltrs]
theorem numsK_snoc {k : IntKind} (l : List Nat) (a : Nat) : numsK k (l ++ [a]) = numsK k l ++ [.int k (a : Int)] := by simp [numsK]
theorem numsK_len {k : IntKind} (l : List Nat) : (numsK k l).length = l.length := by simp [numsK]
/-- The letters so far, in memory. -/
def LetJ (bl : Nat) (tr : List (Nat × Nat)) (Mj : HL) : Prop := ∃ lv Mo, Own 5 1 lv (numsK .u8 (ltrs tr)) Mo ∧ Mj = (bl, Ch.row 59 0 0 [lv]) :: Mo
/-- The moves of a pass. -/
def mvsL (o : List Nat) : List Nat := ltrs (runTr [] o)
attribute [local irreducible] gOK WS WC WR WD Ends FS YS OpV seqK blockK loopK midK retK rdK asgK rangeEnd sat Cell
section
variable {M : HL} {n0 : Nat} {H : Heap} {v w : Value}
set_option maxHeartbeats 1000000 in
theorem tell_let {bl bx : Nat} (hm : (bx, Ch.row 79 0 0 [ptrO bl 0]) ∈ M) : TellK 99 [ptrO bx 0] (LetJ bl) M := by
  rintro tr Mj F n H a x ⟨lv, Mo, hO, rfl⟩ hl ha hH
  have hol := ltrs_len tr
  refine FS.intro (pf := pf99) rfl rfl rfl ?_
  have hlv := (hO.sl []).one_
  have hls := (hO.sl []).same
  have mX : (bx, Ch.row 79 0 0 [ptrO bl 0]) ∈ F ++ (((bl, Ch.row 59 0 0 [lv]) :: Mo) ++ M) := List.mem_append_right _ (List.mem_append_right _ hm)
  have mL : (bl, Ch.row 59 0 0 [lv]) ∈ F ++ (((bl, Ch.row 59 0 0 [lv]) :: Mo) ++ M) := List.mem_append_right _ (List.mem_append_left _ (.head _))
  have hsp : same1 (ptrO bl 0) (ptrO bl 0) = true := same_ptr _
  refine WC.regionD ?_
  refine WD.load1 (by first | exact gN | exact gS rfl) rfl rfl (hH.read mX (.row _ _ _ _) (Nat.zero_le _) rfl) ?_
  refine WD.load1 (by first | exact gN | exact gS rfl) rfl rfl (hH.read mX (.row _ _ _ _) (Nat.zero_le _) rfl) ?_
  repeat' (first | refine zD ?_ | (refine zE ?_; intro _ _ _ _))
  have hst : ∀ {Y : HL} {n' : Nat} {H' : Heap}, hasH Y n' H' → (bx, Ch.row 79 0 0 [ptrO bl 0]) ∈ Y → (bl, Ch.row 59 0 0 [lv]) ∈ Y → stands H' [0, 1, 3] [⟨3, ⟨bl, 0, some 0⟩, none, lv⟩, ⟨1, ⟨bx, 0, some 0⟩, none, ptrO bl 0⟩, ⟨0, ⟨bx, 0, some 0⟩, none, ptrO bl 0⟩] = true := fun h h1 h2 =>
    stands_cons (.inr (holds_at (h.read h2 (.row _ _ _ _) (Nat.zero_le _) rfl) hls)) (stands_cons (.inr (holds_at (h.read h1 (.row _ _ _ _) (Nat.zero_le _) rfl) hsp)) (stands_cons (.inr (holds_at (h.read h1 (.row _ _ _ _) (Nat.zero_le _) rfl) hsp)) stands_nil'))
  refine WD.append1F (new := .int .u8 (a : Int)) (F ++ [(bl, Ch.row 59 0 0 [lv])]) Mo M rfl rfl rfl rfl hO (by simpa using hH) rfl rfl (by rw [numsK_len]; omega) (fun H' h' => hst h' (by simp [hm]) (by simp)) fun v' Mx' n' H2 hO2 hH2 hn2 => ⟨?_, ?_⟩
  · exact stands_cons (.inl rfl) (stands_cons (.inl rfl) (stands_cons (.inr (holds_at (hH2.read (b := bx) (ch := .row 79 0 0 [ptrO bl 0]) (by simp [hm]) (.row _ _ _ _) (Nat.zero_le _) rfl) hsp)) stands_nil'))
  refine WD.toWR rfl ?_
  repeat' (first | refine zP ?_ | refine zA ?_ | (refine zM ?_; intro _ _) | refine zX ?_ | (refine zC ?_; intro _ _ _ _) | (refine zS ?_; intro _ _) | (apply Ws <;> intro hg))
  have hH3 : hasH ((bl, .row 59 0 0 [lv]) :: (F ++ (Mx' ++ M))) n' H2 := hH2.perm (by classical exact List.perm_iff_count.2 (fun a => by simp only [defds, List.map_cons, List.map_nil, List.count_append, List.count_cons, List.count_nil, List.cons_append, List.nil_append, List.append_nil]; omega))
  refine WR.storeBox (by first | exact gN | exact gS rfl) hH3 rfl rfl (hO2.own.sl []).one_ .here fun H4 hH4 => ?_
  repeat' (first | refine zP ?_ | refine zA ?_ | (refine zM ?_; intro _ _) | refine zX ?_ | (refine zC ?_; intro _ _ _ _) | (refine zS ?_; intro _ _) | (apply Ws <;> intro hg))
  refine Ends.end0 ⟨(bl, Ch.row 59 0 0 [v']) :: Mx', n', ⟨v', Mx', ?_, rfl⟩, hn2, hH4.perm (by classical exact List.perm_iff_count.2 (fun a => by simp only [defds, List.map_cons, List.map_nil, List.count_append, List.count_cons, List.count_nil, List.cons_append, List.nil_append, List.append_nil]; omega))⟩
  rw [ltrs_snoc, numsK_snoc]; exact hO2.own
theorem letters_fs (hH : hasH M n0 H) (b : Nat) :
    FS C 64 [ptrO b 0] H (fun e H' => e = .func (.func 99) [].toArray [ptrO n0 0].toArray ∧ hasH ((n0, .row 79 0 0 [ptrO b 0]) :: M) (n0 + 1) H') := by
  refine FS.intro (pf := pf64) rfl rfl rfl ?_
  repeat' (first | refine zP ?_ | refine zA ?_ | (refine zM ?_; intro _ _) | refine zX ?_ | (refine zC ?_; intro _ _ _ _) | (refine zS ?_; intro _ _) | (apply Ws <;> intro hg))
  rename_i H1 hH1
  exact Ends.ret1 rfl ⟨rfl, hH1⟩
theorem mvsL_ne {o : List Nat} (hO : OrdN o) : mvsL o ≠ [] := by
  intro e
  have := congrArg List.length e
  rw [mvsL, ltrs_len, runTr_len] at this
  have := hO.one
  simp at *; omega
theorem Moves_fs (hH : hasH M n0 H) {o : List Nat} (ho : Sl M 1 v (nodes o)) (hO : OrdN o) :
    FS C 18 [v] H (fun e H' => ∃ n', e = .tuple #[.string (strB (mvsL o)), .int .i64 0] ∧ n0 ≤ n' ∧ hasH M n' H') := by
  have hv := ho.one_
  have h7 := hO.most
  refine FS.intro (pf := pf18) rfl rfl rfl ?_
  repeat' (first | refine zP ?_ | refine zA ?_ | (refine zM ?_; intro _ _) | refine zX ?_ | (refine zC ?_; intro _ _ _ _) | (refine zS ?_; intro _ _) | (apply Ws <;> intro hg))
  refine WR.call (by first | exact gN | exact gS rfl) rfl rfl (CheckN_fs hH ho hO) ?_
  rintro _ H1 ⟨rfl, rfl⟩
  repeat' (first | refine zP ?_ | refine zA ?_ | (refine zM ?_; intro _ _) | refine zX ?_ | (refine zC ?_; intro _ _ _ _) | (refine zS ?_; intro _ _) | refine zO ?_ | (apply Ws <;> intro hg))
  rename_i H1 hH1
  refine WR.call (by first | exact gN | exact gS rfl) rfl rfl (letters_fs hH1 n0) ?_
  rintro _ H2 ⟨rfl, hH2⟩
  clear hH1
  have hH3 : hasH ([(n0, Ch.row 59 0 0 [.slice none 0 0])] ++ ((n0 + 1, Ch.row 79 0 0 [ptrO n0 0]) :: M)) (n0 + 1 + 1) H2 := hH2.perm (.swap _ _ _)
  clear hH2
  refine WR.call (by first | exact gN | exact gS rfl) rfl rfl (pass_fs (tell_let (bl := n0) (bx := n0 + 1) (.head _)) ⟨.slice none 0 0, [], .nil, rfl⟩ ho.cons (by omega) hH3) ?_
  rintro _ H4 ⟨_, n4, ⟨lv, Mo, hOw, rfl⟩, hn4, hH4⟩
  replace hH4 : hasH ((n0, Ch.row 59 0 0 [lv]) :: (Mo ++ ((n0 + 1, Ch.row 79 0 0 [ptrO n0 0]) :: M))) n4 H4 := hH4
  have hlv := (hOw.sl []).one_
  repeat' (first | refine zP ?_ | refine zA ?_ | (refine zM ?_; intro _ _) | refine zX ?_ | (refine zC ?_; intro _ _ _ _) | (refine zS ?_; intro _ _) | (apply Ws <;> intro hg))
  refine WR.op (by first | exact gN | exact gS rfl) rfl (OpV.cts (bs := mvsL o) rfl ((hOw.sl _).cons) (mvsL_ne hO) hH4) ?_
  repeat' (first | refine zP ?_ | refine zA ?_ | (refine zM ?_; intro _ _) | refine zX ?_ | (refine zC ?_; intro _ _ _ _) | (refine zS ?_; intro _ _) | (apply Ws <;> intro hg))
  exact Ends.ret2 rfl rfl ⟨n4, rfl, by omega, hH4.sub ((List.sublist_cons_self _ M).trans ((List.sublist_append_right _ _).trans (List.sublist_cons_self _ _)))⟩
end
end Go.Proofs.Ytfnflkcjhefddaa.Lk

/- Pass after pass. -/
namespace Go.Proofs.Ytfnflkcjhefddaa.Lk
open Go Go.Abs Go.Mth
set_option linter.unusedVariables false
set_option linter.unusedSimpArgs false
def pit (o : List Nat) : Nat → List Nat
  | 0 => o
  | k + 1 => passF (pit o k)
def Tops (k : Nat) (l : List Nat) : Prop := ∃ A, l = A ++ upN (l.length - k) l.length ∧ ∀ x ∈ A, x < l.length - k
/-- So many passes, and no fewer. -/
def PassN (o : List Nat) (k : Nat) : Prop := k ≤ o.length - 1 ∧ ascB (pit o k) = true ∧ ∀ j, j < k → ascB (pit o j) = false
end Go.Proofs.Ytfnflkcjhefddaa.Lk

/- The reference's functions. -/
namespace Go.Proofs.Ytfnflkcjhefddaa.Lk
open Go Go.Abs Go.Mth
set_option linter.unusedVariables false
set_option linter.unusedSimpArgs false
def ascR (l : List Nat) : Bool := decide (l = List.range l.length)
structure UZ where
  k : Nat
  v : Value
  Mx : HL
  n : Nat
attribute [local irreducible] gOK WS WC WR WD Ends FS YS OpV seqK blockK loopK midK retK rdK asgK rangeEnd sat Cell
section
variable {M : HL} {n0 : Nat} {H : Heap} {v w : Value}
end
end Go.Proofs.Ytfnflkcjhefddaa.Lk

/- Barges leave in the ascending order just if no two of a basin clash. -/
namespace Go.Proofs.Ytfnflkcjhefddaa.Lk
open Go Go.Abs Go.Mth
set_option linter.unusedVariables false
set_option linter.unusedSimpArgs false
def clashP (o : List Nat) (i j : Nat) : Prop := o.getD i 0 < o.getD j 0 ∧ ∃ k, j < k ∧ k < o.length ∧ o.getD k 0 < o.getD i 0
def WK (o t : List Nat) (k : Nat) : Nat := o.length - (basK o t (List.range o.length) k).2.2.length
structure StB (o t : List Nat) (k w : Nat) : Prop where
  bas : ∃ p q, basK o t (List.range o.length) k = (p, q, upN w o.length) ∧ InvB o t k w p q ∧ (w < o.length → p.head? ≠ some w ∧ q.head? ≠ some w)
  le : w ≤ o.length
end Go.Proofs.Ytfnflkcjhefddaa.Lk

/- Some moves lead to the ascending order just if a pass does, and just if nothing bars it. -/
namespace Go.Proofs.Ytfnflkcjhefddaa.Lk
open Go Go.Abs Go.Mth
set_option linter.unusedVariables false
set_option linter.unusedSimpArgs false
def barB (o : List Nat) (i j k : Nat) : Bool := decide (o.getD k 0 < o.getD i 0) && decide (o.getD i 0 < o.getD j 0)
/-- Nothing bars it. -/
def NoBar (o : List Nat) : Prop := ∀ i j k, i < j → j < k → k < o.length → barB o i j k = false
/-- From here on some moves lead to the ascending order. -/
def canB (o : List Nat) : Nat → Nat → List Nat → List Nat → Bool
  | 0, c, i, u => ascB u
  | m + 1, c, i, u => (decide (c < o.length) && canB o m (c + 1) (i ++ [o.getD c 0]) u) || (decide (i ≠ []) && canB o m c i.dropLast (u ++ [i.getD (i.length - 1) 0]))
/-- A state of the moves. -/
structure StM (o : List Nat) (m c : Nat) (i u : List Nat) : Prop where
  le : c ≤ o.length
  num : m = 2 * (o.length - c) + i.length
  perm : (i ++ u).Perm (o.take c)
  sub : i.Sublist (o.take c)
theorem StM.start (o : List Nat) : StM o (2 * o.length) 0 [] [] := ⟨Nat.zero_le _, by simp, by simp, by simp⟩
theorem take_snoc {o : List Nat} {c : Nat} (h : c < o.length) : o.take (c + 1) = o.take c ++ [o.getD c 0] := by rw [List.take_succ_eq_append_getElem h, getD_eq h]
theorem StM.come {o : List Nat} {m c : Nat} {i u : List Nat} (h : StM o (m + 1) c i u) (hc : c < o.length) : StM o m (c + 1) (i ++ [o.getD c 0]) u := by
  refine ⟨hc, by have := h.num; simp; omega, ?_, ?_⟩
  · rw [take_snoc hc]
    refine List.Perm.trans ?_ (h.perm.append_right _)
    rw [List.append_assoc, List.append_assoc]
    exact List.Perm.append_left _ List.perm_append_comm
  · rw [take_snoc hc]; exact h.sub.append (List.Sublist.refl _)
theorem last_split {i : List Nat} (h : i ≠ []) : i.dropLast ++ [i.getD (i.length - 1) 0] = i := by
  have hl := List.length_pos_iff.2 h
  rw [getD_eq (by omega)]
  have := List.dropLast_concat_getLast h
  rw [List.getLast_eq_getElem] at this
  exact this
theorem StM.leave {o : List Nat} {m c : Nat} {i u : List Nat} (h : StM o (m + 1) c i u) (hi : i ≠ []) : StM o m c i.dropLast (u ++ [i.getD (i.length - 1) 0]) := by
  have hl := List.length_pos_iff.2 hi
  refine ⟨h.le, by have := h.num; rw [List.length_dropLast]; omega, ?_, (List.dropLast_sublist i).trans h.sub⟩
  refine List.Perm.trans ?_ h.perm
  conv => rhs; rw [← last_split hi]
  rw [List.append_assoc]
  exact List.Perm.append_left _ List.perm_append_comm
theorem StM.full {o : List Nat} {c : Nat} {i u : List Nat} (h : StM o 0 c i u) : c = o.length ∧ i = [] ∧ u.Perm o := by
  have := h.num
  have h1 := h.le
  have hi : i = [] := List.length_eq_zero_iff.1 (by omega)
  have hc : c = o.length := by omega
  refine ⟨hc, hi, ?_⟩
  have := h.perm
  rw [hi, hc, List.take_length] at this
  exact this
theorem StM.len {o : List Nat} {m c : Nat} {i u : List Nat} (h : StM o m c i u) : i.length + u.length = c := by
  have := h.perm.length_eq
  rw [List.length_append, List.length_take] at this
  have := h.le
  omega
end Go.Proofs.Ytfnflkcjhefddaa.Lk

/- Three places that bar an order: what they are, the first ones, and proofs. -/
namespace Go.Abs
set_option linter.unusedSectionVars false
open Go
section
variable [Globs] {C : CW}
end
end Go.Abs
namespace Go.Proofs.Ytfnflkcjhefddaa.Lk
open Go Go.Abs Go.Mth
set_option linter.unusedVariables false
set_option linter.unusedSimpArgs false
/-- Nothing that comes before bars it. -/
def NoBefore (o : List Nat) (i j k : Nat) : Prop := ∀ a b c, a < b → b < c → c < o.length → (a < i ∨ (a = i ∧ (b < j ∨ (b = j ∧ c < k)))) → barB o a b c = false
/-- The first ones, or none. -/
def WhyR (o : List Nat) (i j k : Nat) (e : Int) : Prop := (e = 0 ∧ i < j ∧ j < k ∧ k < o.length ∧ barB o i j k = true ∧ NoBefore o i j k) ∨ (e = 13 ∧ i = 0 ∧ j = 0 ∧ k = 0 ∧ NoBar o)
def prvE (o : List Nat) (i j k : Nat) : Int := if i < j ∧ j < k then (if barB o i j k = true then 0 else 14) else 7
structure IJ where
  j : Nat
  k : Nat
attribute [local irreducible] gOK WS WC WR WD Ends FS YS OpV seqK blockK loopK midK retK rdK asgK rangeEnd sat Cell
section
variable {M : HL} {n0 : Nat} {H : Heap} {v w : Value}
end
end Go.Proofs.Ytfnflkcjhefddaa.Lk

/- The law's own pass; lists compared. -/
namespace Go.Abs
set_option linter.unusedSectionVars false
open Go
section
variable [Globs] {C : CW} {nt : Nat} {L : Env} {D : List Nat} {H H' : Heap} {K : St → Prop} {M M' : HL} {n i d : Nat} {gd : Option (Tmp × Bool)} {lo : List Nat} {l : List POp} {rs : List Rd}
/-- Numbers in a row of one's own, or none. -/
def OwnN (e : Nat) (v : Value) (xs : List Nat) (Mx : HL) : Prop := (xs = [] ∧ v = .slice none 0 0 ∧ Mx = []) ∨ (xs ≠ [] ∧ OwnR e 1 v (nodes xs) Mx)
theorem OwnN.own {e : Nat} {v : Value} {xs : List Nat} {Mx : HL} (h : OwnN e v xs Mx) : Own e 1 v (nodes xs) Mx := by
  rcases h with ⟨rfl, rfl, rfl⟩ | ⟨_, h⟩
  · exact .nil
  · exact h.own
theorem OwnN.sl {e : Nat} {v : Value} {xs : List Nat} {Mx T : HL} (h : OwnN e v xs Mx) (k : ∀ q ∈ Mx, q ∈ T) : Sl T 1 v (nodes xs) := (h.own.sl []).mono fun q hq => k q (by simpa using hq)
end
end Go.Abs
namespace Go.Proofs.Ytfnflkcjhefddaa.Lk
open Go Go.Abs Go.Mth
set_option linter.unusedVariables false
set_option linter.unusedSimpArgs false
attribute [local irreducible] gOK WS WC WR WD Ends FS YS OpV seqK blockK loopK midK retK rdK asgK rangeEnd sat Cell
section
variable {M : HL} {n0 : Nat} {H : Heap} {v w : Value}
theorem same_fs (hH : hasH M n0 H) {xs ys : List Nat} (hS : Sl M 1 v (nodes xs)) (hU : Sl M 1 w (nodes ys)) (hx : xs.length ≤ 1000) (hy : ys.length ≤ 1000) :
    FS C 22 [v, w] H (fun e H' => e = .bool (decide (xs = ys)) ∧ H' = H) := by
  refine FS.intro (pf := pf22) rfl rfl rfl ?_
  repeat' (first | refine zP ?_ | refine zA ?_ | (refine zM ?_; intro _ _) | refine zX ?_ | (refine zC ?_; intro _ _ _ _) | (refine zS ?_; intro _ _) | (apply Ws <;> intro hg))
  refine WC.condP rfl (fun hne => ?_) (fun hne => ?_)
  · repeat' (first | refine zP ?_ | refine zA ?_ | (refine zM ?_; intro _ _) | refine zX ?_ | (refine zC ?_; intro _ _ _ _) | (refine zS ?_; intro _ _) | (apply Ws <;> intro hg))
    refine Ends.ret1 rfl ⟨?_, rfl⟩
    rw [decide_eq_false fun e => hne (by rw [e])]
  · have hll : xs.length = ys.length := by omega
    repeat' (first | refine zP ?_ | refine zA ?_ | (refine zM ?_; intro _ _) | refine zX ?_ | (refine zC ?_; intro _ _ _ _) | (refine zS ?_; intro _ _) | (apply Ws <;> intro hg))
    refine WC.loopX [(0, _), (1, _)] (fun k : Nat => [(5, .int .i64 (k : Int))]) [] (fun k H' => H' = H ∧ k ≤ xs.length ∧ ∀ i, i < k → xs.getD i 0 = ys.getD i 0) (fun k => xs.length - k) 0 (by repeat' (first | exact .nil | refine .cons rfl ?_)) rfl ⟨rfl, Nat.zero_le _, fun i h => absurd h (Nat.not_lt_zero _)⟩ ?_
    rintro k _ ⟨rfl, hk, hall⟩
    dsimp only [List.cons_append, List.nil_append]
    repeat' (first | refine zP ?_ | refine zA ?_ | (refine zM ?_; intro _ _) | refine zX ?_ | (refine zC ?_; intro _ _ _ _) | (refine zS ?_; intro _ _) | (apply Ws <;> intro hg))
    refine WC.condP rfl (fun hlt => ?_) (fun hlt => ?_)
    · have hk' : k < xs.length := by omega
      repeat' (first | refine zP ?_ | refine zA ?_ | (refine zM ?_; intro _ _) | refine zX ?_ | (refine zC ?_; intro _ _ _ _) | (refine zS ?_; intro _ _) | (apply Ws <;> intro hg))
      refine WC.condP rfl (fun hd => ?_) (fun hd => ?_)
      · repeat' (first | refine zP ?_ | refine zA ?_ | (refine zM ?_; intro _ _) | refine zX ?_ | (refine zC ?_; intro _ _ _ _) | (refine zS ?_; intro _ _) | (apply Ws <;> intro hg))
        refine Ends.ret1 rfl ⟨?_, rfl⟩
        rw [decide_eq_false fun e => hd (by rw [e])]
      · repeat' (first | refine zP ?_ | refine zA ?_ | (refine zM ?_; intro _ _) | refine zX ?_ | (refine zC ?_; intro _ _ _ _) | (refine zS ?_; intro _ _) | (apply Ws <;> intro hg))
        refine Ends.loop (k + 1) (by omega) (by repeat' (first | exact .nil | refine .cons rfl ?_)) rfl ⟨rfl, hk', fun i hi => ?_⟩
        rcases Nat.lt_or_ge i k with h | h
        · exact hall i h
        · rw [show i = k by omega]; omega
    · repeat' (first | refine zP ?_ | refine zA ?_ | (refine zM ?_; intro _ _) | refine zX ?_ | (refine zC ?_; intro _ _ _ _) | (refine zS ?_; intro _ _) | (apply Ws <;> intro hg))
      refine Ends.ret1 rfl ⟨?_, rfl⟩
      rw [decide_eq_true (ext_getD (a := 0) hll fun i hi => hall i (by omega))]
end
end Go.Proofs.Ytfnflkcjhefddaa.Lk

/- How many passes. -/
namespace Go.Proofs.Ytfnflkcjhefddaa.Lk
open Go Go.Abs Go.Mth
set_option linter.unusedVariables false
set_option linter.unusedSimpArgs false
structure QX where
  k : Nat
  v : Value
  Mx : HL
  n : Nat
attribute [local irreducible] gOK WS WC WR WD Ends FS YS OpV seqK blockK loopK midK retK rdK asgK rangeEnd sat Cell
section
variable {M : HL} {n0 : Nat} {H : Heap} {v w : Value}
end
end Go.Proofs.Ytfnflkcjhefddaa.Lk

/- The reference's Check, barred, Sorted, Why, Passes, Proves; what both answer to what is no order. -/
namespace Go.Proofs.Ytfnflkcjhefddaa.Lk
open Go Go.Abs Go.Mth
set_option linter.unusedVariables false
set_option linter.unusedSimpArgs false
def BarR (o : List Nat) (i j k : Nat) (f : Bool) : Prop := (f = true ∧ i < j ∧ j < k ∧ k < o.length ∧ barB o i j k = true ∧ NoBefore o i j k) ∨ (f = false ∧ i = 0 ∧ j = 0 ∧ k = 0 ∧ NoBar o)
def inO (o : List Nat) (a : Int) : Prop := 0 ≤ a ∧ a < (o.length : Int)
instance (o : List Nat) (a : Int) : Decidable (inO o a) := inferInstanceAs (Decidable (_ ∧ _))
def prvI (o : List Nat) (i j k : Int) : Int := if inO o i ∧ inO o j ∧ inO o k then prvE o i.toNat j.toNat k.toNat else 2
theorem NoBefore.uniq {o : List Nat} {i j k a b c : Nat} (h : NoBefore o i j k) (h2 : NoBefore o a b c) (hij : i < j) (hjk : j < k) (hk : k < o.length) (hab : a < b) (hbc : b < c) (hc : c < o.length) (h3 : barB o i j k = true) (h4 : barB o a b c = true) : i = a ∧ j = b ∧ k = c := by
  have q1 : ¬ (a < i ∨ (a = i ∧ (b < j ∨ (b = j ∧ c < k)))) := fun q => by rw [h a b c hab hbc hc q] at h4; cases h4
  have q2 : ¬ (i < a ∨ (i = a ∧ (j < b ∨ (j = b ∧ k < c)))) := fun q => by rw [h2 i j k hij hjk hk q] at h3; cases h3
  omega
theorem WhyR.uniq {o : List Nat} {i j k a b c : Nat} {e f : Int} (h : WhyR o i j k e) (h2 : WhyR o a b c f) : i = a ∧ j = b ∧ k = c ∧ e = f := by
  rcases h with ⟨rfl, h1, h3, h4, h5, h6⟩ | ⟨rfl, rfl, rfl, rfl, h7⟩ <;> rcases h2 with ⟨rfl, g1, g3, g4, g5, g6⟩ | ⟨rfl, rfl, rfl, rfl, g7⟩
  · obtain ⟨q1, q2, q3⟩ := h6.uniq g6 h1 h3 h4 g1 g3 g4 h5 g5
    exact ⟨q1, q2, q3, rfl⟩
  · rw [g7 i j k h1 h3 h4] at h5; cases h5
  · rw [h7 a b c g1 g3 g4] at g5; cases g5
  · exact ⟨rfl, rfl, rfl, rfl⟩
attribute [local irreducible] gOK WS WC WR WD Ends FS YS OpV seqK blockK loopK midK retK rdK asgK rangeEnd sat Cell
section
variable {M : HL} {n0 : Nat} {H : Heap} {v w : Value}
end
end Go.Proofs.Ytfnflkcjhefddaa.Lk

/- The reference's moves. -/
namespace Go.Proofs.Ytfnflkcjhefddaa.Lk
open Go Go.Abs Go.Mth
set_option linter.unusedVariables false
set_option linter.unusedSimpArgs false
structure MX where
  k : Nat
  st : List Nat
  tr : List (Nat × Nat)
  v : Value
  Mx : HL
  n : Nat
theorem run_end (st : List Nat) : runTr st [] = st.map fun y => (111, y) := rfl
theorem nodes_rev_cons (y : Nat) (st : List Nat) : nodes (y :: st).reverse = nodes st.reverse ++ [.int .i64 (y : Int)] := by simp [nodes]
attribute [local irreducible] gOK WS WC WR WD Ends FS YS OpV seqK blockK loopK midK retK rdK asgK rangeEnd sat Cell
section
variable {M : HL} {n0 : Nat} {H : Heap} {v w : Value}
end
end Go.Proofs.Ytfnflkcjhefddaa.Lk

/- Moves are carried out. -/
namespace Go.Proofs.Ytfnflkcjhefddaa.Lk
open Go Go.Abs Go.Mth
set_option linter.unusedVariables false
set_option linter.unusedSimpArgs false
/-- What moves lead to: an error, or what has left. -/
def runE (o : List Nat) : List Nat → Nat → List Nat → List Nat → Nat × List Nat
  | [], _, _, u => if u.length < o.length then (21, []) else (0, u)
  | a :: l, c, st, u => if a = 105 then (if c = o.length then (2, []) else runE o l (c + 1) (o.getD c 0 :: st) u)
      else if a = 111 then (match st with | [] => (4, []) | y :: st => runE o l c st (u ++ [y])) else (10, [])
theorem runE_in {o : List Nat} {a : Nat} (h : a = 105) (l : List Nat) (c : Nat) (st u : List Nat) : runE o (a :: l) c st u = if c = o.length then (2, []) else runE o l (c + 1) (o.getD c 0 :: st) u := by cases st <;> simp only [runE, if_pos h]
theorem runE_out {o : List Nat} {a : Nat} (h : a = 111) (l : List Nat) (c y : Nat) (st u : List Nat) : runE o (a :: l) c (y :: st) u = runE o l c st (u ++ [y]) := by rw [runE, if_neg (by omega), if_pos h]
theorem runE_none {o : List Nat} {a : Nat} (h : a = 111) (l : List Nat) (c : Nat) (u : List Nat) : runE o (a :: l) c [] u = (4, []) := by rw [runE, if_neg (by omega), if_pos h]
theorem runE_bad {o : List Nat} {a : Nat} (h : a ≠ 105) (h2 : a ≠ 111) (l : List Nat) (c : Nat) (st u : List Nat) : runE o (a :: l) c st u = (10, []) := by cases st <;> simp only [runE, if_neg h, if_neg h2]
structure RX where
  i : Nat
  c : Nat
  st : List Nat
  tr : List (Nat × Nat)
  vo : Value
  Mj : HL
  n : Nat
theorem underT : C.c.P.underlying 9 = some .string := by kernel_rfl
theorem drop_getD (o : List Nat) (c : Nat) : (o.drop c).getD 0 0 = o.getD c 0 := by simp
attribute [local irreducible] gOK WS WC WR WD Ends FS YS OpV seqK blockK loopK midK retK rdK asgK rangeEnd sat Cell
section
variable {M : HL} {n0 : Nat} {H : Heap} {v w : Value}
set_option maxHeartbeats 2000000 in
theorem carryOut_fs {fn : Nat} {caps : List Value} {J : List (Nat × Nat) → HL → Prop} (hT : TellK fn caps J M) {Mj : HL} (hJ : J [] Mj) {o bs : List Nat} {vo : Value} (ho : Sl M 1 vo (nodes o)) (hol : o.length ≤ 10) (hb : ∀ b ∈ bs, b ≤ 255) (hbl : bs.length ≤ 1000) (hH : hasH (Mj ++ M) n0 H) :
    FS C 65 [vo, .string (strB bs), .func (.func fn) [].toArray caps.toArray] H (fun e H' => ∃ tr Mj' n', e = .int .i64 ((runE o bs 0 [] []).1 : Int) ∧ ((runE o bs 0 [] []).1 = 0 → outsT tr = (runE o bs 0 [] []).2) ∧ J tr Mj' ∧ n0 ≤ n' ∧ hasH (Mj' ++ M) n' H') := by
  have ho0 := ho.mono fun q hq => List.mem_append_right Mj hq
  have hvo := ho.one_
  generalize hE : runE o bs 0 [] [] = E
  have hend : ∀ {b n : Nat} {p : List Nat} {H : Heap} {Mj : HL}, BP b p (Mj ++ M) n H → hasH (Mj ++ M) n H := fun h => by
    obtain ⟨v, M0, hp, hH⟩ := h
    exact hH.sub ((List.sublist_append_right M0 _).cons _)
  refine FS.intro (pf := pf65) rfl rfl rfl ?_
  repeat' (first | refine zP ?_ | refine zA ?_ | (refine zM ?_; intro _ _) | refine zX ?_ | (refine zC ?_; intro _ _ _ _) | (refine zS ?_; intro _ _) | (apply Ws <;> intro hg))
  rename_i H1 hH1
  have hB1 : BP n0 [] (Mj ++ M) (n0 + 1) H1 := ⟨_, [], .nil, hH1⟩
  clear ho0 hH hH1
  refine WR.op (by first | exact gN | exact gS rfl) rfl (OpV.lenT underT rfl) ?_
  rw [strB_size]
  repeat' (first | refine zP ?_ | refine zA ?_ | (refine zM ?_; intro _ _) | refine zX ?_ | (refine zC ?_; intro _ _ _ _) | (refine zS ?_; intro _ _) | (apply Ws <;> intro hg))
  refine WC.loopX [(1, .string (strB bs)), (2, .func (.func fn) [].toArray caps.toArray), (7, ptrO n0 0), (10, .int .i64 (bs.length : Int))] (fun z : RX => [(11, .int .i64 (z.i : Int)), (0, z.vo)]) []
    (fun z H' => z.i ≤ bs.length ∧ z.c ≤ o.length ∧ (outsT z.tr).length + z.st.length = z.c ∧ z.tr.length = z.c + (outsT z.tr).length ∧ runE o (bs.drop z.i) z.c z.st (outsT z.tr) = E ∧ J z.tr z.Mj ∧ Sl M 1 z.vo (nodes (o.drop z.c)) ∧ n0 ≤ z.n ∧ BP n0 z.st (z.Mj ++ M) z.n H') (fun z => bs.length - z.i) ⟨0, 0, [], [], vo, Mj, n0 + 1⟩ (by repeat' (first | exact .nil | refine .cons rfl ?_)) rfl
    ⟨Nat.zero_le _, Nat.zero_le _, rfl, rfl, hE, hJ, ho, Nat.le_succ _, hB1⟩ ?_
  clear hB1 hJ hE ho hvo
  rintro ⟨i, c, st, tr, vo, Mj, n1⟩ H2 ⟨hi, hc, hlen, htl, hrun, hJ, ho, hn1, hB⟩
  simp only at hi hc hlen htl hrun hJ ho hn1 hB
  have hvo := ho.one_
  dsimp only [List.cons_append, List.nil_append]
  repeat' (first | refine zP ?_ | refine zA ?_ | (refine zM ?_; intro _ _) | refine zX ?_ | (refine zC ?_; intro _ _ _ _) | (refine zS ?_; intro _ _) | (apply Ws <;> intro hg))
  refine WC.condP rfl (fun hlt => ?_) (fun hlt => ?_)
  · have hi' : i < bs.length := by omega
    rw [List.drop_eq_getElem_cons hi', ← getD_eq (a := 0)] at hrun
    repeat' (first | refine zP ?_ | refine zA ?_ | (refine zM ?_; intro _ _) | refine zX ?_ | (refine zC ?_; intro _ _ _ _) | (refine zS ?_; intro _ _) | (apply Ws <;> intro hg))
    refine WR.op (by first | exact gN | exact gS rfl) rfl (OpV.idxT (bs := bs) (k := i) underT rfl rfl hi' hb) ?_
    generalize bs.getD i 0 = a at hrun ⊢
    by_cases ha : a = 105
    · rw [runE_in ha] at hrun
      have hdl : (nodes (o.drop c)).length = o.length - c := by simp [nodes]
      have hdl2 : (o.drop c).length = o.length - c := by simp
      obtain ⟨U, hU, hMU⟩ := hB.sl
      have hoU := ho.mono fun q hq => hMU q (List.mem_append_right _ hq)
      by_cases hco : c = o.length
      · rw [if_pos hco] at hrun
        subst hrun
        repeat' (first | refine zP ?_ | refine zA ?_ | (refine zM ?_; intro _ _) | refine zX ?_ | (refine zC ?_; intro _ _ _ _) | (refine zS ?_; intro _ _) | refine zO ?_ | (apply Ws <;> intro hg))
        exact Ends.ret1 rfl ⟨tr, Mj, n1, rfl, fun h => by simp at h, hJ, hn1, hend hB⟩
      · rw [if_neg hco] at hrun
        have hc' : c < o.length := by omega
        have h0l : 0 < (o.drop c).length := by omega
        repeat' (first | refine zP ?_ | refine zA ?_ | (refine zM ?_; intro _ _) | refine zX ?_ | (refine zC ?_; intro _ _ _ _) | (refine zS ?_; intro _ _) | refine zO ?_ | (apply Ws <;> intro hg))
        refine WR.call (by first | exact gN | exact gS rfl) rfl rfl (hB.bring _ (by omega)) ?_
        rintro _ H5 ⟨n5, hn5, hB5⟩
        clear hU hoU hMU
        obtain ⟨U, hU, hMU⟩ := hB5.sl
        have hoU := ho.mono fun q hq => hMU q (List.mem_append_right _ hq)
        repeat' (first | refine zP ?_ | refine zA ?_ | (refine zM ?_; intro _ _) | refine zX ?_ | (refine zC ?_; intro _ _ _ _) | (refine zS ?_; intro _ _) | refine zO ?_ | (apply Ws <;> intro hg))
        rw [drop_getD] at hB5 ⊢
        refine WR.callV (by first | exact gN | exact gS rfl) rfl rfl rfl (hB5.tell hT hJ (by omega) 105 _ (.inl rfl)) ?_
        rintro _ H9 ⟨Mj9, n9, hJ9, hn9, hB9⟩
        clear hU hoU hMU
        repeat' (first | refine zP ?_ | refine zA ?_ | (refine zM ?_; intro _ _) | refine zX ?_ | (refine zC ?_; intro _ _ _ _) | (refine zS ?_; intro _ _) | (apply Ws <;> intro hg))
        refine WR.cutLoN (a := 1) (by first | exact gN | exact gS rfl) rfl rfl ho rfl (by omega) fun v2 hs2 => ?_
        rw [List.drop_drop] at hs2
        repeat' (first | refine zP ?_ | refine zA ?_ | (refine zM ?_; intro _ _) | refine zX ?_ | (refine zC ?_; intro _ _ _ _) | (refine zS ?_; intro _ _) | (apply Ws <;> intro hg))
        refine Ends.loop ⟨i + 1, c + 1, o.getD c 0 :: st, tr ++ [(105, o.getD c 0)], v2, Mj9, n9⟩ (by simp only; omega) (by repeat' (first | exact .nil | refine .cons rfl ?_)) rfl ⟨hi', hc', ?_, ?_, ?_, hJ9, hs2, by simp only; omega, hB9⟩
        · simp only; rw [outsT_in, List.length_cons]; omega
        · simp only; rw [outsT_in, List.length_append, List.length_singleton]; omega
        · simp only; rw [outsT_in]; exact hrun
    · by_cases ha2 : a = 111
      · repeat' (first | refine zP ?_ | refine zA ?_ | (refine zM ?_; intro _ _) | refine zX ?_ | (refine zC ?_; intro _ _ _ _) | (refine zS ?_; intro _ _) | refine zO ?_ | (apply Ws <;> intro hg))
        refine WR.call (by first | exact gN | exact gS rfl) rfl rfl hB.isEmpty ?_
        rintro _ H4 ⟨rfl, rfl⟩
        cases st with
        | nil =>
          rw [runE_none ha2] at hrun
          subst hrun
          repeat' (first | refine zP ?_ | refine zA ?_ | (refine zM ?_; intro _ _) | refine zX ?_ | (refine zC ?_; intro _ _ _ _) | (refine zS ?_; intro _ _) | refine zO ?_ | (apply Ws <;> intro hg))
          exact Ends.ret1 rfl ⟨tr, Mj, n1, rfl, fun h => by simp at h, hJ, hn1, hend hB⟩
        | cons y st =>
          rw [runE_out ha2] at hrun
          have hl0 : (y :: st).length = st.length + 1 := rfl
          repeat' (first | refine zP ?_ | refine zA ?_ | (refine zM ?_; intro _ _) | refine zX ?_ | (refine zC ?_; intro _ _ _ _) | (refine zS ?_; intro _ _) | refine zO ?_ | (apply Ws <;> intro hg))
          refine WR.call (by first | exact gN | exact gS rfl) rfl rfl hB.take ?_
          rintro _ H8 ⟨rfl, hB8⟩
          refine WR.callV (by first | exact gN | exact gS rfl) rfl rfl rfl (hB8.tell hT hJ (by omega) 111 y (.inr rfl)) ?_
          rintro _ H9 ⟨Mj9, n9, hJ9, hn9, hB9⟩
          repeat' (first | refine zP ?_ | refine zA ?_ | (refine zM ?_; intro _ _) | refine zX ?_ | (refine zC ?_; intro _ _ _ _) | (refine zS ?_; intro _ _) | (apply Ws <;> intro hg))
          refine Ends.loop ⟨i + 1, c, st, tr ++ [(111, y)], vo, Mj9, n9⟩ (by simp only; omega) (by repeat' (first | exact .nil | refine .cons rfl ?_)) rfl ⟨hi', hc, ?_, ?_, ?_, hJ9, ho, by simp only; omega, hB9⟩
          · simp only; rw [outsT_out, List.length_append, List.length_singleton]; omega
          · simp only; rw [outsT_out, List.length_append, List.length_append, List.length_singleton, List.length_singleton]; omega
          · simp only; rw [outsT_out]; exact hrun
      · rw [runE_bad ha ha2] at hrun
        subst hrun
        repeat' (first | refine zP ?_ | refine zA ?_ | (refine zM ?_; intro _ _) | refine zX ?_ | (refine zC ?_; intro _ _ _ _) | (refine zS ?_; intro _ _) | refine zO ?_ | (apply Ws <;> intro hg))
        exact Ends.ret1 rfl ⟨tr, Mj, n1, rfl, fun h => by simp at h, hJ, hn1, hend hB⟩
  · have hin : i = bs.length := by omega
    subst hin
    rw [List.drop_length, runE] at hrun
    have hdl2 : (o.drop c).length = o.length - c := by simp
    obtain ⟨U, hU, hMU⟩ := hB.sl
    have hoU := ho.mono fun q hq => hMU q (List.mem_append_right _ hq)
    by_cases hco : c = o.length
    · repeat' (first | refine zP ?_ | refine zA ?_ | (refine zM ?_; intro _ _) | refine zX ?_ | (refine zC ?_; intro _ _ _ _) | (refine zS ?_; intro _ _) | refine zO ?_ | (apply Ws <;> intro hg))
      refine WR.call (by first | exact gN | exact gS rfl) rfl rfl hB.isEmpty ?_
      rintro _ H4 ⟨rfl, rfl⟩
      cases st with
      | nil =>
        rw [List.length_nil] at hlen
        rw [if_neg (by omega)] at hrun
        subst hrun
        repeat' (first | refine zP ?_ | refine zA ?_ | (refine zM ?_; intro _ _) | refine zX ?_ | (refine zC ?_; intro _ _ _ _) | (refine zS ?_; intro _ _) | refine zO ?_ | (apply Ws <;> intro hg))
        exact Ends.ret1 rfl ⟨tr, Mj, n1, rfl, fun _ => rfl, hJ, hn1, hend hB⟩
      | cons y st =>
        rw [List.length_cons] at hlen
        rw [if_pos (by omega)] at hrun
        subst hrun
        repeat' (first | refine zP ?_ | refine zA ?_ | (refine zM ?_; intro _ _) | refine zX ?_ | (refine zC ?_; intro _ _ _ _) | (refine zS ?_; intro _ _) | refine zO ?_ | (apply Ws <;> intro hg))
        exact Ends.ret1 rfl ⟨tr, Mj, n1, rfl, fun h => by simp at h, hJ, hn1, hend hB⟩
    · rw [if_pos (by omega)] at hrun
      subst hrun
      repeat' (first | refine zP ?_ | refine zA ?_ | (refine zM ?_; intro _ _) | refine zX ?_ | (refine zC ?_; intro _ _ _ _) | (refine zS ?_; intro _ _) | refine zO ?_ | (apply Ws <;> intro hg))
      exact Ends.ret1 rfl ⟨tr, Mj, n1, rfl, fun h => by simp at h, hJ, hn1, hend hB⟩
end
end Go.Proofs.Ytfnflkcjhefddaa.Lk

/- Run, and the reference's. -/
namespace Go.Proofs.Ytfnflkcjhefddaa.Lk
open Go Go.Abs Go.Mth
set_option linter.unusedVariables false
set_option linter.unusedSimpArgs false
theorem runE_err {o : List Nat} : ∀ (bs : List Nat) (c : Nat) (st u : List Nat), (runE o bs c st u).1 ≠ 0 → (runE o bs c st u).2 = [] := by
  intro bs
  induction bs with
  | nil =>
    intro c st u
    simp only [runE]
    split <;> simp
  | cons a l ih =>
    intro c st u
    by_cases h : a = 105
    · rw [runE_in h]
      split
      · simp
      · exact ih _ _ _
    · by_cases h2 : a = 111
      · cases st with
        | nil => rw [runE_none h2]; simp
        | cons y st => rw [runE_out h2]; exact ih _ _ _
      · rw [runE_bad h h2]; simp
theorem runE_len {o : List Nat} : ∀ (bs : List Nat) (c : Nat) (st u : List Nat), (runE o bs c st u).2.length ≤ u.length + bs.length := by
  intro bs
  induction bs with
  | nil =>
    intro c st u
    simp only [runE]
    split <;> simp
  | cons a l ih =>
    intro c st u
    by_cases h : a = 105
    · rw [runE_in h]
      split
      · simp
      · have := ih (c + 1) (o.getD c 0 :: st) u
        rw [List.length_cons]; omega
    · by_cases h2 : a = 111
      · cases st with
        | nil => rw [runE_none h2]; simp
        | cons y st =>
          rw [runE_out h2]
          have := ih c st (u ++ [y])
          rw [List.length_append, List.length_singleton] at this
          rw [List.length_cons]; omega
      · rw [runE_bad h h2]; simp
structure RY where
  i : Nat
  c : Nat
  st : List Nat
  u : List Nat
  v7 : Value
  v8 : Value
  Mx : HL
  My : HL
  n : Nat
attribute [local irreducible] gOK WS WC WR WD Ends FS YS OpV seqK blockK loopK midK retK rdK asgK rangeEnd sat Cell
section
variable {M : HL} {n0 : Nat} {H : Heap} {v w : Value}
theorem Run_fs (hH : hasH M n0 H) {o bs : List Nat} (ho : Sl M 1 v (nodes o)) (hO : OrdN o) (hb : ∀ b ∈ bs, b ≤ 255) (hbl : bs.length ≤ 1000) :
    FS C 20 [v, .string (strB bs)] H (fun e H' => ∃ u Mx n', e = .tuple #[u, .int .i64 ((runE o bs 0 [] []).1 : Int)] ∧ Sl (Mx ++ M) 1 u (nodes (runE o bs 0 [] []).2) ∧ n0 ≤ n' ∧ hasH (Mx ++ M) n' H') := by
  have hv := ho.one_
  have h7 := hO.most
  have herr := runE_err (o := o) bs 0 [] []
  refine FS.intro (pf := pf20) rfl rfl rfl ?_
  repeat' (first | refine zP ?_ | refine zA ?_ | (refine zM ?_; intro _ _) | refine zX ?_ | (refine zC ?_; intro _ _ _ _) | (refine zS ?_; intro _ _) | (apply Ws <;> intro hg))
  refine WR.call (by first | exact gN | exact gS rfl) rfl rfl (CheckN_fs hH ho hO) ?_
  rintro _ H1 ⟨rfl, rfl⟩
  repeat' (first | refine zP ?_ | refine zA ?_ | (refine zM ?_; intro _ _) | refine zX ?_ | (refine zC ?_; intro _ _ _ _) | (refine zS ?_; intro _ _) | refine zO ?_ | (apply Ws <;> intro hg))
  rename_i H1 hH1
  refine WR.call (by first | exact gN | exact gS rfl) rfl rfl (leavers_fs hH1 n0) ?_
  rintro _ H2 ⟨rfl, hH2⟩
  clear hH1
  have hH3 : hasH ([(n0, Ch.row 22 0 0 [.slice none 0 0])] ++ ((n0 + 1, Ch.row 82 0 0 [ptrO n0 0]) :: M)) (n0 + 1 + 1) H2 := hH2.perm (.swap _ _ _)
  clear hH2
  refine WR.call (by first | exact gN | exact gS rfl) rfl rfl (carryOut_fs (tell_left (bl := n0) (bx := n0 + 1) (.head _)) ⟨.slice none 0 0, [], .nil, rfl⟩ ho.cons (by omega) hb hbl hH3) ?_
  rintro _ H4 ⟨tr, _, n4, rfl, hout, ⟨lv, Mo, hOw, rfl⟩, hn4, hH4⟩
  replace hH4 : hasH ((n0, Ch.row 22 0 0 [lv]) :: (Mo ++ ((n0 + 1, Ch.row 82 0 0 [ptrO n0 0]) :: M))) n4 H4 := hH4
  generalize runE o bs 0 [] [] = E at hout herr ⊢
  by_cases hE : E.1 = 0
  · have hE2 : ¬ ((E.1 : Int) ≠ 0) := by omega
    rw [hout hE] at hOw
    repeat' (first | refine zP ?_ | refine zA ?_ | (refine zM ?_; intro _ _) | refine zX ?_ | (refine zC ?_; intro _ _ _ _) | (refine zS ?_; intro _ _) | refine zO ?_ | (apply Ws <;> intro hg))
    exact Ends.ret2 rfl (by simp only [ev, hE]; rfl) ⟨lv, Mo, n4, rfl, hOw.sl M, by omega, (hH4.tail).sub (List.Sublist.append_left (List.sublist_cons_self _ _) _)⟩
  · have hE2 : (E.1 : Int) ≠ 0 := by omega
    repeat' (first | refine zP ?_ | refine zA ?_ | (refine zM ?_; intro _ _) | refine zX ?_ | (refine zC ?_; intro _ _ _ _) | (refine zS ?_; intro _ _) | refine zO ?_ | (apply Ws <;> intro hg))
    exact Ends.ret2 rfl rfl ⟨.slice none 0 0, [], n4, rfl, by rw [herr hE]; exact .nil 0, by omega, hH4.sub ((List.sublist_cons_self _ M).trans ((List.sublist_append_right _ _).trans (List.sublist_cons_self _ _)))⟩
end
end Go.Proofs.Ytfnflkcjhefddaa.Lk

/- The moves of a pass lead to what it makes; letters to come. -/
namespace Go.Proofs.Ytfnflkcjhefddaa.Lk
open Go Go.Abs Go.Mth
set_option linter.unusedVariables false
set_option linter.unusedSimpArgs false
theorem run_pops (o : List Nat) (R B : List Nat) (c : Nat) : ∀ (A u : List Nat), runE o ((A.map fun _ => 111) ++ R) c (A ++ B) u = runE o R c B (u ++ A)
  | [], u => by simp
  | y :: A, u => by
    rw [List.map_cons, List.cons_append, List.cons_append, runE_out rfl, run_pops o R B c A, List.append_assoc, List.singleton_append]
theorem ltrs_outs (A : List Nat) (R : List (Nat × Nat)) : ltrs ((A.map fun y => (111, y)) ++ R) = (A.map fun _ => 111) ++ ltrs R := by
  simp [ltrs]
theorem run_moves {o : List Nat} : ∀ (xs st u : List Nat) (c : Nat), o.drop c = xs → c ≤ o.length → u.length + st.length = c → runE o (ltrs (runTr st xs)) c st u = (0, u ++ runS st xs)
  | [], st, u, c, hx, hc, hl => by
    have h1 : o.length - c = 0 := by rw [← List.length_drop, hx]; rfl
    have e := ltrs_outs st []
    rw [List.append_nil] at e
    have p := run_pops o [] [] c st u
    rw [run_end, e]
    show runE o ((st.map fun _ => 111) ++ ltrs []) c st u = _
    rw [List.append_nil st] at p
    rw [show ltrs [] = [] from rfl, p, runE, if_neg (by rw [List.length_append]; omega)]
    rfl
  | x :: xs, st, u, c, hx, hc, hl => by
    have hc' : c < o.length := by
      rcases Nat.lt_or_ge c o.length with h | h
      · exact h
      · rw [List.drop_eq_nil_of_le h] at hx; cases hx
    have hx2 := List.drop_eq_getElem_cons hc'
    rw [hx] at hx2
    have h1 : x = o.getD c 0 := by rw [getD_eq hc']; exact (List.cons.inj hx2).1
    have h2 : o.drop (c + 1) = xs := (List.cons.inj hx2).2.symm
    have hsp : (st.takeWhile fun y => decide (y < x)) ++ (st.dropWhile fun y => decide (y < x)) = st := List.takeWhile_append_dropWhile
    simp only [runTr, runS]
    generalize (st.takeWhile fun y => decide (y < x)) = A at hsp ⊢
    generalize (st.dropWhile fun y => decide (y < x)) = B at hsp ⊢
    subst hsp
    rw [List.length_append] at hl
    rw [ltrs_outs, run_pops]
    show runE o (105 :: ltrs (runTr (x :: B) xs)) c B (u ++ A) = _
    rw [runE_in rfl, if_neg (by omega), ← h1, run_moves xs (x :: B) (u ++ A) (c + 1) h2 hc' (by rw [List.length_append, List.length_cons]; omega), List.append_assoc]
theorem run_mvs (o : List Nat) : runE o (mvsL o) 0 [] [] = (0, passF o) := by
  have := run_moves (o := o) o [] [] 0 rfl (Nat.zero_le _) rfl
  simpa [mvsL, passF] using this
/-- The moves so far: an error, or the barges that came and those in the basin. -/
def GoesR (o s : List Nat) (came inn : Nat) (e : Int) : Prop :=
  (∃ k : Nat, e = k ∧ k ≠ 0 ∧ ∀ l, runE o (s ++ l) 0 [] [] = (k, [])) ∨ (e = 0 ∧ came ≤ o.length ∧ ∃ st u : List Nat, st.length = inn ∧ u.length + st.length = came ∧ ∀ l, runE o (s ++ l) 0 [] [] = runE o l came st u)
theorem GoesR.start (o : List Nat) : GoesR o [] 0 0 0 := .inr ⟨rfl, Nat.zero_le _, [], [], rfl, rfl, fun l => rfl⟩
theorem GoesR.stay {o s : List Nat} {came inn : Nat} {e : Int} (h : GoesR o s came inn e) (he : e ≠ 0) (a : Nat) : GoesR o (s ++ [a]) came inn e := by
  rcases h with ⟨k, h1, h2, h3⟩ | ⟨h1, _⟩
  · exact .inl ⟨k, h1, h2, fun l => by rw [List.append_assoc]; exact h3 _⟩
  · exact absurd h1 he
theorem GoesR.bad {o s : List Nat} {came inn : Nat} (h : GoesR o s came inn 0) {a : Nat} (h1 : a ≠ 105) (h2 : a ≠ 111) : GoesR o (s ++ [a]) came inn 10 := by
  rcases h with ⟨k, h3, h4, _⟩ | ⟨_, _, st, u, _, _, h5⟩
  · omega
  · exact .inl ⟨10, rfl, by decide, fun l => by rw [List.append_assoc, h5]; exact runE_bad h1 h2 _ _ _ _⟩
theorem GoesR.full {o s : List Nat} {inn : Nat} (h : GoesR o s o.length inn 0) : GoesR o (s ++ [105]) o.length inn 2 := by
  rcases h with ⟨k, h3, h4, _⟩ | ⟨_, _, st, u, _, _, h5⟩
  · omega
  · exact .inl ⟨2, rfl, by decide, fun l => by rw [List.append_assoc, h5, List.singleton_append, runE_in rfl, if_pos rfl]⟩
theorem GoesR.come {o s : List Nat} {came inn : Nat} (h : GoesR o s came inn 0) (hc : came ≠ o.length) : GoesR o (s ++ [105]) (came + 1) (inn + 1) 0 := by
  rcases h with ⟨k, h3, h4, _⟩ | ⟨_, h6, st, u, h7, h8, h5⟩
  · omega
  · exact .inr ⟨rfl, by omega, o.getD came 0 :: st, u, by rw [List.length_cons]; omega, by rw [List.length_cons]; omega, fun l => by rw [List.append_assoc, h5, List.singleton_append, runE_in rfl, if_neg hc]⟩
theorem GoesR.none {o s : List Nat} {came : Nat} (h : GoesR o s came 0 0) : GoesR o (s ++ [111]) came 0 4 := by
  rcases h with ⟨k, h3, h4, _⟩ | ⟨_, h6, st, u, h7, h8, h5⟩
  · omega
  · obtain rfl := List.length_eq_zero_iff.1 h7
    exact .inl ⟨4, rfl, by decide, fun l => by rw [List.append_assoc, h5, List.singleton_append, runE_none rfl]⟩
theorem GoesR.leave {o s : List Nat} {came inn : Nat} (h : GoesR o s came (inn + 1) 0) : GoesR o (s ++ [111]) came inn 0 := by
  rcases h with ⟨k, h3, h4, _⟩ | ⟨_, h6, st, u, h7, h8, h5⟩
  · omega
  · cases st with
    | nil => cases h7
    | cons y st =>
      rw [List.length_cons] at h7 h8
      exact .inr ⟨rfl, h6, st, u ++ [y], by omega, by rw [List.length_append, List.length_singleton]; omega, fun l => by rw [List.append_assoc, h5, List.singleton_append, runE_out rfl]⟩
/-- What comes out in the end. -/
theorem GoesR.fin {o s : List Nat} {came inn : Nat} {e : Int} (h : GoesR o s came inn e) : (e ≠ 0 → ((runE o s 0 [] []).1 : Int) = e ∧ (runE o s 0 [] []).2 = []) ∧
    (e = 0 → (came < o.length ∨ 0 < inn) → (runE o s 0 [] []) = (21, [])) ∧ (e = 0 → ¬ (came < o.length ∨ 0 < inn) → (runE o s 0 [] []).1 = 0) := by
  rcases h with ⟨k, h1, h2, h3⟩ | ⟨h1, h6, st, u, h7, h8, h5⟩
  · have := h3 []
    rw [List.append_nil] at this
    refine ⟨fun _ => by rw [this]; exact ⟨h1.symm, rfl⟩, fun h => by omega, fun h => by omega⟩
  · have := h5 []
    rw [List.append_nil, runE] at this
    refine ⟨fun h => absurd h1 h, fun _ h => ?_, fun _ h => ?_⟩
    · rw [this, if_pos (by omega)]
    · rw [this, if_neg (by omega)]
end Go.Proofs.Ytfnflkcjhefddaa.Lk

/- The law's own way of carrying out moves. -/
namespace Go.Proofs.Ytfnflkcjhefddaa.Lk
open Go Go.Abs Go.Mth
set_option linter.unusedVariables false
set_option linter.unusedSimpArgs false
attribute [local irreducible] gOK WS WC WR WD Ends FS YS OpV seqK blockK loopK midK retK rdK asgK rangeEnd sat Cell
section
variable {M : HL} {n0 : Nat} {H : Heap} {v w : Value}
set_option maxHeartbeats 4000000 in
theorem lrun_fs (hH : hasH M n0 H) {o bs : List Nat} (ho : Sl M 1 v (nodes o)) (hO : OrdN o) (hb : ∀ b ∈ bs, b ≤ 255) (hbl : bs.length ≤ 1000) :
    FS C 48 [v, .string (strB bs)] H (fun e H' => ∃ u Mx n', e = .tuple #[u, .bool (decide ((runE o bs 0 [] []).1 = 0))] ∧ ((runE o bs 0 [] []).1 = 0 → Sl (Mx ++ M) 1 u (nodes (runE o bs 0 [] []).2)) ∧ n0 ≤ n' ∧ hasH (Mx ++ M) n' H') := by
  have hv := ho.one_
  have h7 := hO.most
  generalize hE : runE o bs 0 [] [] = E
  refine FS.intro (pf := pf48) rfl rfl rfl ?_
  repeat' (first | refine zP ?_ | refine zA ?_ | (refine zM ?_; intro _ _) | refine zX ?_ | (refine zC ?_; intro _ _ _ _) | (refine zS ?_; intro _ _) | (apply Ws <;> intro hg))
  refine WR.op (by first | exact gN | exact gS rfl) rfl (OpV.lenT underT rfl) ?_
  rw [strB_size]
  repeat' (first | refine zP ?_ | refine zA ?_ | (refine zM ?_; intro _ _) | refine zX ?_ | (refine zC ?_; intro _ _ _ _) | (refine zS ?_; intro _ _) | (apply Ws <;> intro hg))
  refine WC.loopX [(0, v), (1, .string (strB bs)), (10, .int .i64 (bs.length : Int))] (fun z : RY => [(6, z.v7), (7, z.v8), (11, .int .i64 (z.i : Int))]) []
    (fun z H' => z.i ≤ bs.length ∧ z.c ≤ o.length ∧ z.u.length + z.st.length = z.c ∧ runE o (bs.drop z.i) z.c z.st z.u = E ∧ StkO 3 z.v7 (nodes z.st.reverse) z.Mx ∧ Own 3 1 z.v8 (nodes z.u) z.My ∧ n0 ≤ z.n ∧ hasH (z.Mx ++ (z.My ++ M)) z.n H') (fun z => bs.length - z.i) ⟨0, 0, [], [], .slice none 0 0, .slice none 0 0, [], [], n0⟩ (by repeat' (first | exact .nil | refine .cons rfl ?_)) rfl
    ⟨Nat.zero_le _, Nat.zero_le _, rfl, hE, .nil, .nil, Nat.le_refl _, hH⟩ ?_
  clear hH hE
  rintro ⟨i, c, st, u, v7, v8, Mx, My, n1⟩ H2 ⟨hi, hc, hlen, hrun, hSt, hOw, hn1, hH⟩
  simp only at hi hc hlen hrun hSt hOw hn1 hH
  dsimp only [List.cons_append, List.nil_append]
  have hS := hSt.sl (My ++ M)
  have hv7 := hSt.one_
  have hU := (hOw.sl M).mono fun q hq => List.mem_append_right Mx hq
  have hv8 := hU.one_
  have hoX := ho.mono fun q hq => List.mem_append_right Mx (List.mem_append_right My hq)
  have hrl : (nodes st.reverse).length = st.length := by simp [nodes]
  have hrl2 : st.reverse.length = st.length := List.length_reverse
  repeat' (first | refine zP ?_ | refine zA ?_ | (refine zM ?_; intro _ _) | refine zX ?_ | (refine zC ?_; intro _ _ _ _) | (refine zS ?_; intro _ _) | (apply Ws <;> intro hg))
  refine WC.condP rfl (fun hlt => ?_) (fun hlt => ?_)
  · have hi' : i < bs.length := by omega
    rw [List.drop_eq_getElem_cons hi', ← getD_eq (a := 0)] at hrun
    repeat' (first | refine zP ?_ | refine zA ?_ | (refine zM ?_; intro _ _) | refine zX ?_ | (refine zC ?_; intro _ _ _ _) | (refine zS ?_; intro _ _) | (apply Ws <;> intro hg))
    refine WR.op (by first | exact gN | exact gS rfl) rfl (OpV.idxT (bs := bs) (k := i) underT rfl rfl hi' hb) ?_
    by_cases ha : bs.getD i 0 = 105
    · rw [runE_in ha] at hrun
      by_cases hco : c = o.length
      · rw [if_pos hco] at hrun
        subst hrun
        repeat' (first | refine zP ?_ | refine zA ?_ | (refine zM ?_; intro _ _) | refine zX ?_ | (refine zC ?_; intro _ _ _ _) | (refine zS ?_; intro _ _) | refine zO ?_ | (apply Ws <;> intro hg))
        exact Ends.ret2 rfl rfl ⟨.slice none 0 0, [], n1, rfl, fun h => by simp at h, hn1, hH.sub ((List.sublist_append_right My M).trans (List.sublist_append_right Mx _))⟩
      · rw [if_neg hco] at hrun
        have hc' : c < o.length := by omega
        have hcc : st.reverse.length + u.length = c := by omega
        have hcc' : st.reverse.length + u.length < o.length := by omega
        repeat' (first | refine zP ?_ | refine zA ?_ | (refine zM ?_; intro _ _) | refine zX ?_ | (refine zC ?_; intro _ _ _ _) | (refine zS ?_; intro _ _) | refine zO ?_ | (apply Ws <;> intro hg))
        rw [hcc]
        refine WR.push (S := nodes st.reverse) [] Mx (My ++ M) rfl rfl rfl rfl hSt hH rfl rfl (by rw [nodes_len']; omega) fun w8 M8 n8 H8 hO8 hH8 hn8 => ?_
        repeat' (first | refine zP ?_ | refine zA ?_ | (refine zM ?_; intro _ _) | refine zX ?_ | (refine zC ?_; intro _ _ _ _) | (refine zS ?_; intro _ _) | (apply Ws <;> intro hg))
        refine Ends.loop ⟨i + 1, c + 1, o.getD c 0 :: st, u, w8, v8, M8, My, n8⟩ (by simp only; omega) (by repeat' (first | exact .nil | refine .cons rfl ?_)) rfl ⟨hi', hc', by simp only [List.length_cons]; omega, hrun, ?_, hOw, by simp only; omega, hH8⟩
        simp only
        rw [nodes_rev_cons]; exact hO8
    · repeat' (first | refine zP ?_ | refine zA ?_ | (refine zM ?_; intro _ _) | refine zX ?_ | (refine zC ?_; intro _ _ _ _) | (refine zS ?_; intro _ _) | refine zO ?_ | (apply Ws <;> intro hg))
      refine WR.op (by first | exact gN | exact gS rfl) rfl (OpV.idxT (bs := bs) (k := i) underT rfl rfl hi' hb) ?_
      by_cases ha2 : bs.getD i 0 = 111
      · cases st with
        | nil =>
          rw [runE_none ha2] at hrun
          subst hrun
          have hr1 : ([] : List Nat).reverse.length = 0 := rfl
          repeat' (first | refine zP ?_ | refine zA ?_ | (refine zM ?_; intro _ _) | refine zX ?_ | (refine zC ?_; intro _ _ _ _) | (refine zS ?_; intro _ _) | refine zO ?_ | (apply Ws <;> intro hg))
          exact Ends.ret2 rfl rfl ⟨.slice none 0 0, [], n1, rfl, fun h => by simp at h, hn1, hH.sub ((List.sublist_append_right My M).trans (List.sublist_append_right Mx _))⟩
        | cons y st =>
          rw [runE_out ha2] at hrun
          have hr1 : (y :: st).reverse.length = st.length + 1 := by simp
          have hr2 : (y :: st).reverse.getD st.length 0 = y := by
            rw [List.reverse_cons, List.getD_eq_getElem?_getD, List.getElem?_append_right (by simp)]; simp
          have hr3 := nodes_rev_cons y st
          have hl1 : (y :: st).length = st.length + 1 := rfl
          generalize hQ : (y :: st).reverse = Q at hSt hS hrl hrl2 hr1 hr2 hr3 ⊢
          have hr4 : (Q.length : Int) = (st.length : Int) + 1 := by omega
          have hr5 : st.length < Q.length := by omega
          repeat' (first | refine zP ?_ | refine zA ?_ | (refine zM ?_; intro _ _) | refine zX ?_ | (refine zC ?_; intro _ _ _ _) | (refine zS ?_; intro _ _) | refine zO ?_ | (apply Ws <;> intro hg))
          rw [show Q.getD (Q.length - 1) 0 = y by rw [hr1]; exact hr2]
          refine WR.append1RF (new := [.int .i64 (y : Int)]) Mx My M rfl rfl rfl rfl hOw hH rfl rfl rfl (by decide) (by decide) (by rw [nodes_len', List.length_singleton]; omega) fun w8 M8 n8 H8 hO8 hH8 hn8 => ?_
          rw [← nodes_snoc] at hO8
          have hS8 := hSt.sl (M8 ++ M)
          repeat' (first | refine zP ?_ | refine zA ?_ | (refine zM ?_; intro _ _) | refine zX ?_ | (refine zC ?_; intro _ _ _ _) | (refine zS ?_; intro _ _) | (apply Ws <;> intro hg))
          rw [hr3] at hSt
          rw [show (Q.length : Int) - 1 = ((nodes st.reverse).length : Int) by rw [nodes_len', List.length_reverse]; omega]
          refine WR.popO (by first | exact gN | exact gS rfl) rfl rfl hSt rfl fun v' h2 => ?_
          repeat' (first | refine zP ?_ | refine zA ?_ | (refine zM ?_; intro _ _) | refine zX ?_ | (refine zC ?_; intro _ _ _ _) | (refine zS ?_; intro _ _) | (apply Ws <;> intro hg))
          refine Ends.loop ⟨i + 1, c, st, u ++ [y], v', w8, Mx, M8, n8⟩ (by simp only; omega) (by repeat' (first | exact .nil | refine .cons rfl ?_)) rfl ⟨hi', hc, ?_, hrun, h2, hO8.own, by simp only; omega, hH8⟩
          simp only
          rw [List.length_append, List.length_singleton]; omega
      · rw [runE_bad ha ha2] at hrun
        subst hrun
        repeat' (first | refine zP ?_ | refine zA ?_ | (refine zM ?_; intro _ _) | refine zX ?_ | (refine zC ?_; intro _ _ _ _) | (refine zS ?_; intro _ _) | refine zO ?_ | (apply Ws <;> intro hg))
        exact Ends.ret2 rfl rfl ⟨.slice none 0 0, [], n1, rfl, fun h => by simp at h, hn1, hH.sub ((List.sublist_append_right My M).trans (List.sublist_append_right Mx _))⟩
  · have hin : i = bs.length := by omega
    subst hin
    rw [List.drop_length, runE] at hrun
    by_cases hul : u.length < o.length
    · rw [if_pos hul] at hrun
      subst hrun
      repeat' (first | refine zP ?_ | refine zA ?_ | (refine zM ?_; intro _ _) | refine zX ?_ | (refine zC ?_; intro _ _ _ _) | (refine zS ?_; intro _ _) | refine zO ?_ | (apply Ws <;> intro hg))
      exact Ends.ret2 rfl (by simp only [ev]; rfl) ⟨v8, My, n1, by rw [decide_eq_false (show ¬ (u.length : Int) = (o.length : Int) by omega)]; rfl, fun h => by simp at h, hn1, hH.sub (List.sublist_append_right Mx _)⟩
    · rw [if_neg hul] at hrun
      subst hrun
      repeat' (first | refine zP ?_ | refine zA ?_ | (refine zM ?_; intro _ _) | refine zX ?_ | (refine zC ?_; intro _ _ _ _) | (refine zS ?_; intro _ _) | refine zO ?_ | (apply Ws <;> intro hg))
      exact Ends.ret2 rfl (by simp only [ev]; rfl) ⟨v8, My, n1, by rw [decide_eq_true (show (u.length : Int) = (o.length : Int) by omega)]; rfl, fun _ => hOw.sl M, hn1, hH.sub (List.sublist_append_right Mx _)⟩
end
end Go.Proofs.Ytfnflkcjhefddaa.Lk

/- A basin of lists: its methods. -/
namespace Go.Proofs.Ytfnflkcjhefddaa.Lk
open Go Go.Abs Go.Mth
set_option linter.unusedVariables false
set_option linter.unusedSimpArgs false
attribute [local irreducible] gOK WS WC WR WD Ends FS YS OpV seqK blockK loopK midK retK rdK asgK rangeEnd sat Cell
section
variable {M : HL} {n0 : Nat} {H : Heap} {v w : Value}
end
end Go.Proofs.Ytfnflkcjhefddaa.Lk

/- All lists of numbers below a bound, one after the other. -/
namespace Go.Proofs.Ytfnflkcjhefddaa.Lk
open Go Go.Abs Go.Mth
set_option linter.unusedVariables false
set_option linter.unusedSimpArgs false
/-- All that a list begins, with so many numbers more, in ascending order. -/
def extL (bound : Nat) (fits : List Nat → Nat → Bool) : Nat → List Nat → List (List Nat)
  | 0, b => [b]
  | m + 1, b => ((List.range bound).filter (fits b)).flatMap fun x => extL bound fits m (b ++ [x])
/-- The same, for numbers from k on. -/
def extK (bound : Nat) (fits : List Nat → Nat → Bool) (m : Nat) (b : List Nat) (k : Nat) : List (List Nat) := (((List.range bound).drop k).filter (fits b)).flatMap fun x => extL bound fits m (b ++ [x])
def rst (len bound : Nat) (fits : List Nat → Nat → Bool) (W : List (List Nat)) : List (List Nat) := W.reverse.flatMap fun b => extL bound fits (len - b.length) b
def wgt (len bound : Nat) (W : List (List Nat)) : Nat := (W.map fun b => (bound + 1) ^ (len - b.length)).sum
/-- A stack of lists, as they wait: not too many. -/
structure WaitS (len bound : Nat) (W : List (List Nat)) : Prop where
  idx : ∀ i, i < W.length → i ≤ bound * (W.getD i []).length
  len : ∀ i, i < W.length → (W.getD i []).length ≤ len
theorem WaitS.few {len bound : Nat} {W : List (List Nat)} (h : WaitS len bound W) (hl : len ≤ 7) (hb : bound ≤ 7) : W.length ≤ 50 := by
  refine Classical.byContradiction fun hn => ?_
  have h1 := h.idx 50 (by omega)
  have h2 := h.len 50 (by omega)
  have h3 : bound * (W.getD 50 []).length ≤ 7 * 7 := Nat.mul_le_mul hb (by omega)
  omega
/-- Lists in memory; none is nil. -/
def RowsZ (M : HL) (ws : List Value) (vs : List (List Nat)) : Prop := ws.length = vs.length ∧ ∀ i, i < vs.length → Sl M 1 (ws.getD i undef) (nodes (vs.getD i [])) ∧ (vs.getD i [] = [] → ws.getD i undef = .slice none 0 0)
theorem RowsZ.mono {M M' : HL} {ws : List Value} {vs : List (List Nat)} (h : RowsZ M ws vs) (k : ∀ p ∈ M, p ∈ M') : RowsZ M' ws vs := ⟨h.1, fun i hi => ⟨(h.2 i hi).1.mono k, (h.2 i hi).2⟩⟩
theorem RowsZ.nil (M : HL) : RowsZ M [] [] := ⟨rfl, fun i h => absurd h (Nat.not_lt_zero _)⟩
structure LX where
  v : Value
  ws : List Value
  W : List (List Nat)
  Mo : HL
  Mi : HL
  Mc : HL
  n : Nat
structure LY where
  k : Nat
  v : Value
  ws : List Value
  W : List (List Nat)
  Mo : HL
  Mi : HL
  n : Nat
attribute [local irreducible] gOK WS WC WR WD Ends FS YS OpV seqK blockK loopK midK retK rdK asgK rangeEnd sat Cell
section
variable {M : HL} {n0 : Nat} {H : Heap} {v w : Value}
end
end Go.Proofs.Ytfnflkcjhefddaa.Lk

/- The first of the lists with which two basins are enough. -/
namespace Go.Proofs.Ytfnflkcjhefddaa.Lk
open Go Go.Abs Go.Mth
set_option linter.unusedVariables false
set_option linter.unusedSimpArgs false
/-- Lists of zeros and ones. -/
def allT (n : Nat) : List (List Nat) := extL 2 (fun _ _ => true) n []
def twoL (o : List Nat) : Option (List Nat) := (allT o.length).find? (ascT o)
attribute [local irreducible] gOK WS WC WR WD Ends FS YS OpV seqK blockK loopK midK retK rdK asgK rangeEnd sat Cell
section
variable {M : HL} {n0 : Nat} {H : Heap} {v w : Value}
end
end Go.Proofs.Ytfnflkcjhefddaa.Lk

/- Orders by numbers. -/
namespace Go.Proofs.Ytfnflkcjhefddaa.Lk
open Go Go.Abs Go.Mth
set_option linter.unusedVariables false
set_option linter.unusedSimpArgs false
theorem u8k : C.c.P.underlying 5 = some (.int .u8) := by kernel_rfl
theorem i64k : C.c.P.underlying 3 = some (.int .i64) := by kernel_rfl
theorem cons_erase : ∀ {l : List Nat} {j : Nat} (h : j < l.length), (l[j] :: l.eraseIdx j).Perm l
  | a :: l, 0, h => List.Perm.refl _
  | a :: l, j + 1, h => by
    have := cons_erase (l := l) (j := j) (by simpa using h)
    simp only [List.getElem_cons_succ, List.eraseIdx_cons_succ]
    exact (List.Perm.swap _ _ _).trans (this.cons a)
/-- What is drawn, and what is left. -/
def drawO (by_ : List Nat) (n : Nat) : Nat → List Nat × List Nat
  | 0 => ([], List.range n)
  | k + 1 => let s := drawO by_ n k; (s.1 ++ [s.2.getD (by_.getD k 0 % s.2.length) 0], s.2.eraseIdx (by_.getD k 0 % s.2.length))
def madeO (x : Nat) (by_ : List Nat) (most : Nat) : List Nat := (drawO by_ (1 + x % most) (1 + x % most)).1
theorem drawO_props (by_ : List Nat) (n : Nat) : ∀ k, k ≤ n → (drawO by_ n k).1.length = k ∧ (drawO by_ n k).2.length = n - k ∧ ((drawO by_ n k).1 ++ (drawO by_ n k).2).Perm (List.range n)
  | 0, _ => by simp [drawO]
  | k + 1, hk => by
    obtain ⟨h1, h2, h3⟩ := drawO_props by_ n k (by omega)
    have hp : 0 < (drawO by_ n k).2.length := by omega
    have hm := Nat.mod_lt (by_.getD k 0) hp
    simp only [drawO]
    generalize by_.getD k 0 % (drawO by_ n k).2.length = j at hm
    refine ⟨by simp [h1], by rw [List.length_eraseIdx, if_pos hm]; omega, ?_⟩
    refine List.Perm.trans ?_ h3
    rw [List.append_assoc]
    refine List.Perm.append_left _ ?_
    rw [getD_eq hm]
    exact cons_erase hm
theorem madeO_ord {x most : Nat} (by_ : List Nat) (h1 : 1 ≤ most) (h7 : most ≤ 7) : OrdN (madeO x by_ most) ∧ (madeO x by_ most).length = 1 + x % most := by
  have hm := Nat.mod_lt x (show 0 < most by omega)
  obtain ⟨q1, q2, q3⟩ := drawO_props by_ (1 + x % most) (1 + x % most) (Nat.le_refl _)
  have hnil : (drawO by_ (1 + x % most) (1 + x % most)).2 = [] := List.length_eq_zero_iff.1 (by omega)
  rw [hnil, List.append_nil] at q3
  unfold madeO
  refine ⟨⟨by omega, by omega, fun y hy => ?_, ?_⟩, q1⟩
  · rw [q1]; exact List.mem_range.1 (q3.mem_iff.1 hy)
  · exact q3.nodup_iff.2 List.nodup_range
theorem getD_numsK {k : IntKind} {l : List Nat} {i : Nat} (h : i < l.length) : (numsK k l)[i]? = some (.int k ((l.getD i 0 : Nat) : Int)) := by
  unfold numsK
  rw [List.getElem?_map, List.getElem?_eq_getElem h, getD_eq h]; rfl
structure KM where
  k : Nat
  v : Value
  Mx : HL
  n : Nat
structure KN where
  k : Nat
  cp : Nat
  R : Nat
  ys : List Int
  ov : Value
  Mo : HL
  n : Nat
theorem sl_left {M : HL} {b u o len cp R : Nat} {ys : List Int} {l : List Nat} (hm : (b, Ch.row 3 u o (ints ys)) ∈ M) (hc : capR cp len R) (hly : len ≤ ys.length) (hy : ys.take len = IL l) : Sl M 1 (.slice (some ⟨b, o, some u⟩) len cp) (nodes l) := by
  have hl : l.length = len := by have := congrArg List.length hy; simp at this; omega
  refine .row hm (.row _ _ _ _) (Nat.le_refl _) (by simp [hl]) ?_ (by simp [hl]; omega) (.inl hc.cap)
  rw [nodes_IL, ← hy]
  simp [ints, List.map_take]
theorem drawO_succ (by_ : List Nat) (n k : Nat) : drawO by_ n (k + 1) = ((drawO by_ n k).1 ++ [(drawO by_ n k).2.getD (by_.getD k 0 % (drawO by_ n k).2.length) 0], (drawO by_ n k).2.eraseIdx (by_.getD k 0 % (drawO by_ n k).2.length)) := rfl
theorem IL_erase (l : List Nat) (j : Nat) : IL (l.eraseIdx j) = (IL l).take j ++ (IL l).drop (j + 1) := by
  rw [List.eraseIdx_eq_take_drop_succ]; simp [IL, List.map_take, List.map_drop]
attribute [local irreducible] gOK WS WC WR WD Ends FS YS OpV seqK blockK loopK midK retK rdK asgK rangeEnd sat Cell
section
variable {M : HL} {n0 : Nat} {H : Heap} {v w : Value}
theorem Delete_fs {b u o len cp R i j : Nat} {ys : List Int} (hH : hasH ((b, .row 3 u o (ints ys)) :: M) n0 H) (hc : capR cp len R) (hly : len ≤ ys.length) (hij : i < j) (hjl : j ≤ len) (hyl : ys.length ≤ 100000) :
    FS C 87 [.slice (some ⟨b, o, some u⟩) len cp, .int .i64 (i : Int), .int .i64 (j : Int)] H (fun e H' => ∃ zs, e = .slice (some ⟨b, o, some u⟩) (len - (j - i)) (roomCode 1 R) ∧ hasH ((b, .row 3 u o (ints zs)) :: M) n0 H' ∧
      zs.length = ys.length ∧ zs.take (len - (j - i)) = ys.take i ++ (ys.take len).drop j) := by
  have hR := hc.le
  refine FS.intro (pf := pf87) rfl rfl rfl ?_
  repeat' (first | refine zP ?_ | refine zA ?_ | (refine zM ?_; intro _ _) | refine zX ?_ | (refine zC ?_; intro _ _ _ _) | (refine zS ?_; intro _ _) | (apply Ws <;> intro hg))
  refine WR.cutMax (by first | exact gN | exact gS rfl) rfl rfl hc rfl rfl rfl (Nat.le_of_lt hij) hjl (Nat.le_refl _) (by omega) fun v13 => ?_
  repeat' (first | refine zP ?_ | refine zA ?_ | (refine zM ?_; intro _ _) | refine zX ?_ | (refine zC ?_; intro _ _ _ _) | (refine zS ?_; intro _ _) | refine zO ?_ | (apply Ws <;> intro hg))
  refine WR.op (by first | exact gN | exact gS rfl) rfl (OpV.cutPre rfl hc rfl (by omega) (by omega)) ?_
  repeat' (first | refine zP ?_ | refine zA ?_ | (refine zM ?_; intro _ _) | refine zX ?_ | (refine zC ?_; intro _ _ _ _) | (refine zS ?_; intro _ _) | (apply Ws <;> intro hg))
  refine WR.cutSuf (by first | exact gN | exact gS rfl) rfl rfl hc rfl hjl fun cp' => ?_
  refine WR.appendR (M' := (b, .row 3 u o (ints (ys.take i ++ (ys.drop j).take (len - j) ++ ys.drop (i + (len - j))))) :: M) (by first | exact gN | exact gS rfl) rfl rfl rfl hH .here (by omega) (by omega) (by omega) fun H1 hH1 => ?_
  have hl2 : i + (len - j) = len - (j - i) := by omega
  rw [hl2] at hH1 ⊢
  obtain ⟨zs, hzs⟩ : ∃ zs, ys.take i ++ (ys.drop j).take (len - j) ++ ys.drop (len - (j - i)) = zs := ⟨_, rfl⟩
  rw [hzs] at hH1
  have hzl : zs.length = ys.length := by rw [← hzs]; simp; omega
  have hzt : zs.take (len - (j - i)) = ys.take i ++ (ys.take len).drop j := by
    rw [← hzs, List.take_append_of_le_length (by simp; omega), List.take_of_length_le (by simp; omega), List.drop_take]
  repeat' (first | refine zP ?_ | refine zA ?_ | (refine zM ?_; intro _ _) | refine zX ?_ | (refine zC ?_; intro _ _ _ _) | (refine zS ?_; intro _ _) | (apply Ws <;> intro hg))
  refine WR.cutOver (by first | exact gN | exact gS rfl) rfl rfl (by omega) rfl rfl (by omega) (by omega) fun cp2 => ?_
  refine WR.clrI (M' := (b, .row 3 u o (ints (zs.take (len - (j - i)) ++ List.replicate (len - (len - (j - i))) 0 ++ zs.drop (len - (j - i) + (len - (len - (j - i))))))) :: M) (by first | exact gN | exact gS rfl) rfl hH1 .here (by omega) (by omega) fun H2 hH2 => ?_
  repeat' (first | refine zP ?_ | refine zA ?_ | (refine zM ?_; intro _ _) | refine zX ?_ | (refine zC ?_; intro _ _ _ _) | (refine zS ?_; intro _ _) | (apply Ws <;> intro hg))
  refine Ends.ret1 rfl ⟨_, rfl, hH2, by simp; omega, ?_⟩
  rw [List.append_assoc, List.take_append_of_le_length (by simp; omega), List.take_of_length_le (by simp; omega), hzt]
set_option maxHeartbeats 4000000 in
theorem made_fs (hH : hasH M n0 H) {x : Nat} {by_ : List Nat} (hx : x ≤ 255) (hbl : by_.length = 7) (hb : ∀ y ∈ by_, y ≤ 255) {most : Nat} (hm1 : 1 ≤ most) (hm : most ≤ 7) :
    FS C 42 [.agg (numsK .u8 (x :: by_)).toArray, .int .i64 (most : Int)] H (fun e H' => ∃ Mx n', Own 3 1 e (nodes (madeO x by_ most)) Mx ∧ n0 ≤ n' ∧ hasH (Mx ++ M) n' H') := by
  have hone : (numsK .u8 (x :: by_)).all one = true := by rw [List.all_eq_true]; intro q hq; obtain ⟨z, _, rfl⟩ := List.mem_map.1 hq; rfl
  have hsl : (numsK .u8 (x :: by_)).length = 8 := by simp [numsK, hbl]
  have hg0 : (numsK .u8 (x :: by_))[0]? = some (.int .u8 (x : Int)) := rfl
  refine FS.intro (pf := pf42) rfl rfl rfl ?_
  refine WC.seq ?_
  refine WC.region ?_
  refine WR.boxA (cs := numsK .u8 (x :: by_)) (by first | exact gN | exact gS rfl) rfl hH rfl hone fun H1 hH1 => ?_
  repeat' (first | refine zP ?_ | refine zA ?_ | (refine zM ?_; intro _ _) | refine zX ?_ | (refine zC ?_; intro _ _ _ _) | (refine zS ?_; intro _ _) | (apply Ws <;> intro hg))
  refine WR.op (by first | exact gN | exact gS rfl) rfl (OpV.conv u8k i64k rfl (c := (x : Int)) (IntWalk.i64_in _ (by omega))) ?_
  have hmod := Nat.mod_lt x (show 0 < most by omega)
  repeat' (first | refine zP ?_ | refine zA ?_ | (refine zM ?_; intro _ _) | refine zX ?_ | (refine zC ?_; intro _ _ _ _) | (refine zS ?_; intro _ _) | (apply Ws <;> intro hg))
  rw [show (x : Int) % (most : Int) = ((x % most : Nat) : Int) by simp]
  obtain ⟨r, hr⟩ : ∃ r, x % most = r := ⟨_, rfl⟩
  rw [hr] at hmod ⊢
  repeat' (first | refine zP ?_ | refine zA ?_ | (refine zM ?_; intro _ _) | refine zX ?_ | (refine zC ?_; intro _ _ _ _) | (refine zS ?_; intro _ _) | (apply Ws <;> intro hg))
  rw [show (1 : Int) + (r : Int) = ((1 + r : Nat) : Int) by omega]
  have hmade : madeO x by_ most = (drawO by_ (1 + r) (1 + r)).1 := by unfold madeO; rw [hr]
  rw [hmade]
  obtain ⟨n, hn⟩ : ∃ n, 1 + r = n := ⟨_, rfl⟩
  rw [hn]
  have hn7 : 1 ≤ n ∧ n ≤ 7 := by omega
  clear hmade hr hn hmod
  refine WC.loopX [(1, _), (2, _), (4, _), (5, _), (7, .slice none 0 0), (17, _)] (fun z : KM => [(18, .int .i64 (z.k : Int)), (6, z.v)]) [] (fun z H' => z.k ≤ n ∧ ((z.k = 0 ∧ z.v = .slice none 0 0 ∧ z.Mx = []) ∨ OwnR 3 1 z.v (nodes (List.range z.k)) z.Mx) ∧ n0 + 1 ≤ z.n ∧ hasH (z.Mx ++ ((n0, .row 50 0 0 (numsK .u8 (x :: by_))) :: M)) z.n H') (fun z => n - z.k) ⟨0, .slice none 0 0, [], n0 + 1⟩ (by repeat' (first | exact .nil | refine .cons rfl ?_)) rfl ⟨Nat.zero_le _, .inl ⟨rfl, rfl, rfl⟩, Nat.le_refl _, hH1⟩ ?_
  clear hH hH1
  rintro ⟨k, v, Mx, n1⟩ H2 ⟨hk, hO, hn1, hH⟩
  simp only at hk hO hn1 hH
  dsimp only [List.cons_append, List.nil_append]
  repeat' (first | refine zP ?_ | refine zA ?_ | (refine zM ?_; intro _ _) | refine zX ?_ | (refine zC ?_; intro _ _ _ _) | (refine zS ?_; intro _ _) | (apply Ws <;> intro hg))
  refine WC.condP rfl (fun hlt => ?_) (fun hlt => ?_)
  · have hk' : k < n := by omega
    have hOw : Own 3 1 v (nodes (List.range k)) Mx := by
      rcases hO with ⟨rfl, rfl, rfl⟩ | hO
      · exact .nil
      · exact hO.own
    repeat' (first | refine zP ?_ | refine zA ?_ | (refine zM ?_; intro _ _) | refine zX ?_ | (refine zC ?_; intro _ _ _ _) | (refine zS ?_; intro _ _) | (apply Ws <;> intro hg))
    refine WR.append1RF [] Mx _ rfl rfl rfl rfl hOw hH (new := [.int .i64 (k : Int)]) rfl rfl rfl (Nat.le_refl _) (by decide) (by simp; omega) fun v' Mx' n' H' h1 h2 h3 => ?_
    repeat' (first | refine zP ?_ | refine zA ?_ | (refine zM ?_; intro _ _) | refine zX ?_ | (refine zC ?_; intro _ _ _ _) | (refine zS ?_; intro _ _) | (apply Ws <;> intro hg))
    refine Ends.loop ⟨k + 1, v', Mx', n'⟩ (by simp only; omega) (by repeat' (first | exact .nil | refine .cons rfl ?_)) rfl ⟨hk', .inr ?_, by simp only; omega, h2⟩
    have : nodes (List.range (k + 1)) = nodes (List.range k) ++ [.int .i64 (k : Int)] := by rw [List.range_succ, nodes_snoc]
    simp only [this]; exact h1
  · have hkn : k = n := by omega
    subst hkn
    rcases hO with ⟨h0, _⟩ | hO
    · omega
    generalize hcs : nodes (List.range k) = cs at hO
    cases hO with
    | mk hl =>
    rename_i b u o len
    subst hcs
    have hlen : len = k := by simp at hl; omega
    subst hlen
    rw [nodes_IL] at hH
    repeat' (first | refine zP ?_ | refine zA ?_ | (refine zM ?_; intro _ _) | refine zX ?_ | (refine zC ?_; intro _ _ _ _) | (refine zS ?_; intro _ _) | (apply Ws <;> intro hg))
    refine WC.loopX [(1, _), (2, _), (4, _), (5, _), (26, _)] (fun z : KN => [(27, .int .i64 (z.k : Int)), (6, .slice (some ⟨b, o, some u⟩) (len - z.k) z.cp), (7, z.ov)]) []
      (fun z H' => z.k ≤ len ∧ capR z.cp (len - z.k) z.R ∧ z.ys.length = len ∧ z.ys.take (len - z.k) = IL (drawO by_ len z.k).2 ∧ Own 3 1 z.ov (nodes (drawO by_ len z.k).1) z.Mo ∧ n0 ≤ z.n ∧ hasH ((b, .row 3 u o (ints z.ys)) :: (z.Mo ++ ((n0, .row 50 0 0 (numsK .u8 (x :: by_))) :: M))) z.n H') (fun z => len - z.k)
      ⟨0, 2 * 1, len, IL (List.range len), .slice none 0 0, [], n1⟩ (by repeat' (first | exact .nil | refine .cons rfl ?_)) rfl ⟨Nat.zero_le _, .inl ⟨rfl, rfl⟩, by simp [IL], by simp only [drawO, Nat.sub_zero]; rw [List.take_of_length_le (by simp [IL])], .nil, by simp only; omega, hH⟩ ?_
    clear hH
    rintro ⟨k, cp, R, ys, ov, Mo, n2⟩ H3 ⟨hk, hc, hyl, hy, hO, hn2, hH⟩
    simp only at hk hc hyl hy hO hn2 hH
    obtain ⟨q1, q2, _⟩ := drawO_props by_ len k hk
    have hdr := drawO_succ by_ len k
    dsimp only [List.cons_append, List.nil_append]
    repeat' (first | refine zP ?_ | refine zA ?_ | (refine zM ?_; intro _ _) | refine zX ?_ | (refine zC ?_; intro _ _ _ _) | (refine zS ?_; intro _ _) | (apply Ws <;> intro hg))
    refine WC.condP rfl (fun hlt2 => ?_) (fun hlt2 => ?_)
    · have hk' : k < len := by omega
      have hby : by_.getD k 0 ≤ 255 := hb _ (getD_mem (by omega))
      have hSl := sl_left (.head _) hc (by omega) hy (M := (b, .row 3 u o (ints ys)) :: (Mo ++ ((n0, .row 50 0 0 (numsK .u8 (x :: by_))) :: M)))
      have hgk : (numsK .u8 (x :: by_))[1 + k]? = some (.int .u8 ((by_.getD k 0 : Nat) : Int)) := by
        rw [getD_numsK (by simp; omega), show 1 + k = k + 1 by omega]; rfl
      repeat' (first | refine zP ?_ | refine zA ?_ | (refine zM ?_; intro _ _) | refine zX ?_ | (refine zC ?_; intro _ _ _ _) | (refine zS ?_; intro _ _) | (apply Ws <;> intro hg))
      refine WR.op (by first | exact gN | exact gS rfl) rfl (OpV.load1 rfl hH (List.mem_cons_of_mem _ (List.mem_append_right _ (.head _))) (.row _ _ _ _) (Nat.zero_le _) hgk) ?_
      refine WR.op (by first | exact gN | exact gS rfl) rfl (OpV.conv u8k i64k rfl (c := ((by_.getD k 0 : Nat) : Int)) (IntWalk.i64_in _ (by omega))) ?_
      generalize by_.getD k 0 = y at hby hdr ⊢
      rw [q2] at hdr
      have hmod := Nat.mod_lt y (show 0 < len - k by omega)
      repeat' (first | refine zP ?_ | refine zR ?_ | (refine zM ?_; intro _ _) | refine zX ?_ | (refine zC ?_; intro _ _ _ _) | (refine zS ?_; intro _ _))
      rw [show (y : Int) % (((len - k) : Nat) : Int) = ((y % (len - k) : Nat) : Int) by simp]
      generalize y % (len - k) = j at hmod hdr ⊢
      obtain ⟨lv, hlv⟩ : ∃ lv, Value.slice (some ⟨b, o, some u⟩) (len - k) cp = lv := ⟨_, rfl⟩
      rw [hlv] at hSl ⊢
      repeat' (first | refine zP ?_ | refine zA ?_ | (refine zM ?_; intro _ _) | refine zX ?_ | (refine zC ?_; intro _ _ _ _) | (refine zS ?_; intro _ _) | (apply Ws <;> intro hg))
      rw [← hlv]
      refine WR.append1F [(b, .row 3 u o (ints ys))] Mo _ rfl rfl rfl rfl hO hH (new := [.int .i64 (((drawO by_ len k).2.getD j 0 : Nat) : Int)]) rfl rfl rfl (Nat.le_refl _) (by decide) (by simp; omega) fun v' Mx' n' H' h1 h2 h3 => ?_
      repeat' (first | refine zP ?_ | refine zA ?_ | (refine zM ?_; intro _ _) | refine zX ?_ | (refine zC ?_; intro _ _ _ _) | (refine zS ?_; intro _ _) | (apply Ws <;> intro hg))
      replace h2 : hasH ((b, .row 3 u o (ints ys)) :: (Mx' ++ ((n0, .row 50 0 0 (numsK .u8 (x :: by_))) :: M))) n' H' := h2
      refine WR.call (by first | exact gN | exact gS rfl) rfl rfl (Delete_fs (i := j) (j := j + 1) h2 hc (by omega) (Nat.lt_succ_self j) (by omega) (by omega)) ?_
      rintro _ H5 ⟨zs, rfl, hH5, hzl, hz⟩
      rw [show len - k - (j + 1 - j) = len - (k + 1) by omega] at hz ⊢
      have hR := hc.le
      repeat' (first | refine zP ?_ | refine zA ?_ | (refine zM ?_; intro _ _) | refine zX ?_ | (refine zC ?_; intro _ _ _ _) | (refine zS ?_; intro _ _) | (apply Ws <;> intro hg))
      refine Ends.loop ⟨k + 1, roomCode 1 R, R, zs, v', Mx', n'⟩ (by simp only; omega) (by repeat' (first | exact .nil | refine .cons rfl ?_)) rfl ⟨hk', .inr ⟨rfl, by simp only; omega⟩, by simp only; omega, ?_, ?_, by simp only; omega, hH5⟩
      · simp only
        rw [hz, hdr, hy, IL_erase]
        congr 1
        have := congrArg (List.take j) hy
        rw [List.take_take, Nat.min_eq_left (by omega)] at this
        exact this
      · simp only
        rw [hdr, nodes_snoc]; exact h1
    · have hkl : k = len := by omega
      subst hkl
      repeat' (first | refine zP ?_ | refine zA ?_ | (refine zM ?_; intro _ _) | refine zX ?_ | (refine zC ?_; intro _ _ _ _) | (refine zS ?_; intro _ _) | (apply Ws <;> intro hg))
      exact Ends.ret1 rfl ⟨Mo, n2, hO, hn2, (hH.sub (List.sublist_cons_self _ _)).sub (List.Sublist.append_left (List.sublist_cons_self _ _) _)⟩
end
end Go.Proofs.Ytfnflkcjhefddaa.Lk

/- One letter of a string that is written out. -/
namespace Go.Abs
set_option linter.unusedSectionVars false
set_option linter.unusedVariables false
open Go
section
variable [Globs] {C : CW} {L : Env} {H : Heap}
theorem OpV.slT1 {dst : Option Tmp} {ts ty : TypeId} {pos : String} {af : Array Edge} {g : Option (Nat × Bool)} {x y : Operand} {s r : ByteArray} {k : IntKind} {a : Int} (hx : ev L x = some (.string s)) (hy : ev L y = some (.int k a))
    (h : pureRun C.c.P (Instr.sliceAt ts (.string s) (some (.int k a)) none none) = some (.string r)) : OpV C (.plain ⟨dst, .slice ts x (some y) none none, ty, pos, af, g⟩) L H (.string r) H := by
  refine OpV.plain (fun t ht => ?_) (fun t ht => by simp [Op.operands, ev_ok ht hx, ev_ok ht hy, plainV, plain1]) rfl
  have h2 : pureRun C.c.P (Instr.sliceAt ts (.string s) (some (.int k a)) none none >>= fun v => (pure (Next.value v) : Sem Next)) = some (.value (.string r)) := by
    rw [pureRun_bind, h]; rfl
  simp only [pureNext, execOp, ev_ok ht hx, Option.map, ev_ok ht hy]
  show (match pureRun C.c.P (Instr.sliceAt ts (.string s) (some (.int k a)) none none >>= fun v => (pure (Next.value v) : Sem Next)) with | some (.value v) => some v | _ => none) = _
  rw [h2]
theorem OpV.slT2 {dst : Option Tmp} {ts ty : TypeId} {pos : String} {af : Array Edge} {g : Option (Nat × Bool)} {x y : Operand} {s r : ByteArray} {k : IntKind} {a : Int} (hx : ev L x = some (.string s)) (hy : ev L y = some (.int k a))
    (h : pureRun C.c.P (Instr.sliceAt ts (.string s) none (some (.int k a)) none) = some (.string r)) : OpV C (.plain ⟨dst, .slice ts x none (some y) none, ty, pos, af, g⟩) L H (.string r) H := by
  refine OpV.plain (fun t ht => ?_) (fun t ht => by simp [Op.operands, ev_ok ht hx, ev_ok ht hy, plainV, plain1]) rfl
  have h2 : pureRun C.c.P (Instr.sliceAt ts (.string s) none (some (.int k a)) none >>= fun v => (pure (Next.value v) : Sem Next)) = some (.value (.string r)) := by
    rw [pureRun_bind, h]; rfl
  simp only [pureNext, execOp, ev_ok ht hx, Option.map, ev_ok ht hy]
  show (match pureRun C.c.P (Instr.sliceAt ts (.string s) none (some (.int k a)) none >>= fun v => (pure (Next.value v) : Sem Next)) with | some (.value v) => some v | _ => none) = _
  rw [h2]
end
end Go.Abs
namespace Go.Proofs.Ytfnflkcjhefddaa.Lk
open Go Go.Abs Go.Mth
set_option linter.unusedVariables false
set_option linter.unusedSimpArgs false
theorem cut3 (x : Nat) : ∃ r : ByteArray, pureRun C.c.P (Instr.sliceAt 9 (.string ⟨#[105, 111, 120]⟩) (some (.int .u8 ((x % 3 : Nat) : Int))) none none) = some (.string r) ∧ ∃ a, (a = 105 ∨ a = 111 ∨ a = 120) ∧ pureRun C.c.P (Instr.sliceAt 9 (.string r) none (some (.int .i64 1)) none) = some (.string (strB [a])) := by
  have : x % 3 < 3 := Nat.mod_lt _ (by decide)
  generalize x % 3 = y at this
  match y, this with
  | 0, _ => exact ⟨⟨#[105, 111, 120]⟩, by kernel_rfl, 105, by simp, by kernel_rfl⟩
  | 1, _ => exact ⟨⟨#[111, 120]⟩, by kernel_rfl, 111, by simp, by kernel_rfl⟩
  | 2, _ => exact ⟨⟨#[120]⟩, by kernel_rfl, 120, by simp, by kernel_rfl⟩
  | y + 3, h => exact absurd h (by omega)
theorem cut2 (x : Nat) : ∃ r : ByteArray, pureRun C.c.P (Instr.sliceAt 9 (.string ⟨#[105, 111]⟩) (some (.int .u8 ((x % 2 : Nat) : Int))) none none) = some (.string r) ∧ ∃ a, (a = 105 ∨ a = 111 ∨ a = 120) ∧ pureRun C.c.P (Instr.sliceAt 9 (.string r) none (some (.int .i64 1)) none) = some (.string (strB [a])) := by
  have : x % 2 < 2 := Nat.mod_lt _ (by decide)
  generalize x % 2 = y at this
  match y, this with
  | 0, _ => exact ⟨⟨#[105, 111]⟩, by kernel_rfl, 105, by simp, by kernel_rfl⟩
  | 1, _ => exact ⟨⟨#[111]⟩, by kernel_rfl, 111, by simp, by kernel_rfl⟩
  | y + 2, h => exact absurd h (by omega)
theorem mvs_le : ∀ (xs st : List Nat), ∀ b ∈ ltrs (runTr st xs), b ≤ 255
  | [], st, b, hb => by
    rw [run_end, ltrs, List.map_map] at hb
    obtain ⟨y, _, rfl⟩ := List.mem_map.1 hb
    show 111 ≤ 255; decide
  | x :: xs, st, b, hb => by
    simp only [runTr] at hb
    rw [ltrs_outs] at hb
    rcases List.mem_append.1 hb with h | h
    · obtain ⟨y, _, rfl⟩ := List.mem_map.1 h; show 111 ≤ 255; decide
    · rcases List.mem_cons.1 h with rfl | h
      · show 105 ≤ 255; decide
      · exact mvs_le xs _ b h
theorem mvsL_len (o : List Nat) : (mvsL o).length = 2 * o.length := by rw [mvsL, ltrs_len, runTr_len]; simp
structure QM where
  k : Nat
  s : List Nat
  came : Nat
  inn : Nat
  e : Int
theorem u8k' : C.c.P.underlying 5 = some (.int .u8) := by kernel_rfl
theorem i64k' : C.c.P.underlying 3 = some (.int .i64) := by kernel_rfl
attribute [local irreducible] gOK WS WC WR WD Ends FS YS OpV seqK blockK loopK midK retK rdK asgK rangeEnd sat Cell
section
variable {M : HL} {n0 : Nat} {H : Heap} {v w : Value}
set_option maxHeartbeats 4000000 in
theorem LockMoved_fs (hH : hasH M n0 H) {x : List Nat} (hxl : x.length = 8) (hx : ∀ y ∈ x, y ≤ 255) {bys : List Nat} (hyl : bys.length = 14) (hy : ∀ y ∈ bys, y ≤ 255) {many : Nat} (hm : many ≤ 255) :
    FS C 8 [.agg (numsK .u8 x).toArray, .agg (numsK .u8 bys).toArray, .int .u8 (many : Int)] H (fun e H' => e = .bool true) := by
  obtain ⟨x, by_, rfl⟩ : ∃ a l, x = a :: l := by
    cases x with
    | nil => simp at hxl
    | cons a l => exact ⟨a, l, rfl⟩
  have hbl : by_.length = 7 := by simpa using hxl
  have hx0 := hx x (by simp)
  have hb : ∀ y ∈ by_, y ≤ 255 := fun y hy => hx y (by simp [hy])
  have hones : ∀ l : List Nat, (numsK .u8 l).all one = true := fun l => by rw [List.all_eq_true]; intro q hq; obtain ⟨z, _, rfl⟩ := List.mem_map.1 hq; rfl
  have hsl : (numsK .u8 (x :: by_)).length = 8 := by simp [numsK, hbl]
  have hfin : ∀ {H' : Heap}, FS C 15 [] H' (fun e H'' => e = .bool true ∧ H'' = H') := fun {H'} => FS.works ⟨rfl, rfl⟩
  refine FS.intro (pf := pf8) rfl rfl rfl ?_
  refine WC.seq ?_
  refine WC.region ?_
  refine WR.boxA (cs := numsK .u8 (x :: by_)) (by first | exact gN | exact gS rfl) rfl hH rfl (hones _) fun H1 hH1 => ?_
  refine WR.boxA (cs := numsK .u8 bys) (by first | exact gN | exact gS rfl) rfl hH1 rfl (hones _) fun H2 hH2 => ?_
  repeat' (first | refine zP ?_ | refine zA ?_ | (refine zM ?_; intro _ _) | refine zX ?_ | (refine zC ?_; intro _ _ _ _) | (refine zS ?_; intro _ _) | (apply Ws <;> intro hg))
  refine WR.call (by first | exact gN | exact gS rfl) rfl rfl (made_fs (most := 7) hH2 hx0 hbl hb (by decide) (by decide)) ?_
  rintro v H3 ⟨Mx, n3, hO, hn3, hH3⟩
  obtain ⟨hord, hol⟩ := madeO_ord (x := x) (most := 7) by_ (by decide) (by decide)
  generalize madeO x by_ 7 = o at hO hord hol
  have ho := hO.sl ((n0 + 1, Ch.row 56 0 0 (numsK .u8 bys)) :: (n0, Ch.row 50 0 0 (numsK .u8 (x :: by_))) :: M)
  have hrow : (n0 + 1, Ch.row 56 0 0 (numsK .u8 bys)) ∈ Mx ++ ((n0 + 1, Ch.row 56 0 0 (numsK .u8 bys)) :: (n0, Ch.row 50 0 0 (numsK .u8 (x :: by_))) :: M) := List.mem_append_right _ (.head _)
  generalize Mx ++ ((n0 + 1, Ch.row 56 0 0 (numsK .u8 bys)) :: (n0, Ch.row 50 0 0 (numsK .u8 (x :: by_))) :: M) = X at hH3 ho hrow
  have h7 := hord.most
  have h1o := hord.one
  have hv := ho.one_
  clear hH hH1 hH2 hO hsl hbl hx hxl hx0 hb
  have hml := mvsL_len o
  have hmb : ∀ b ∈ mvsL o, b ≤ 255 := mvs_le o []
  have hpl := passF_len o
  have hrm := run_mvs o
  repeat' (first | refine zP ?_ | refine zA ?_ | (refine zM ?_; intro _ _) | refine zX ?_ | (refine zC ?_; intro _ _ _ _) | (refine zS ?_; intro _ _) | (apply Ws <;> intro hg))
  refine WR.call (by first | exact gN | exact gS rfl) rfl rfl (Moves_fs hH3 ho hord) ?_
  rintro _ H4 ⟨n4, rfl, hn4, hH4⟩
  repeat' (first | refine zP ?_ | refine zA ?_ | (refine zM ?_; intro _ _) | refine zX ?_ | (refine zC ?_; intro _ _ _ _) | (refine zS ?_; intro _ _) | refine zO ?_ | (apply Ws <;> intro hg))
  refine WR.call (by first | exact gN | exact gS rfl) rfl rfl (Pass_fs hH4 ho hord) ?_
  rintro _ H5 ⟨u5, M5, n5, rfl, hO5, hn5, hH5⟩
  have ho5 := ho.mono fun q hq => List.mem_append_right M5 hq
  repeat' (first | refine zP ?_ | refine zA ?_ | (refine zM ?_; intro _ _) | refine zX ?_ | (refine zC ?_; intro _ _ _ _) | (refine zS ?_; intro _ _) | refine zO ?_ | (apply Ws <;> intro hg))
  refine WR.call (by first | exact gN | exact gS rfl) rfl rfl (Run_fs hH5 ho5 hord hmb (by omega)) ?_
  rintro _ H6 ⟨u6, M6, n6, rfl, hS6, hn6, hH6⟩
  rw [hrm] at hS6 ⊢
  have ho6 := ho5.mono fun q hq => List.mem_append_right M6 hq
  repeat' (first | refine zP ?_ | refine zA ?_ | (refine zM ?_; intro _ _) | refine zX ?_ | (refine zC ?_; intro _ _ _ _) | (refine zS ?_; intro _ _) | refine zO ?_ | (apply Ws <;> intro hg))
  refine WR.call (by first | exact gN | exact gS rfl) rfl rfl (lrun_fs hH6 ho6 hord hmb (by omega)) ?_
  rintro _ H7 ⟨u7, M7, n7, rfl, hS7, hn7, hH7⟩
  rw [hrm] at hS7 ⊢
  replace hS7 := hS7 rfl
  have ho7 := ho6.mono fun q hq => List.mem_append_right M7 hq
  have a5 : Sl (M7 ++ (M6 ++ (M5 ++ X))) 1 u5 (nodes (passF o)) := (hO5.sl X).mono fun q hq => List.mem_append_right M7 (List.mem_append_right M6 hq)
  have a6 := hS6.mono fun q hq => List.mem_append_right M7 hq
  simp only at a6 hS7
  rw [show decide ((0, passF o).1 = 0) = true from rfl, show (((0, passF o) : Nat × List Nat).1 : Int) = 0 from rfl]
  have hrow7 : (n0 + 1, Ch.row 56 0 0 (numsK .u8 bys)) ∈ M7 ++ (M6 ++ (M5 ++ X)) := List.mem_append_right _ (List.mem_append_right _ (List.mem_append_right _ hrow))
  clear hH3 hH4 hH5 hH6 ho ho5 ho6 hS6 hO5 hrow
  repeat' (first | refine zP ?_ | refine zA ?_ | (refine zM ?_; intro _ _) | refine zX ?_ | (refine zC ?_; intro _ _ _ _) | (refine zS ?_; intro _ _) | refine zO ?_ | (apply Ws <;> intro hg))
  refine WR.call (by first | exact gN | exact gS rfl) rfl rfl (same_fs hH7 a6 a5 (by omega) (by omega)) ?_
  rintro _ H8 ⟨rfl, rfl⟩
  rw [decide_eq_true rfl]
  repeat' (first | refine zP ?_ | refine zA ?_ | (refine zM ?_; intro _ _) | refine zX ?_ | (refine zC ?_; intro _ _ _ _) | (refine zS ?_; intro _ _) | refine zO ?_ | (apply Ws <;> intro hg))
  refine WR.call (by first | exact gN | exact gS rfl) rfl rfl (same_fs hH7 hS7 a5 (by omega) (by omega)) ?_
  rintro _ H9 ⟨rfl, rfl⟩
  rw [decide_eq_true rfl]
  clear a5 a6 hS7
  generalize M7 ++ (M6 ++ (M5 ++ X)) = Y at hH7 ho7 hrow7
  repeat' (first | refine zP ?_ | refine zA ?_ | (refine zM ?_; intro _ _) | refine zX ?_ | (refine zC ?_; intro _ _ _ _) | (refine zS ?_; intro _ _) | refine zO ?_ | (apply Ws <;> intro hg))
  refine WR.op (by first | exact gN | exact gS rfl) rfl (OpV.conv u8k' i64k' rfl (c := (many : Int)) (IntWalk.i64_in _ (by omega))) ?_
  repeat' (first | refine zP ?_ | refine zA ?_ | (refine zM ?_; intro _ _) | refine zX ?_ | (refine zC ?_; intro _ _ _ _) | (refine zS ?_; intro _ _) | (apply Ws <;> intro hg))
  rw [show (many : Int) % 15 = ((many % 15 : Nat) : Int) by simp]
  have hmm : many % 15 < 15 := Nat.mod_lt _ (by decide)
  generalize many % 15 = m at hmm ⊢
  refine WR.op (by first | exact gN | exact gS rfl) rfl (OpV.slAh rfl rfl (by omega) (by decide)) ?_
  have hT : Sl Y 1 (.slice (some ⟨n0 + 1, 0, some 0⟩) m (2 * 14 + 1)) (numsK .u8 (bys.take m)) := .row hrow7 (.row _ _ _ _) (Nat.le_refl _) (by simp [numsK]; omega) (by simp [numsK, List.map_take]) (by simp [numsK]; omega) (.inr ⟨14, rfl, by omega⟩)
  have htl : (bys.take m).length = m := by rw [List.length_take]; omega
  have hty : ∀ y ∈ bys.take m, y ≤ 255 := fun y h => hy y (List.mem_of_mem_take h)
  generalize bys.take m = ys at hT htl hty
  repeat' (first | refine zP ?_ | refine zA ?_ | (refine zM ?_; intro _ _) | refine zX ?_ | (refine zC ?_; intro _ _ _ _) | (refine zS ?_; intro _ _) | (apply Ws <;> intro hg))
  refine WC.loopX [(7, v), (76, .slice (some ⟨n0 + 1, 0, some 0⟩) m (2 * 14 + 1)), (77, .int .i64 (m : Int))] (fun z : QM => [(78, .int .i64 (z.k : Int)), (16, .string (strB z.s)), (17, .int .i64 (z.came : Int)), (18, .int .i64 (z.inn : Int)), (19, .int .i64 z.e)]) []
    (fun z H' => H' = H9 ∧ z.k ≤ m ∧ z.s.length = z.k ∧ (∀ b ∈ z.s, b ≤ 255) ∧ z.came ≤ o.length ∧ z.inn ≤ z.came ∧ GoesR o z.s z.came z.inn z.e) (fun z => m - z.k) ⟨0, [], 0, 0, 0⟩ (by repeat' (first | exact .nil | refine .cons rfl ?_)) rfl
    ⟨rfl, Nat.zero_le _, rfl, fun b h => absurd h List.not_mem_nil, Nat.zero_le _, Nat.le_refl _, GoesR.start o⟩ ?_
  rintro ⟨k, s, came, inn, e⟩ H10 ⟨rfl, hk, hsl2, hsb, hcm, hin, hG⟩
  simp only at hk hsl2 hsb hcm hin hG
  dsimp only [List.cons_append, List.nil_append]
  repeat' (first | refine zP ?_ | refine zA ?_ | (refine zM ?_; intro _ _) | refine zX ?_ | (refine zC ?_; intro _ _ _ _) | (refine zS ?_; intro _ _) | (apply Ws <;> intro hg))
  refine WC.condP rfl (fun hlt => ?_) (fun hlt => ?_)
  · have hk' : k < m := by omega
    have hx255 : bys.getD k 0 ≤ 255 := hy _ (getD_mem (by omega))
    refine WC.skip ?_
    refine Ends.seq ?_
    refine WC.seq ?_
    refine WC.block ?_
    refine WC.seq ?_
    refine WC.joinX [(7, v), (76, .slice (some ⟨n0 + 1, 0, some 0⟩) m (2 * 14 + 1)), (77, .int .i64 (m : Int)), (78, .int .i64 (k : Int)), (16, .string (strB s)), (17, .int .i64 (came : Int)), (18, .int .i64 (inn : Int)), (19, .int .i64 e)] (by repeat' (first | exact .nil | refine .cons rfl ?_)) (fun _ : Unit => [(21, .int .u8 ((bys.getD k 0 : Nat) : Int))]) (fun _ H' => H' = H10) ?_ ?_
    · repeat' (first | refine zP ?_ | refine zA ?_ | (refine zM ?_; intro _ _) | refine zX ?_ | (refine zC ?_; intro _ _ _ _) | (refine zS ?_; intro _ _) | (apply Ws <;> intro hg))
      exact Ends.midX () (by repeat' (first | exact .nil | refine .cons rfl ?_)) rfl
    generalize bys.getD k 0 = x at hx255 ⊢
    rintro _ H10 rfl
    dsimp only [List.cons_append, List.nil_append]
    refine WC.seq ?_
    refine WC.joinX [(21, .int .u8 (x : Int)), (7, v), (76, .slice (some ⟨n0 + 1, 0, some 0⟩) m (2 * 14 + 1)), (77, .int .i64 (m : Int)), (78, .int .i64 (k : Int)), (16, .string (strB s)), (17, .int .i64 (came : Int)), (18, .int .i64 (inn : Int)), (19, .int .i64 e)] (by repeat' (first | exact .nil | refine .cons rfl ?_)) (fun _ : Unit => [(22, .string (strB [105]))]) (fun _ H' => H' = H10) ?_ ?_
    · repeat' (first | refine zP ?_ | refine zA ?_ | (refine zM ?_; intro _ _) | refine zX ?_ | (refine zC ?_; intro _ _ _ _) | (refine zS ?_; intro _ _) | (apply Ws <;> intro hg))
      exact Ends.midX () (by repeat' (first | exact .nil | refine .cons rfl ?_)) rfl
    rintro _ H10 rfl
    dsimp only [List.cons_append, List.nil_append]
    refine WC.seq ?_
    refine WC.joinX [(21, .int .u8 (x : Int)), (7, v), (76, .slice (some ⟨n0 + 1, 0, some 0⟩) m (2 * 14 + 1)), (77, .int .i64 (m : Int)), (78, .int .i64 (k : Int)), (16, .string (strB s)), (17, .int .i64 (came : Int)), (18, .int .i64 (inn : Int)), (19, .int .i64 e)] (by repeat' (first | exact .nil | refine .cons rfl ?_)) (fun a : Nat => [(22, .string (strB [a]))]) (fun a H' => (a = 105 ∨ a = 111 ∨ a = 120) ∧ H' = H10) ?_ ?_
    · repeat' (first | refine zP ?_ | refine zA ?_ | (refine zM ?_; intro _ _) | refine zX ?_ | (refine zC ?_; intro _ _ _ _) | (refine zS ?_; intro _ _) | (apply Ws <;> intro hg))
      · exact Ends.midX 111 (by repeat' (first | exact .nil | refine .cons rfl ?_)) ⟨by simp, rfl⟩
      · refine WC.condP rfl (fun hco => ?_) (fun hco => ?_)
        · repeat' (first | refine zP ?_ | refine zA ?_ | (refine zM ?_; intro _ _) | refine zX ?_ | (refine zC ?_; intro _ _ _ _) | (refine zS ?_; intro _ _) | (apply Ws <;> intro hg))
          exact Ends.midX 111 (by repeat' (first | exact .nil | refine .cons rfl ?_)) ⟨by simp, rfl⟩
        · repeat' (first | refine zP ?_ | refine zA ?_ | (refine zM ?_; intro _ _) | refine zX ?_ | (refine zC ?_; intro _ _ _ _) | (refine zS ?_; intro _ _) | (apply Ws <;> intro hg))
          exact Ends.midX 105 (by repeat' (first | exact .nil | refine .cons rfl ?_)) ⟨by simp, rfl⟩
      · refine WC.condP rfl (fun hco => ?_) (fun hco => ?_)
        · repeat' (first | refine zP ?_ | refine zA ?_ | (refine zM ?_; intro _ _) | refine zX ?_ | (refine zC ?_; intro _ _ _ _) | (refine zS ?_; intro _ _) | (apply Ws <;> intro hg))
          exact Ends.midX 111 (by repeat' (first | exact .nil | refine .cons rfl ?_)) ⟨by simp, rfl⟩
        · repeat' (first | refine zP ?_ | refine zA ?_ | (refine zM ?_; intro _ _) | refine zX ?_ | (refine zC ?_; intro _ _ _ _) | (refine zS ?_; intro _ _) | (apply Ws <;> intro hg))
          exact Ends.midX 105 (by repeat' (first | exact .nil | refine .cons rfl ?_)) ⟨by simp, rfl⟩
    rintro a0 H10 ⟨ha0, rfl⟩
    dsimp only [List.cons_append, List.nil_append]
    refine WC.seq ?_
    refine WC.joinX [(21, .int .u8 (x : Int)), (7, v), (76, .slice (some ⟨n0 + 1, 0, some 0⟩) m (2 * 14 + 1)), (77, .int .i64 (m : Int)), (78, .int .i64 (k : Int)), (16, .string (strB s)), (17, .int .i64 (came : Int)), (18, .int .i64 (inn : Int)), (19, .int .i64 e)] (by repeat' (first | exact .nil | refine .cons rfl ?_)) (fun a : Nat => [(22, .string (strB [a]))]) (fun a H' => (a = 105 ∨ a = 111 ∨ a = 120) ∧ H' = H10) ?_ ?_
    · by_cases h250 : 250 < x
      · repeat' (first | refine zP ?_ | refine zA ?_ | (refine zM ?_; intro _ _) | refine zX ?_ | (refine zC ?_; intro _ _ _ _) | (refine zS ?_; intro _ _) | refine zO ?_ | (apply Ws <;> intro hg))
        rw [show (x : Int) % 3 = ((x % 3 : Nat) : Int) by simp]
        obtain ⟨r, h1, a, ha, h2⟩ := cut3 x
        refine WR.op (by first | exact gN | exact gS rfl) rfl (OpV.slT1 rfl rfl h1) ?_
        refine WR.op (by first | exact gN | exact gS rfl) rfl (OpV.slT2 rfl rfl h2) ?_
        repeat' (first | refine zP ?_ | refine zA ?_ | (refine zM ?_; intro _ _) | refine zX ?_ | (refine zC ?_; intro _ _ _ _) | (refine zS ?_; intro _ _) | (apply Ws <;> intro hg))
        exact Ends.midX a (by repeat' (first | exact .nil | refine .cons rfl ?_)) ⟨ha, rfl⟩
      · by_cases h240 : 240 < x
        · repeat' (first | refine zP ?_ | refine zA ?_ | (refine zM ?_; intro _ _) | refine zX ?_ | (refine zC ?_; intro _ _ _ _) | (refine zS ?_; intro _ _) | refine zO ?_ | (apply Ws <;> intro hg))
          rw [show (x : Int) % 2 = ((x % 2 : Nat) : Int) by simp]
          obtain ⟨r, h1, a, ha, h2⟩ := cut2 x
          refine WR.op (by first | exact gN | exact gS rfl) rfl (OpV.slT1 rfl rfl h1) ?_
          refine WR.op (by first | exact gN | exact gS rfl) rfl (OpV.slT2 rfl rfl h2) ?_
          repeat' (first | refine zP ?_ | refine zA ?_ | (refine zM ?_; intro _ _) | refine zX ?_ | (refine zC ?_; intro _ _ _ _) | (refine zS ?_; intro _ _) | (apply Ws <;> intro hg))
          exact Ends.midX a (by repeat' (first | exact .nil | refine .cons rfl ?_)) ⟨ha, rfl⟩
        · repeat' (first | refine zP ?_ | refine zA ?_ | (refine zM ?_; intro _ _) | refine zX ?_ | (refine zC ?_; intro _ _ _ _) | (refine zS ?_; intro _ _) | refine zO ?_ | (apply Ws <;> intro hg))
          exact Ends.midX a0 (by repeat' (first | exact .nil | refine .cons rfl ?_)) ⟨ha0, rfl⟩
    rintro a H10 ⟨ha, rfl⟩
    dsimp only [List.cons_append, List.nil_append]
    repeat' (first | refine zP ?_ | refine zA ?_ | (refine zM ?_; intro _ _) | refine zX ?_ | (refine zC ?_; intro _ _ _ _) | (refine zS ?_; intro _ _) | (apply Ws <;> intro hg))
    refine WR.op (by first | exact gN | exact gS rfl) rfl (OpV.catT (a := s) (b := [a]) (by rw [List.length_singleton]; omega) rfl rfl) ?_
    have hsl3 : (s ++ [a]).length = k + 1 := by rw [List.length_append, List.length_singleton]; omega
    have hsb3 : ∀ b ∈ s ++ [a], b ≤ 255 := fun b h => by
      rcases List.mem_append.1 h with h | h
      · exact hsb b h
      · rw [List.mem_singleton.1 h]; omega
    by_cases he : e = 0
    · subst he
      have t1 : ((strB [120]).toList == (⟨#[120]⟩ : ByteArray).toList) = true := by decide +kernel
      have t2 : ((strB [105]).toList == (⟨#[120]⟩ : ByteArray).toList) = false := by decide +kernel
      have t3 : ((strB [111]).toList == (⟨#[120]⟩ : ByteArray).toList) = false := by decide +kernel
      have t4 : ((strB [105]).toList == (⟨#[105]⟩ : ByteArray).toList) = true := by decide +kernel
      have t5 : ((strB [111]).toList == (⟨#[105]⟩ : ByteArray).toList) = false := by decide +kernel
      rcases ha with rfl | rfl | rfl
      · repeat' (first | refine zP ?_ | refine zA ?_ | (refine zM ?_; intro _ _) | refine zX ?_ | (refine zC ?_; intro _ _ _ _) | (refine zS ?_; intro _ _) | refine zO ?_ | (apply Ws <;> intro hg))
        refine WR.op (by first | exact gN | exact gS rfl) rfl (OpV.eqT rfl rfl) ?_
        rw [t2]
        repeat' (first | refine zP ?_ | refine zA ?_ | (refine zM ?_; intro _ _) | refine zX ?_ | (refine zC ?_; intro _ _ _ _) | (refine zS ?_; intro _ _) | refine zO ?_ | (apply Ws <;> intro hg))
        refine WR.op (by first | exact gN | exact gS rfl) rfl (OpV.eqT rfl rfl) ?_
        rw [t4]
        by_cases hco : came = o.length
        · subst hco
          repeat' (first | refine zP ?_ | refine zA ?_ | (refine zM ?_; intro _ _) | refine zX ?_ | (refine zC ?_; intro _ _ _ _) | (refine zS ?_; intro _ _) | refine zO ?_ | (apply Ws <;> intro hg))
          exact Ends.loop ⟨k + 1, s ++ [105], o.length, inn, 2⟩ (by simp only; omega) (by repeat' (first | exact .nil | refine .cons rfl ?_)) rfl ⟨rfl, hk', hsl3, hsb3, hcm, hin, hG.full⟩
        · repeat' (first | refine zP ?_ | refine zA ?_ | (refine zM ?_; intro _ _) | refine zX ?_ | (refine zC ?_; intro _ _ _ _) | (refine zS ?_; intro _ _) | refine zO ?_ | (apply Ws <;> intro hg))
          refine WR.op (by first | exact gN | exact gS rfl) rfl (OpV.eqT rfl rfl) ?_
          rw [t4]
          repeat' (first | refine zP ?_ | refine zA ?_ | (refine zM ?_; intro _ _) | refine zX ?_ | (refine zC ?_; intro _ _ _ _) | (refine zS ?_; intro _ _) | refine zO ?_ | (apply Ws <;> intro hg))
          exact Ends.loop ⟨k + 1, s ++ [105], came + 1, inn + 1, 0⟩ (by simp only; omega) (by repeat' (first | exact .nil | refine .cons rfl ?_)) rfl ⟨rfl, hk', hsl3, hsb3, by simp only; omega, by simp only; omega, hG.come hco⟩
      · repeat' (first | refine zP ?_ | refine zA ?_ | (refine zM ?_; intro _ _) | refine zX ?_ | (refine zC ?_; intro _ _ _ _) | (refine zS ?_; intro _ _) | refine zO ?_ | (apply Ws <;> intro hg))
        refine WR.op (by first | exact gN | exact gS rfl) rfl (OpV.eqT rfl rfl) ?_
        rw [t3]
        repeat' (first | refine zP ?_ | refine zA ?_ | (refine zM ?_; intro _ _) | refine zX ?_ | (refine zC ?_; intro _ _ _ _) | (refine zS ?_; intro _ _) | refine zO ?_ | (apply Ws <;> intro hg))
        refine WR.op (by first | exact gN | exact gS rfl) rfl (OpV.eqT rfl rfl) ?_
        rw [t5]
        repeat' (first | refine zP ?_ | refine zA ?_ | (refine zM ?_; intro _ _) | refine zX ?_ | (refine zC ?_; intro _ _ _ _) | (refine zS ?_; intro _ _) | refine zO ?_ | (apply Ws <;> intro hg))
        refine WR.op (by first | exact gN | exact gS rfl) rfl (OpV.eqT rfl rfl) ?_
        rw [t5]
        cases inn with
        | zero =>
          repeat' (first | refine zP ?_ | refine zA ?_ | (refine zM ?_; intro _ _) | refine zX ?_ | (refine zC ?_; intro _ _ _ _) | (refine zS ?_; intro _ _) | refine zO ?_ | (apply Ws <;> intro hg))
          exact Ends.loop ⟨k + 1, s ++ [111], came, 0, 4⟩ (by simp only; omega) (by repeat' (first | exact .nil | refine .cons rfl ?_)) rfl ⟨rfl, hk', hsl3, hsb3, hcm, hin, hG.none⟩
        | succ inn =>
          repeat' (first | refine zP ?_ | refine zA ?_ | (refine zM ?_; intro _ _) | refine zX ?_ | (refine zC ?_; intro _ _ _ _) | (refine zS ?_; intro _ _) | refine zO ?_ | (apply Ws <;> intro hg))
          rw [show ((inn + 1 : Nat) : Int) - 1 = (inn : Int) by omega]
          exact Ends.loop ⟨k + 1, s ++ [111], came, inn, 0⟩ (by simp only; omega) (by repeat' (first | exact .nil | refine .cons rfl ?_)) rfl ⟨rfl, hk', hsl3, hsb3, hcm, by simp only; omega, hG.leave⟩
      · repeat' (first | refine zP ?_ | refine zA ?_ | (refine zM ?_; intro _ _) | refine zX ?_ | (refine zC ?_; intro _ _ _ _) | (refine zS ?_; intro _ _) | refine zO ?_ | (apply Ws <;> intro hg))
        refine WR.op (by first | exact gN | exact gS rfl) rfl (OpV.eqT rfl rfl) ?_
        rw [t1]
        repeat' (first | refine zP ?_ | refine zA ?_ | (refine zM ?_; intro _ _) | refine zX ?_ | (refine zC ?_; intro _ _ _ _) | (refine zS ?_; intro _ _) | refine zO ?_ | (apply Ws <;> intro hg))
        exact Ends.loop ⟨k + 1, s ++ [120], came, inn, 10⟩ (by simp only; omega) (by repeat' (first | exact .nil | refine .cons rfl ?_)) rfl ⟨rfl, hk', hsl3, hsb3, hcm, hin, hG.bad (by decide) (by decide)⟩
    · repeat' (first | refine zP ?_ | refine zA ?_ | (refine zM ?_; intro _ _) | refine zX ?_ | (refine zC ?_; intro _ _ _ _) | (refine zS ?_; intro _ _) | refine zO ?_ | (apply Ws <;> intro hg))
      exact Ends.loop ⟨k + 1, s ++ [a], came, inn, e⟩ (by simp only; omega) (by repeat' (first | exact .nil | refine .cons rfl ?_)) rfl ⟨rfl, hk', hsl3, hsb3, hcm, hin, hG.stay he a⟩
  · have hkm : k = m := by omega
    subst hkm
    clear hlt
    obtain ⟨f1, f2, f3⟩ := hG.fin
    have hrl := runE_len (o := o) s 0 [] []
    rw [List.length_nil] at hrl
    have hs1 : s.length ≤ 1000 := by omega
    by_cases he : e = 0
    · subst he
      by_cases hcond : came < o.length ∨ 0 < inn
      · have hE := f2 rfl hcond
        by_cases hcl : came < o.length
        · repeat' (first | refine zP ?_ | refine zA ?_ | (refine zM ?_; intro _ _) | refine zX ?_ | (refine zC ?_; intro _ _ _ _) | (refine zS ?_; intro _ _) | refine zO ?_ | (apply Ws <;> intro hg))
          refine WR.call (by first | exact gN | exact gS rfl) rfl rfl (Run_fs hH7 ho7 hord hsb hs1) ?_
          rintro _ H11 ⟨u11, M11, n11, rfl, hS11, hn11, hH11⟩
          rw [hE] at hS11 ⊢
          rw [show (((21, []) : Nat × List Nat).1 : Int) = 21 from rfl]
          replace hS11 : Sl (M11 ++ Y) 1 u11 (nodes []) := hS11
          have hr0 : ([] : List Nat).length = 0 := rfl
          repeat' (first | refine zP ?_ | refine zA ?_ | (refine zM ?_; intro _ _) | refine zX ?_ | (refine zC ?_; intro _ _ _ _) | (refine zS ?_; intro _ _) | refine zO ?_ | (apply Ws <;> intro hg))
          refine WR.call (by first | exact gN | exact gS rfl) rfl rfl hfin ?_
          rintro _ _ ⟨rfl, rfl⟩
          repeat' (first | refine zP ?_ | refine zA ?_ | (refine zM ?_; intro _ _) | refine zX ?_ | (refine zC ?_; intro _ _ _ _) | (refine zS ?_; intro _ _) | (apply Ws <;> intro hg))
          exact Ends.ret1 rfl rfl
        · have hin0 : 0 < inn := by omega
          repeat' (first | refine zP ?_ | refine zA ?_ | (refine zM ?_; intro _ _) | refine zX ?_ | (refine zC ?_; intro _ _ _ _) | (refine zS ?_; intro _ _) | refine zO ?_ | (apply Ws <;> intro hg))
          refine WR.call (by first | exact gN | exact gS rfl) rfl rfl (Run_fs hH7 ho7 hord hsb hs1) ?_
          rintro _ H11 ⟨u11, M11, n11, rfl, hS11, hn11, hH11⟩
          rw [hE] at hS11 ⊢
          rw [show (((21, []) : Nat × List Nat).1 : Int) = 21 from rfl]
          replace hS11 : Sl (M11 ++ Y) 1 u11 (nodes []) := hS11
          have hr0 : ([] : List Nat).length = 0 := rfl
          repeat' (first | refine zP ?_ | refine zA ?_ | (refine zM ?_; intro _ _) | refine zX ?_ | (refine zC ?_; intro _ _ _ _) | (refine zS ?_; intro _ _) | refine zO ?_ | (apply Ws <;> intro hg))
          refine WR.call (by first | exact gN | exact gS rfl) rfl rfl hfin ?_
          rintro _ _ ⟨rfl, rfl⟩
          repeat' (first | refine zP ?_ | refine zA ?_ | (refine zM ?_; intro _ _) | refine zX ?_ | (refine zC ?_; intro _ _ _ _) | (refine zS ?_; intro _ _) | (apply Ws <;> intro hg))
          exact Ends.ret1 rfl rfl
      · have hE := f3 rfl hcond
        repeat' (first | refine zP ?_ | refine zA ?_ | (refine zM ?_; intro _ _) | refine zX ?_ | (refine zC ?_; intro _ _ _ _) | (refine zS ?_; intro _ _) | refine zO ?_ | (apply Ws <;> intro hg))
        refine WR.call (by first | exact gN | exact gS rfl) rfl rfl (Run_fs hH7 ho7 hord hsb hs1) ?_
        rintro _ H11 ⟨u11, M11, n11, rfl, hS11, hn11, hH11⟩
        have ho11 := ho7.mono fun q hq => List.mem_append_right M11 hq
        generalize hEE : runE o s 0 [] [] = E at hE hS11 hrl ⊢
        rw [hE]
        repeat' (first | refine zP ?_ | refine zA ?_ | (refine zM ?_; intro _ _) | refine zX ?_ | (refine zC ?_; intro _ _ _ _) | (refine zS ?_; intro _ _) | refine zO ?_ | (apply Ws <;> intro hg))
        refine WR.call (by first | exact gN | exact gS rfl) rfl rfl (lrun_fs hH11 ho11 hord hsb hs1) ?_
        rintro _ H12 ⟨u12, M12, n12, rfl, hS12, hn12, hH12⟩
        rw [hEE] at hS12 ⊢
        rw [decide_eq_true hE]
        have hS13 := hS11.mono fun q hq => List.mem_append_right M12 hq
        repeat' (first | refine zP ?_ | refine zA ?_ | (refine zM ?_; intro _ _) | refine zX ?_ | (refine zC ?_; intro _ _ _ _) | (refine zS ?_; intro _ _) | refine zO ?_ | (apply Ws <;> intro hg))
        refine WR.call (by first | exact gN | exact gS rfl) rfl rfl (same_fs hH12 hS13 (hS12 hE) (by omega) (by omega)) ?_
        rintro _ H13 ⟨rfl, rfl⟩
        rw [decide_eq_true rfl]
        repeat' (first | refine zP ?_ | refine zA ?_ | (refine zM ?_; intro _ _) | refine zX ?_ | (refine zC ?_; intro _ _ _ _) | (refine zS ?_; intro _ _) | refine zO ?_ | (apply Ws <;> intro hg))
        refine WR.call (by first | exact gN | exact gS rfl) rfl rfl hfin ?_
        rintro _ _ ⟨rfl, rfl⟩
        repeat' (first | refine zP ?_ | refine zA ?_ | (refine zM ?_; intro _ _) | refine zX ?_ | (refine zC ?_; intro _ _ _ _) | (refine zS ?_; intro _ _) | (apply Ws <;> intro hg))
        exact Ends.ret1 rfl rfl
    · obtain ⟨hE1, hE2⟩ := f1 he
      repeat' (first | refine zP ?_ | refine zA ?_ | (refine zM ?_; intro _ _) | refine zX ?_ | (refine zC ?_; intro _ _ _ _) | (refine zS ?_; intro _ _) | refine zO ?_ | (apply Ws <;> intro hg))
      refine WR.call (by first | exact gN | exact gS rfl) rfl rfl (Run_fs hH7 ho7 hord hsb hs1) ?_
      rintro _ H11 ⟨u11, M11, n11, rfl, hS11, hn11, hH11⟩
      rw [hE2] at hS11
      rw [hE1]
      have hr0 : ([] : List Nat).length = 0 := rfl
      repeat' (first | refine zP ?_ | refine zA ?_ | (refine zM ?_; intro _ _) | refine zX ?_ | (refine zC ?_; intro _ _ _ _) | (refine zS ?_; intro _ _) | refine zO ?_ | (apply Ws <;> intro hg))
      refine WR.call (by first | exact gN | exact gS rfl) rfl rfl hfin ?_
      rintro _ _ ⟨rfl, rfl⟩
      repeat' (first | refine zP ?_ | refine zA ?_ | (refine zM ?_; intro _ _) | refine zX ?_ | (refine zC ?_; intro _ _ _ _) | (refine zS ?_; intro _ _) | (apply Ws <;> intro hg))
      exact Ends.ret1 rfl rfl
end
end Go.Proofs.Ytfnflkcjhefddaa.Lk
