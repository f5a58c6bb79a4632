/- Texts of the law, joined. -/
import Derived.Test.YtfnflkcjhefddaaJ2
import Derived.Test.YtfnflkcjhefddaaSymT
import Derived.Test.YtfnflkcjhefddaaSymZ
import Derived.Test.YtfnflkcjhefddaaJ1
import Derived.Test.YtfnflkcjhefddaaSymR
/- The letters of a pass. -/
namespace Go.Proofs.Ytfnflkcjhefddaa.Lk
open Go Go.Abs Go.Mth
set_option linter.unusedVariables false
set_option linter.unusedSimpArgs false
def ltrs (tr : List (Nat × Nat)) : List Nat := tr.map (·.1)
theorem ltrs_snoc (tr : List (Nat × Nat)) (a x : Nat) : ltrs (tr ++ [(a, x)]) = ltrs tr ++ [a] := by simp [ltrs]
theorem ltrs_len (tr : List (Nat × Nat)) : (ltrs tr).length = tr.length := by simp [ltrs]
theorem numsK_snoc {k : IntKind} (l : List Nat) (a : Nat) : numsK k (l ++ [a]) = numsK k l ++ [.int k (a : Int)] := by simp [numsK]
theorem numsK_len {k : IntKind} (l : List Nat) : (numsK k l).length = l.length := by simp [numsK]
/-- The letters so far, in memory. -/
def LetJ (bl : Nat) (tr : List (Nat × Nat)) (Mj : HL) : Prop := ∃ lv Mo, Own 5 1 lv (numsK .u8 (ltrs tr)) Mo ∧ Mj = (bl, Ch.row 59 0 0 [lv]) :: Mo
/-- The moves of a pass. -/
def mvsL (o : List Nat) : List Nat := ltrs (runTr [] o)
attribute [local irreducible] gOK WS WC WR WD Ends FS YS OpV seqK blockK loopK midK retK rdK asgK rangeEnd sat Cell
section
variable {M : HL} {n0 : Nat} {H : Heap} {v w : Value}
set_option maxHeartbeats 1000000 in
theorem tell_let {bl bx : Nat} (hm : (bx, Ch.row 79 0 0 [ptrO bl 0]) ∈ M) : TellK 99 [ptrO bx 0] (LetJ bl) M := by
  rintro tr Mj F n H a x ⟨lv, Mo, hO, rfl⟩ hl ha hH
  have hol := ltrs_len tr
  refine FS.intro (pf := pf99) rfl rfl rfl ?_
  have hlv := (hO.sl []).one_
  have hls := (hO.sl []).same
  have mX : (bx, Ch.row 79 0 0 [ptrO bl 0]) ∈ F ++ (((bl, Ch.row 59 0 0 [lv]) :: Mo) ++ M) := List.mem_append_right _ (List.mem_append_right _ hm)
  have mL : (bl, Ch.row 59 0 0 [lv]) ∈ F ++ (((bl, Ch.row 59 0 0 [lv]) :: Mo) ++ M) := List.mem_append_right _ (List.mem_append_left _ (.head _))
  have hsp : same1 (ptrO bl 0) (ptrO bl 0) = true := same_ptr _
  refine WC.regionD ?_
  refine WD.load1 (by first | exact gN | exact gS rfl) rfl rfl (hH.read mX (.row _ _ _ _) (Nat.zero_le _) rfl) ?_
  refine WD.load1 (by first | exact gN | exact gS rfl) rfl rfl (hH.read mX (.row _ _ _ _) (Nat.zero_le _) rfl) ?_
  repeat' (first | refine zD ?_ | (refine zE ?_; intro _ _ _ _))
  have hst : ∀ {Y : HL} {n' : Nat} {H' : Heap}, hasH Y n' H' → (bx, Ch.row 79 0 0 [ptrO bl 0]) ∈ Y → (bl, Ch.row 59 0 0 [lv]) ∈ Y → stands H' [0, 1, 3] [⟨3, ⟨bl, 0, some 0⟩, none, lv⟩, ⟨1, ⟨bx, 0, some 0⟩, none, ptrO bl 0⟩, ⟨0, ⟨bx, 0, some 0⟩, none, ptrO bl 0⟩] = true := fun h h1 h2 =>
    stands_cons (.inr (holds_at (h.read h2 (.row _ _ _ _) (Nat.zero_le _) rfl) hls)) (stands_cons (.inr (holds_at (h.read h1 (.row _ _ _ _) (Nat.zero_le _) rfl) hsp)) (stands_cons (.inr (holds_at (h.read h1 (.row _ _ _ _) (Nat.zero_le _) rfl) hsp)) stands_nil'))
  refine WD.append1F (new := .int .u8 (a : Int)) (F ++ [(bl, Ch.row 59 0 0 [lv])]) Mo M rfl rfl rfl rfl hO (by simpa using hH) rfl rfl (by rw [numsK_len]; omega) (fun H' h' => hst h' (by simp [hm]) (by simp)) fun v' Mx' n' H2 hO2 hH2 hn2 => ⟨?_, ?_⟩
  · exact stands_cons (.inl rfl) (stands_cons (.inl rfl) (stands_cons (.inr (holds_at (hH2.read (b := bx) (ch := .row 79 0 0 [ptrO bl 0]) (by simp [hm]) (.row _ _ _ _) (Nat.zero_le _) rfl) hsp)) stands_nil'))
  refine WD.toWR rfl ?_
  repeat' (first | refine zP ?_ | refine zA ?_ | (refine zM ?_; intro _ _) | refine zX ?_ | (refine zC ?_; intro _ _ _ _) | (refine zS ?_; intro _ _) | (apply Ws <;> intro hg))
  have hH3 : hasH ((bl, .row 59 0 0 [lv]) :: (F ++ (Mx' ++ M))) n' H2 := hH2.perm (by classical exact List.perm_iff_count.2 (fun a => by simp only [defds, List.map_cons, List.map_nil, List.count_append, List.count_cons, List.count_nil, List.cons_append, List.nil_append, List.append_nil]; omega))
  refine WR.storeBox (by first | exact gN | exact gS rfl) hH3 rfl rfl (hO2.own.sl []).one_ .here fun H4 hH4 => ?_
  repeat' (first | refine zP ?_ | refine zA ?_ | (refine zM ?_; intro _ _) | refine zX ?_ | (refine zC ?_; intro _ _ _ _) | (refine zS ?_; intro _ _) | (apply Ws <;> intro hg))
  refine Ends.end0 ⟨(bl, Ch.row 59 0 0 [v']) :: Mx', n', ⟨v', Mx', ?_, rfl⟩, hn2, hH4.perm (by classical exact List.perm_iff_count.2 (fun a => by simp only [defds, List.map_cons, List.map_nil, List.count_append, List.count_cons, List.count_nil, List.cons_append, List.nil_append, List.append_nil]; omega))⟩
  rw [ltrs_snoc, numsK_snoc]; exact hO2.own
theorem letters_fs (hH : hasH M n0 H) (b : Nat) :
    FS C 64 [ptrO b 0] H (fun e H' => e = .func (.func 99) [].toArray [ptrO n0 0].toArray ∧ hasH ((n0, .row 79 0 0 [ptrO b 0]) :: M) (n0 + 1) H') := by
  refine FS.intro (pf := pf64) rfl rfl rfl ?_
  repeat' (first | refine zP ?_ | refine zA ?_ | (refine zM ?_; intro _ _) | refine zX ?_ | (refine zC ?_; intro _ _ _ _) | (refine zS ?_; intro _ _) | (apply Ws <;> intro hg))
  rename_i H1 hH1
  exact Ends.ret1 rfl ⟨rfl, hH1⟩
theorem mvsL_ne {o : List Nat} (hO : OrdN o) : mvsL o ≠ [] := by
  intro e
  have := congrArg List.length e
  rw [mvsL, ltrs_len, runTr_len] at this
  have := hO.one
  simp at *; omega
theorem Moves_fs (hH : hasH M n0 H) {o : List Nat} (ho : Sl M 1 v (nodes o)) (hO : OrdN o) :
    FS C 18 [v] H (fun e H' => ∃ n', e = .tuple #[.string (strB (mvsL o)), .int .i64 0] ∧ n0 ≤ n' ∧ hasH M n' H') := by
  have hv := ho.one_
  have h7 := hO.most
  refine FS.intro (pf := pf18) rfl rfl rfl ?_
  repeat' (first | refine zP ?_ | refine zA ?_ | (refine zM ?_; intro _ _) | refine zX ?_ | (refine zC ?_; intro _ _ _ _) | (refine zS ?_; intro _ _) | (apply Ws <;> intro hg))
  refine WR.call (by first | exact gN | exact gS rfl) rfl rfl (CheckN_fs hH ho hO) ?_
  rintro _ H1 ⟨rfl, rfl⟩
  repeat' (first | refine zP ?_ | refine zA ?_ | (refine zM ?_; intro _ _) | refine zX ?_ | (refine zC ?_; intro _ _ _ _) | (refine zS ?_; intro _ _) | refine zO ?_ | (apply Ws <;> intro hg))
  rename_i H1 hH1
  refine WR.call (by first | exact gN | exact gS rfl) rfl rfl (letters_fs hH1 n0) ?_
  rintro _ H2 ⟨rfl, hH2⟩
  clear hH1
  have hH3 : hasH ([(n0, Ch.row 59 0 0 [.slice none 0 0])] ++ ((n0 + 1, Ch.row 79 0 0 [ptrO n0 0]) :: M)) (n0 + 1 + 1) H2 := hH2.perm (.swap _ _ _)
  clear hH2
  refine WR.call (by first | exact gN | exact gS rfl) rfl rfl (pass_fs (tell_let (bl := n0) (bx := n0 + 1) (.head _)) ⟨.slice none 0 0, [], .nil, rfl⟩ ho.cons (by omega) hH3) ?_
  rintro _ H4 ⟨_, n4, ⟨lv, Mo, hOw, rfl⟩, hn4, hH4⟩
  replace hH4 : hasH ((n0, Ch.row 59 0 0 [lv]) :: (Mo ++ ((n0 + 1, Ch.row 79 0 0 [ptrO n0 0]) :: M))) n4 H4 := hH4
  have hlv := (hOw.sl []).one_
  repeat' (first | refine zP ?_ | refine zA ?_ | (refine zM ?_; intro _ _) | refine zX ?_ | (refine zC ?_; intro _ _ _ _) | (refine zS ?_; intro _ _) | (apply Ws <;> intro hg))
  refine WR.op (by first | exact gN | exact gS rfl) rfl (OpV.cts (bs := mvsL o) rfl ((hOw.sl _).cons) (mvsL_ne hO) hH4) ?_
  repeat' (first | refine zP ?_ | refine zA ?_ | (refine zM ?_; intro _ _) | refine zX ?_ | (refine zC ?_; intro _ _ _ _) | (refine zS ?_; intro _ _) | (apply Ws <;> intro hg))
  exact Ends.ret2 rfl rfl ⟨n4, rfl, by omega, hH4.sub ((List.sublist_cons_self _ M).trans ((List.sublist_append_right _ _).trans (List.sublist_cons_self _ _)))⟩
end
end Go.Proofs.Ytfnflkcjhefddaa.Lk

/- Pass after pass. -/
namespace Go.Proofs.Ytfnflkcjhefddaa.Lk
open Go Go.Abs Go.Mth
set_option linter.unusedVariables false
set_option linter.unusedSimpArgs false
def pit (o : List Nat) : Nat → List Nat
  | 0 => o
  | k + 1 => passF (pit o k)
def Tops (k : Nat) (l : List Nat) : Prop := ∃ A, l = A ++ upN (l.length - k) l.length ∧ ∀ x ∈ A, x < l.length - k
/-- So many passes, and no fewer. -/
def PassN (o : List Nat) (k : Nat) : Prop := k ≤ o.length - 1 ∧ ascB (pit o k) = true ∧ ∀ j, j < k → ascB (pit o j) = false
end Go.Proofs.Ytfnflkcjhefddaa.Lk

/- The reference's functions. -/
namespace Go.Proofs.Ytfnflkcjhefddaa.Lk
open Go Go.Abs Go.Mth
set_option linter.unusedVariables false
set_option linter.unusedSimpArgs false
def ascR (l : List Nat) : Bool := decide (l = List.range l.length)
structure UZ where
  k : Nat
  v : Value
  Mx : HL
  n : Nat
attribute [local irreducible] gOK WS WC WR WD Ends FS YS OpV seqK blockK loopK midK retK rdK asgK rangeEnd sat Cell
section
variable {M : HL} {n0 : Nat} {H : Heap} {v w : Value}
theorem rin_fs (a lo hi : Int) (H : Heap) : FS C 69 [.int .i64 a, .int .i64 lo, .int .i64 hi] H (fun e H' => e = .bool (decide (lo ≤ a ∧ a ≤ hi)) ∧ H' = H) := by
  refine FS.intro (pf := pf69) rfl rfl rfl ?_
  repeat' (first | refine zP ?_ | refine zA ?_ | (refine zM ?_; intro _ _) | refine zX ?_ | (refine zC ?_; intro _ _ _ _) | (refine zS ?_; intro _ _) | (apply Ws <;> intro hg))
  · exact Ends.ret1 rfl ⟨by congr 1; rw [decide_eq_decide]; omega, rfl⟩
  · exact Ends.ret1 rfl ⟨by rw [decide_eq_false (by omega)], rfl⟩
theorem place_fs (hH : hasH M n0 H) {xs : List Int} (hS : Sl M 1 v (ints xs)) (hx : xs.length ≤ 100000) (a : Int) :
    FS C 70 [v, .int .i64 a] H (fun e H' => H' = H ∧ ((∃ k, k < xs.length ∧ xs.getD k 0 = a ∧ (∀ j, j < k → xs.getD j 0 ≠ a) ∧ e = .int .i64 (k : Int)) ∨ (a ∉ xs ∧ e = .int .i64 (-1)))) := by
  refine FS.intro (pf := pf70) rfl rfl rfl ?_
  repeat' (first | refine zP ?_ | refine zA ?_ | (refine zM ?_; intro _ _) | refine zX ?_ | (refine zC ?_; intro _ _ _ _) | (refine zS ?_; intro _ _) | (apply Ws <;> intro hg))
  refine WC.loopX [(0, _), (1, _)] (fun k : Nat => [(5, .int .i64 (k : Int))]) [] (fun k H' => H' = H ∧ k ≤ xs.length ∧ ∀ j, j < k → xs.getD j 0 ≠ a) (fun k => xs.length - k) 0 (by repeat' (first | exact .nil | refine .cons rfl ?_)) rfl ⟨rfl, Nat.zero_le _, fun j h => absurd h (Nat.not_lt_zero _)⟩ ?_
  rintro k H' ⟨rfl, hk, hno⟩
  dsimp only [List.cons_append, List.nil_append]
  repeat' (first | refine zP ?_ | refine zA ?_ | (refine zM ?_; intro _ _) | refine zX ?_ | (refine zC ?_; intro _ _ _ _) | (refine zS ?_; intro _ _) | (apply Ws <;> intro hg))
  refine WC.condP rfl (fun hlt => ?_) (fun hlt => ?_)
  · have hk' : k < xs.length := by omega
    repeat' (first | refine zP ?_ | refine zA ?_ | (refine zM ?_; intro _ _) | refine zX ?_ | (refine zC ?_; intro _ _ _ _) | (refine zS ?_; intro _ _) | (apply Ws <;> intro hg))
    refine WC.condP rfl (fun h => ?_) (fun h => ?_)
    · repeat' (first | refine zP ?_ | refine zA ?_ | (refine zM ?_; intro _ _) | refine zX ?_ | (refine zC ?_; intro _ _ _ _) | (refine zS ?_; intro _ _) | (apply Ws <;> intro hg))
      exact Ends.ret1 rfl ⟨rfl, .inl ⟨k, hk', h, hno, rfl⟩⟩
    · repeat' (first | refine zP ?_ | refine zA ?_ | (refine zM ?_; intro _ _) | refine zX ?_ | (refine zC ?_; intro _ _ _ _) | (refine zS ?_; intro _ _) | (apply Ws <;> intro hg))
      refine Ends.loop (k + 1) (by omega) (by repeat' (first | exact .nil | refine .cons rfl ?_)) rfl ⟨rfl, hk', fun j hj => ?_⟩
      rcases Nat.lt_or_ge j k with h2 | h2
      · exact hno j h2
      · rw [show j = k by omega]; exact h
  · repeat' (first | refine zP ?_ | refine zA ?_ | (refine zM ?_; intro _ _) | refine zX ?_ | (refine zC ?_; intro _ _ _ _) | (refine zS ?_; intro _ _) | (apply Ws <;> intro hg))
    refine Ends.ret1 rfl ⟨rfl, .inr ⟨fun hm => ?_, rfl⟩⟩
    obtain ⟨j, hj, he⟩ := List.mem_iff_getElem.1 hm
    exact hno j (by omega) (by rw [getD_eq hj]; exact he)
set_option maxHeartbeats 4000000 in
theorem rpass_fs : ∀ (N : Nat) {M : HL} {n0 : Nat} {H : Heap} {v : Value} {l : List Nat}, l.length ≤ N → hasH M n0 H → Sl M 1 v (nodes l) → l.Nodup → l.length ≤ 10 →
    FS C 62 [v] H (fun e H' => ∃ Mx n', ((l = [] ∧ e = .slice none 0 0 ∧ Mx = []) ∨ (l ≠ [] ∧ OwnR 3 1 e (nodes (passF l)) Mx)) ∧ n0 ≤ n' ∧ hasH (Mx ++ M) n' H') := by
  intro N
  induction N with
  | zero =>
    intro M n0 H v l hN hH hS hn h10
    have hl : l = [] := List.length_eq_zero_iff.1 (by omega)
    subst hl
    have hl0 : ([] : List Nat).length = 0 := rfl
    refine FS.intro (pf := pf62) rfl rfl rfl ?_
    repeat' (first | refine zP ?_ | refine zA ?_ | (refine zM ?_; intro _ _) | refine zX ?_ | (refine zC ?_; intro _ _ _ _) | (refine zS ?_; intro _ _) | refine zO ?_ | (apply Ws <;> intro hg))
    exact Ends.ret1 rfl ⟨[], n0, .inl ⟨rfl, rfl, rfl⟩, Nat.le_refl _, hH⟩
  | succ N ih =>
    intro M n0 H v l hN hH hS hn h10
    by_cases h0 : l.length = 0
    · have hl : l = [] := List.length_eq_zero_iff.1 h0
      subst hl
      have hl0 : ([] : List Nat).length = 0 := rfl
      refine FS.intro (pf := pf62) rfl rfl rfl ?_
      repeat' (first | refine zP ?_ | refine zA ?_ | (refine zM ?_; intro _ _) | refine zX ?_ | (refine zC ?_; intro _ _ _ _) | (refine zS ?_; intro _ _) | refine zO ?_ | (apply Ws <;> intro hg))
      exact Ends.ret1 rfl ⟨[], n0, .inl ⟨rfl, rfl, rfl⟩, Nat.le_refl _, hH⟩
    · refine FS.intro (pf := pf62) rfl rfl rfl ?_
      repeat' (first | refine zP ?_ | refine zA ?_ | (refine zM ?_; intro _ _) | refine zX ?_ | (refine zC ?_; intro _ _ _ _) | (refine zS ?_; intro _ _) | refine zO ?_ | (apply Ws <;> intro hg))
      refine WC.loopX [(0, v)] (fun z : Nat × Nat => [(4, .int .i64 (z.1 : Int)), (3, .int .i64 (z.2 : Int))]) [] (fun z H' => H' = H ∧ z.1 ≤ l.length ∧ z.2 < l.length ∧ ∀ i, i < z.1 → l.getD i 0 ≤ l.getD z.2 0) (fun z => l.length - z.1) (0, 0) (by repeat' (first | exact .nil | refine .cons rfl ?_)) rfl ⟨rfl, Nat.zero_le _, by simp only; omega, fun i h => absurd h (Nat.not_lt_zero _)⟩ ?_
      rintro ⟨k, p⟩ H1 ⟨rfl, hk, hp, hmax⟩
      simp only at hk hp hmax
      dsimp only [List.cons_append, List.nil_append]
      repeat' (first | refine zP ?_ | refine zA ?_ | (refine zM ?_; intro _ _) | refine zX ?_ | (refine zC ?_; intro _ _ _ _) | (refine zS ?_; intro _ _) | (apply Ws <;> intro hg))
      refine WC.condP rfl (fun hlt => ?_) (fun hlt => ?_)
      · have hk' : k < l.length := by omega
        repeat' (first | refine zP ?_ | refine zA ?_ | (refine zM ?_; intro _ _) | refine zX ?_ | (refine zC ?_; intro _ _ _ _) | (refine zS ?_; intro _ _) | (apply Ws <;> intro hg))
        refine WC.condP rfl (fun hgt => ?_) (fun hgt => ?_)
        · repeat' (first | refine zP ?_ | refine zA ?_ | (refine zM ?_; intro _ _) | refine zX ?_ | (refine zC ?_; intro _ _ _ _) | (refine zS ?_; intro _ _) | (apply Ws <;> intro hg))
          refine Ends.loop (k + 1, k) (by simp only; omega) (by repeat' (first | exact .nil | refine .cons rfl ?_)) rfl ⟨rfl, hk', hk', fun i hi => ?_⟩
          simp only at hi ⊢
          rcases Nat.lt_or_ge i k with h | h
          · have := hmax i h; omega
          · rw [show i = k by omega]; exact Nat.le_refl _
        · repeat' (first | refine zP ?_ | refine zA ?_ | (refine zM ?_; intro _ _) | refine zX ?_ | (refine zC ?_; intro _ _ _ _) | (refine zS ?_; intro _ _) | (apply Ws <;> intro hg))
          refine Ends.loop (k + 1, p) (by simp only; omega) (by repeat' (first | exact .nil | refine .cons rfl ?_)) rfl ⟨rfl, hk', hp, fun i hi => ?_⟩
          simp only at hi ⊢
          rcases Nat.lt_or_ge i k with h | h
          · exact hmax i h
          · rw [show i = k by omega]; omega
      · have hmax2 : ∀ x ∈ l, x ≤ l.getD p 0 := fun x hx => by
          obtain ⟨i, hi, rfl⟩ := mem_get hx
          exact hmax i (by omega)
        clear hmax
        have hsplit : l = l.take p ++ l.getD p 0 :: l.drop (p + 1) := by rw [getD_eq hp, ← List.drop_eq_getElem_cons hp, List.take_append_drop]
        have hL : ∀ x ∈ l.take p, x < l.getD p 0 := fun x hx => by
          have h1 := hmax2 x ((List.take_sublist _ _).subset hx)
          obtain ⟨i, hi, he⟩ := mem_get hx
          simp only [List.length_take] at hi
          rw [getD_take (by omega)] at he
          have : x ≠ l.getD p 0 := fun e => by have := nodup_get hn (show i < l.length by omega) hp (he.trans e); omega
          omega
        have hR : ∀ x ∈ l.drop (p + 1), x < l.getD p 0 := fun x hx => by
          have h1 := hmax2 x ((List.drop_sublist _ _).subset hx)
          obtain ⟨i, q1, q2⟩ := mem_get hx
          simp only [List.length_drop] at q1
          rw [List.getD_eq_getElem?_getD, List.getElem?_drop, ← List.getD_eq_getElem?_getD] at q2
          have : x ≠ l.getD p 0 := fun e => by have := nodup_get hn (show p + 1 + i < l.length by omega) hp (q2.trans e); omega
          omega
        have hpass := passF_split hL hR
        rw [← hsplit] at hpass
        have hlt1 : (l.take p).length ≤ N := by rw [List.length_take]; omega
        have hld : (l.drop (p + 1)).length ≤ N := by rw [List.length_drop]; omega
        have hlt2 : (l.take p).length ≤ 10 := by rw [List.length_take]; omega
        have hld2 : (l.drop (p + 1)).length ≤ 10 := by rw [List.length_drop]; omega
        have hl1 := passF_len (l.take p)
        have hl2 := passF_len (l.drop (p + 1))
        have hv := hS.one_
        repeat' (first | refine zP ?_ | refine zA ?_ | (refine zM ?_; intro _ _) | refine zX ?_ | (refine zC ?_; intro _ _ _ _) | (refine zS ?_; intro _ _) | (apply Ws <;> intro hg))
        refine WR.cutHiN (by first | exact gN | exact gS rfl) rfl rfl hS rfl (by omega) fun v1 hs1 => ?_
        repeat' (first | refine zP ?_ | refine zA ?_ | (refine zM ?_; intro _ _) | refine zX ?_ | (refine zC ?_; intro _ _ _ _) | (refine zS ?_; intro _ _) | (apply Ws <;> intro hg))
        rw [show (p : Int) + 1 = ((p + 1 : Nat) : Int) by omega]
        refine WR.cutLoN (by first | exact gN | exact gS rfl) rfl rfl hS rfl (by omega) fun v2 hs2 => ?_
        refine WR.call (by first | exact gN | exact gS rfl) rfl rfl (ih hlt1 hH hs1 ((List.take_sublist _ _).nodup hn) hlt2) ?_
        rintro w1 H3 ⟨Mx, n3, hO3, hn3, hH3⟩
        refine WR.bldS (by first | exact gN | exact gS rfl) rfl hH3 (vs := []) rfl (cs := []) (by rfl) rfl fun H4 hH4 => ?_
        have hSw : Sl ([(n3, Ch.row 3 0 0 [])] ++ (Mx ++ M)) 1 w1 (nodes (passF (l.take p))) ∧ (passF (l.take p) = [] → w1 = .slice none 0 0) := by
          rcases hO3 with ⟨e1, rfl, rfl⟩ | ⟨e1, e2⟩
          · rw [e1]; exact ⟨.nil 0, fun _ => rfl⟩
          · refine ⟨(e2.own.sl []).mono fun q hq => by simp at hq; simp [hq], fun e => ?_⟩
            rw [e] at hl1; exact absurd (List.length_eq_zero_iff.1 hl1.symm) e1
        refine WR.appZS (xs := []) (T := Mx ++ M) (by first | exact gN | exact gS rfl) rfl rfl rfl OwnZ.empty hSw.1 hSw.2 hH4 (by simp) (by omega) fun w3 M3 n5 H5 hO5 hH5 hn5 => ?_
        rw [List.nil_append] at hO5
        clear hSw hH4 hH3 hO3
        refine WR.call (by first | exact gN | exact gS rfl) rfl rfl (ih hld hH5 (hs2.mono fun q hq => List.mem_append_right _ (List.mem_append_right _ hq)) ((List.drop_sublist _ _).nodup hn) hld2) ?_
        rintro w2 H6 ⟨My, n6, hO6, hn6, hH6⟩
        have hH7 : hasH (M3 ++ (My ++ (Mx ++ M))) n6 H6 := hH6.perm (List.perm_append_comm_assoc My M3 (Mx ++ M))
        have hSw : Sl (M3 ++ (My ++ (Mx ++ M))) 1 w2 (nodes (passF (l.drop (p + 1)))) ∧ (passF (l.drop (p + 1)) = [] → w2 = .slice none 0 0) := by
          rcases hO6 with ⟨e1, rfl, rfl⟩ | ⟨e1, e2⟩
          · rw [e1]; exact ⟨.nil 0, fun _ => rfl⟩
          · refine ⟨(e2.own.sl []).mono fun q hq => by simp at hq; simp [hq], fun e => ?_⟩
            rw [e] at hl2; exact absurd (List.length_eq_zero_iff.1 hl2.symm) e1
        refine WR.appZS (T := My ++ (Mx ++ M)) (by first | exact gN | exact gS rfl) rfl rfl rfl hO5 hSw.1 hSw.2 hH7 (by omega) (by omega) fun w7 M7 n7 H7 hO7 hH7 hn7 => ?_
        have hS7 : Sl (M7 ++ (My ++ (Mx ++ M))) 1 v (nodes l) := hS.mono fun q hq => by simp [hq]
        repeat' (first | refine zP ?_ | refine zA ?_ | (refine zM ?_; intro _ _) | refine zX ?_ | (refine zC ?_; intro _ _ _ _) | (refine zS ?_; intro _ _) | (apply Ws <;> intro hg))
        refine WR.app1Z rfl rfl rfl rfl hO7 hH7 rfl (by simp; omega) fun w8 M8 n8 H8 hO8 hH8 hn8 => ?_
        have hw8 := (hO8.own.sl []).one_
        repeat' (first | refine zP ?_ | refine zA ?_ | (refine zM ?_; intro _ _) | refine zX ?_ | (refine zC ?_; intro _ _ _ _) | (refine zS ?_; intro _ _) | (apply Ws <;> intro hg))
        refine Ends.ret1 rfl ⟨M8, n8, .inr ⟨fun e => h0 (by rw [e]; rfl), by rw [hpass]; exact hO8⟩, by omega, hH8.sub (List.Sublist.append_left ((List.sublist_append_right Mx M).trans (List.sublist_append_right My _)) _)⟩
end
end Go.Proofs.Ytfnflkcjhefddaa.Lk

/- Barges leave in the ascending order just if no two of a basin clash. -/
namespace Go.Proofs.Ytfnflkcjhefddaa.Lk
open Go Go.Abs Go.Mth
set_option linter.unusedVariables false
set_option linter.unusedSimpArgs false
def clashP (o : List Nat) (i j : Nat) : Prop := o.getD i 0 < o.getD j 0 ∧ ∃ k, j < k ∧ k < o.length ∧ o.getD k 0 < o.getD i 0
def WK (o t : List Nat) (k : Nat) : Nat := o.length - (basK o t (List.range o.length) k).2.2.length
structure StB (o t : List Nat) (k w : Nat) : Prop where
  bas : ∃ p q, basK o t (List.range o.length) k = (p, q, upN w o.length) ∧ InvB o t k w p q ∧ (w < o.length → p.head? ≠ some w ∧ q.head? ≠ some w)
  le : w ≤ o.length
end Go.Proofs.Ytfnflkcjhefddaa.Lk

/- Some moves lead to the ascending order just if a pass does, and just if nothing bars it. -/
namespace Go.Proofs.Ytfnflkcjhefddaa.Lk
open Go Go.Abs Go.Mth
set_option linter.unusedVariables false
set_option linter.unusedSimpArgs false
def barB (o : List Nat) (i j k : Nat) : Bool := decide (o.getD k 0 < o.getD i 0) && decide (o.getD i 0 < o.getD j 0)
/-- Nothing bars it. -/
def NoBar (o : List Nat) : Prop := ∀ i j k, i < j → j < k → k < o.length → barB o i j k = false
/-- From here on some moves lead to the ascending order. -/
def canB (o : List Nat) : Nat → Nat → List Nat → List Nat → Bool
  | 0, c, i, u => ascB u
  | m + 1, c, i, u => (decide (c < o.length) && canB o m (c + 1) (i ++ [o.getD c 0]) u) || (decide (i ≠ []) && canB o m c i.dropLast (u ++ [i.getD (i.length - 1) 0]))
/-- A state of the moves. -/
structure StM (o : List Nat) (m c : Nat) (i u : List Nat) : Prop where
  le : c ≤ o.length
  num : m = 2 * (o.length - c) + i.length
  perm : (i ++ u).Perm (o.take c)
  sub : i.Sublist (o.take c)
theorem take_snoc {o : List Nat} {c : Nat} (h : c < o.length) : o.take (c + 1) = o.take c ++ [o.getD c 0] := by rw [List.take_succ_eq_append_getElem h, getD_eq h]
theorem StM.come {o : List Nat} {m c : Nat} {i u : List Nat} (h : StM o (m + 1) c i u) (hc : c < o.length) : StM o m (c + 1) (i ++ [o.getD c 0]) u := by
  refine ⟨hc, by have := h.num; simp; omega, ?_, ?_⟩
  · rw [take_snoc hc]
    refine List.Perm.trans ?_ (h.perm.append_right _)
    rw [List.append_assoc, List.append_assoc]
    exact List.Perm.append_left _ List.perm_append_comm
  · rw [take_snoc hc]; exact h.sub.append (List.Sublist.refl _)
theorem StM.full {o : List Nat} {c : Nat} {i u : List Nat} (h : StM o 0 c i u) : c = o.length ∧ i = [] ∧ u.Perm o := by
  have := h.num
  have h1 := h.le
  have hi : i = [] := List.length_eq_zero_iff.1 (by omega)
  have hc : c = o.length := by omega
  refine ⟨hc, hi, ?_⟩
  have := h.perm
  rw [hi, hc, List.take_length] at this
  exact this
theorem StM.len {o : List Nat} {m c : Nat} {i u : List Nat} (h : StM o m c i u) : i.length + u.length = c := by
  have := h.perm.length_eq
  rw [List.length_append, List.length_take] at this
  have := h.le
  omega
end Go.Proofs.Ytfnflkcjhefddaa.Lk

/- Three places that bar an order: what they are, the first ones, and proofs. -/
namespace Go.Abs
set_option linter.unusedSectionVars false
open Go
section
variable [Globs] {C : CW}
end
end Go.Abs
namespace Go.Proofs.Ytfnflkcjhefddaa.Lk
open Go Go.Abs Go.Mth
set_option linter.unusedVariables false
set_option linter.unusedSimpArgs false
/-- Nothing that comes before bars it. -/
def NoBefore (o : List Nat) (i j k : Nat) : Prop := ∀ a b c, a < b → b < c → c < o.length → (a < i ∨ (a = i ∧ (b < j ∨ (b = j ∧ c < k)))) → barB o a b c = false
/-- The first ones, or none. -/
def WhyR (o : List Nat) (i j k : Nat) (e : Int) : Prop := (e = 0 ∧ i < j ∧ j < k ∧ k < o.length ∧ barB o i j k = true ∧ NoBefore o i j k) ∨ (e = 13 ∧ i = 0 ∧ j = 0 ∧ k = 0 ∧ NoBar o)
def prvE (o : List Nat) (i j k : Nat) : Int := if i < j ∧ j < k then (if barB o i j k = true then 0 else 14) else 7
structure IJ where
  j : Nat
  k : Nat
attribute [local irreducible] gOK WS WC WR WD Ends FS YS OpV seqK blockK loopK midK retK rdK asgK rangeEnd sat Cell
section
variable {M : HL} {n0 : Nat} {H : Heap} {v w : Value}
end
end Go.Proofs.Ytfnflkcjhefddaa.Lk

/- The law's own pass; lists compared. -/
namespace Go.Abs
set_option linter.unusedSectionVars false
open Go
section
variable [Globs] {C : CW} {nt : Nat} {L : Env} {D : List Nat} {H H' : Heap} {K : St → Prop} {M M' : HL} {n i d : Nat} {gd : Option (Tmp × Bool)} {lo : List Nat} {l : List POp} {rs : List Rd}
/-- Numbers in a row of one's own, or none. -/
def OwnN (e : Nat) (v : Value) (xs : List Nat) (Mx : HL) : Prop := (xs = [] ∧ v = .slice none 0 0 ∧ Mx = []) ∨ (xs ≠ [] ∧ OwnR e 1 v (nodes xs) Mx)
theorem OwnN.own {e : Nat} {v : Value} {xs : List Nat} {Mx : HL} (h : OwnN e v xs Mx) : Own e 1 v (nodes xs) Mx := by
  rcases h with ⟨rfl, rfl, rfl⟩ | ⟨_, h⟩
  · exact .nil
  · exact h.own
theorem OwnN.sl {e : Nat} {v : Value} {xs : List Nat} {Mx T : HL} (h : OwnN e v xs Mx) (k : ∀ q ∈ Mx, q ∈ T) : Sl T 1 v (nodes xs) := (h.own.sl []).mono fun q hq => k q (by simpa using hq)
end
end Go.Abs
namespace Go.Proofs.Ytfnflkcjhefddaa.Lk
open Go Go.Abs Go.Mth
set_option linter.unusedVariables false
set_option linter.unusedSimpArgs false
attribute [local irreducible] gOK WS WC WR WD Ends FS YS OpV seqK blockK loopK midK retK rdK asgK rangeEnd sat Cell
section
variable {M : HL} {n0 : Nat} {H : Heap} {v w : Value}
theorem same_fs (hH : hasH M n0 H) {xs ys : List Nat} (hS : Sl M 1 v (nodes xs)) (hU : Sl M 1 w (nodes ys)) (hx : xs.length ≤ 1000) (hy : ys.length ≤ 1000) :
    FS C 22 [v, w] H (fun e H' => e = .bool (decide (xs = ys)) ∧ H' = H) := by
  refine FS.intro (pf := pf22) rfl rfl rfl ?_
  repeat' (first | refine zP ?_ | refine zA ?_ | (refine zM ?_; intro _ _) | refine zX ?_ | (refine zC ?_; intro _ _ _ _) | (refine zS ?_; intro _ _) | (apply Ws <;> intro hg))
  refine WC.condP rfl (fun hne => ?_) (fun hne => ?_)
  · repeat' (first | refine zP ?_ | refine zA ?_ | (refine zM ?_; intro _ _) | refine zX ?_ | (refine zC ?_; intro _ _ _ _) | (refine zS ?_; intro _ _) | (apply Ws <;> intro hg))
    refine Ends.ret1 rfl ⟨?_, rfl⟩
    rw [decide_eq_false fun e => hne (by rw [e])]
  · have hll : xs.length = ys.length := by omega
    repeat' (first | refine zP ?_ | refine zA ?_ | (refine zM ?_; intro _ _) | refine zX ?_ | (refine zC ?_; intro _ _ _ _) | (refine zS ?_; intro _ _) | (apply Ws <;> intro hg))
    refine WC.loopX [(0, _), (1, _)] (fun k : Nat => [(5, .int .i64 (k : Int))]) [] (fun k H' => H' = H ∧ k ≤ xs.length ∧ ∀ i, i < k → xs.getD i 0 = ys.getD i 0) (fun k => xs.length - k) 0 (by repeat' (first | exact .nil | refine .cons rfl ?_)) rfl ⟨rfl, Nat.zero_le _, fun i h => absurd h (Nat.not_lt_zero _)⟩ ?_
    rintro k _ ⟨rfl, hk, hall⟩
    dsimp only [List.cons_append, List.nil_append]
    repeat' (first | refine zP ?_ | refine zA ?_ | (refine zM ?_; intro _ _) | refine zX ?_ | (refine zC ?_; intro _ _ _ _) | (refine zS ?_; intro _ _) | (apply Ws <;> intro hg))
    refine WC.condP rfl (fun hlt => ?_) (fun hlt => ?_)
    · have hk' : k < xs.length := by omega
      repeat' (first | refine zP ?_ | refine zA ?_ | (refine zM ?_; intro _ _) | refine zX ?_ | (refine zC ?_; intro _ _ _ _) | (refine zS ?_; intro _ _) | (apply Ws <;> intro hg))
      refine WC.condP rfl (fun hd => ?_) (fun hd => ?_)
      · repeat' (first | refine zP ?_ | refine zA ?_ | (refine zM ?_; intro _ _) | refine zX ?_ | (refine zC ?_; intro _ _ _ _) | (refine zS ?_; intro _ _) | (apply Ws <;> intro hg))
        refine Ends.ret1 rfl ⟨?_, rfl⟩
        rw [decide_eq_false fun e => hd (by rw [e])]
      · repeat' (first | refine zP ?_ | refine zA ?_ | (refine zM ?_; intro _ _) | refine zX ?_ | (refine zC ?_; intro _ _ _ _) | (refine zS ?_; intro _ _) | (apply Ws <;> intro hg))
        refine Ends.loop (k + 1) (by omega) (by repeat' (first | exact .nil | refine .cons rfl ?_)) rfl ⟨rfl, hk', fun i hi => ?_⟩
        rcases Nat.lt_or_ge i k with h | h
        · exact hall i h
        · rw [show i = k by omega]; omega
    · repeat' (first | refine zP ?_ | refine zA ?_ | (refine zM ?_; intro _ _) | refine zX ?_ | (refine zC ?_; intro _ _ _ _) | (refine zS ?_; intro _ _) | (apply Ws <;> intro hg))
      refine Ends.ret1 rfl ⟨?_, rfl⟩
      rw [decide_eq_true (ext_getD (a := 0) hll fun i hi => hall i (by omega))]
end
end Go.Proofs.Ytfnflkcjhefddaa.Lk

/- How many passes. -/
namespace Go.Proofs.Ytfnflkcjhefddaa.Lk
open Go Go.Abs Go.Mth
set_option linter.unusedVariables false
set_option linter.unusedSimpArgs false
structure QX where
  k : Nat
  v : Value
  Mx : HL
  n : Nat
attribute [local irreducible] gOK WS WC WR WD Ends FS YS OpV seqK blockK loopK midK retK rdK asgK rangeEnd sat Cell
section
variable {M : HL} {n0 : Nat} {H : Heap} {v w : Value}
end
end Go.Proofs.Ytfnflkcjhefddaa.Lk

/- The reference's Check, barred, Sorted, Why, Passes, Proves; what both answer to what is no order. -/
namespace Go.Proofs.Ytfnflkcjhefddaa.Lk
open Go Go.Abs Go.Mth
set_option linter.unusedVariables false
set_option linter.unusedSimpArgs false
def BarR (o : List Nat) (i j k : Nat) (f : Bool) : Prop := (f = true ∧ i < j ∧ j < k ∧ k < o.length ∧ barB o i j k = true ∧ NoBefore o i j k) ∨ (f = false ∧ i = 0 ∧ j = 0 ∧ k = 0 ∧ NoBar o)
def inO (o : List Nat) (a : Int) : Prop := 0 ≤ a ∧ a < (o.length : Int)
instance (o : List Nat) (a : Int) : Decidable (inO o a) := inferInstanceAs (Decidable (_ ∧ _))
def prvI (o : List Nat) (i j k : Int) : Int := if inO o i ∧ inO o j ∧ inO o k then prvE o i.toNat j.toNat k.toNat else 2
theorem NoBefore.uniq {o : List Nat} {i j k a b c : Nat} (h : NoBefore o i j k) (h2 : NoBefore o a b c) (hij : i < j) (hjk : j < k) (hk : k < o.length) (hab : a < b) (hbc : b < c) (hc : c < o.length) (h3 : barB o i j k = true) (h4 : barB o a b c = true) : i = a ∧ j = b ∧ k = c := by
  have q1 : ¬ (a < i ∨ (a = i ∧ (b < j ∨ (b = j ∧ c < k)))) := fun q => by rw [h a b c hab hbc hc q] at h4; cases h4
  have q2 : ¬ (i < a ∨ (i = a ∧ (j < b ∨ (j = b ∧ k < c)))) := fun q => by rw [h2 i j k hij hjk hk q] at h3; cases h3
  omega
theorem WhyR.uniq {o : List Nat} {i j k a b c : Nat} {e f : Int} (h : WhyR o i j k e) (h2 : WhyR o a b c f) : i = a ∧ j = b ∧ k = c ∧ e = f := by
  rcases h with ⟨rfl, h1, h3, h4, h5, h6⟩ | ⟨rfl, rfl, rfl, rfl, h7⟩ <;> rcases h2 with ⟨rfl, g1, g3, g4, g5, g6⟩ | ⟨rfl, rfl, rfl, rfl, g7⟩
  · obtain ⟨q1, q2, q3⟩ := h6.uniq g6 h1 h3 h4 g1 g3 g4 h5 g5
    exact ⟨q1, q2, q3, rfl⟩
  · rw [g7 i j k h1 h3 h4] at h5; cases h5
  · rw [h7 a b c g1 g3 g4] at g5; cases g5
  · exact ⟨rfl, rfl, rfl, rfl⟩
attribute [local irreducible] gOK WS WC WR WD Ends FS YS OpV seqK blockK loopK midK retK rdK asgK rangeEnd sat Cell
section
variable {M : HL} {n0 : Nat} {H : Heap} {v w : Value}
theorem RCheck_fs (hH : hasH M n0 H) {xs : List Int} (hS : Sl M 1 v (ints xs)) (hx : xs.length ≤ 100000) :
    FS C 24 [v] H (fun e H' => H' = H ∧ e = .int .i64 (errO xs)) := by
  have hv := hS.one_
  refine FS.intro (pf := pf24) rfl rfl rfl ?_
  repeat' (first | refine zP ?_ | refine zA ?_ | (refine zM ?_; intro _ _) | refine zX ?_ | (refine zC ?_; intro _ _ _ _) | (refine zS ?_; intro _ _) | (apply Ws <;> intro hg))
  refine WR.call (by first | exact gN | exact gS rfl) rfl rfl (rin_fs _ _ _ _) ?_
  rintro _ H1 ⟨rfl, rfl⟩
  by_cases hr : xs.length < 1 ∨ 7 < xs.length
  · rw [decide_eq_false (by omega)]
    repeat' (first | refine zP ?_ | refine zA ?_ | (refine zM ?_; intro _ _) | refine zX ?_ | (refine zC ?_; intro _ _ _ _) | (refine zS ?_; intro _ _) | refine zO ?_ | (apply Ws <;> intro hg))
    refine Ends.ret1 rfl ⟨rfl, ?_⟩
    unfold errO; rw [if_pos hr]
  · rw [decide_eq_true (by omega)]
    repeat' (first | refine zP ?_ | refine zA ?_ | (refine zM ?_; intro _ _) | refine zX ?_ | (refine zC ?_; intro _ _ _ _) | (refine zS ?_; intro _ _) | refine zO ?_ | (apply Ws <;> intro hg))
    refine WC.loopX [(0, v), (3, .int .i64 (xs.length : Int))] (fun k : Nat => [(4, .int .i64 (k : Int))]) [] (fun k H' => H' = H1 ∧ k ≤ xs.length ∧ firstE (errA xs) k = 0) (fun k => xs.length - k) 0 (by repeat' (first | exact .nil | refine .cons rfl ?_)) rfl ⟨rfl, Nat.zero_le _, rfl⟩ ?_
    rintro k H' ⟨rfl, hk, hz⟩
    dsimp only [List.cons_append, List.nil_append]
    repeat' (first | refine zP ?_ | refine zA ?_ | (refine zM ?_; intro _ _) | refine zX ?_ | (refine zC ?_; intro _ _ _ _) | (refine zS ?_; intro _ _) | (apply Ws <;> intro hg))
    refine WC.condP rfl (fun hlt => ?_) (fun hlt => ?_)
    · have hk' : k < xs.length := by omega
      repeat' (first | refine zP ?_ | refine zA ?_ | (refine zM ?_; intro _ _) | refine zX ?_ | (refine zC ?_; intro _ _ _ _) | (refine zS ?_; intro _ _) | (apply Ws <;> intro hg))
      refine WR.call (by first | exact gN | exact gS rfl) rfl rfl (rin_fs _ _ _ _) ?_
      rintro _ _ ⟨rfl, rfl⟩
      by_cases hp : xs.getD k 0 < 0 ∨ (xs.length : Int) ≤ xs.getD k 0
      · rw [decide_eq_false (by omega)]
        repeat' (first | refine zP ?_ | refine zA ?_ | (refine zM ?_; intro _ _) | refine zX ?_ | (refine zC ?_; intro _ _ _ _) | (refine zS ?_; intro _ _) | refine zO ?_ | (apply Ws <;> intro hg))
        refine Ends.ret1 rfl ⟨rfl, ?_⟩
        have h1 : errA xs k = 2 := by unfold errA; rw [if_pos (by omega)]
        unfold errO; rw [if_neg hr, firstE_at hz (by rw [h1]; decide) hk', h1]
      · rw [decide_eq_true (by omega)]
        repeat' (first | refine zP ?_ | refine zA ?_ | (refine zM ?_; intro _ _) | refine zX ?_ | (refine zC ?_; intro _ _ _ _) | (refine zS ?_; intro _ _) | refine zO ?_ | (apply Ws <;> intro hg))
        refine WR.cutHi (by first | exact gN | exact gS rfl) rfl rfl hS rfl (Nat.le_of_lt hk') fun v' hS' => ?_
        repeat' (first | refine zP ?_ | refine zA ?_ | (refine zM ?_; intro _ _) | refine zX ?_ | (refine zC ?_; intro _ _ _ _) | (refine zS ?_; intro _ _) | (apply Ws <;> intro hg))
        refine WR.call (by first | exact gN | exact gS rfl) rfl rfl (place_fs hH hS' (by simp; omega) _) ?_
        rintro _ _ ⟨rfl, ⟨q, hq, hg, _, rfl⟩ | ⟨hn, rfl⟩⟩
        · have hm : xs.getD k 0 ∈ xs.take k := by rw [← hg]; exact getD_mem hq
          repeat' (first | refine zP ?_ | refine zA ?_ | (refine zM ?_; intro _ _) | refine zX ?_ | (refine zC ?_; intro _ _ _ _) | (refine zS ?_; intro _ _) | refine zO ?_ | (apply Ws <;> intro hg))
          refine Ends.ret1 rfl ⟨rfl, ?_⟩
          have h1 : errA xs k = 6 := by unfold errA; rw [if_neg hp, if_pos hm]
          unfold errO; rw [if_neg hr, firstE_at hz (by rw [h1]; decide) hk', h1]
        · repeat' (first | refine zP ?_ | refine zA ?_ | (refine zM ?_; intro _ _) | refine zX ?_ | (refine zC ?_; intro _ _ _ _) | (refine zS ?_; intro _ _) | refine zO ?_ | (apply Ws <;> intro hg))
          refine Ends.loop (k + 1) (by omega) (by repeat' (first | exact .nil | refine .cons rfl ?_)) rfl ⟨rfl, hk', firstE_succ hz ?_⟩
          unfold errA; rw [if_neg hp, if_neg hn]
    · have hkn : k = xs.length := by omega
      subst hkn
      repeat' (first | refine zP ?_ | refine zA ?_ | (refine zM ?_; intro _ _) | refine zX ?_ | (refine zC ?_; intro _ _ _ _) | (refine zS ?_; intro _ _) | (apply Ws <;> intro hg))
      refine Ends.ret1 rfl ⟨rfl, ?_⟩
      unfold errO; rw [if_neg hr, hz]
theorem RCheckN_fs (hH : hasH M n0 H) {l : List Nat} (hS : Sl M 1 v (nodes l)) (ho : OrdN l) :
    FS C 24 [v] H (fun e H' => H' = H ∧ e = .int .i64 0) := by
  have := ho.most
  refine (RCheck_fs hH (xs := IL l) (by rw [← nodes_IL]; exact hS) (by rw [IL_len]; omega)).mono ?_
  rintro e H' ⟨h1, h2⟩
  rw [errO_ok ho] at h2
  exact ⟨h1, h2⟩
end
end Go.Proofs.Ytfnflkcjhefddaa.Lk

/- The reference's moves. -/
namespace Go.Proofs.Ytfnflkcjhefddaa.Lk
open Go Go.Abs Go.Mth
set_option linter.unusedVariables false
set_option linter.unusedSimpArgs false
structure MX where
  k : Nat
  st : List Nat
  tr : List (Nat × Nat)
  v : Value
  Mx : HL
  n : Nat
theorem run_end (st : List Nat) : runTr st [] = st.map fun y => (111, y) := rfl
theorem ltrs_end (tr : List (Nat × Nat)) (st : List Nat) : ltrs (tr ++ runTr st []) = ltrs tr ++ List.replicate st.length 111 := by
  rw [run_end]
  simp only [ltrs, List.map_append, List.map_map]
  congr 1
  rw [List.eq_replicate_iff]
  exact ⟨by simp, fun b hb => by obtain ⟨y, _, rfl⟩ := List.mem_map.1 hb; rfl⟩
theorem nodes_rev_cons (y : Nat) (st : List Nat) : nodes (y :: st).reverse = nodes st.reverse ++ [.int .i64 (y : Int)] := by simp [nodes]
attribute [local irreducible] gOK WS WC WR WD Ends FS YS OpV seqK blockK loopK midK retK rdK asgK rangeEnd sat Cell
section
variable {M : HL} {n0 : Nat} {H : Heap} {v w : Value}
set_option maxHeartbeats 2000000 in
theorem RMoves_fs (hH : hasH M n0 H) {o : List Nat} (ho : Sl M 1 v (nodes o)) (hO : OrdN o) :
    FS C 19 [v] H (fun e H' => ∃ n', e = .tuple #[.string (strB (mvsL o)), .int .i64 0] ∧ n0 ≤ n' ∧ hasH M n' H') := by
  have hv := ho.one_
  have h7 := hO.most
  refine FS.intro (pf := pf19) rfl rfl rfl ?_
  repeat' (first | refine zP ?_ | refine zA ?_ | (refine zM ?_; intro _ _) | refine zX ?_ | (refine zC ?_; intro _ _ _ _) | (refine zS ?_; intro _ _) | (apply Ws <;> intro hg))
  refine WR.call (by first | exact gN | exact gS rfl) rfl rfl (RCheckN_fs hH ho hO) ?_
  rintro _ H1 ⟨rfl, rfl⟩
  repeat' (first | refine zP ?_ | refine zA ?_ | (refine zM ?_; intro _ _) | refine zX ?_ | (refine zC ?_; intro _ _ _ _) | (refine zS ?_; intro _ _) | refine zO ?_ | (apply Ws <;> intro hg))
  refine WC.loopX [(0, v)] (fun z : MX => [(5, .string (strB (ltrs z.tr))), (6, z.v), (7, .int .i64 (z.k : Int))]) []
    (fun z H' => z.k ≤ o.length ∧ z.st.length ≤ z.k ∧ z.tr ++ runTr z.st (o.drop z.k) = runTr [] o ∧ n0 ≤ z.n ∧ StkO 3 z.v (nodes z.st.reverse) z.Mx ∧ hasH (z.Mx ++ M) z.n H') (fun z => o.length - z.k) ⟨0, [], [], .slice none 0 0, [], n0⟩ (by repeat' (first | exact .nil | refine .cons rfl ?_)) rfl
    ⟨Nat.zero_le _, Nat.zero_le _, rfl, Nat.le_refl _, .nil, hH⟩ ?_
  clear hH
  rintro ⟨k, st, tr, hv2, Mx, n1⟩ H2 ⟨hk, hstl, htr, hn1, hSt, hH⟩
  simp only at hk hstl htr hn1 hSt hH
  have hlen := congrArg List.length htr
  rw [List.length_append, runTr_len, runTr_len, List.length_drop, List.length_nil] at hlen
  dsimp only [List.cons_append, List.nil_append]
  repeat' (first | refine zP ?_ | refine zA ?_ | (refine zM ?_; intro _ _) | refine zX ?_ | (refine zC ?_; intro _ _ _ _) | (refine zS ?_; intro _ _) | (apply Ws <;> intro hg))
  refine WC.condP rfl (fun hlt => ?_) (fun hlt => ?_)
  · have hk' : k < o.length := by omega
    repeat' (first | refine zP ?_ | refine zA ?_ | (refine zM ?_; intro _ _) | refine zX ?_ | (refine zC ?_; intro _ _ _ _) | (refine zS ?_; intro _ _) | (apply Ws <;> intro hg))
    rw [List.drop_eq_getElem_cons hk', ← getD_eq (a := 0)] at htr
    refine WC.loopX [(0, v), (7, .int .i64 (k : Int))] (fun z : MX => [(5, .string (strB (ltrs z.tr))), (6, z.v)]) []
      (fun z H' => z.st.length ≤ k ∧ z.tr ++ runTr z.st (o.getD k 0 :: o.drop (k + 1)) = runTr [] o ∧ n0 ≤ z.n ∧ StkO 3 z.v (nodes z.st.reverse) z.Mx ∧ hasH (z.Mx ++ M) z.n H') (fun z => z.st.length) ⟨0, st, tr, hv2, Mx, n1⟩ (by repeat' (first | exact .nil | refine .cons rfl ?_)) rfl
      ⟨hstl, htr, hn1, hSt, hH⟩ ?_
    clear hH hSt htr hlen
    rintro ⟨_, st, tr, hv2, Mx, n1⟩ H3 ⟨hstl, htr, hn1, hSt, hH⟩
    simp only at hstl htr hn1 hSt hH
    have hlen := congrArg List.length htr
    rw [List.length_append, runTr_len, runTr_len, List.length_cons, List.length_drop, List.length_nil] at hlen
    dsimp only [List.cons_append, List.nil_append]
    have hS := hSt.sl M
    have hoX := ho.mono fun q hq => List.mem_append_right Mx hq
    have hv3 := hSt.one_
    have hrev : (nodes st.reverse).length = st.length := by simp [nodes]
    cases st with
    | nil =>
      have hr1 : ([] : List Nat).reverse.length = 0 := rfl
      repeat' (first | refine zP ?_ | refine zA ?_ | (refine zM ?_; intro _ _) | refine zX ?_ | (refine zC ?_; intro _ _ _ _) | (refine zS ?_; intro _ _) | refine zO ?_ | (apply Ws <;> intro hg))
      refine WR.op (by first | exact gN | exact gS rfl) rfl (OpV.catT (a := ltrs tr) (b := [105]) (by rw [ltrs_len, List.length_singleton]; omega) rfl rfl) ?_
      repeat' (first | refine zP ?_ | refine zA ?_ | (refine zM ?_; intro _ _) | refine zX ?_ | (refine zC ?_; intro _ _ _ _) | (refine zS ?_; intro _ _) | (apply Ws <;> intro hg))
      refine WC.regionD ?_
      repeat' (first | refine zD ?_ | (refine zE ?_; intro _ _ _ _))
      rename_i bb oo uu hC
      have hst : ∀ {Y : HL} {n' : Nat} {H' : Heap}, hasH Y n' H' → (∀ q ∈ Mx ++ M, q ∈ Y) → stands H' [6] [⟨6, ⟨bb, oo, some uu⟩, none, .int .i64 ((o.getD k 0 : Nat) : Int)⟩] = true := fun h h1 => stands_cons (.inr (holds_at ((hC.mono h1).read h) (same_int _ _))) stands_nil'
      refine WD.bldS (by first | exact gN | exact gS rfl) rfl hH (vs := []) rfl (cs := []) (by rfl) rfl (fun H5 h5 => hst h5 fun q hq => List.mem_cons_of_mem _ hq) fun H5 hH5 => ?_
      obtain ⟨hk0, hc0⟩ := hSt.src hH5.tail
      rw [nodes_len'] at hk0 hc0
      refine WD.copyZ (S := []) (by first | exact gN | exact gS rfl) rfl rfl rfl hk0 hc0 hH5 (by omega) fun v6 M6 n6 H6 hO6 hH6 hn6 => ⟨hst hH6 fun q hq => List.mem_append_right _ hq, ?_⟩
      refine WD.toWR rfl ?_
      refine WR.app1Z (T := Mx ++ M) (y := o.getD k 0) rfl rfl rfl rfl hO6 hH6 rfl (by omega) fun w8 M8 n8 H8 hO8 hH8 hn8 => ?_
      have hl8 : ([] ++ [o.getD k 0]).length ≤ 10000 := by rw [List.length_append, List.length_singleton]; omega
      repeat' (first | refine zP ?_ | refine zA ?_ | (refine zM ?_; intro _ _) | refine zX ?_ | (refine zC ?_; intro _ _ _ _) | (refine zS ?_; intro _ _) | (apply Ws <;> intro hg))
      refine Ends.loop ⟨k + 1, o.getD k 0 :: [], tr ++ [(105, o.getD k 0)], w8, M8, n8⟩ (by simp only; omega) (by simp only [ltrs_snoc]; exact (by repeat' (first | exact .nil | refine .cons rfl ?_))) rfl ⟨hk', by simp only [List.length_cons] at hstl ⊢; omega, ?_, by simp only; omega, ?_, hH8.sub (List.Sublist.append_left (List.sublist_append_right _ _) _)⟩
      · simp only
        rw [← htr, run_no (fun y h => by simp at h)]; simp
      · simp only
        rw [List.reverse_cons]
        exact Own.stk hO8 (by rw [nodes_len']; exact hl8)
    | cons y st =>
      have hr1 : (y :: st).reverse.length = st.length + 1 := by simp
      have hr2 : (y :: st).reverse.getD st.length 0 = y := by
        rw [List.reverse_cons, List.getD_eq_getElem?_getD, List.getElem?_append_right (by simp)]; simp
      have hr3 := nodes_rev_cons y st
      generalize hQ : (y :: st).reverse = Q at hSt hS hrev hr1 hr2 hr3 ⊢
      have hr4 : (Q.length : Int) = (st.length : Int) + 1 := by omega
      have hr5 : st.length < Q.length := by omega
      have hl1 : (y :: st).length = st.length + 1 := rfl
      repeat' (first | refine zP ?_ | refine zA ?_ | (refine zM ?_; intro _ _) | refine zX ?_ | (refine zC ?_; intro _ _ _ _) | (refine zS ?_; intro _ _) | refine zO ?_ | (apply Ws <;> intro hg))
      rw [show Q.getD (Q.length - 1) 0 = y by rw [hr1]; exact hr2]
      by_cases hyx : y < o.getD k 0
      · repeat' (first | refine zP ?_ | refine zA ?_ | (refine zM ?_; intro _ _) | refine zX ?_ | (refine zC ?_; intro _ _ _ _) | (refine zS ?_; intro _ _) | refine zO ?_ | (apply Ws <;> intro hg))
        refine WR.op (by first | exact gN | exact gS rfl) rfl (OpV.catT (a := ltrs tr) (b := [111]) (by rw [ltrs_len, List.length_singleton]; omega) rfl rfl) ?_
        repeat' (first | refine zP ?_ | refine zA ?_ | (refine zM ?_; intro _ _) | refine zX ?_ | (refine zC ?_; intro _ _ _ _) | (refine zS ?_; intro _ _) | (apply Ws <;> intro hg))
        rw [hr4]
        rw [hr3] at hSt
        rw [show (st.length : Int) + 1 - 1 = ((nodes st.reverse).length : Int) by rw [nodes_len', List.length_reverse]; omega]
        refine WR.popO (by first | exact gN | exact gS rfl) rfl rfl hSt rfl fun v' h2 => ?_
        repeat' (first | refine zP ?_ | refine zA ?_ | (refine zM ?_; intro _ _) | refine zX ?_ | (refine zC ?_; intro _ _ _ _) | (refine zS ?_; intro _ _) | (apply Ws <;> intro hg))
        refine Ends.loop ⟨0, st, tr ++ [(111, y)], v', Mx, n1⟩ (by simp only; omega) (by simp only [ltrs_snoc]; exact (by repeat' (first | exact .nil | refine .cons rfl ?_))) rfl ⟨by simp only; omega, ?_, hn1, h2, hH⟩
        simp only
        rw [← htr, run_yes hyx]; simp
      · repeat' (first | refine zP ?_ | refine zA ?_ | (refine zM ?_; intro _ _) | refine zX ?_ | (refine zC ?_; intro _ _ _ _) | (refine zS ?_; intro _ _) | refine zO ?_ | (apply Ws <;> intro hg))
        refine WR.op (by first | exact gN | exact gS rfl) rfl (OpV.catT (a := ltrs tr) (b := [105]) (by rw [ltrs_len, List.length_singleton]; omega) rfl rfl) ?_
        repeat' (first | refine zP ?_ | refine zA ?_ | (refine zM ?_; intro _ _) | refine zX ?_ | (refine zC ?_; intro _ _ _ _) | (refine zS ?_; intro _ _) | (apply Ws <;> intro hg))
        refine WC.regionD ?_
        repeat' (first | refine zD ?_ | (refine zE ?_; intro _ _ _ _))
        rename_i bb oo uu hC
        have hst : ∀ {Y : HL} {n' : Nat} {H' : Heap}, hasH Y n' H' → (∀ q ∈ Mx ++ M, q ∈ Y) → stands H' [6] [⟨6, ⟨bb, oo, some uu⟩, none, .int .i64 ((o.getD k 0 : Nat) : Int)⟩] = true := fun h h1 => stands_cons (.inr (holds_at ((hC.mono h1).read h) (same_int _ _))) stands_nil'
        refine WD.bldS (by first | exact gN | exact gS rfl) rfl hH (vs := []) rfl (cs := []) (by rfl) rfl (fun H5 h5 => hst h5 fun q hq => List.mem_cons_of_mem _ hq) fun H5 hH5 => ?_
        obtain ⟨hk0, hc0⟩ := hSt.src hH5.tail
        rw [nodes_len'] at hk0 hc0
        refine WD.copyZ (S := Q) (by first | exact gN | exact gS rfl) rfl rfl rfl hk0 hc0 hH5 (by omega) fun v6 M6 n6 H6 hO6 hH6 hn6 => ⟨hst hH6 fun q hq => List.mem_append_right _ hq, ?_⟩
        refine WD.toWR rfl ?_
        refine WR.app1Z (T := Mx ++ M) (y := o.getD k 0) rfl rfl rfl rfl hO6 hH6 rfl (by omega) fun w8 M8 n8 H8 hO8 hH8 hn8 => ?_
        have hl8 : (Q ++ [o.getD k 0]).length ≤ 10000 := by rw [List.length_append, List.length_singleton]; omega
        repeat' (first | refine zP ?_ | refine zA ?_ | (refine zM ?_; intro _ _) | refine zX ?_ | (refine zC ?_; intro _ _ _ _) | (refine zS ?_; intro _ _) | (apply Ws <;> intro hg))
        refine Ends.loop ⟨k + 1, o.getD k 0 :: (y :: st), tr ++ [(105, o.getD k 0)], w8, M8, n8⟩ (by simp only; omega) (by simp only [ltrs_snoc]; exact (by repeat' (first | exact .nil | refine .cons rfl ?_))) rfl ⟨hk', by simp only [List.length_cons] at hstl ⊢; omega, ?_, by simp only; omega, ?_, hH8.sub (List.Sublist.append_left (List.sublist_append_right _ _) _)⟩
        · simp only
          rw [← htr, run_no (fun z h => by simp at h; omega)]; simp
        · simp only
          rw [List.reverse_cons, hQ]
          exact Own.stk hO8 (by rw [nodes_len']; exact hl8)
  · have hkn : k = o.length := by omega
    subst hkn
    rw [List.drop_length] at htr
    have hfin : mvsL o = ltrs tr ++ List.replicate st.length 111 := by rw [mvsL, ← htr, ltrs_end]
    have hS := hSt.sl M
    have hv3 := hSt.one_
    have hrl : st.reverse.length = st.length := List.length_reverse
    repeat' (first | refine zP ?_ | refine zA ?_ | (refine zM ?_; intro _ _) | refine zX ?_ | (refine zC ?_; intro _ _ _ _) | (refine zS ?_; intro _ _) | (apply Ws <;> intro hg))
    refine WC.loopX [(6, hv2)] (fun i : Nat => [(5, .string (strB (ltrs tr ++ List.replicate i 111))), (8, .int .i64 (i : Int))]) [] (fun i H' => H' = H2 ∧ i ≤ st.length) (fun i => st.length - i) 0 (by simp only [List.replicate_zero, List.append_nil]; exact (by repeat' (first | exact .nil | refine .cons rfl ?_))) rfl ⟨rfl, Nat.zero_le _⟩ ?_
    rintro i H3 ⟨rfl, hi⟩
    dsimp only [List.cons_append, List.nil_append]
    repeat' (first | refine zP ?_ | refine zA ?_ | (refine zM ?_; intro _ _) | refine zX ?_ | (refine zC ?_; intro _ _ _ _) | (refine zS ?_; intro _ _) | (apply Ws <;> intro hg))
    refine WC.condP rfl (fun hlt3 => ?_) (fun hlt3 => ?_)
    · repeat' (first | refine zP ?_ | refine zA ?_ | (refine zM ?_; intro _ _) | refine zX ?_ | (refine zC ?_; intro _ _ _ _) | (refine zS ?_; intro _ _) | (apply Ws <;> intro hg))
      refine WR.op (by first | exact gN | exact gS rfl) rfl (OpV.catT (a := ltrs tr ++ List.replicate i 111) (b := [111]) (by rw [List.length_append, ltrs_len, List.length_replicate, List.length_singleton]; omega) rfl rfl) ?_
      repeat' (first | refine zP ?_ | refine zA ?_ | (refine zM ?_; intro _ _) | refine zX ?_ | (refine zC ?_; intro _ _ _ _) | (refine zS ?_; intro _ _) | (apply Ws <;> intro hg))
      exact Ends.loop (i + 1) (by omega) (by rw [List.replicate_succ', ← List.append_assoc]; exact (by repeat' (first | exact .nil | refine .cons rfl ?_))) rfl ⟨rfl, by omega⟩
    · have hin : i = st.length := by omega
      subst hin
      rw [← hfin]
      repeat' (first | refine zP ?_ | refine zA ?_ | (refine zM ?_; intro _ _) | refine zX ?_ | (refine zC ?_; intro _ _ _ _) | (refine zS ?_; intro _ _) | (apply Ws <;> intro hg))
      exact Ends.ret2 rfl rfl ⟨n1, rfl, hn1, hH.sub (List.sublist_append_right _ _)⟩
end
end Go.Proofs.Ytfnflkcjhefddaa.Lk

/- Moves are carried out. -/
namespace Go.Proofs.Ytfnflkcjhefddaa.Lk
open Go Go.Abs Go.Mth
set_option linter.unusedVariables false
set_option linter.unusedSimpArgs false
/-- What moves lead to: an error, or what has left. -/
def runE (o : List Nat) : List Nat → Nat → List Nat → List Nat → Nat × List Nat
  | [], _, _, u => if u.length < o.length then (21, []) else (0, u)
  | a :: l, c, st, u => if a = 105 then (if c = o.length then (2, []) else runE o l (c + 1) (o.getD c 0 :: st) u)
      else if a = 111 then (match st with | [] => (4, []) | y :: st => runE o l c st (u ++ [y])) else (10, [])
theorem runE_in {o : List Nat} {a : Nat} (h : a = 105) (l : List Nat) (c : Nat) (st u : List Nat) : runE o (a :: l) c st u = if c = o.length then (2, []) else runE o l (c + 1) (o.getD c 0 :: st) u := by cases st <;> simp only [runE, if_pos h]
theorem runE_out {o : List Nat} {a : Nat} (h : a = 111) (l : List Nat) (c y : Nat) (st u : List Nat) : runE o (a :: l) c (y :: st) u = runE o l c st (u ++ [y]) := by rw [runE, if_neg (by omega), if_pos h]
theorem runE_none {o : List Nat} {a : Nat} (h : a = 111) (l : List Nat) (c : Nat) (u : List Nat) : runE o (a :: l) c [] u = (4, []) := by rw [runE, if_neg (by omega), if_pos h]
theorem runE_bad {o : List Nat} {a : Nat} (h : a ≠ 105) (h2 : a ≠ 111) (l : List Nat) (c : Nat) (st u : List Nat) : runE o (a :: l) c st u = (10, []) := by cases st <;> simp only [runE, if_neg h, if_neg h2]
structure RX where
  i : Nat
  c : Nat
  st : List Nat
  tr : List (Nat × Nat)
  vo : Value
  Mj : HL
  n : Nat
theorem underT : C.c.P.underlying 9 = some .string := by kernel_rfl
theorem drop_getD (o : List Nat) (c : Nat) : (o.drop c).getD 0 0 = o.getD c 0 := by simp
attribute [local irreducible] gOK WS WC WR WD Ends FS YS OpV seqK blockK loopK midK retK rdK asgK rangeEnd sat Cell
section
variable {M : HL} {n0 : Nat} {H : Heap} {v w : Value}
set_option maxHeartbeats 2000000 in
theorem carryOut_fs {fn : Nat} {caps : List Value} {J : List (Nat × Nat) → HL → Prop} (hT : TellK fn caps J M) {Mj : HL} (hJ : J [] Mj) {o bs : List Nat} {vo : Value} (ho : Sl M 1 vo (nodes o)) (hol : o.length ≤ 10) (hb : ∀ b ∈ bs, b ≤ 255) (hbl : bs.length ≤ 1000) (hH : hasH (Mj ++ M) n0 H) :
    FS C 65 [vo, .string (strB bs), .func (.func fn) [].toArray caps.toArray] H (fun e H' => ∃ tr Mj' n', e = .int .i64 ((runE o bs 0 [] []).1 : Int) ∧ ((runE o bs 0 [] []).1 = 0 → outsT tr = (runE o bs 0 [] []).2) ∧ J tr Mj' ∧ n0 ≤ n' ∧ hasH (Mj' ++ M) n' H') := by
  have ho0 := ho.mono fun q hq => List.mem_append_right Mj hq
  have hvo := ho.one_
  generalize hE : runE o bs 0 [] [] = E
  have hend : ∀ {b n : Nat} {p : List Nat} {H : Heap} {Mj : HL}, BP b p (Mj ++ M) n H → hasH (Mj ++ M) n H := fun h => by
    obtain ⟨v, M0, hp, hH⟩ := h
    exact hH.sub ((List.sublist_append_right M0 _).cons _)
  refine FS.intro (pf := pf65) rfl rfl rfl ?_
  repeat' (first | refine zP ?_ | refine zA ?_ | (refine zM ?_; intro _ _) | refine zX ?_ | (refine zC ?_; intro _ _ _ _) | (refine zS ?_; intro _ _) | (apply Ws <;> intro hg))
  rename_i H1 hH1
  have hB1 : BP n0 [] (Mj ++ M) (n0 + 1) H1 := ⟨_, [], .nil, hH1⟩
  clear ho0 hH hH1
  refine WR.op (by first | exact gN | exact gS rfl) rfl (OpV.lenT underT rfl) ?_
  rw [strB_size]
  repeat' (first | refine zP ?_ | refine zA ?_ | (refine zM ?_; intro _ _) | refine zX ?_ | (refine zC ?_; intro _ _ _ _) | (refine zS ?_; intro _ _) | (apply Ws <;> intro hg))
  refine WC.loopX [(1, .string (strB bs)), (2, .func (.func fn) [].toArray caps.toArray), (7, ptrO n0 0), (10, .int .i64 (bs.length : Int))] (fun z : RX => [(11, .int .i64 (z.i : Int)), (0, z.vo)]) []
    (fun z H' => z.i ≤ bs.length ∧ z.c ≤ o.length ∧ (outsT z.tr).length + z.st.length = z.c ∧ z.tr.length = z.c + (outsT z.tr).length ∧ runE o (bs.drop z.i) z.c z.st (outsT z.tr) = E ∧ J z.tr z.Mj ∧ Sl M 1 z.vo (nodes (o.drop z.c)) ∧ n0 ≤ z.n ∧ BP n0 z.st (z.Mj ++ M) z.n H') (fun z => bs.length - z.i) ⟨0, 0, [], [], vo, Mj, n0 + 1⟩ (by repeat' (first | exact .nil | refine .cons rfl ?_)) rfl
    ⟨Nat.zero_le _, Nat.zero_le _, rfl, rfl, hE, hJ, ho, Nat.le_succ _, hB1⟩ ?_
  clear hB1 hJ hE ho hvo
  rintro ⟨i, c, st, tr, vo, Mj, n1⟩ H2 ⟨hi, hc, hlen, htl, hrun, hJ, ho, hn1, hB⟩
  simp only at hi hc hlen htl hrun hJ ho hn1 hB
  have hvo := ho.one_
  dsimp only [List.cons_append, List.nil_append]
  repeat' (first | refine zP ?_ | refine zA ?_ | (refine zM ?_; intro _ _) | refine zX ?_ | (refine zC ?_; intro _ _ _ _) | (refine zS ?_; intro _ _) | (apply Ws <;> intro hg))
  refine WC.condP rfl (fun hlt => ?_) (fun hlt => ?_)
  · have hi' : i < bs.length := by omega
    rw [List.drop_eq_getElem_cons hi', ← getD_eq (a := 0)] at hrun
    repeat' (first | refine zP ?_ | refine zA ?_ | (refine zM ?_; intro _ _) | refine zX ?_ | (refine zC ?_; intro _ _ _ _) | (refine zS ?_; intro _ _) | (apply Ws <;> intro hg))
    refine WR.op (by first | exact gN | exact gS rfl) rfl (OpV.idxT (bs := bs) (k := i) underT rfl rfl hi' hb) ?_
    generalize bs.getD i 0 = a at hrun ⊢
    by_cases ha : a = 105
    · rw [runE_in ha] at hrun
      have hdl : (nodes (o.drop c)).length = o.length - c := by simp [nodes]
      have hdl2 : (o.drop c).length = o.length - c := by simp
      obtain ⟨U, hU, hMU⟩ := hB.sl
      have hoU := ho.mono fun q hq => hMU q (List.mem_append_right _ hq)
      by_cases hco : c = o.length
      · rw [if_pos hco] at hrun
        subst hrun
        repeat' (first | refine zP ?_ | refine zA ?_ | (refine zM ?_; intro _ _) | refine zX ?_ | (refine zC ?_; intro _ _ _ _) | (refine zS ?_; intro _ _) | refine zO ?_ | (apply Ws <;> intro hg))
        exact Ends.ret1 rfl ⟨tr, Mj, n1, rfl, fun h => by simp at h, hJ, hn1, hend hB⟩
      · rw [if_neg hco] at hrun
        have hc' : c < o.length := by omega
        have h0l : 0 < (o.drop c).length := by omega
        repeat' (first | refine zP ?_ | refine zA ?_ | (refine zM ?_; intro _ _) | refine zX ?_ | (refine zC ?_; intro _ _ _ _) | (refine zS ?_; intro _ _) | refine zO ?_ | (apply Ws <;> intro hg))
        refine WR.call (by first | exact gN | exact gS rfl) rfl rfl (hB.bring _ (by omega)) ?_
        rintro _ H5 ⟨n5, hn5, hB5⟩
        clear hU hoU hMU
        obtain ⟨U, hU, hMU⟩ := hB5.sl
        have hoU := ho.mono fun q hq => hMU q (List.mem_append_right _ hq)
        repeat' (first | refine zP ?_ | refine zA ?_ | (refine zM ?_; intro _ _) | refine zX ?_ | (refine zC ?_; intro _ _ _ _) | (refine zS ?_; intro _ _) | refine zO ?_ | (apply Ws <;> intro hg))
        rw [drop_getD] at hB5 ⊢
        refine WR.callV (by first | exact gN | exact gS rfl) rfl rfl rfl (hB5.tell hT hJ (by omega) 105 _ (.inl rfl)) ?_
        rintro _ H9 ⟨Mj9, n9, hJ9, hn9, hB9⟩
        clear hU hoU hMU
        repeat' (first | refine zP ?_ | refine zA ?_ | (refine zM ?_; intro _ _) | refine zX ?_ | (refine zC ?_; intro _ _ _ _) | (refine zS ?_; intro _ _) | (apply Ws <;> intro hg))
        refine WR.cutLoN (a := 1) (by first | exact gN | exact gS rfl) rfl rfl ho rfl (by omega) fun v2 hs2 => ?_
        rw [List.drop_drop] at hs2
        repeat' (first | refine zP ?_ | refine zA ?_ | (refine zM ?_; intro _ _) | refine zX ?_ | (refine zC ?_; intro _ _ _ _) | (refine zS ?_; intro _ _) | (apply Ws <;> intro hg))
        refine Ends.loop ⟨i + 1, c + 1, o.getD c 0 :: st, tr ++ [(105, o.getD c 0)], v2, Mj9, n9⟩ (by simp only; omega) (by repeat' (first | exact .nil | refine .cons rfl ?_)) rfl ⟨hi', hc', ?_, ?_, ?_, hJ9, hs2, by simp only; omega, hB9⟩
        · simp only; rw [outsT_in, List.length_cons]; omega
        · simp only; rw [outsT_in, List.length_append, List.length_singleton]; omega
        · simp only; rw [outsT_in]; exact hrun
    · by_cases ha2 : a = 111
      · repeat' (first | refine zP ?_ | refine zA ?_ | (refine zM ?_; intro _ _) | refine zX ?_ | (refine zC ?_; intro _ _ _ _) | (refine zS ?_; intro _ _) | refine zO ?_ | (apply Ws <;> intro hg))
        refine WR.call (by first | exact gN | exact gS rfl) rfl rfl hB.isEmpty ?_
        rintro _ H4 ⟨rfl, rfl⟩
        cases st with
        | nil =>
          rw [runE_none ha2] at hrun
          subst hrun
          repeat' (first | refine zP ?_ | refine zA ?_ | (refine zM ?_; intro _ _) | refine zX ?_ | (refine zC ?_; intro _ _ _ _) | (refine zS ?_; intro _ _) | refine zO ?_ | (apply Ws <;> intro hg))
          exact Ends.ret1 rfl ⟨tr, Mj, n1, rfl, fun h => by simp at h, hJ, hn1, hend hB⟩
        | cons y st =>
          rw [runE_out ha2] at hrun
          have hl0 : (y :: st).length = st.length + 1 := rfl
          repeat' (first | refine zP ?_ | refine zA ?_ | (refine zM ?_; intro _ _) | refine zX ?_ | (refine zC ?_; intro _ _ _ _) | (refine zS ?_; intro _ _) | refine zO ?_ | (apply Ws <;> intro hg))
          refine WR.call (by first | exact gN | exact gS rfl) rfl rfl hB.take ?_
          rintro _ H8 ⟨rfl, hB8⟩
          refine WR.callV (by first | exact gN | exact gS rfl) rfl rfl rfl (hB8.tell hT hJ (by omega) 111 y (.inr rfl)) ?_
          rintro _ H9 ⟨Mj9, n9, hJ9, hn9, hB9⟩
          repeat' (first | refine zP ?_ | refine zA ?_ | (refine zM ?_; intro _ _) | refine zX ?_ | (refine zC ?_; intro _ _ _ _) | (refine zS ?_; intro _ _) | (apply Ws <;> intro hg))
          refine Ends.loop ⟨i + 1, c, st, tr ++ [(111, y)], vo, Mj9, n9⟩ (by simp only; omega) (by repeat' (first | exact .nil | refine .cons rfl ?_)) rfl ⟨hi', hc, ?_, ?_, ?_, hJ9, ho, by simp only; omega, hB9⟩
          · simp only; rw [outsT_out, List.length_append, List.length_singleton]; omega
          · simp only; rw [outsT_out, List.length_append, List.length_append, List.length_singleton, List.length_singleton]; omega
          · simp only; rw [outsT_out]; exact hrun
      · rw [runE_bad ha ha2] at hrun
        subst hrun
        repeat' (first | refine zP ?_ | refine zA ?_ | (refine zM ?_; intro _ _) | refine zX ?_ | (refine zC ?_; intro _ _ _ _) | (refine zS ?_; intro _ _) | refine zO ?_ | (apply Ws <;> intro hg))
        exact Ends.ret1 rfl ⟨tr, Mj, n1, rfl, fun h => by simp at h, hJ, hn1, hend hB⟩
  · have hin : i = bs.length := by omega
    subst hin
    rw [List.drop_length, runE] at hrun
    have hdl2 : (o.drop c).length = o.length - c := by simp
    obtain ⟨U, hU, hMU⟩ := hB.sl
    have hoU := ho.mono fun q hq => hMU q (List.mem_append_right _ hq)
    by_cases hco : c = o.length
    · repeat' (first | refine zP ?_ | refine zA ?_ | (refine zM ?_; intro _ _) | refine zX ?_ | (refine zC ?_; intro _ _ _ _) | (refine zS ?_; intro _ _) | refine zO ?_ | (apply Ws <;> intro hg))
      refine WR.call (by first | exact gN | exact gS rfl) rfl rfl hB.isEmpty ?_
      rintro _ H4 ⟨rfl, rfl⟩
      cases st with
      | nil =>
        rw [List.length_nil] at hlen
        rw [if_neg (by omega)] at hrun
        subst hrun
        repeat' (first | refine zP ?_ | refine zA ?_ | (refine zM ?_; intro _ _) | refine zX ?_ | (refine zC ?_; intro _ _ _ _) | (refine zS ?_; intro _ _) | refine zO ?_ | (apply Ws <;> intro hg))
        exact Ends.ret1 rfl ⟨tr, Mj, n1, rfl, fun _ => rfl, hJ, hn1, hend hB⟩
      | cons y st =>
        rw [List.length_cons] at hlen
        rw [if_pos (by omega)] at hrun
        subst hrun
        repeat' (first | refine zP ?_ | refine zA ?_ | (refine zM ?_; intro _ _) | refine zX ?_ | (refine zC ?_; intro _ _ _ _) | (refine zS ?_; intro _ _) | refine zO ?_ | (apply Ws <;> intro hg))
        exact Ends.ret1 rfl ⟨tr, Mj, n1, rfl, fun h => by simp at h, hJ, hn1, hend hB⟩
    · rw [if_pos (by omega)] at hrun
      subst hrun
      repeat' (first | refine zP ?_ | refine zA ?_ | (refine zM ?_; intro _ _) | refine zX ?_ | (refine zC ?_; intro _ _ _ _) | (refine zS ?_; intro _ _) | refine zO ?_ | (apply Ws <;> intro hg))
      exact Ends.ret1 rfl ⟨tr, Mj, n1, rfl, fun h => by simp at h, hJ, hn1, hend hB⟩
end
end Go.Proofs.Ytfnflkcjhefddaa.Lk

/- Run, and the reference's. -/
namespace Go.Proofs.Ytfnflkcjhefddaa.Lk
open Go Go.Abs Go.Mth
set_option linter.unusedVariables false
set_option linter.unusedSimpArgs false
theorem runE_err {o : List Nat} : ∀ (bs : List Nat) (c : Nat) (st u : List Nat), (runE o bs c st u).1 ≠ 0 → (runE o bs c st u).2 = [] := by
  intro bs
  induction bs with
  | nil =>
    intro c st u
    simp only [runE]
    split <;> simp
  | cons a l ih =>
    intro c st u
    by_cases h : a = 105
    · rw [runE_in h]
      split
      · simp
      · exact ih _ _ _
    · by_cases h2 : a = 111
      · cases st with
        | nil => rw [runE_none h2]; simp
        | cons y st => rw [runE_out h2]; exact ih _ _ _
      · rw [runE_bad h h2]; simp
theorem runE_len {o : List Nat} : ∀ (bs : List Nat) (c : Nat) (st u : List Nat), (runE o bs c st u).2.length ≤ u.length + bs.length := by
  intro bs
  induction bs with
  | nil =>
    intro c st u
    simp only [runE]
    split <;> simp
  | cons a l ih =>
    intro c st u
    by_cases h : a = 105
    · rw [runE_in h]
      split
      · simp
      · have := ih (c + 1) (o.getD c 0 :: st) u
        rw [List.length_cons]; omega
    · by_cases h2 : a = 111
      · cases st with
        | nil => rw [runE_none h2]; simp
        | cons y st =>
          rw [runE_out h2]
          have := ih c st (u ++ [y])
          rw [List.length_append, List.length_singleton] at this
          rw [List.length_cons]; omega
      · rw [runE_bad h h2]; simp
structure RY where
  i : Nat
  c : Nat
  st : List Nat
  u : List Nat
  v7 : Value
  v8 : Value
  Mx : HL
  My : HL
  n : Nat
attribute [local irreducible] gOK WS WC WR WD Ends FS YS OpV seqK blockK loopK midK retK rdK asgK rangeEnd sat Cell
section
variable {M : HL} {n0 : Nat} {H : Heap} {v w : Value}
theorem Run_fs (hH : hasH M n0 H) {o bs : List Nat} (ho : Sl M 1 v (nodes o)) (hO : OrdN o) (hb : ∀ b ∈ bs, b ≤ 255) (hbl : bs.length ≤ 1000) :
    FS C 20 [v, .string (strB bs)] H (fun e H' => ∃ u Mx n', e = .tuple #[u, .int .i64 ((runE o bs 0 [] []).1 : Int)] ∧ Sl (Mx ++ M) 1 u (nodes (runE o bs 0 [] []).2) ∧ n0 ≤ n' ∧ hasH (Mx ++ M) n' H') := by
  have hv := ho.one_
  have h7 := hO.most
  have herr := runE_err (o := o) bs 0 [] []
  refine FS.intro (pf := pf20) rfl rfl rfl ?_
  repeat' (first | refine zP ?_ | refine zA ?_ | (refine zM ?_; intro _ _) | refine zX ?_ | (refine zC ?_; intro _ _ _ _) | (refine zS ?_; intro _ _) | (apply Ws <;> intro hg))
  refine WR.call (by first | exact gN | exact gS rfl) rfl rfl (CheckN_fs hH ho hO) ?_
  rintro _ H1 ⟨rfl, rfl⟩
  repeat' (first | refine zP ?_ | refine zA ?_ | (refine zM ?_; intro _ _) | refine zX ?_ | (refine zC ?_; intro _ _ _ _) | (refine zS ?_; intro _ _) | refine zO ?_ | (apply Ws <;> intro hg))
  rename_i H1 hH1
  refine WR.call (by first | exact gN | exact gS rfl) rfl rfl (leavers_fs hH1 n0) ?_
  rintro _ H2 ⟨rfl, hH2⟩
  clear hH1
  have hH3 : hasH ([(n0, Ch.row 22 0 0 [.slice none 0 0])] ++ ((n0 + 1, Ch.row 82 0 0 [ptrO n0 0]) :: M)) (n0 + 1 + 1) H2 := hH2.perm (.swap _ _ _)
  clear hH2
  refine WR.call (by first | exact gN | exact gS rfl) rfl rfl (carryOut_fs (tell_left (bl := n0) (bx := n0 + 1) (.head _)) ⟨.slice none 0 0, [], .nil, rfl⟩ ho.cons (by omega) hb hbl hH3) ?_
  rintro _ H4 ⟨tr, _, n4, rfl, hout, ⟨lv, Mo, hOw, rfl⟩, hn4, hH4⟩
  replace hH4 : hasH ((n0, Ch.row 22 0 0 [lv]) :: (Mo ++ ((n0 + 1, Ch.row 82 0 0 [ptrO n0 0]) :: M))) n4 H4 := hH4
  generalize runE o bs 0 [] [] = E at hout herr ⊢
  by_cases hE : E.1 = 0
  · have hE2 : ¬ ((E.1 : Int) ≠ 0) := by omega
    rw [hout hE] at hOw
    repeat' (first | refine zP ?_ | refine zA ?_ | (refine zM ?_; intro _ _) | refine zX ?_ | (refine zC ?_; intro _ _ _ _) | (refine zS ?_; intro _ _) | refine zO ?_ | (apply Ws <;> intro hg))
    exact Ends.ret2 rfl (by simp only [ev, hE]; rfl) ⟨lv, Mo, n4, rfl, hOw.sl M, by omega, (hH4.tail).sub (List.Sublist.append_left (List.sublist_cons_self _ _) _)⟩
  · have hE2 : (E.1 : Int) ≠ 0 := by omega
    repeat' (first | refine zP ?_ | refine zA ?_ | (refine zM ?_; intro _ _) | refine zX ?_ | (refine zC ?_; intro _ _ _ _) | (refine zS ?_; intro _ _) | refine zO ?_ | (apply Ws <;> intro hg))
    exact Ends.ret2 rfl rfl ⟨.slice none 0 0, [], n4, rfl, by rw [herr hE]; exact .nil 0, by omega, hH4.sub ((List.sublist_cons_self _ M).trans ((List.sublist_append_right _ _).trans (List.sublist_cons_self _ _)))⟩
set_option maxHeartbeats 4000000 in
theorem RRun_fs (hH : hasH M n0 H) {o bs : List Nat} (ho : Sl M 1 v (nodes o)) (hO : OrdN o) (hb : ∀ b ∈ bs, b ≤ 255) (hbl : bs.length ≤ 1000) :
    FS C 21 [v, .string (strB bs)] H (fun e H' => ∃ u Mx n', e = .tuple #[u, .int .i64 ((runE o bs 0 [] []).1 : Int)] ∧ Sl (Mx ++ M) 1 u (nodes (runE o bs 0 [] []).2) ∧ n0 ≤ n' ∧ hasH (Mx ++ M) n' H') := by
  have hv := ho.one_
  have h7 := hO.most
  generalize hE : runE o bs 0 [] [] = E
  refine FS.intro (pf := pf21) rfl rfl rfl ?_
  repeat' (first | refine zP ?_ | refine zA ?_ | (refine zM ?_; intro _ _) | refine zX ?_ | (refine zC ?_; intro _ _ _ _) | (refine zS ?_; intro _ _) | (apply Ws <;> intro hg))
  refine WR.call (by first | exact gN | exact gS rfl) rfl rfl (RCheckN_fs hH ho hO) ?_
  rintro _ H1 ⟨rfl, rfl⟩
  repeat' (first | refine zP ?_ | refine zA ?_ | (refine zM ?_; intro _ _) | refine zX ?_ | (refine zC ?_; intro _ _ _ _) | (refine zS ?_; intro _ _) | refine zO ?_ | (apply Ws <;> intro hg))
  refine WC.loopX [(0, v), (1, .string (strB bs))] (fun z : RY => [(7, z.v7), (8, z.v8), (9, .int .i64 (z.c : Int)), (10, .int .i64 (z.i : Int))]) []
    (fun z H' => z.i ≤ bs.length ∧ z.c ≤ o.length ∧ z.u.length + z.st.length = z.c ∧ runE o (bs.drop z.i) z.c z.st z.u = E ∧ StkO 3 z.v7 (nodes z.st.reverse) z.Mx ∧ Own 3 1 z.v8 (nodes z.u) z.My ∧ n0 ≤ z.n ∧ hasH (z.Mx ++ (z.My ++ M)) z.n H') (fun z => bs.length - z.i) ⟨0, 0, [], [], .slice none 0 0, .slice none 0 0, [], [], n0⟩ (by repeat' (first | exact .nil | refine .cons rfl ?_)) rfl
    ⟨Nat.zero_le _, Nat.zero_le _, rfl, hE, .nil, .nil, Nat.le_refl _, hH⟩ ?_
  clear hH hE
  rintro ⟨i, c, st, u, v7, v8, Mx, My, n1⟩ H2 ⟨hi, hc, hlen, hrun, hSt, hOw, hn1, hH⟩
  simp only at hi hc hlen hrun hSt hOw hn1 hH
  dsimp only [List.cons_append, List.nil_append]
  have hS := hSt.sl (My ++ M)
  have hv7 := hSt.one_
  have hU := (hOw.sl M).mono fun q hq => List.mem_append_right Mx hq
  have hv8 := hU.one_
  have hoX := ho.mono fun q hq => List.mem_append_right Mx (List.mem_append_right My hq)
  have hrl : (nodes st.reverse).length = st.length := by simp [nodes]
  repeat' (first | refine zP ?_ | refine zA ?_ | (refine zM ?_; intro _ _) | refine zX ?_ | (refine zC ?_; intro _ _ _ _) | (refine zS ?_; intro _ _) | (apply Ws <;> intro hg))
  refine WR.op (by first | exact gN | exact gS rfl) rfl (OpV.lenT underT rfl) ?_
  rw [strB_size]
  repeat' (first | refine zP ?_ | refine zA ?_ | (refine zM ?_; intro _ _) | refine zX ?_ | (refine zC ?_; intro _ _ _ _) | (refine zS ?_; intro _ _) | (apply Ws <;> intro hg))
  refine WC.condP rfl (fun hlt => ?_) (fun hlt => ?_)
  · have hi' : i < bs.length := by omega
    rw [List.drop_eq_getElem_cons hi', ← getD_eq (a := 0)] at hrun
    repeat' (first | refine zP ?_ | refine zA ?_ | (refine zM ?_; intro _ _) | refine zX ?_ | (refine zC ?_; intro _ _ _ _) | (refine zS ?_; intro _ _) | (apply Ws <;> intro hg))
    refine WR.op (by first | exact gN | exact gS rfl) rfl (OpV.idxT (bs := bs) (k := i) underT rfl rfl hi' hb) ?_
    by_cases ha : bs.getD i 0 = 105
    · rw [runE_in ha] at hrun
      by_cases hco : c = o.length
      · rw [if_pos hco] at hrun
        subst hrun
        repeat' (first | refine zP ?_ | refine zA ?_ | (refine zM ?_; intro _ _) | refine zX ?_ | (refine zC ?_; intro _ _ _ _) | (refine zS ?_; intro _ _) | refine zO ?_ | (apply Ws <;> intro hg))
        exact Ends.ret2 rfl rfl ⟨.slice none 0 0, [], n1, rfl, .nil 0, hn1, hH.sub ((List.sublist_append_right My M).trans (List.sublist_append_right Mx _))⟩
      · rw [if_neg hco] at hrun
        have hc' : c < o.length := by omega
        repeat' (first | refine zP ?_ | refine zA ?_ | (refine zM ?_; intro _ _) | refine zX ?_ | (refine zC ?_; intro _ _ _ _) | (refine zS ?_; intro _ _) | refine zO ?_ | (apply Ws <;> intro hg))
        refine WC.regionD ?_
        repeat' (first | refine zD ?_ | (refine zE ?_; intro _ _ _ _))
        rename_i bb oo uu hC
        have hst : ∀ {Y : HL} {n' : Nat} {H' : Heap}, hasH Y n' H' → (∀ q ∈ Mx ++ (My ++ M), q ∈ Y) → stands H' [6] [⟨6, ⟨bb, oo, some uu⟩, none, .int .i64 ((o.getD c 0 : Nat) : Int)⟩] = true := fun h h1 => stands_cons (.inr (holds_at ((hC.mono h1).read h) (same_int _ _))) stands_nil'
        refine WD.bldS (by first | exact gN | exact gS rfl) rfl hH (vs := []) rfl (cs := []) (by rfl) rfl (fun H5 h5 => hst h5 fun q hq => List.mem_cons_of_mem _ hq) fun H5 hH5 => ?_
        obtain ⟨hk0, hc0⟩ := hSt.src hH5.tail
        rw [nodes_len'] at hk0 hc0
        have hrl2 : st.reverse.length = st.length := List.length_reverse
        refine WD.copyZ (S := st.reverse) (by first | exact gN | exact gS rfl) rfl rfl rfl hk0 hc0 hH5 (by omega) fun v6 M6 n6 H6 hO6 hH6 hn6 => ⟨hst hH6 fun q hq => List.mem_append_right _ hq, ?_⟩
        refine WD.toWR rfl ?_
        refine WR.app1Z (T := Mx ++ (My ++ M)) (y := o.getD c 0) rfl rfl rfl rfl hO6 hH6 rfl (by omega) fun w8 M8 n8 H8 hO8 hH8 hn8 => ?_
        have hl8 : (st.reverse ++ [o.getD c 0]).length ≤ 10000 := by rw [List.length_append, List.length_singleton]; omega
        repeat' (first | refine zP ?_ | refine zA ?_ | (refine zM ?_; intro _ _) | refine zX ?_ | (refine zC ?_; intro _ _ _ _) | (refine zS ?_; intro _ _) | (apply Ws <;> intro hg))
        refine Ends.loop ⟨i + 1, c + 1, o.getD c 0 :: st, u, w8, v8, M8, My, n8⟩ (by simp only; omega) (by repeat' (first | exact .nil | refine .cons rfl ?_)) rfl ⟨hi', hc', by simp only [List.length_cons]; omega, hrun, ?_, hOw, by simp only; omega, hH8.sub (List.Sublist.append_left (List.sublist_append_right _ _) _)⟩
        simp only
        rw [List.reverse_cons]
        exact Own.stk hO8 (by rw [nodes_len']; exact hl8)
    · repeat' (first | refine zP ?_ | refine zA ?_ | (refine zM ?_; intro _ _) | refine zX ?_ | (refine zC ?_; intro _ _ _ _) | (refine zS ?_; intro _ _) | refine zO ?_ | (apply Ws <;> intro hg))
      refine WR.op (by first | exact gN | exact gS rfl) rfl (OpV.idxT (bs := bs) (k := i) underT rfl rfl hi' hb) ?_
      by_cases ha2 : bs.getD i 0 = 111
      · cases st with
        | nil =>
          rw [runE_none ha2] at hrun
          subst hrun
          have hr1 : ([] : List Nat).reverse.length = 0 := rfl
          repeat' (first | refine zP ?_ | refine zA ?_ | (refine zM ?_; intro _ _) | refine zX ?_ | (refine zC ?_; intro _ _ _ _) | (refine zS ?_; intro _ _) | refine zO ?_ | (apply Ws <;> intro hg))
          exact Ends.ret2 rfl rfl ⟨.slice none 0 0, [], n1, rfl, .nil 0, hn1, hH.sub ((List.sublist_append_right My M).trans (List.sublist_append_right Mx _))⟩
        | cons y st =>
          rw [runE_out ha2] at hrun
          have hr1 : (y :: st).reverse.length = st.length + 1 := by simp
          have hr2 : (y :: st).reverse.getD st.length 0 = y := by
            rw [List.reverse_cons, List.getD_eq_getElem?_getD, List.getElem?_append_right (by simp)]; simp
          have hr3 := nodes_rev_cons y st
          have hl1 : (y :: st).length = st.length + 1 := rfl
          generalize hQ : (y :: st).reverse = Q at hSt hS hrl hr1 hr2 hr3 ⊢
          have hr4 : (Q.length : Int) = (st.length : Int) + 1 := by omega
          have hr5 : st.length < Q.length := by omega
          repeat' (first | refine zP ?_ | refine zA ?_ | (refine zM ?_; intro _ _) | refine zX ?_ | (refine zC ?_; intro _ _ _ _) | (refine zS ?_; intro _ _) | refine zO ?_ | (apply Ws <;> intro hg))
          rw [show Q.getD (Q.length - 1) 0 = y by rw [hr1]; exact hr2]
          refine WR.append1RF (new := [.int .i64 (y : Int)]) Mx My M rfl rfl rfl rfl hOw hH rfl rfl rfl (by decide) (by decide) (by rw [nodes_len', List.length_singleton]; omega) fun w8 M8 n8 H8 hO8 hH8 hn8 => ?_
          rw [← nodes_snoc] at hO8
          have hS8 := hSt.sl (M8 ++ M)
          repeat' (first | refine zP ?_ | refine zA ?_ | (refine zM ?_; intro _ _) | refine zX ?_ | (refine zC ?_; intro _ _ _ _) | (refine zS ?_; intro _ _) | (apply Ws <;> intro hg))
          rw [hr3] at hSt
          rw [show (Q.length : Int) - 1 = ((nodes st.reverse).length : Int) by rw [nodes_len', List.length_reverse]; omega]
          refine WR.popO (by first | exact gN | exact gS rfl) rfl rfl hSt rfl fun v' h2 => ?_
          repeat' (first | refine zP ?_ | refine zA ?_ | (refine zM ?_; intro _ _) | refine zX ?_ | (refine zC ?_; intro _ _ _ _) | (refine zS ?_; intro _ _) | (apply Ws <;> intro hg))
          refine Ends.loop ⟨i + 1, c, st, u ++ [y], v', w8, Mx, M8, n8⟩ (by simp only; omega) (by repeat' (first | exact .nil | refine .cons rfl ?_)) rfl ⟨hi', hc, ?_, hrun, h2, hO8.own, by simp only; omega, hH8⟩
          simp only
          rw [List.length_append, List.length_singleton]; omega
      · rw [runE_bad ha ha2] at hrun
        subst hrun
        repeat' (first | refine zP ?_ | refine zA ?_ | (refine zM ?_; intro _ _) | refine zX ?_ | (refine zC ?_; intro _ _ _ _) | (refine zS ?_; intro _ _) | refine zO ?_ | (apply Ws <;> intro hg))
        exact Ends.ret2 rfl rfl ⟨.slice none 0 0, [], n1, rfl, .nil 0, hn1, hH.sub ((List.sublist_append_right My M).trans (List.sublist_append_right Mx _))⟩
  · have hin : i = bs.length := by omega
    subst hin
    rw [List.drop_length, runE] at hrun
    by_cases hul : u.length < o.length
    · rw [if_pos hul] at hrun
      subst hrun
      repeat' (first | refine zP ?_ | refine zA ?_ | (refine zM ?_; intro _ _) | refine zX ?_ | (refine zC ?_; intro _ _ _ _) | (refine zS ?_; intro _ _) | refine zO ?_ | (apply Ws <;> intro hg))
      exact Ends.ret2 rfl rfl ⟨.slice none 0 0, [], n1, rfl, .nil 0, hn1, hH.sub ((List.sublist_append_right My M).trans (List.sublist_append_right Mx _))⟩
    · rw [if_neg hul] at hrun
      subst hrun
      repeat' (first | refine zP ?_ | refine zA ?_ | (refine zM ?_; intro _ _) | refine zX ?_ | (refine zC ?_; intro _ _ _ _) | (refine zS ?_; intro _ _) | refine zO ?_ | (apply Ws <;> intro hg))
      exact Ends.ret2 rfl rfl ⟨v8, My, n1, rfl, hOw.sl M, hn1, hH.sub (List.sublist_append_right Mx _)⟩
end
end Go.Proofs.Ytfnflkcjhefddaa.Lk

/- What both answer to what is no order; Proves with any places. -/
namespace Go.Proofs.Ytfnflkcjhefddaa.Lk
open Go Go.Abs Go.Mth
set_option linter.unusedVariables false
set_option linter.unusedSimpArgs false
attribute [local irreducible] gOK WS WC WR WD Ends FS YS OpV seqK blockK loopK midK retK rdK asgK rangeEnd sat Cell
section
variable {M : HL} {n0 : Nat} {H : Heap} {v w : Value}
end
end Go.Proofs.Ytfnflkcjhefddaa.Lk

/- The law LockMoves. -/
namespace Go.Proofs.Ytfnflkcjhefddaa.Lk
open Go Go.Abs Go.Mth
set_option linter.unusedVariables false
set_option linter.unusedSimpArgs false
theorem strB_of (s : ByteArray) : ∃ bs : List Nat, s = strB bs ∧ ∀ b ∈ bs, b ≤ 255 := by
  refine ⟨s.data.toList.map UInt8.toNat, ?_, fun b hb => ?_⟩
  · apply ByteArray.ext
    simp only [strB, List.map_map]
    have : (UInt8.ofNat ∘ UInt8.toNat) = id := by funext x; simp
    rw [this, List.map_id]
  · obtain ⟨x, _, rfl⟩ := List.mem_map.1 hb
    have := x.toNat_lt; omega
attribute [local irreducible] gOK WS WC WR WD Ends FS YS OpV seqK blockK loopK midK retK rdK asgK rangeEnd sat Cell
section
variable {M : HL} {n0 : Nat} {H : Heap} {v w : Value}
theorem RPass_fs (hH : hasH M n0 H) {o : List Nat} (ho : Sl M 1 v (nodes o)) (hO : OrdN o) :
    FS C 17 [v] H (fun e H' => ∃ u Mx n', e = .tuple #[u, .int .i64 0] ∧ Own 3 1 u (nodes (passF o)) Mx ∧ n0 ≤ n' ∧ hasH (Mx ++ M) n' H') := by
  have hv := ho.one_
  have h7 := hO.most
  refine FS.intro (pf := pf17) rfl rfl rfl ?_
  repeat' (first | refine zP ?_ | refine zA ?_ | (refine zM ?_; intro _ _) | refine zX ?_ | (refine zC ?_; intro _ _ _ _) | (refine zS ?_; intro _ _) | (apply Ws <;> intro hg))
  refine WR.call (by first | exact gN | exact gS rfl) rfl rfl (RCheckN_fs hH ho hO) ?_
  rintro _ H1 ⟨rfl, rfl⟩
  repeat' (first | refine zP ?_ | refine zA ?_ | (refine zM ?_; intro _ _) | refine zX ?_ | (refine zC ?_; intro _ _ _ _) | (refine zS ?_; intro _ _) | refine zO ?_ | (apply Ws <;> intro hg))
  refine WR.call (by first | exact gN | exact gS rfl) rfl rfl (rpass_fs 10 (by omega) hH ho hO.nodup (by omega)) ?_
  rintro u H2 ⟨Mx, n2, hOw, hn2, hH2⟩
  have hOw2 : Own 3 1 u (nodes (passF o)) Mx := by
    rcases hOw with ⟨h, _⟩ | ⟨_, h⟩
    · have := hO.one; rw [h] at this; simp at this
    · exact h.own
  repeat' (first | refine zP ?_ | refine zA ?_ | (refine zM ?_; intro _ _) | refine zX ?_ | (refine zC ?_; intro _ _ _ _) | (refine zS ?_; intro _ _) | refine zO ?_ | (apply Ws <;> intro hg))
  exact Ends.ret2 rfl rfl ⟨u, Mx, n2, rfl, hOw2, hn2, hH2⟩
theorem PassE_fs (hH : hasH M n0 H) {xs : List Int} (hS : Sl M 1 v (ints xs)) (hx : xs.length ≤ 100000) (hE : errO xs ≠ 0) :
    FS C 16 [v] H (fun e H' => e = .tuple #[.slice none 0 0, .int .i64 (errO xs)] ∧ H' = H) := by
  have hv := hS.one_
  refine FS.intro (pf := pf16) rfl rfl rfl ?_
  repeat' (first | refine zP ?_ | refine zA ?_ | (refine zM ?_; intro _ _) | refine zX ?_ | (refine zC ?_; intro _ _ _ _) | (refine zS ?_; intro _ _) | (apply Ws <;> intro hg))
  refine WR.call (by first | exact gN | exact gS rfl) rfl rfl (Check_fs hH hS hx) ?_
  rintro _ H1 ⟨rfl, rfl⟩
  repeat' (first | refine zP ?_ | refine zA ?_ | (refine zM ?_; intro _ _) | refine zX ?_ | (refine zC ?_; intro _ _ _ _) | (refine zS ?_; intro _ _) | refine zO ?_ | (apply Ws <;> intro hg))
  exact Ends.ret2 rfl rfl ⟨rfl, rfl⟩
theorem RPassE_fs (hH : hasH M n0 H) {xs : List Int} (hS : Sl M 1 v (ints xs)) (hx : xs.length ≤ 100000) (hE : errO xs ≠ 0) :
    FS C 17 [v] H (fun e H' => e = .tuple #[.slice none 0 0, .int .i64 (errO xs)] ∧ H' = H) := by
  have hv := hS.one_
  refine FS.intro (pf := pf17) rfl rfl rfl ?_
  repeat' (first | refine zP ?_ | refine zA ?_ | (refine zM ?_; intro _ _) | refine zX ?_ | (refine zC ?_; intro _ _ _ _) | (refine zS ?_; intro _ _) | (apply Ws <;> intro hg))
  refine WR.call (by first | exact gN | exact gS rfl) rfl rfl (RCheck_fs hH hS hx) ?_
  rintro _ H1 ⟨rfl, rfl⟩
  repeat' (first | refine zP ?_ | refine zA ?_ | (refine zM ?_; intro _ _) | refine zX ?_ | (refine zC ?_; intro _ _ _ _) | (refine zS ?_; intro _ _) | refine zO ?_ | (apply Ws <;> intro hg))
  exact Ends.ret2 rfl rfl ⟨rfl, rfl⟩
theorem MovesE_fs (hH : hasH M n0 H) {xs : List Int} (hS : Sl M 1 v (ints xs)) (hx : xs.length ≤ 100000) (hE : errO xs ≠ 0) :
    FS C 18 [v] H (fun e H' => e = .tuple #[.string (strB []), .int .i64 (errO xs)] ∧ H' = H) := by
  have hv := hS.one_
  refine FS.intro (pf := pf18) rfl rfl rfl ?_
  repeat' (first | refine zP ?_ | refine zA ?_ | (refine zM ?_; intro _ _) | refine zX ?_ | (refine zC ?_; intro _ _ _ _) | (refine zS ?_; intro _ _) | (apply Ws <;> intro hg))
  refine WR.call (by first | exact gN | exact gS rfl) rfl rfl (Check_fs hH hS hx) ?_
  rintro _ H1 ⟨rfl, rfl⟩
  repeat' (first | refine zP ?_ | refine zA ?_ | (refine zM ?_; intro _ _) | refine zX ?_ | (refine zC ?_; intro _ _ _ _) | (refine zS ?_; intro _ _) | refine zO ?_ | (apply Ws <;> intro hg))
  exact Ends.ret2 rfl rfl ⟨rfl, rfl⟩
theorem RMovesE_fs (hH : hasH M n0 H) {xs : List Int} (hS : Sl M 1 v (ints xs)) (hx : xs.length ≤ 100000) (hE : errO xs ≠ 0) :
    FS C 19 [v] H (fun e H' => e = .tuple #[.string (strB []), .int .i64 (errO xs)] ∧ H' = H) := by
  have hv := hS.one_
  refine FS.intro (pf := pf19) rfl rfl rfl ?_
  repeat' (first | refine zP ?_ | refine zA ?_ | (refine zM ?_; intro _ _) | refine zX ?_ | (refine zC ?_; intro _ _ _ _) | (refine zS ?_; intro _ _) | (apply Ws <;> intro hg))
  refine WR.call (by first | exact gN | exact gS rfl) rfl rfl (RCheck_fs hH hS hx) ?_
  rintro _ H1 ⟨rfl, rfl⟩
  repeat' (first | refine zP ?_ | refine zA ?_ | (refine zM ?_; intro _ _) | refine zX ?_ | (refine zC ?_; intro _ _ _ _) | (refine zS ?_; intro _ _) | refine zO ?_ | (apply Ws <;> intro hg))
  exact Ends.ret2 rfl rfl ⟨rfl, rfl⟩
theorem RunE_fs (hH : hasH M n0 H) {xs : List Int} (hS : Sl M 1 v (ints xs)) (hx : xs.length ≤ 100000) (hE : errO xs ≠ 0) (s : ByteArray) :
    FS C 20 [v, .string s] H (fun e H' => e = .tuple #[.slice none 0 0, .int .i64 (errO xs)] ∧ H' = H) := by
  have hv := hS.one_
  refine FS.intro (pf := pf20) rfl rfl rfl ?_
  repeat' (first | refine zP ?_ | refine zA ?_ | (refine zM ?_; intro _ _) | refine zX ?_ | (refine zC ?_; intro _ _ _ _) | (refine zS ?_; intro _ _) | (apply Ws <;> intro hg))
  refine WR.call (by first | exact gN | exact gS rfl) rfl rfl (Check_fs hH hS hx) ?_
  rintro _ H1 ⟨rfl, rfl⟩
  repeat' (first | refine zP ?_ | refine zA ?_ | (refine zM ?_; intro _ _) | refine zX ?_ | (refine zC ?_; intro _ _ _ _) | (refine zS ?_; intro _ _) | refine zO ?_ | (apply Ws <;> intro hg))
  exact Ends.ret2 rfl rfl ⟨rfl, rfl⟩
theorem RRunE_fs (hH : hasH M n0 H) {xs : List Int} (hS : Sl M 1 v (ints xs)) (hx : xs.length ≤ 100000) (hE : errO xs ≠ 0) (s : ByteArray) :
    FS C 21 [v, .string s] H (fun e H' => e = .tuple #[.slice none 0 0, .int .i64 (errO xs)] ∧ H' = H) := by
  have hv := hS.one_
  refine FS.intro (pf := pf21) rfl rfl rfl ?_
  repeat' (first | refine zP ?_ | refine zA ?_ | (refine zM ?_; intro _ _) | refine zX ?_ | (refine zC ?_; intro _ _ _ _) | (refine zS ?_; intro _ _) | (apply Ws <;> intro hg))
  refine WR.call (by first | exact gN | exact gS rfl) rfl rfl (RCheck_fs hH hS hx) ?_
  rintro _ H1 ⟨rfl, rfl⟩
  repeat' (first | refine zP ?_ | refine zA ?_ | (refine zM ?_; intro _ _) | refine zX ?_ | (refine zC ?_; intro _ _ _ _) | (refine zS ?_; intro _ _) | refine zO ?_ | (apply Ws <;> intro hg))
  exact Ends.ret2 rfl rfl ⟨rfl, rfl⟩
set_option maxHeartbeats 2000000 in
theorem LockMoves_fs (hH : hasH M n0 H) {xs : List Int} (hS : Sl M 1 v (ints xs)) (s : ByteArray) :
    FS C 3 [v, .string s] H (fun e H' => e = .bool true) := by
  obtain ⟨bs, rfl, hb⟩ := strB_of s
  have hv := hS.one_
  have hfin : ∀ {H' : Heap}, FS C 15 [] H' (fun e H'' => e = .bool true ∧ H'' = H') := fun {H'} => FS.works ⟨rfl, rfl⟩
  have hbz := strB_size bs
  refine FS.intro (pf := pf3) rfl rfl rfl ?_
  by_cases h60 : 60 < xs.length
  · repeat' (first | refine zP ?_ | refine zA ?_ | (refine zM ?_; intro _ _) | refine zX ?_ | (refine zC ?_; intro _ _ _ _) | (refine zS ?_; intro _ _) | refine zO ?_ | (apply Ws <;> intro hg))
    refine WR.call (by first | exact gN | exact gS rfl) rfl rfl hfin ?_
    rintro _ _ ⟨rfl, rfl⟩
    repeat' (first | refine zP ?_ | refine zA ?_ | (refine zM ?_; intro _ _) | refine zX ?_ | (refine zC ?_; intro _ _ _ _) | (refine zS ?_; intro _ _) | (apply Ws <;> intro hg))
    exact Ends.ret1 rfl rfl
  · have hx : xs.length ≤ 100000 := by omega
    repeat' (first | refine zP ?_ | refine zA ?_ | (refine zM ?_; intro _ _) | refine zX ?_ | (refine zC ?_; intro _ _ _ _) | (refine zS ?_; intro _ _) | refine zO ?_ | (apply Ws <;> intro hg))
    refine WR.op (by first | exact gN | exact gS rfl) rfl (OpV.lenT underT rfl) ?_
    by_cases h200 : 200 < bs.length
    · repeat' (first | refine zP ?_ | refine zA ?_ | (refine zM ?_; intro _ _) | refine zX ?_ | (refine zC ?_; intro _ _ _ _) | (refine zS ?_; intro _ _) | refine zO ?_ | (apply Ws <;> intro hg))
      refine WR.call (by first | exact gN | exact gS rfl) rfl rfl hfin ?_
      rintro _ _ ⟨rfl, rfl⟩
      repeat' (first | refine zP ?_ | refine zA ?_ | (refine zM ?_; intro _ _) | refine zX ?_ | (refine zC ?_; intro _ _ _ _) | (refine zS ?_; intro _ _) | (apply Ws <;> intro hg))
      exact Ends.ret1 rfl rfl
    · have hbl : bs.length ≤ 1000 := by omega
      by_cases hE : errO xs = 0
      · obtain ⟨o, rfl, hO⟩ := errO_zero hE
        rw [← nodes_IL] at hS
        rw [IL_len] at h60
        have hle : (IL o).length = o.length := IL_len o
        have h7 := hO.most
        have hpl := passF_len o
        have hrl := runE_len (o := o) bs 0 [] []
        rw [List.length_nil] at hrl
        clear hE
        repeat' (first | refine zP ?_ | refine zA ?_ | (refine zM ?_; intro _ _) | refine zX ?_ | (refine zC ?_; intro _ _ _ _) | (refine zS ?_; intro _ _) | refine zO ?_ | (apply Ws <;> intro hg))
        refine WR.call (by first | exact gN | exact gS rfl) rfl rfl (Pass_fs hH hS hO) ?_
        rintro _ H1 ⟨u1, M1, n1, rfl, hO1, hn1, hH1⟩
        have hS1 := hS.mono fun q hq => List.mem_append_right M1 hq
        repeat' (first | refine zP ?_ | refine zA ?_ | (refine zM ?_; intro _ _) | refine zX ?_ | (refine zC ?_; intro _ _ _ _) | (refine zS ?_; intro _ _) | refine zO ?_ | (apply Ws <;> intro hg))
        refine WR.call (by first | exact gN | exact gS rfl) rfl rfl (RPass_fs hH1 hS1 hO) ?_
        rintro _ H2 ⟨u2, M2, n2, rfl, hO2, hn2, hH2⟩
        have hS2 := hS1.mono fun q hq => List.mem_append_right M2 hq
        repeat' (first | refine zP ?_ | refine zA ?_ | (refine zM ?_; intro _ _) | refine zX ?_ | (refine zC ?_; intro _ _ _ _) | (refine zS ?_; intro _ _) | refine zO ?_ | (apply Ws <;> intro hg))
        refine WR.call (by first | exact gN | exact gS rfl) rfl rfl (Moves_fs hH2 hS2 hO) ?_
        rintro _ H3 ⟨n3, rfl, hn3, hH3⟩
        repeat' (first | refine zP ?_ | refine zA ?_ | (refine zM ?_; intro _ _) | refine zX ?_ | (refine zC ?_; intro _ _ _ _) | (refine zS ?_; intro _ _) | refine zO ?_ | (apply Ws <;> intro hg))
        refine WR.call (by first | exact gN | exact gS rfl) rfl rfl (RMoves_fs hH3 hS2 hO) ?_
        rintro _ H4 ⟨n4, rfl, hn4, hH4⟩
        repeat' (first | refine zP ?_ | refine zA ?_ | (refine zM ?_; intro _ _) | refine zX ?_ | (refine zC ?_; intro _ _ _ _) | (refine zS ?_; intro _ _) | refine zO ?_ | (apply Ws <;> intro hg))
        refine WR.call (by first | exact gN | exact gS rfl) rfl rfl (Run_fs hH4 hS2 hO hb hbl) ?_
        rintro _ H5 ⟨u5, M5, n5, rfl, hS5, hn5, hH5⟩
        have hS6 := hS2.mono fun q hq => List.mem_append_right M5 hq
        repeat' (first | refine zP ?_ | refine zA ?_ | (refine zM ?_; intro _ _) | refine zX ?_ | (refine zC ?_; intro _ _ _ _) | (refine zS ?_; intro _ _) | refine zO ?_ | (apply Ws <;> intro hg))
        refine WR.call (by first | exact gN | exact gS rfl) rfl rfl (RRun_fs hH5 hS6 hO hb hbl) ?_
        rintro _ H6 ⟨u6, M6, n6, rfl, hS7, hn6, hH6⟩
        have hS8 := hS6.mono fun q hq => List.mem_append_right M6 hq
        have a1 : Sl (M6 ++ (M5 ++ (M2 ++ (M1 ++ M)))) 1 u1 (nodes (passF o)) := (hO1.sl M).mono fun q hq => List.mem_append_right M6 (List.mem_append_right M5 (List.mem_append_right M2 hq))
        have a2 : Sl (M6 ++ (M5 ++ (M2 ++ (M1 ++ M)))) 1 u2 (nodes (passF o)) := (hO2.sl (M1 ++ M)).mono fun q hq => List.mem_append_right M6 (List.mem_append_right M5 hq)
        have a5 := hS5.mono fun q hq => List.mem_append_right M6 hq
        generalize runE o bs 0 [] [] = E at *
        repeat' (first | refine zP ?_ | refine zA ?_ | (refine zM ?_; intro _ _) | refine zX ?_ | (refine zC ?_; intro _ _ _ _) | (refine zS ?_; intro _ _) | refine zO ?_ | (apply Ws <;> intro hg))
        refine WR.call (by first | exact gN | exact gS rfl) rfl rfl (same_fs hH6 a1 a2 (by omega) (by omega)) ?_
        rintro _ H7 ⟨rfl, rfl⟩
        rw [decide_eq_true rfl]
        repeat' (first | refine zP ?_ | refine zA ?_ | (refine zM ?_; intro _ _) | refine zX ?_ | (refine zC ?_; intro _ _ _ _) | (refine zS ?_; intro _ _) | refine zO ?_ | (apply Ws <;> intro hg))
        refine WR.op (by first | exact gN | exact gS rfl) rfl (OpV.eqT rfl rfl) ?_
        rw [beq_self_eq_true]
        repeat' (first | refine zP ?_ | refine zA ?_ | (refine zM ?_; intro _ _) | refine zX ?_ | (refine zC ?_; intro _ _ _ _) | (refine zS ?_; intro _ _) | refine zO ?_ | (apply Ws <;> intro hg))
        refine WR.call (by first | exact gN | exact gS rfl) rfl rfl (same_fs hH6 a5 hS7 (by omega) (by omega)) ?_
        rintro _ H8 ⟨rfl, rfl⟩
        rw [decide_eq_true rfl]
        repeat' (first | refine zP ?_ | refine zA ?_ | (refine zM ?_; intro _ _) | refine zX ?_ | (refine zC ?_; intro _ _ _ _) | (refine zS ?_; intro _ _) | refine zO ?_ | (apply Ws <;> intro hg))
        refine WR.call (by first | exact gN | exact gS rfl) rfl rfl (CheckN_fs hH6 hS8 hO) ?_
        rintro _ H9 ⟨rfl, rfl⟩
        repeat' (first | refine zP ?_ | refine zA ?_ | (refine zM ?_; intro _ _) | refine zX ?_ | (refine zC ?_; intro _ _ _ _) | (refine zS ?_; intro _ _) | refine zO ?_ | (apply Ws <;> intro hg))
        refine WR.call (by first | exact gN | exact gS rfl) rfl rfl (RCheckN_fs hH6 hS8 hO) ?_
        rintro _ H10 ⟨rfl, rfl⟩
        repeat' (first | refine zP ?_ | refine zA ?_ | (refine zM ?_; intro _ _) | refine zX ?_ | (refine zC ?_; intro _ _ _ _) | (refine zS ?_; intro _ _) | refine zO ?_ | (apply Ws <;> intro hg))
        refine WR.call (by first | exact gN | exact gS rfl) rfl rfl hfin ?_
        rintro _ _ ⟨rfl, rfl⟩
        repeat' (first | refine zP ?_ | refine zA ?_ | (refine zM ?_; intro _ _) | refine zX ?_ | (refine zC ?_; intro _ _ _ _) | (refine zS ?_; intro _ _) | (apply Ws <;> intro hg))
        exact Ends.ret1 rfl rfl
      · have hnil : Sl M 1 (.slice none 0 0) (nodes []) := .nil 0
        repeat' (first | refine zP ?_ | refine zA ?_ | (refine zM ?_; intro _ _) | refine zX ?_ | (refine zC ?_; intro _ _ _ _) | (refine zS ?_; intro _ _) | refine zO ?_ | (apply Ws <;> intro hg))
        refine WR.call (by first | exact gN | exact gS rfl) rfl rfl (PassE_fs hH hS hx hE) ?_
        rintro _ H1 ⟨rfl, rfl⟩
        repeat' (first | refine zP ?_ | refine zA ?_ | (refine zM ?_; intro _ _) | refine zX ?_ | (refine zC ?_; intro _ _ _ _) | (refine zS ?_; intro _ _) | refine zO ?_ | (apply Ws <;> intro hg))
        refine WR.call (by first | exact gN | exact gS rfl) rfl rfl (RPassE_fs hH hS hx hE) ?_
        rintro _ H2 ⟨rfl, rfl⟩
        repeat' (first | refine zP ?_ | refine zA ?_ | (refine zM ?_; intro _ _) | refine zX ?_ | (refine zC ?_; intro _ _ _ _) | (refine zS ?_; intro _ _) | refine zO ?_ | (apply Ws <;> intro hg))
        refine WR.call (by first | exact gN | exact gS rfl) rfl rfl (MovesE_fs hH hS hx hE) ?_
        rintro _ H3 ⟨rfl, rfl⟩
        repeat' (first | refine zP ?_ | refine zA ?_ | (refine zM ?_; intro _ _) | refine zX ?_ | (refine zC ?_; intro _ _ _ _) | (refine zS ?_; intro _ _) | refine zO ?_ | (apply Ws <;> intro hg))
        refine WR.call (by first | exact gN | exact gS rfl) rfl rfl (RMovesE_fs hH hS hx hE) ?_
        rintro _ H4 ⟨rfl, rfl⟩
        repeat' (first | refine zP ?_ | refine zA ?_ | (refine zM ?_; intro _ _) | refine zX ?_ | (refine zC ?_; intro _ _ _ _) | (refine zS ?_; intro _ _) | refine zO ?_ | (apply Ws <;> intro hg))
        refine WR.call (by first | exact gN | exact gS rfl) rfl rfl (RunE_fs hH hS hx hE _) ?_
        rintro _ H5 ⟨rfl, rfl⟩
        repeat' (first | refine zP ?_ | refine zA ?_ | (refine zM ?_; intro _ _) | refine zX ?_ | (refine zC ?_; intro _ _ _ _) | (refine zS ?_; intro _ _) | refine zO ?_ | (apply Ws <;> intro hg))
        refine WR.call (by first | exact gN | exact gS rfl) rfl rfl (RRunE_fs hH hS hx hE _) ?_
        rintro _ H6 ⟨rfl, rfl⟩
        repeat' (first | refine zP ?_ | refine zA ?_ | (refine zM ?_; intro _ _) | refine zX ?_ | (refine zC ?_; intro _ _ _ _) | (refine zS ?_; intro _ _) | refine zO ?_ | (apply Ws <;> intro hg))
        refine WR.call (by first | exact gN | exact gS rfl) rfl rfl (same_fs hH hnil hnil (by simp) (by simp)) ?_
        rintro _ H7 ⟨rfl, rfl⟩
        rw [decide_eq_true rfl]
        repeat' (first | refine zP ?_ | refine zA ?_ | (refine zM ?_; intro _ _) | refine zX ?_ | (refine zC ?_; intro _ _ _ _) | (refine zS ?_; intro _ _) | refine zO ?_ | (apply Ws <;> intro hg))
        refine WR.op (by first | exact gN | exact gS rfl) rfl (OpV.eqT rfl rfl) ?_
        rw [beq_self_eq_true]
        repeat' (first | refine zP ?_ | refine zA ?_ | (refine zM ?_; intro _ _) | refine zX ?_ | (refine zC ?_; intro _ _ _ _) | (refine zS ?_; intro _ _) | refine zO ?_ | (apply Ws <;> intro hg))
        refine WR.call (by first | exact gN | exact gS rfl) rfl rfl (same_fs hH hnil hnil (by simp) (by simp)) ?_
        rintro _ H8 ⟨rfl, rfl⟩
        rw [decide_eq_true rfl]
        repeat' (first | refine zP ?_ | refine zA ?_ | (refine zM ?_; intro _ _) | refine zX ?_ | (refine zC ?_; intro _ _ _ _) | (refine zS ?_; intro _ _) | refine zO ?_ | (apply Ws <;> intro hg))
        refine WR.call (by first | exact gN | exact gS rfl) rfl rfl (Check_fs hH hS hx) ?_
        rintro _ H9 ⟨rfl, rfl⟩
        repeat' (first | refine zP ?_ | refine zA ?_ | (refine zM ?_; intro _ _) | refine zX ?_ | (refine zC ?_; intro _ _ _ _) | (refine zS ?_; intro _ _) | refine zO ?_ | (apply Ws <;> intro hg))
        refine WR.call (by first | exact gN | exact gS rfl) rfl rfl (RCheck_fs hH hS hx) ?_
        rintro _ H10 ⟨rfl, rfl⟩
        repeat' (first | refine zP ?_ | refine zA ?_ | (refine zM ?_; intro _ _) | refine zX ?_ | (refine zC ?_; intro _ _ _ _) | (refine zS ?_; intro _ _) | refine zO ?_ | (apply Ws <;> intro hg))
        refine WR.call (by first | exact gN | exact gS rfl) rfl rfl hfin ?_
        rintro _ _ ⟨rfl, rfl⟩
        repeat' (first | refine zP ?_ | refine zA ?_ | (refine zM ?_; intro _ _) | refine zX ?_ | (refine zC ?_; intro _ _ _ _) | (refine zS ?_; intro _ _) | (apply Ws <;> intro hg))
        exact Ends.ret1 rfl rfl
end
end Go.Proofs.Ytfnflkcjhefddaa.Lk
